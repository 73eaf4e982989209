/- The program's Encode, walked. -/
import Derived.Test.YtimacmijinblmaaFldText
import Derived.Test.YtimacmijinblmaaSpecEncA
namespace Go.Proofs.Ytimacmijinblmaa
open Go.RowKit
open Ents (okB)
open Msgs (okM bt)
set_option linter.unusedVariables false
set_option linter.unusedSimpArgs false

set_option maxHeartbeats 8000000 in
set_option maxRecDepth 100000 in
theorem implEnc_is {a b : Option Addr} {g off cap h offb capb : Nat} (m : MsgL) (hlen : m.ents.length ≤ 1048576) (hd : ∀ e ∈ m.ents, e.data.size ≤ 1048576) (hlc : m.conf.length ≤ 1048576) (hds : m.data.size ≤ 1048576) (w : World) (hf : EnAt w a g off m.ents) (hc : IntAt w b h offb m.conf) :
    Calls Try.prog 11 #[msgV m a cap b capb] w fun en w' => en = .returned (encTuple m) ∧ Below w.heap.size w w' := by
  unfold msgV
  obtain ⟨W, hW⟩ : ∃ W, W = w.alloc (Obj.cells (msgC m a cap b capb) 30) := ⟨_, rfl⟩
  have hb : Below w.heap.size w W := by rw [hW]; exact (Below.refl _ _).alloc (Nat.le_refl _) _
  have HB : Hid (Below w.heap.size w W) := hb
  have hla : MsgAt W w.heap.size m a cap b capb := by rw [hW]; exact MsgAt.new w m a cap b capb 30
  have HWD : Hid (w.alloc (Obj.cells #[.int .i64 m.kind, .int .i64 m.frm, .int .i64 m.dst, .int .i64 m.term, .int .i64 m.index, .int .i64 m.lterm, .int .i64 m.commit, .bool m.ok, .slice a m.ents.length cap, .slice b m.conf.length capb, .string m.data, .bool m.last] 30) = W) := hW.symm
  obtain ⟨R, hR⟩ : ∃ R, R = okM m := ⟨_, rfl⟩
  have HQ : Hid (Calls Try.prog 8 #[.agg #[.int .i64 m.kind, .int .i64 m.frm, .int .i64 m.dst, .int .i64 m.term, .int .i64 m.index, .int .i64 m.lterm, .int .i64 m.commit, .bool m.ok, .slice a m.ents.length cap, .slice b m.conf.length capb, .string m.data, .bool m.last]] W fun en w' => en = .returned (.bool R) ∧ Below W.heap.size W w') := by rw [hR]; exact implMsgOk_is m hlen hd hlc hds W (hf.kept hb) (hc.kept hb)
  have HLA : Hid (∀ X, Below W.heap.size W X → MsgAt X w.heap.size m a cap b capb) := fun X x => hla.kept x
  have HFT : Hid (R = true → ∀ (X : World) (q : Nat), Below W.heap.size W X → FieldsAt X q → Calls Try.prog 29 #[.agg #[.int .i64 m.kind, .int .i64 m.frm, .int .i64 m.dst, .int .i64 m.term, .int .i64 m.index, .int .i64 m.lterm, .int .i64 m.commit, .bool m.ok, .slice a m.ents.length cap, .slice b m.conf.length capb, .string m.data, .bool m.last], .slice (some ⟨q, 0, none⟩) 12 12] X fun en w' => en = .returned (.string (Msgs.textS m)) ∧ Below X.heap.size X w') := fun r X q x y => fieldsText_is m (by rw [← hR]; exact r) X ((hf.kept hb).kept x) ((hc.kept hb).kept x) y
  unfold encTuple
  rw [← hR]
  obtain ⟨z, hz⟩ : ∃ z, z = w.heap.size := ⟨_, rfl⟩
  rw [← hz] at HLA
  clear hla hb hW hf hc hR
  generalize Msgs.textS m = TX at HFT ⊢
  go_enter Try.func11, Try.ntmps11
  go_wp2_with fail
  rw [HWD.out, ← hz]
  clear HWD hz
  refine Calls.mono HQ.out ?_
  rintro en w1 ⟨rfl, hb1⟩
  have HB1 : Hid (Below W.heap.size W w1) := hb1
  clear hb1 HQ
  cases R with
  | false =>
    go_wp2
    go_ret2
    exact ⟨rfl, HB.out.trans (HB1.out.mono HB.out.size)⟩
  | true =>
    go_wp2_with fail
    refine Inv.region_walk 10 (fun i v X => if i = 1 then Tabled v X else v = [.agg #[.int .i64 m.kind, .int .i64 m.frm, .int .i64 m.dst, .int .i64 m.term, .int .i64 m.index, .int .i64 m.lterm, .int .i64 m.commit, .bool m.ok, .slice a m.ents.length cap, .slice b m.conf.length capb, .string m.data, .bool m.last], undef, .string TX, .string TX, .bool true].getD i undef) rfl rfl (by kernel_rfl) ?_ ?_ ?_
    · intro i v X X' h hb
      by_cases h2 : i = 1
      · simp only [h2, if_true] at h ⊢
        exact h.kept hb
      · simp only [h2, if_false] at h ⊢
        exact h
    · refine ⟨?_, ?_, ?_, ?_, ?_, trivial⟩
      · intro f X K hb hf hd hk
        have e1 : f 1 = .pointer (some ⟨z, 0, none⟩) := hf 1 rfl
        have M := HLA.out X (HB1.out.trans (hb.mono HB1.out.size))
        have c0 := M.c0; have c1 := M.c1; have c2 := M.c2; have c3 := M.c3; have c4 := M.c4; have c5 := M.c5; have c6 := M.c6; have c7 := M.c7; have c8 := M.c8; have c9 := M.c9; have c10 := M.c10; have c11 := M.c11
        refine Inv.pay_value (v := .agg #[.int .i64 m.kind, .int .i64 m.frm, .int .i64 m.dst, .int .i64 m.term, .int .i64 m.index, .int .i64 m.lterm, .int .i64 m.commit, .bool m.ok, .slice a m.ents.length cap, .slice b m.conf.length capb, .string m.data, .bool m.last]) (w' := X) ?_ ?_
        · simp [execOp, go_sem, Inv.act_get, e1, c0, c1, c2, c3, c4, c5, c6, c7, c8, c9, c10, c11]
        · exact hk (.agg #[.int .i64 m.kind, .int .i64 m.frm, .int .i64 m.dst, .int .i64 m.term, .int .i64 m.index, .int .i64 m.lterm, .int .i64 m.commit, .bool m.ok, .slice a m.ents.length cap, .slice b m.conf.length capb, .string m.data, .bool m.last]) X (Below.refl _ _) rfl
      · intro f X K hb hf hd hk
        refine Inv.pay_callE (f := 30) (args := #[]) (R := fun v w' => Tabled v w' ∧ Below X.heap.size X w') ?_ (messageFields_is X) (fun v w5 hv => hk v w5 hv.2 hv.1)
        simp [execOp, go_sem, Inv.act_get]
      · intro f X K hb hf hd hk
        have d0 : f 7 = .agg #[.int .i64 m.kind, .int .i64 m.frm, .int .i64 m.dst, .int .i64 m.term, .int .i64 m.index, .int .i64 m.lterm, .int .i64 m.commit, .bool m.ok, .slice a m.ents.length cap, .slice b m.conf.length capb, .string m.data, .bool m.last] := hd 0 rfl
        have d1 : Tabled (f 8) X := hd 1 rfl
        have hc9 : Calls Try.prog 29 #[.agg #[.int .i64 m.kind, .int .i64 m.frm, .int .i64 m.dst, .int .i64 m.term, .int .i64 m.index, .int .i64 m.lterm, .int .i64 m.commit, .bool m.ok, .slice a m.ents.length cap, .slice b m.conf.length capb, .string m.data, .bool m.last], f 8] X fun e w' => e = .returned (.string TX) ∧ Below X.heap.size X w' := by
          generalize f 8 = v at d1
          exact Tabled.elim d1 fun q e x => by
            rw [e]
            exact HFT.out (by first | trivial | rfl) X q (HB1.out.trans (hb.mono HB1.out.size)) x
        refine Inv.pay_call (f := 29) (args := #[.agg #[.int .i64 m.kind, .int .i64 m.frm, .int .i64 m.dst, .int .i64 m.term, .int .i64 m.index, .int .i64 m.lterm, .int .i64 m.commit, .bool m.ok, .slice a m.ents.length cap, .slice b m.conf.length capb, .string m.data, .bool m.last], f 8]) (u := .string TX) (R := fun w' => Below X.heap.size X w') ?_ hc9 (fun w5 hb5 => hk (.string TX) w5 hb5 rfl)
        simp [execOp, go_sem, Inv.act_get, d0]
      · intro f X K hb hf hd hk
        have d2 : f 9 = .string TX := hd 2 rfl
        refine Inv.pay_value (v := .string TX) (w' := X) ?_ ?_
        · simp [execOp, go_sem, Inv.act_get, d2]
        · exact hk (.string TX) X (Below.refl _ _) rfl
      · intro f X K hb hf hd hk
        refine Inv.pay_value (v := .bool true) (w' := X) ?_ ?_
        · simp [execOp, go_sem, Inv.act_get]
        · exact hk (.bool true) X (Below.refl _ _) rfl
    · intro f w7 hb7 hf hv
      have e2 : f 2 = .string TX := hv 3 (by decide)
      have e3 : f 3 = .bool true := hv 4 (by decide)
      have hact : Inv.act 10 [] f = ⟨(f 0 :: f 1 :: f 2 :: f 3 :: f 4 :: f 5 :: f 6 :: f 7 :: f 8 :: f 9 :: []).toArray, []⟩ := by kernel_rfl
      rw [hact, e2, e3]
      clear hact hf hv
      go_wp2
      go_ret2
      exact ⟨rfl, HB.out.trans ((HB1.out.trans (hb7.mono HB1.out.size)).mono HB.out.size)⟩
end Go.Proofs.Ytimacmijinblmaa
