/- The laws' sameMessage of one message in two places, walked. The program's Encode, walked. -/
import Derived.Test.YtimacmijinblmaaGreatAgg
import Derived.Test.YtimacmijinblmaaGreatFldText
import Derived.Test.YtimacmijinblmaaGreatSpecEncA
namespace Go.Proofs.YtimacmijinblmaaGreat
open Go.RowKit
set_option linter.unusedVariables false
set_option linter.unusedSimpArgs false
set_option maxHeartbeats 8000000 in
set_option maxRecDepth 100000 in
theorem sameMsg_same {a a' b b' : Option Addr} {g g' off off' cap cap' h h' o o' capb capb' : Nat} (m : MsgL) (hlen : m.ents.length ≤ 1000) (hlc : m.conf.length ≤ 1000) (w : World) (hA : EnAt w a g off m.ents) (hB : EnAt w a' g' off' m.ents) (hC : IntAt w b h o m.conf) (hD : IntAt w b' h' o' m.conf) :
    Calls Tryz.prog 14 #[msgV m a cap b capb, msgV m a' cap' b' capb'] w fun e w' => e = .returned (.bool true) ∧ Below w.heap.size w w' := by
  unfold msgV
  obtain ⟨W, hW⟩ : ∃ W, W = (w.alloc (.cells (msgC m a cap b capb) 25)).alloc (.cells (msgC m a' cap' b' capb') 25) := ⟨_, rfl⟩
  have hb : Below w.heap.size w W := by rw [hW]; exact ((Below.refl _ _).alloc (Nat.le_refl _) _).alloc (by simp) _
  have hp0 : MsgAt W w.heap.size m a cap b capb := by rw [hW]; exact (MsgAt.new w m a cap b capb 25).kept ((Below.refl _ _).alloc (Nat.le_refl _) _)
  have hp1 : MsgAt W (w.heap.size + 1) m a' cap' b' capb' := by
    rw [hW]
    have := MsgAt.new (w.alloc (.cells (msgC m a cap b capb) 25)) m a' cap' b' capb' 25
    simpa using this
  have HWD : Hid ((w.alloc (.cells #[.int .i64 m.kind, .int .i64 m.frm, .int .i64 m.dst, .int .i64 m.term, .int .i64 m.index, .int .i64 m.lterm, .int .i64 m.commit, .bool m.ok, .slice a m.ents.length cap, .slice b m.conf.length capb, .string m.data, .bool m.last] 25)).alloc (.cells #[.int .i64 m.kind, .int .i64 m.frm, .int .i64 m.dst, .int .i64 m.term, .int .i64 m.index, .int .i64 m.lterm, .int .i64 m.commit, .bool m.ok, .slice a' m.ents.length cap', .slice b' m.conf.length capb', .string m.data, .bool m.last] 25) = W) := hW.symm
  have HB : Hid (Below w.heap.size w W) := hb
  have HEA : Hid (∀ X, Below W.heap.size W X → EnAt X a g off m.ents ∧ EnAt X a' g' off' m.ents) := fun X x => ⟨(hA.kept hb).kept x, (hB.kept hb).kept x⟩
  have HQ : Hid (Calls Tryz.prog 39 #[.slice b m.conf.length capb, .slice b' m.conf.length capb'] W fun e w' => e = .returned (.bool true) ∧ Below W.heap.size W w') := sameInts_same m.conf (by omega) W (hC.kept hb) (hD.kept hb)
  obtain ⟨q, hq⟩ : ∃ q, q = w.heap.size := ⟨_, rfl⟩
  obtain ⟨r, hr⟩ : ∃ r, r = w.heap.size + 1 := ⟨_, rfl⟩
  rw [← hq] at hp0
  rw [← hr] at hp1
  have HMM : Hid (∀ X, Below W.heap.size W X → MsgAt X q m a cap b capb ∧ MsgAt X r m a' cap' b' capb') := fun X x => ⟨hp0.kept x, hp1.kept x⟩
  clear hA hB hC hD hb hW
  obtain ⟨c0, c1, c2, c3, c4, c5, c6, c7, c8, c9, c10, c11⟩ := hp0
  obtain ⟨d0, d1, d2, d3, d4, d5, d6, d7, d8, d9, d10, d11⟩ := hp1
  go_enter Tryz.func14, Tryz.ntmps14
  go_upto_region 1 with fail
  rw [HWD.out, ← hr, ← hq]
  clear HWD hq hr
  go_wp2_with fail
  refine HQ.out.mono ?_
  rintro e w1 ⟨rfl, hb1⟩
  have HB1 : Hid (Below W.heap.size W w1) := hb1
  clear hb1 HQ c0 c1 c2 c3 c4 c5 c6 c7 c8 c9 c10 c11 d0 d1 d2 d3 d4 d5 d6 d7 d8 d9 d10 d11
  go_wp2_with fail
  go_loopw [5] (fun i wr => ∃ k : Nat, k ≤ m.ents.length ∧ i = .int .i64 (k : Int) ∧ Hid (Below W.heap.size W wr)) (fun i _ => m.ents.length - (intOf i).toNat)
  case atStart => exact ⟨0, Nat.zero_le _, rfl, HB1⟩
  case round =>
    clear HB1
    obtain ⟨k, hk, rfl, HBW⟩ := hrel
    obtain ⟨M1, M2⟩ := HMM.out _ HBW.out
    obtain ⟨hA, hB⟩ := HEA.out _ HBW.out
    have c8 := M1.c8
    have d8 := M2.c8
    by_cases hlt : k < m.ents.length
    · have ea := hA.1 (by omega)
      have eb := hB.1 (by omega)
      obtain ⟨e0, e1, e2⟩ := hA.2 k hlt
      obtain ⟨f0, f1, f2⟩ := hB.2 k hlt
      obtain ⟨d, hd⟩ : ∃ d, d = m.ents[k] := ⟨_, rfl⟩
      rw [← hd] at e0 e1 e2 f0 f1 f2
      subst ea
      subst eb
      have hk0 : (0 : Int) ≤ (k : Int) := by omega
      have hk1 : (k : Int) < (m.ents.length : Int) := by omega
      clear hA hB M1 M2 hd
      go_wp2_with fail
      go_region
      all_goals (
        go_wp2
        go_roundw
        case rel => exact ⟨k + 1, by omega, by go_num, HBW.out.drew⟩
        case measure => simp [intOf]; omega)
    · have hk1 : ¬ (k : Int) < (m.ents.length : Int) := by omega
      obtain ⟨c0, c1, c2, c3, c4, c5, c6, c7, -, c9, c10, c11⟩ := M1
      obtain ⟨d0, d1, d2, d3, d4, d5, d6, d7, -, d9, d10, d11⟩ := M2
      clear hA hB
      go_wp2
      go_ret
      exact ⟨rfl, HB.out.trans (HBW.out.mono HB.out.size)⟩
end Go.Proofs.YtimacmijinblmaaGreat
namespace Go.Proofs.YtimacmijinblmaaGreat
open Go.RowKit
open Ents (okB)
open Msgs (okM bt)
set_option linter.unusedVariables false
set_option linter.unusedSimpArgs false

set_option maxHeartbeats 8000000 in
set_option maxRecDepth 100000 in
theorem implEnc_is {a b : Option Addr} {g off cap h offb capb : Nat} (m : MsgL) (hlen : m.ents.length ≤ 1048576) (hd : ∀ e ∈ m.ents, e.data.size ≤ 1048576) (hlc : m.conf.length ≤ 1048576) (hds : m.data.size ≤ 1048576) (w : World) (hf : EnAt w a g off m.ents) (hc : IntAt w b h offb m.conf) :
    Calls Tryz.prog 12 #[msgV m a cap b capb] w fun en w' => en = .returned (encTuple m) ∧ Below w.heap.size w w' := by
  unfold msgV
  obtain ⟨W, hW⟩ : ∃ W, W = w.alloc (Obj.cells (msgC m a cap b capb) 25) := ⟨_, rfl⟩
  have hb : Below w.heap.size w W := by rw [hW]; exact (Below.refl _ _).alloc (Nat.le_refl _) _
  have HB : Hid (Below w.heap.size w W) := hb
  have hla : MsgAt W w.heap.size m a cap b capb := by rw [hW]; exact MsgAt.new w m a cap b capb 25
  have HWD : Hid (w.alloc (Obj.cells #[.int .i64 m.kind, .int .i64 m.frm, .int .i64 m.dst, .int .i64 m.term, .int .i64 m.index, .int .i64 m.lterm, .int .i64 m.commit, .bool m.ok, .slice a m.ents.length cap, .slice b m.conf.length capb, .string m.data, .bool m.last] 25) = W) := hW.symm
  obtain ⟨R, hR⟩ : ∃ R, R = okM m := ⟨_, rfl⟩
  have HQ : Hid (Calls Tryz.prog 26 #[.agg #[.int .i64 m.kind, .int .i64 m.frm, .int .i64 m.dst, .int .i64 m.term, .int .i64 m.index, .int .i64 m.lterm, .int .i64 m.commit, .bool m.ok, .slice a m.ents.length cap, .slice b m.conf.length capb, .string m.data, .bool m.last]] W fun en w' => en = .returned (.bool R) ∧ Below W.heap.size W w') := by rw [hR]; exact implMsgOk_is m hlen hd hlc hds W (hf.kept hb) (hc.kept hb)
  have HLA : Hid (∀ X, Below W.heap.size W X → MsgAt X w.heap.size m a cap b capb) := fun X x => hla.kept x
  have HFT : Hid (R = true → ∀ (X : World) (q : Nat), Below W.heap.size W X → FieldsAt X q → Calls Tryz.prog 35 #[.agg #[.int .i64 m.kind, .int .i64 m.frm, .int .i64 m.dst, .int .i64 m.term, .int .i64 m.index, .int .i64 m.lterm, .int .i64 m.commit, .bool m.ok, .slice a m.ents.length cap, .slice b m.conf.length capb, .string m.data, .bool m.last], .slice (some ⟨q, 0, none⟩) 12 12] X fun en w' => en = .returned (.string (Msgs.textS m)) ∧ Below X.heap.size X w') := fun r X q x y => fieldsText_is m (by rw [← hR]; exact r) X ((hf.kept hb).kept x) ((hc.kept hb).kept x) y
  unfold encTuple
  rw [← hR]
  obtain ⟨z, hz⟩ : ∃ z, z = w.heap.size := ⟨_, rfl⟩
  rw [← hz] at HLA
  clear hla hb hW hf hc hR
  generalize Msgs.textS m = TX at HFT ⊢
  go_enter Tryz.func12, Tryz.ntmps12
  go_wp2_with fail
  rw [HWD.out, ← hz]
  clear HWD hz
  refine Calls.mono HQ.out ?_
  rintro en w1 ⟨rfl, hb1⟩
  have HB1 : Hid (Below W.heap.size W w1) := hb1
  clear hb1 HQ
  cases R with
  | false =>
    go_wp2
    go_ret2
    exact ⟨rfl, HB.out.trans (HB1.out.mono HB.out.size)⟩
  | true =>
    go_wp2_with fail
    refine Inv.region_walk 10 (fun i v X => if i = 1 then Tabled v X else v = [.agg #[.int .i64 m.kind, .int .i64 m.frm, .int .i64 m.dst, .int .i64 m.term, .int .i64 m.index, .int .i64 m.lterm, .int .i64 m.commit, .bool m.ok, .slice a m.ents.length cap, .slice b m.conf.length capb, .string m.data, .bool m.last], undef, .string TX, .string TX, .bool true].getD i undef) rfl rfl (by kernel_rfl) ?_ ?_ ?_
    · intro i v X X' h hb
      by_cases h2 : i = 1
      · simp only [h2, if_true] at h ⊢
        exact h.kept hb
      · simp only [h2, if_false] at h ⊢
        exact h
    · refine ⟨?_, ?_, ?_, ?_, ?_, trivial⟩
      · intro f X K hb hf hd hk
        have e1 : f 1 = .pointer (some ⟨z, 0, none⟩) := hf 1 rfl
        have M := HLA.out X (HB1.out.trans (hb.mono HB1.out.size))
        have c0 := M.c0; have c1 := M.c1; have c2 := M.c2; have c3 := M.c3; have c4 := M.c4; have c5 := M.c5; have c6 := M.c6; have c7 := M.c7; have c8 := M.c8; have c9 := M.c9; have c10 := M.c10; have c11 := M.c11
        refine Inv.pay_value (v := .agg #[.int .i64 m.kind, .int .i64 m.frm, .int .i64 m.dst, .int .i64 m.term, .int .i64 m.index, .int .i64 m.lterm, .int .i64 m.commit, .bool m.ok, .slice a m.ents.length cap, .slice b m.conf.length capb, .string m.data, .bool m.last]) (w' := X) ?_ ?_
        · simp [execOp, go_sem, Inv.act_get, e1, c0, c1, c2, c3, c4, c5, c6, c7, c8, c9, c10, c11]
        · exact hk (.agg #[.int .i64 m.kind, .int .i64 m.frm, .int .i64 m.dst, .int .i64 m.term, .int .i64 m.index, .int .i64 m.lterm, .int .i64 m.commit, .bool m.ok, .slice a m.ents.length cap, .slice b m.conf.length capb, .string m.data, .bool m.last]) X (Below.refl _ _) rfl
      · intro f X K hb hf hd hk
        refine Inv.pay_callE (f := 25) (args := #[]) (R := fun v w' => Tabled v w' ∧ Below X.heap.size X w') ?_ (messageFields_is X) (fun v w5 hv => hk v w5 hv.2 hv.1)
        simp [execOp, go_sem, Inv.act_get]
      · intro f X K hb hf hd hk
        have d0 : f 7 = .agg #[.int .i64 m.kind, .int .i64 m.frm, .int .i64 m.dst, .int .i64 m.term, .int .i64 m.index, .int .i64 m.lterm, .int .i64 m.commit, .bool m.ok, .slice a m.ents.length cap, .slice b m.conf.length capb, .string m.data, .bool m.last] := hd 0 rfl
        have d1 : Tabled (f 8) X := hd 1 rfl
        have hc9 : Calls Tryz.prog 35 #[.agg #[.int .i64 m.kind, .int .i64 m.frm, .int .i64 m.dst, .int .i64 m.term, .int .i64 m.index, .int .i64 m.lterm, .int .i64 m.commit, .bool m.ok, .slice a m.ents.length cap, .slice b m.conf.length capb, .string m.data, .bool m.last], f 8] X fun e w' => e = .returned (.string TX) ∧ Below X.heap.size X w' := by
          generalize f 8 = v at d1
          exact Tabled.elim d1 fun q e x => by
            rw [e]
            exact HFT.out (by first | trivial | rfl) X q (HB1.out.trans (hb.mono HB1.out.size)) x
        refine Inv.pay_call (f := 35) (args := #[.agg #[.int .i64 m.kind, .int .i64 m.frm, .int .i64 m.dst, .int .i64 m.term, .int .i64 m.index, .int .i64 m.lterm, .int .i64 m.commit, .bool m.ok, .slice a m.ents.length cap, .slice b m.conf.length capb, .string m.data, .bool m.last], f 8]) (u := .string TX) (R := fun w' => Below X.heap.size X w') ?_ hc9 (fun w5 hb5 => hk (.string TX) w5 hb5 rfl)
        simp [execOp, go_sem, Inv.act_get, d0]
      · intro f X K hb hf hd hk
        have d2 : f 9 = .string TX := hd 2 rfl
        refine Inv.pay_value (v := .string TX) (w' := X) ?_ ?_
        · simp [execOp, go_sem, Inv.act_get, d2]
        · exact hk (.string TX) X (Below.refl _ _) rfl
      · intro f X K hb hf hd hk
        refine Inv.pay_value (v := .bool true) (w' := X) ?_ ?_
        · simp [execOp, go_sem, Inv.act_get]
        · exact hk (.bool true) X (Below.refl _ _) rfl
    · intro f w7 hb7 hf hv
      have e2 : f 2 = .string TX := hv 3 (by decide)
      have e3 : f 3 = .bool true := hv 4 (by decide)
      have hact : Inv.act 10 [] f = ⟨(f 0 :: f 1 :: f 2 :: f 3 :: f 4 :: f 5 :: f 6 :: f 7 :: f 8 :: f 9 :: []).toArray, []⟩ := by kernel_rfl
      rw [hact, e2, e3]
      clear hact hf hv
      go_wp2
      go_ret2
      exact ⟨rfl, HB.out.trans ((HB1.out.trans (hb7.mono HB1.out.size)).mono HB.out.size)⟩
end Go.Proofs.YtimacmijinblmaaGreat
