/- The exact law of MessageOk, walked. -/
import Derived.Test.YtimacmijinblmaaImplMsg
import Derived.Test.YtimacmijinblmaaToMsg
import Derived.Test.YtimacmijinblmaaRegInv
namespace Go.Proofs.Ytimacmijinblmaa
open Go.RowKit
open Ents (okB)
open Msgs (okM)
set_option linter.unusedVariables false
set_option linter.unusedSimpArgs false

/-- A message whose lists lie somewhere. -/
def Laid (m : MsgL) (v : Value) (W : World) : Prop := ∃ g1 g2 : Nat, v = .agg #[.int .i64 m.kind, .int .i64 m.frm, .int .i64 m.dst, .int .i64 m.term, .int .i64 m.index, .int .i64 m.lterm, .int .i64 m.commit, .bool m.ok, .slice (some ⟨g1, 0, none⟩) m.ents.length m.ents.length, .slice (some ⟨g2, 0, none⟩) m.conf.length m.conf.length, .string m.data, .bool m.last] ∧ EnAt W (some ⟨g1, 0, none⟩) g1 0 m.ents ∧ IntAt W (some ⟨g2, 0, none⟩) g2 0 m.conf
theorem Laid.mk {m : MsgL} {W : World} {g1 g2 : Nat} (h1 : EnAt W (some ⟨g1, 0, none⟩) g1 0 m.ents) (h2 : IntAt W (some ⟨g2, 0, none⟩) g2 0 m.conf) : Laid m (.agg #[.int .i64 m.kind, .int .i64 m.frm, .int .i64 m.dst, .int .i64 m.term, .int .i64 m.index, .int .i64 m.lterm, .int .i64 m.commit, .bool m.ok, .slice (some ⟨g1, 0, none⟩) m.ents.length m.ents.length, .slice (some ⟨g2, 0, none⟩) m.conf.length m.conf.length, .string m.data, .bool m.last]) W := ⟨g1, g2, rfl, h1, h2⟩
theorem Laid.kept {m : MsgL} {v : Value} {W W' : World} (h : Laid m v W) (hb : Below W.heap.size W W') : Laid m v W' := by
  obtain ⟨g1, g2, e, h1, h2⟩ := h
  exact ⟨g1, g2, e, h1.kept hb, h2.kept hb⟩
theorem Laid.elim {m : MsgL} {v : Value} {W : World} {p : Prop} (h : Laid m v W) (k : ∀ g1 g2 : Nat, v = .agg #[.int .i64 m.kind, .int .i64 m.frm, .int .i64 m.dst, .int .i64 m.term, .int .i64 m.index, .int .i64 m.lterm, .int .i64 m.commit, .bool m.ok, .slice (some ⟨g1, 0, none⟩) m.ents.length m.ents.length, .slice (some ⟨g2, 0, none⟩) m.conf.length m.conf.length, .string m.data, .bool m.last] → EnAt W (some ⟨g1, 0, none⟩) g1 0 m.ents → IntAt W (some ⟨g2, 0, none⟩) g2 0 m.conf → p) : p := by
  obtain ⟨g1, g2, e, h1, h2⟩ := h
  exact k g1 g2 e h1 h2
set_option maxHeartbeats 8000000 in
set_option maxRecDepth 100000 in
theorem lawMsgOk_any {a b : Option Addr} {g off cap h o capb : Nat} (m : MsgL) (hlen : m.ents.length ≤ maxLen) (hsz : ∀ r ∈ m.ents, smallEn maxLen r) (hlc : m.conf.length ≤ maxLen) (hds : m.data.size ≤ maxLen) (w : World) (hf : EnAt w a g off m.ents) (hc : IntAt w b h o m.conf) :
    Calls Try.prog 3 #[msgV m a cap b capb] w fun e w' => e = .returned (.bool true) ∧ Below w.heap.size w w' := by
  have HF : Hid (EnAt w a g off m.ents) := hf
  have HG : Hid (IntAt w b h o m.conf) := hc
  have HSZ : Hid (∀ X, EnAt X a g off m.ents → Calls Try.prog 5 #[.agg #[.int .i64 m.kind, .int .i64 m.frm, .int .i64 m.dst, .int .i64 m.term, .int .i64 m.index, .int .i64 m.lterm, .int .i64 m.commit, .bool m.ok, .slice a m.ents.length cap, .slice b m.conf.length capb, .string m.data, .bool m.last], .int .i64 ((1048576 : Nat) : Int)] X fun e w' => ∃ x : Int, e = .returned (.int .i64 x) ∧ Left 1048576 (totM m) x ∧ Below X.heap.size X w') := fun X h => szMsg_any m hlen hsz hlc hds 1048576 (Nat.le_refl _) X h
  clear hf hc hsz hlen hlc hds
  unfold msgV
  obtain ⟨W, hW⟩ : ∃ W, W = w.alloc (Obj.cells (msgC m a cap b capb) 25) := ⟨_, rfl⟩
  have HWD : Hid (w.alloc (Obj.cells #[.int .i64 m.kind, .int .i64 m.frm, .int .i64 m.dst, .int .i64 m.term, .int .i64 m.index, .int .i64 m.lterm, .int .i64 m.commit, .bool m.ok, .slice a m.ents.length cap, .slice b m.conf.length capb, .string m.data, .bool m.last] 25) = W) := hW.symm
  have hWb : Below w.heap.size w W := by rw [hW]; exact (Below.refl _ _).alloc (Nat.le_refl _) _
  have hla : MsgAt W w.heap.size m a cap b capb := by rw [hW]; exact MsgAt.new w m a cap b capb 25
  obtain ⟨q, hq⟩ : ∃ q, q = w.heap.size := ⟨_, rfl⟩
  rw [← hq] at hla
  have HC : Hid (∀ w', Below W.heap.size W w' → MsgAt w' q m a cap b capb) := fun w' h => hla.kept h
  have HWB : Hid (Below w.heap.size w W) := hWb
  clear hla hWb hW
  go_enter Try.func3, Try.ntmps3
  go_wp2_with fail
  rw [HWD.out, ← hq]
  clear HWD hq
  refine Calls.mono (HSZ.out W (HF.out.kept HWB.out)) ?_
  rintro e w1 ⟨x, rfl, hx, hb1⟩
  have HC1 : Hid (Below W.heap.size W w1) := hb1
  have HB1 : Hid (Below w.heap.size w w1) := HWB.out.trans (hb1.mono HWB.out.size)
  clear hb1 HSZ
  rcases hx with ⟨hx1, hx2⟩ | ⟨hx1, hx2⟩
  · obtain ⟨Y, hY⟩ : ∃ Y : Nat, Y = 1048576 - totM m := ⟨_, rfl⟩
    rw [← hY] at hx2
    subst hx2
    clear hY
    obtain ⟨hl, hs⟩ := totEn_small (show totEn m.ents ≤ 1048576 by unfold totM at hx1; omega)
    have hlc : m.conf.length ≤ 1048576 := by unfold totM at hx1; omega
    have hds : m.data.size ≤ 1048576 := by unfold totM at hx1; omega
    have HTO : Hid (∀ X, EnAt X a g off m.ents → IntAt X b h o m.conf → Calls Try.prog 7 #[.agg #[.int .i64 m.kind, .int .i64 m.frm, .int .i64 m.dst, .int .i64 m.term, .int .i64 m.index, .int .i64 m.lterm, .int .i64 m.commit, .bool m.ok, .slice a m.ents.length cap, .slice b m.conf.length capb, .string m.data, .bool m.last]] X fun e w' => ∃ g1 g2 : Nat, e = .returned (.agg #[.int .i64 m.kind, .int .i64 m.frm, .int .i64 m.dst, .int .i64 m.term, .int .i64 m.index, .int .i64 m.lterm, .int .i64 m.commit, .bool m.ok, .slice (some ⟨g1, 0, none⟩) m.ents.length m.ents.length, .slice (some ⟨g2, 0, none⟩) m.conf.length m.conf.length, .string m.data, .bool m.last]) ∧ (EnAt w' (some ⟨g1, 0, none⟩) g1 0 m.ents ∧ IntAt w' (some ⟨g2, 0, none⟩) g2 0 m.conf) ∧ Below X.heap.size X w') := fun X x y => by
      refine (toMsg_any m hl hlc X x y).mono ?_
      rintro e w' ⟨g1, g2, he, o1, o2, hb⟩
      exact ⟨g1, g2, he, ⟨cellsEn_own rfl o1, cellsI_own rfl o2⟩, hb⟩
    obtain ⟨O, hO⟩ : ∃ O, O = okM m := ⟨_, rfl⟩
    have HSP : Hid (∀ (X : World) (g1 g2 : Nat), EnAt X (some ⟨g1, 0, none⟩) g1 0 m.ents → IntAt X (some ⟨g2, 0, none⟩) g2 0 m.conf → Calls Try.prog 6 #[.agg #[.int .i64 m.kind, .int .i64 m.frm, .int .i64 m.dst, .int .i64 m.term, .int .i64 m.index, .int .i64 m.lterm, .int .i64 m.commit, .bool m.ok, .slice (some ⟨g1, 0, none⟩) m.ents.length m.ents.length, .slice (some ⟨g2, 0, none⟩) m.conf.length m.conf.length, .string m.data, .bool m.last]] X fun en w' => en = .returned (.bool O) ∧ Below X.heap.size X w') := fun X g1 g2 x y => by rw [hO]; exact specMsgOk_is m hl hs hlc hds X x y
    have HIM : Hid (∀ (X : World) (g1 g2 : Nat), EnAt X (some ⟨g1, 0, none⟩) g1 0 m.ents → IntAt X (some ⟨g2, 0, none⟩) g2 0 m.conf → Calls Try.prog 8 #[.agg #[.int .i64 m.kind, .int .i64 m.frm, .int .i64 m.dst, .int .i64 m.term, .int .i64 m.index, .int .i64 m.lterm, .int .i64 m.commit, .bool m.ok, .slice (some ⟨g1, 0, none⟩) m.ents.length m.ents.length, .slice (some ⟨g2, 0, none⟩) m.conf.length m.conf.length, .string m.data, .bool m.last]] X fun en w' => en = .returned (.bool O) ∧ Below X.heap.size X w') := fun X g1 g2 x y => by rw [hO]; exact implMsgOk_is m hl hs hlc hds X x y
    have HEQ : Hid (∀ (X : World) (g1 g2 g3 g4 : Nat), EnAt X (some ⟨g1, 0, none⟩) g1 0 m.ents → IntAt X (some ⟨g2, 0, none⟩) g2 0 m.conf → EnAt X (some ⟨g3, 0, none⟩) g3 0 m.ents → IntAt X (some ⟨g4, 0, none⟩) g4 0 m.conf → Calls Try.prog 9 #[.agg #[.int .i64 m.kind, .int .i64 m.frm, .int .i64 m.dst, .int .i64 m.term, .int .i64 m.index, .int .i64 m.lterm, .int .i64 m.commit, .bool m.ok, .slice (some ⟨g1, 0, none⟩) m.ents.length m.ents.length, .slice (some ⟨g2, 0, none⟩) m.conf.length m.conf.length, .string m.data, .bool m.last], .agg #[.int .i64 m.kind, .int .i64 m.frm, .int .i64 m.dst, .int .i64 m.term, .int .i64 m.index, .int .i64 m.lterm, .int .i64 m.commit, .bool m.ok, .slice (some ⟨g3, 0, none⟩) m.ents.length m.ents.length, .slice (some ⟨g4, 0, none⟩) m.conf.length m.conf.length, .string m.data, .bool m.last]] X fun e w' => e = .returned (.bool true) ∧ Below X.heap.size X w') := fun X g1 g2 g3 g4 x1 x2 x3 x4 => eqMsg_same m hl hlc X x1 x3 x2 x4
    clear hs hl hlc hds hx1 hO
    obtain ⟨c0, c1, c2, c3, c4, c5, c6, c7, c8, c9, c10, c11⟩ := HC.out w1 HC1.out
    go_wp2_with fail
    clear c0 c1 c2 c3 c4 c5 c6 c7 c8 c9 c10 c11
    refine Calls.mono (HTO.out w1 (HF.out.kept HB1.out) (HG.out.kept HB1.out)) ?_
    rintro e w2 ⟨g2, h2, rfl, hp2, hb2⟩
    have HB2 : Hid (Below w.heap.size w w2) := HB1.out.trans (hb2.mono HB1.out.size)
    have HC2 : Hid (Below W.heap.size W w2) := HC1.out.trans (hb2.mono HC1.out.size)
    clear hb2 HB1 HC1
    go_wp2_with fail
    refine Calls.mono (HSP.out w2 g2 h2 hp2.1 hp2.2) ?_
    rintro e w3 ⟨rfl, hb3⟩
    have HB3 : Hid (Below w.heap.size w w3) := HB2.out.trans (hb3.mono HB2.out.size)
    have HC3 : Hid (Below W.heap.size W w3) := HC2.out.trans (hb3.mono HC2.out.size)
    clear hb3 hp2 HB2 HC2 HSP
    obtain ⟨c0, c1, c2, c3, c4, c5, c6, c7, c8, c9, c10, c11⟩ := HC.out w3 HC3.out
    go_wp2_with fail
    clear c0 c1 c2 c3 c4 c5 c6 c7 c8 c9 c10 c11
    refine Calls.mono (HTO.out w3 (HF.out.kept HB3.out) (HG.out.kept HB3.out)) ?_
    rintro e w4 ⟨g4, h4, rfl, hp4, hb4⟩
    have HB4 : Hid (Below w.heap.size w w4) := HB3.out.trans (hb4.mono HB3.out.size)
    have HC4 : Hid (Below W.heap.size W w4) := HC3.out.trans (hb4.mono HC3.out.size)
    have HF4 : Hid (EnAt w4 (some ⟨g4, 0, none⟩) g4 0 m.ents ∧ IntAt w4 (some ⟨h4, 0, none⟩) h4 0 m.conf) := hp4
    clear hb4 hp4 HB3 HC3
    obtain ⟨W5, hW5⟩ : ∃ W5, W5 = w4.alloc (Obj.cells (msgC m (some ⟨g4, 0, none⟩) m.ents.length (some ⟨h4, 0, none⟩) m.conf.length) 30) := ⟨_, rfl⟩
    have HWD5 : Hid (w4.alloc (Obj.cells #[.int .i64 m.kind, .int .i64 m.frm, .int .i64 m.dst, .int .i64 m.term, .int .i64 m.index, .int .i64 m.lterm, .int .i64 m.commit, .bool m.ok, .slice (some ⟨g4, 0, none⟩) m.ents.length m.ents.length, .slice (some ⟨h4, 0, none⟩) m.conf.length m.conf.length, .string m.data, .bool m.last] 30) = W5) := hW5.symm
    have hb5 : Below w4.heap.size w4 W5 := by rw [hW5]; exact (Below.refl _ _).alloc (Nat.le_refl _) _
    have hla5 : MsgAt W5 w4.heap.size m (some ⟨g4, 0, none⟩) m.ents.length (some ⟨h4, 0, none⟩) m.conf.length := by rw [hW5]; exact MsgAt.new w4 m _ _ _ _ 30
    obtain ⟨q5, hq5⟩ : ∃ q5, q5 = w4.heap.size := ⟨_, rfl⟩
    rw [← hq5] at hla5
    have HX5 : Hid (∀ w', Below W5.heap.size W5 w' → MsgAt w' q5 m (some ⟨g4, 0, none⟩) m.ents.length (some ⟨h4, 0, none⟩) m.conf.length) := fun w' h => hla5.kept h
    have HB5 : Hid (Below w.heap.size w W5) := HB4.out.trans (hb5.mono HB4.out.size)
    have HC5 : Hid (Below W.heap.size W W5) := HC4.out.trans (hb5.mono HC4.out.size)
    have HF5 : Hid (EnAt W5 (some ⟨g4, 0, none⟩) g4 0 m.ents ∧ IntAt W5 (some ⟨h4, 0, none⟩) h4 0 m.conf) := ⟨HF4.out.1.kept hb5, HF4.out.2.kept hb5⟩
    clear hW5 hb5 HB4 HC4 HF4 hla5
    go_wp2_with fail
    rw [HWD5.out, ← hq5]
    clear HWD5 hq5
    refine Calls.mono (HIM.out W5 g4 h4 HF5.out.1 HF5.out.2) ?_
    rintro e w6 ⟨rfl, hb6⟩
    have HB6 : Hid (Below w.heap.size w w6) := HB5.out.trans (hb6.mono HB5.out.size)
    have HL6 : Hid (∀ w', Below w6.heap.size w6 w' → MsgAt w' q5 m (some ⟨g4, 0, none⟩) m.ents.length (some ⟨h4, 0, none⟩) m.conf.length ∧ MsgAt w' q m a cap b capb) := fun w' h => ⟨HX5.out w' (hb6.trans (h.mono hb6.size)), HC.out w' ((HC5.out.trans (hb6.mono HC5.out.size)).trans (h.mono ((HC5.out.trans (hb6.mono HC5.out.size)).size)))⟩
    have HF6 : Hid (∀ w', Below w6.heap.size w6 w' → (EnAt w' (some ⟨g4, 0, none⟩) g4 0 m.ents ∧ IntAt w' (some ⟨h4, 0, none⟩) h4 0 m.conf) ∧ EnAt w' a g off m.ents ∧ IntAt w' b h o m.conf) := fun w' hh => ⟨⟨(HF5.out.1.kept hb6).kept hh, (HF5.out.2.kept hb6).kept hh⟩, HF.out.kept (HB6.out.trans (hh.mono HB6.out.size)), HG.out.kept (HB6.out.trans (hh.mono HB6.out.size))⟩
    clear hb6 HB5 HC5 HF5 HIM HC HX5 HF HG HWB
    go_wp2_with fail
    refine Inv.region_walk 27 (fun i v W => if i = 2 then Laid m v W else v = [.agg #[.int .i64 m.kind, .int .i64 m.frm, .int .i64 m.dst, .int .i64 m.term, .int .i64 m.index, .int .i64 m.lterm, .int .i64 m.commit, .bool m.ok, .slice (some ⟨g4, 0, none⟩) m.ents.length m.ents.length, .slice (some ⟨h4, 0, none⟩) m.conf.length m.conf.length, .string m.data, .bool m.last], .agg #[.int .i64 m.kind, .int .i64 m.frm, .int .i64 m.dst, .int .i64 m.term, .int .i64 m.index, .int .i64 m.lterm, .int .i64 m.commit, .bool m.ok, .slice a m.ents.length cap, .slice b m.conf.length capb, .string m.data, .bool m.last], undef, .bool true, .bool false].getD i undef) rfl rfl (by kernel_rfl) ?_ ?_ ?_
    · intro i v W W' h hb
      by_cases h2 : i = 2
      · simp only [h2, if_true] at h ⊢
        exact h.kept hb
      · simp only [h2, if_false] at h ⊢
        exact h
    · refine ⟨?_, ?_, ?_, ?_, ?_, trivial⟩
      · intro f W K hb hf hd hk
        have e1 : f 5 = .pointer (some ⟨q5, 0, none⟩) := hf 5 rfl
        have M := (HL6.out W hb).1
        have c0 := M.c0; have c1 := M.c1; have c2 := M.c2; have c3 := M.c3; have c4 := M.c4; have c5 := M.c5; have c6 := M.c6; have c7 := M.c7; have c8 := M.c8; have c9 := M.c9; have c10 := M.c10; have c11 := M.c11
        refine Inv.pay_value (v := .agg #[.int .i64 m.kind, .int .i64 m.frm, .int .i64 m.dst, .int .i64 m.term, .int .i64 m.index, .int .i64 m.lterm, .int .i64 m.commit, .bool m.ok, .slice (some ⟨g4, 0, none⟩) m.ents.length m.ents.length, .slice (some ⟨h4, 0, none⟩) m.conf.length m.conf.length, .string m.data, .bool m.last]) (w' := W) ?_ ?_
        · simp [execOp, go_sem, Inv.act_get, e1, c0, c1, c2, c3, c4, c5, c6, c7, c8, c9, c10, c11]
        · exact hk (.agg #[.int .i64 m.kind, .int .i64 m.frm, .int .i64 m.dst, .int .i64 m.term, .int .i64 m.index, .int .i64 m.lterm, .int .i64 m.commit, .bool m.ok, .slice (some ⟨g4, 0, none⟩) m.ents.length m.ents.length, .slice (some ⟨h4, 0, none⟩) m.conf.length m.conf.length, .string m.data, .bool m.last]) W (Below.refl _ _) rfl
      · intro f W K hb hf hd hk
        have e1 : f 1 = .pointer (some ⟨q, 0, none⟩) := hf 1 rfl
        have M := (HL6.out W hb).2
        have c0 := M.c0; have c1 := M.c1; have c2 := M.c2; have c3 := M.c3; have c4 := M.c4; have c5 := M.c5; have c6 := M.c6; have c7 := M.c7; have c8 := M.c8; have c9 := M.c9; have c10 := M.c10; have c11 := M.c11
        refine Inv.pay_value (v := .agg #[.int .i64 m.kind, .int .i64 m.frm, .int .i64 m.dst, .int .i64 m.term, .int .i64 m.index, .int .i64 m.lterm, .int .i64 m.commit, .bool m.ok, .slice a m.ents.length cap, .slice b m.conf.length capb, .string m.data, .bool m.last]) (w' := W) ?_ ?_
        · simp [execOp, go_sem, Inv.act_get, e1, c0, c1, c2, c3, c4, c5, c6, c7, c8, c9, c10, c11]
        · exact hk (.agg #[.int .i64 m.kind, .int .i64 m.frm, .int .i64 m.dst, .int .i64 m.term, .int .i64 m.index, .int .i64 m.lterm, .int .i64 m.commit, .bool m.ok, .slice a m.ents.length cap, .slice b m.conf.length capb, .string m.data, .bool m.last]) W (Below.refl _ _) rfl
      · intro f W K hb hf hd hk
        have d1 : f 23 = .agg #[.int .i64 m.kind, .int .i64 m.frm, .int .i64 m.dst, .int .i64 m.term, .int .i64 m.index, .int .i64 m.lterm, .int .i64 m.commit, .bool m.ok, .slice a m.ents.length cap, .slice b m.conf.length capb, .string m.data, .bool m.last] := hd 1 rfl
        refine Inv.pay_callE (f := 7) (args := #[.agg #[.int .i64 m.kind, .int .i64 m.frm, .int .i64 m.dst, .int .i64 m.term, .int .i64 m.index, .int .i64 m.lterm, .int .i64 m.commit, .bool m.ok, .slice a m.ents.length cap, .slice b m.conf.length capb, .string m.data, .bool m.last]]) (R := fun v w' => Laid m v w' ∧ Below W.heap.size W w') ?_ ?_ (fun v w5 hv => hk v w5 hv.2 hv.1)
        · simp [execOp, go_sem, Inv.act_get, d1]
        · refine (HTO.out W (HF6.out W hb).2.1 (HF6.out W hb).2.2).mono ?_
          rintro e w' ⟨g7, h7, rfl, hp, hb7⟩
          exact ⟨_, rfl, Laid.mk hp.1 hp.2, hb7⟩
      · intro f W K hb hf hd hk
        have d0 : f 22 = .agg #[.int .i64 m.kind, .int .i64 m.frm, .int .i64 m.dst, .int .i64 m.term, .int .i64 m.index, .int .i64 m.lterm, .int .i64 m.commit, .bool m.ok, .slice (some ⟨g4, 0, none⟩) m.ents.length m.ents.length, .slice (some ⟨h4, 0, none⟩) m.conf.length m.conf.length, .string m.data, .bool m.last] := hd 0 rfl
        have d2 : Laid m (f 24) W := hd 2 rfl
        have hc9 : Calls Try.prog 9 #[.agg #[.int .i64 m.kind, .int .i64 m.frm, .int .i64 m.dst, .int .i64 m.term, .int .i64 m.index, .int .i64 m.lterm, .int .i64 m.commit, .bool m.ok, .slice (some ⟨g4, 0, none⟩) m.ents.length m.ents.length, .slice (some ⟨h4, 0, none⟩) m.conf.length m.conf.length, .string m.data, .bool m.last], f 24] W fun e w' => e = .returned (.bool true) ∧ Below W.heap.size W w' := by
          generalize f 24 = v at d2
          exact Laid.elim d2 fun g7 h7 e x y => by
            rw [e]
            exact HEQ.out W g4 h4 g7 h7 (HF6.out W hb).1.1 (HF6.out W hb).1.2 x y
        refine Inv.pay_call (f := 9) (args := #[.agg #[.int .i64 m.kind, .int .i64 m.frm, .int .i64 m.dst, .int .i64 m.term, .int .i64 m.index, .int .i64 m.lterm, .int .i64 m.commit, .bool m.ok, .slice (some ⟨g4, 0, none⟩) m.ents.length m.ents.length, .slice (some ⟨h4, 0, none⟩) m.conf.length m.conf.length, .string m.data, .bool m.last], f 24]) (u := .bool true) (R := fun w' => Below W.heap.size W w') ?_ hc9 (fun w5 hb5 => hk (.bool true) w5 hb5 rfl)
        simp [execOp, go_sem, Inv.act_get, d0]
      · intro f W K hb hf hd hk
        have d3 : f 25 = .bool true := hd 3 rfl
        refine Inv.pay_value (v := .bool false) (w' := W) ?_ ?_
        · simp [execOp, go_sem, Inv.act_get, d3]
        · exact hk (.bool false) W (Below.refl _ _) rfl
    · intro f w7 hb7 hf hv
      have e4 : f 26 = .bool false := hv 4 (by decide)
      have hact : Inv.act 27 [] f = ⟨(f 0 :: f 1 :: f 2 :: f 3 :: f 4 :: f 5 :: f 6 :: f 7 :: f 8 :: f 9 :: f 10 :: f 11 :: f 12 :: f 13 :: f 14 :: f 15 :: f 16 :: f 17 :: f 18 :: f 19 :: f 20 :: f 21 :: f 22 :: f 23 :: f 24 :: f 25 :: f 26 :: []).toArray, []⟩ := by kernel_rfl
      rw [hact, e4]
      clear hact hf hv
      go_wp2
      go_ret
      exact ⟨rfl, HB6.out.trans (hb7.mono HB6.out.size)⟩
  · subst hx2
    go_wp2
    go_ret
    exact ⟨rfl, HB1.out⟩
end Go.Proofs.Ytimacmijinblmaa
