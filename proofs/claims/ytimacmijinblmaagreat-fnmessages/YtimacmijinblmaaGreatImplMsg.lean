/- The program's MessageOk, walked: headOk, sentOk, shippedOk. -/
import Derived.Test.YtimacmijinblmaaGreatImplEnts
namespace Go.Proofs.YtimacmijinblmaaGreat
open Go.RowKit
open Ents (okB)
open Msgs (inB okM headB numsB sendB tailB rise rises)
set_option linter.unusedVariables false
set_option linter.unusedSimpArgs false

theorem idOk_is (x : Int) (R : Bool) (hR : R = decide (1 ≤ x ∧ x ≤ 4)) (w : World) : Calls Tryz.prog 107 #[.int .i64 x] w fun en w' => en = .returned (.bool R) ∧ w' = w := by
  by_cases h0 : 1 ≤ x
  · by_cases h1 : x ≤ 4
    · have HR : Hid (R = true) := by show _ = _; rw [hR]; simp [h0, h1]
      clear hR
      go_enter Tryz.func107, Tryz.ntmps107
      go_wp2
      go_ret
      exact ⟨by rw [HR.out]; simp [h1], rfl⟩
    · have HR : Hid (R = false) := by show _ = _; rw [hR]; simp [h1]
      clear hR
      go_enter Tryz.func107, Tryz.ntmps107
      go_wp2
      go_ret
      exact ⟨by rw [HR.out]; simp [h1], rfl⟩
  · have HR : Hid (R = false) := by show _ = _; rw [hR]; simp [h0]
    clear hR
    go_enter Tryz.func107, Tryz.ntmps107
    go_wp2
    go_ret
    exact ⟨by rw [HR.out]; rfl, rfl⟩

set_option maxHeartbeats 8000000 in
set_option maxRecDepth 100000 in
theorem headOk_is {a b : Option Addr} {cap capb : Nat} (m : MsgL) (w : World) :
    Calls Tryz.prog 84 #[msgV m a cap b capb] w fun en w' => en = .returned (.bool (headB m && numsB m)) ∧ Below w.heap.size w w' := by
  obtain ⟨O, hO⟩ : ∃ O, O = (headB m && numsB m) := ⟨_, rfl⟩
  rw [← hO]
  unfold msgV
  obtain ⟨W, hW⟩ : ∃ W, W = w.alloc (Obj.cells (msgC m a cap b capb) 25) := ⟨_, rfl⟩
  have hb : Below w.heap.size w W := by rw [hW]; exact (Below.refl _ _).alloc (Nat.le_refl _) _
  have HB : Hid (Below w.heap.size w W) := hb
  have hla : MsgAt W w.heap.size m a cap b capb := by rw [hW]; exact MsgAt.new w m a cap b capb 25
  have HWD : Hid (w.alloc (Obj.cells #[.int .i64 m.kind, .int .i64 m.frm, .int .i64 m.dst, .int .i64 m.term, .int .i64 m.index, .int .i64 m.lterm, .int .i64 m.commit, .bool m.ok, .slice a m.ents.length cap, .slice b m.conf.length capb, .string m.data, .bool m.last] 25) = W) := hW.symm
  obtain ⟨R2, hR2⟩ : ∃ R2, R2 = inB 1 4 m.frm := ⟨_, rfl⟩
  obtain ⟨R3, hR3⟩ : ∃ R3, R3 = inB 1 4 m.dst := ⟨_, rfl⟩
  obtain ⟨R4, hR4⟩ : ∃ R4, R4 = inB 0 100000 m.term := ⟨_, rfl⟩
  obtain ⟨R5, hR5⟩ : ∃ R5, R5 = inB 0 100000 m.lterm := ⟨_, rfl⟩
  obtain ⟨R6, hR6⟩ : ∃ R6, R6 = inB 0 100000 m.index := ⟨_, rfl⟩
  obtain ⟨R7, hR7⟩ : ∃ R7, R7 = inB 0 100000 m.commit := ⟨_, rfl⟩
  have HI2 : Hid (∀ W, Calls Tryz.prog 107 #[.int .i64 m.frm] W fun en w' => en = .returned (.bool R2) ∧ w' = W) := fun W => idOk_is _ _ (by rw [hR2]; simp [inB]) W
  have HI3 : Hid (∀ W, Calls Tryz.prog 107 #[.int .i64 m.dst] W fun en w' => en = .returned (.bool R3) ∧ w' = W) := fun W => idOk_is _ _ (by rw [hR3]; simp [inB]) W
  have HI4 : Hid (∀ W, Calls Tryz.prog 108 #[.int .i64 m.term] W fun en w' => en = .returned (.bool R4) ∧ w' = W) := fun W => termOk_is _ _ (by rw [hR4]; simp [inB]) W
  have HI5 : Hid (∀ W, Calls Tryz.prog 108 #[.int .i64 m.lterm] W fun en w' => en = .returned (.bool R5) ∧ w' = W) := fun W => termOk_is _ _ (by rw [hR5]; simp [inB]) W
  have HI6 : Hid (∀ W, Calls Tryz.prog 109 #[.int .i64 m.index] W fun en w' => en = .returned (.bool R6) ∧ w' = W) := fun W => stampOk_is _ _ (by rw [hR6]; simp [inB]) W
  have HI7 : Hid (∀ W, Calls Tryz.prog 109 #[.int .i64 m.commit] W fun en w' => en = .returned (.bool R7) ∧ w' = W) := fun W => stampOk_is _ _ (by rw [hR7]; simp [inB]) W
  have HO : Hid (O = ((((decide (1 ≤ m.kind) && decide (m.kind ≤ 6)) && R2) && (R3 && !(m.frm == m.dst))) && ((R4 && R5) && (R6 && R7)))) := by show _ = _; rw [hO, hR2, hR3, hR4, hR5, hR6, hR7]; rfl
  clear hO hR2 hR3 hR4 hR5 hR6 hR7 hb
  obtain ⟨c0, c1, c2, c3, c4, c5, c6, -, -, -, -, -⟩ := hla
  rw [hW] at c0 c1 c2 c3 c4 c5 c6
  unfold msgC at c0 c1 c2 c3 c4 c5 c6
  clear hW
  by_cases hk0 : ¬ 1 ≤ m.kind
  · have HN : Hid (O = false) := by show _ = _; rw [HO.out]; simp [hk0]
    clear HO
    go_enter Tryz.func84, Tryz.ntmps84
    go_wp2
    go_ret
    exact ⟨by rw [HN.out]; rfl, by rw [HWD.out]; exact HB.out⟩
  replace hk0 := Decidable.not_not.1 hk0
  by_cases hk1 : ¬ m.kind ≤ 6
  · have HN : Hid (O = false) := by show _ = _; rw [HO.out]; simp [hk1]
    clear HO
    go_enter Tryz.func84, Tryz.ntmps84
    go_wp2
    go_ret
    exact ⟨by rw [HN.out]; rfl, by rw [HWD.out]; exact HB.out⟩
  replace hk1 := Decidable.not_not.1 hk1
  cases R2 with
  | false =>
    have HN : Hid (O = false) := by show _ = _; rw [HO.out]; simp
    clear HO
    go_enter Tryz.func84, Tryz.ntmps84
    go_wp2_with (first | (go_at_call 107; (first | (with_reducible refine Calls.mono (HI2.out _) ?_) | (with_reducible refine Calls.mono (HI3.out _) ?_) | fail); rintro en w2 ⟨rfl, hw2⟩; subst hw2) | (go_at_call 108; (first | (with_reducible refine Calls.mono (HI4.out _) ?_) | (with_reducible refine Calls.mono (HI5.out _) ?_) | fail); rintro en w2 ⟨rfl, hw2⟩; subst hw2) | (go_at_call 109; (first | (with_reducible refine Calls.mono (HI6.out _) ?_) | (with_reducible refine Calls.mono (HI7.out _) ?_) | fail); rintro en w2 ⟨rfl, hw2⟩; subst hw2) | fail)
    go_ret
    exact ⟨by rw [HN.out]; rfl, by rw [HWD.out]; exact HB.out⟩
  | true =>
  cases R3 with
  | false =>
    have HN : Hid (O = false) := by show _ = _; rw [HO.out]; simp
    clear HO
    go_enter Tryz.func84, Tryz.ntmps84
    go_wp2_with (first | (go_at_call 107; (first | (with_reducible refine Calls.mono (HI2.out _) ?_) | (with_reducible refine Calls.mono (HI3.out _) ?_) | fail); rintro en w2 ⟨rfl, hw2⟩; subst hw2) | (go_at_call 108; (first | (with_reducible refine Calls.mono (HI4.out _) ?_) | (with_reducible refine Calls.mono (HI5.out _) ?_) | fail); rintro en w2 ⟨rfl, hw2⟩; subst hw2) | (go_at_call 109; (first | (with_reducible refine Calls.mono (HI6.out _) ?_) | (with_reducible refine Calls.mono (HI7.out _) ?_) | fail); rintro en w2 ⟨rfl, hw2⟩; subst hw2) | fail)
    go_ret
    exact ⟨by rw [HN.out]; rfl, by rw [HWD.out]; exact HB.out⟩
  | true =>
  by_cases he : m.frm = m.dst
  · have HN : Hid (O = false) := by show _ = _; rw [HO.out]; simp [he]
    have he' : (m.frm != m.dst) = false := by simp [he]
    clear HO he
    go_enter Tryz.func84, Tryz.ntmps84
    go_wp2_with (first | (go_at_call 107; (first | (with_reducible refine Calls.mono (HI2.out _) ?_) | (with_reducible refine Calls.mono (HI3.out _) ?_) | fail); rintro en w2 ⟨rfl, hw2⟩; subst hw2) | (go_at_call 108; (first | (with_reducible refine Calls.mono (HI4.out _) ?_) | (with_reducible refine Calls.mono (HI5.out _) ?_) | fail); rintro en w2 ⟨rfl, hw2⟩; subst hw2) | (go_at_call 109; (first | (with_reducible refine Calls.mono (HI6.out _) ?_) | (with_reducible refine Calls.mono (HI7.out _) ?_) | fail); rintro en w2 ⟨rfl, hw2⟩; subst hw2) | fail)
    go_ret
    exact ⟨by rw [HN.out]; rfl, by rw [HWD.out]; exact HB.out⟩
  have he' : (m.frm != m.dst) = true := by simp [he]
  have HO' : Hid (O = ((R4 && R5) && (R6 && R7))) := by show _ = _; rw [HO.out]; simp [he, hk0, hk1]
  clear HO he
  cases R4 with
  | false =>
    have HN : Hid (O = false) := by show _ = _; rw [HO'.out]; simp
    clear HO'
    go_enter Tryz.func84, Tryz.ntmps84
    go_wp2_with (first | (go_at_call 107; (first | (with_reducible refine Calls.mono (HI2.out _) ?_) | (with_reducible refine Calls.mono (HI3.out _) ?_) | fail); rintro en w2 ⟨rfl, hw2⟩; subst hw2) | (go_at_call 108; (first | (with_reducible refine Calls.mono (HI4.out _) ?_) | (with_reducible refine Calls.mono (HI5.out _) ?_) | fail); rintro en w2 ⟨rfl, hw2⟩; subst hw2) | (go_at_call 109; (first | (with_reducible refine Calls.mono (HI6.out _) ?_) | (with_reducible refine Calls.mono (HI7.out _) ?_) | fail); rintro en w2 ⟨rfl, hw2⟩; subst hw2) | fail)
    go_ret
    exact ⟨by rw [HN.out]; rfl, by rw [HWD.out]; exact HB.out⟩
  | true =>
  cases R5 with
  | false =>
    have HN : Hid (O = false) := by show _ = _; rw [HO'.out]; simp
    clear HO'
    go_enter Tryz.func84, Tryz.ntmps84
    go_wp2_with (first | (go_at_call 107; (first | (with_reducible refine Calls.mono (HI2.out _) ?_) | (with_reducible refine Calls.mono (HI3.out _) ?_) | fail); rintro en w2 ⟨rfl, hw2⟩; subst hw2) | (go_at_call 108; (first | (with_reducible refine Calls.mono (HI4.out _) ?_) | (with_reducible refine Calls.mono (HI5.out _) ?_) | fail); rintro en w2 ⟨rfl, hw2⟩; subst hw2) | (go_at_call 109; (first | (with_reducible refine Calls.mono (HI6.out _) ?_) | (with_reducible refine Calls.mono (HI7.out _) ?_) | fail); rintro en w2 ⟨rfl, hw2⟩; subst hw2) | fail)
    go_ret
    exact ⟨by rw [HN.out]; rfl, by rw [HWD.out]; exact HB.out⟩
  | true =>
  cases R6 with
  | false =>
    have HN : Hid (O = false) := by show _ = _; rw [HO'.out]; simp
    clear HO'
    go_enter Tryz.func84, Tryz.ntmps84
    go_wp2_with (first | (go_at_call 107; (first | (with_reducible refine Calls.mono (HI2.out _) ?_) | (with_reducible refine Calls.mono (HI3.out _) ?_) | fail); rintro en w2 ⟨rfl, hw2⟩; subst hw2) | (go_at_call 108; (first | (with_reducible refine Calls.mono (HI4.out _) ?_) | (with_reducible refine Calls.mono (HI5.out _) ?_) | fail); rintro en w2 ⟨rfl, hw2⟩; subst hw2) | (go_at_call 109; (first | (with_reducible refine Calls.mono (HI6.out _) ?_) | (with_reducible refine Calls.mono (HI7.out _) ?_) | fail); rintro en w2 ⟨rfl, hw2⟩; subst hw2) | fail)
    go_ret
    exact ⟨by rw [HN.out]; rfl, by rw [HWD.out]; exact HB.out⟩
  | true =>
  have HN : Hid (O = R7) := by show _ = _; rw [HO'.out]; simp
  clear HO'
  go_enter Tryz.func84, Tryz.ntmps84
  go_wp2_with (first | (go_at_call 107; (first | (with_reducible refine Calls.mono (HI2.out _) ?_) | (with_reducible refine Calls.mono (HI3.out _) ?_) | fail); rintro en w2 ⟨rfl, hw2⟩; subst hw2) | (go_at_call 108; (first | (with_reducible refine Calls.mono (HI4.out _) ?_) | (with_reducible refine Calls.mono (HI5.out _) ?_) | fail); rintro en w2 ⟨rfl, hw2⟩; subst hw2) | (go_at_call 109; (first | (with_reducible refine Calls.mono (HI6.out _) ?_) | (with_reducible refine Calls.mono (HI7.out _) ?_) | fail); rintro en w2 ⟨rfl, hw2⟩; subst hw2) | fail)
  go_ret
  exact ⟨by rw [HN.out]; rfl, by rw [HWD.out]; exact HB.out⟩

set_option maxHeartbeats 8000000 in
set_option maxRecDepth 100000 in
theorem sentOk_is {a b : Option Addr} {g off cap capb : Nat} (m : MsgL) (hlen : m.ents.length ≤ 1048576) (hd : ∀ e ∈ m.ents, e.data.size ≤ 1048576) (w : World) (hf : EnAt w a g off m.ents) :
    Calls Tryz.prog 85 #[msgV m a cap b capb] w fun en w' => en = .returned (.bool (sendB m && rise m.term m.lterm m.ents)) ∧ Below w.heap.size w w' := by
  obtain ⟨O, hO⟩ : ∃ O, O = (sendB m && rise m.term m.lterm m.ents) := ⟨_, rfl⟩
  rw [← hO]
  unfold msgV
  obtain ⟨W, hW⟩ : ∃ W, W = w.alloc (Obj.cells (msgC m a cap b capb) 25) := ⟨_, rfl⟩
  have hb : Below w.heap.size w W := by rw [hW]; exact (Below.refl _ _).alloc (Nat.le_refl _) _
  have HB : Hid (Below w.heap.size w W) := hb
  have hla : MsgAt W w.heap.size m a cap b capb := by rw [hW]; exact MsgAt.new w m a cap b capb 25
  have HWD : Hid (w.alloc (Obj.cells #[.int .i64 m.kind, .int .i64 m.frm, .int .i64 m.dst, .int .i64 m.term, .int .i64 m.index, .int .i64 m.lterm, .int .i64 m.commit, .bool m.ok, .slice a m.ents.length cap, .slice b m.conf.length capb, .string m.data, .bool m.last] 25) = W) := hW.symm
  have HEN : Hid (∀ W', Below W.heap.size W W' → EnAt W' a g off m.ents) := fun W' x => (hf.kept hb).kept x
  have HLA : Hid (∀ W', Below W.heap.size W W' → MsgAt W' w.heap.size m a cap b capb) := fun W' x => hla.kept x
  have HO : Hid (O = (sendB m && rise m.term m.lterm m.ents)) := hO
  clear hO hf hb
  obtain ⟨c0, -, -, c3, -, c5, -, -, c8, -, -, -⟩ := hla
  rw [hW] at c0 c3 c5 c8
  unfold msgC at c0 c3 c5 c8
  clear hW
  by_cases hl0 : m.ents.length = 0
  · have HN : Hid (O = true) := by
      show _ = _
      rw [HO.out, send_yes (by omega) (Or.inl hl0), List.length_eq_zero_iff.1 hl0]
      rfl
    have d0 : ((m.ents.length : Int) == 0) = true := by simp [hl0]
    clear HO hl0
    go_enter Tryz.func85, Tryz.ntmps85
    go_wp2
    go_ret
    exact ⟨by rw [HN.out]; rfl, by rw [HWD.out]; exact HB.out⟩
  have d0 : ((m.ents.length : Int) == 0) = false := beq_eq_false_iff_ne.2 (by omega)
  have hlp : 0 < m.ents.length := by omega
  by_cases hk3 : m.kind = 3
  rotate_left
  · have HN : Hid (O = false) := by show _ = _; rw [HO.out, send_no (Or.inr ⟨hlp, hk3⟩)]; rfl
    have d1 : (m.kind != 3) = true := by simp [hk3]
    clear HO hk3
    go_enter Tryz.func85, Tryz.ntmps85
    go_wp2
    go_ret
    exact ⟨by rw [HN.out]; rfl, by rw [HWD.out]; exact HB.out⟩
  have d1 : (m.kind != 3) = false := by simp [hk3]
  by_cases hl4 : 4 < m.ents.length
  · have HN : Hid (O = false) := by show _ = _; rw [HO.out, send_no (Or.inl hl4)]; rfl
    have d2 : decide ((4 : Int) < (m.ents.length : Int)) = true := by simp; omega
    clear HO hk3
    go_enter Tryz.func85, Tryz.ntmps85
    go_wp2
    go_ret
    exact ⟨by rw [HN.out]; rfl, by rw [HWD.out]; exact HB.out⟩
  have d2 : decide ((4 : Int) < (m.ents.length : Int)) = false := by simp; omega
  obtain ⟨R, hR⟩ : ∃ R, R = rises m.lterm m.ents := ⟨_, rfl⟩
  have HQ : Hid (Calls Tryz.prog 110 #[.slice a m.ents.length cap, .int .i64 m.lterm] W fun en w' => en = .returned (.bool R) ∧ Below W.heap.size W w') := by rw [hR]; exact entriesOk_is m.ents m.lterm hlen hd W (HEN.out _ (Below.refl _ _))
  have HO' : Hid (O = (R && decide ((m.ents[m.ents.length - 1]'(by omega)).term ≤ m.term))) := by
    show _ = _
    rw [HO.out, send_yes (by omega) (Or.inr ⟨hlp, hk3⟩), Msgs.rise_rises _ _ _ hlp, Msgs.lastT_get _ _ hlp, hR]
    rfl
  clear HO hR hk3
  go_enter Tryz.func85, Tryz.ntmps85
  go_wp2_with fail
  rw [HWD.out]
  refine Calls.mono HQ.out ?_
  rintro en w1 ⟨rfl, hb1⟩
  have HB1 : Hid (Below w.heap.size w w1) := HB.out.trans (hb1.mono HB.out.size)
  have M := HLA.out _ hb1
  have hA := HEN.out _ hb1
  clear HQ HLA HEN HB HWD c0 c3 c5 c8 hb1
  obtain ⟨-, -, -, c3, -, -, -, -, c8, -, -, -⟩ := M
  have ea := hA.1 hlp
  obtain ⟨e0, -, -⟩ := hA.2 (m.ents.length - 1) (by omega)
  obtain ⟨x, hx⟩ : ∃ x, x = (m.ents[m.ents.length - 1]'(by omega)).term := ⟨_, rfl⟩
  rw [← hx] at e0 HO'
  clear hA hx
  subst ea
  have i1 : wrap64 ((m.ents.length : Int) - 1) = ((m.ents.length - 1 : Nat) : Int) := by unfold wrap64; omega
  obtain ⟨k, hk⟩ : ∃ k, k = m.ents.length - 1 := ⟨_, rfl⟩
  have hkl : (k : Int) < (m.ents.length : Int) := by omega
  have hk0 : (0 : Int) ≤ (k : Int) := by omega
  have i2 : (m.ents.length : Int) - 1 = (k : Int) := by omega
  rw [← hk] at e0
  clear i1 hk
  cases R with
  | false =>
    have HN : Hid (O = false) := HO'.out
    clear HO'
    go_wp2
    go_ret
    exact ⟨by rw [HN.out]; rfl, HB1.out⟩
  | true =>
    have HN : Hid (O = decide (x ≤ m.term)) := by show _ = _; rw [HO'.out]; rfl
    clear HO'
    go_wp2_with fail
    go_region
    all_goals (
      go_wp2
      go_ret
      exact ⟨by rw [HN.out]; rfl, HB1.out.drew⟩)

set_option maxHeartbeats 8000000 in
set_option maxRecDepth 100000 in
theorem shippedOk_is {a b : Option Addr} {cap h offb capb : Nat} (m : MsgL) (hlc : m.conf.length ≤ 1048576) (hds : m.data.size ≤ 1048576) (w : World) (hc : IntAt w b h offb m.conf) :
    Calls Tryz.prog 86 #[msgV m a cap b capb] w fun en w' => en = .returned (.bool (tailB m)) ∧ Below w.heap.size w w' := by
  obtain ⟨O, hO⟩ : ∃ O, O = tailB m := ⟨_, rfl⟩
  rw [← hO]
  unfold msgV
  obtain ⟨W, hW⟩ : ∃ W, W = w.alloc (Obj.cells (msgC m a cap b capb) 25) := ⟨_, rfl⟩
  have hb : Below w.heap.size w W := by rw [hW]; exact (Below.refl _ _).alloc (Nat.le_refl _) _
  have HB : Hid (Below w.heap.size w W) := hb
  have hla : MsgAt W w.heap.size m a cap b capb := by rw [hW]; exact MsgAt.new w m a cap b capb 25
  have HWD : Hid (w.alloc (Obj.cells #[.int .i64 m.kind, .int .i64 m.frm, .int .i64 m.dst, .int .i64 m.term, .int .i64 m.index, .int .i64 m.lterm, .int .i64 m.commit, .bool m.ok, .slice a m.ents.length cap, .slice b m.conf.length capb, .string m.data, .bool m.last] 25) = W) := hW.symm
  have HCO : Hid (IntAt W b h offb m.conf) := hc.kept hb
  have HO : Hid (O = tailB m) := hO
  clear hO hc hb
  obtain ⟨c0, -, -, -, -, -, -, -, -, c9, c10, c11⟩ := hla
  rw [hW] at c0 c9 c10 c11
  unfold msgC at c0 c9 c10 c11
  clear hW
  by_cases hk5 : m.kind = 5
  · obtain ⟨R, hR⟩ : ∃ R, R = Mans.confOk m.conf := ⟨_, rfl⟩
    have HQ : Hid (Calls Tryz.prog 111 #[.slice b m.conf.length capb] W fun en w' => en = .returned (.bool R) ∧ W = w') := implConf_is m.conf hlc R hR.symm W HCO.out
    have HO' : Hid (O = (R && decide (m.data.size ≤ 60))) := by show _ = _; rw [HO.out, hR]; unfold tailB; rw [if_pos hk5]
    have d0 : (m.kind == 5) = true := by simp [hk5]
    clear HO hR hk5
    go_enter Tryz.func86, Tryz.ntmps86
    go_wp2_with fail
    rw [HWD.out]
    refine Calls.mono HQ.out ?_
    rintro en w1 ⟨rfl, rfl⟩
    rw [HWD.out] at c10
    clear HQ
    cases R with
    | false =>
      have HN : Hid (O = false) := HO'.out
      clear HO'
      go_wp2
      go_ret
      exact ⟨by rw [HN.out]; rfl, HB.out⟩
    | true =>
      have HN : Hid (O = decide (m.data.size ≤ 60)) := HO'.out
      clear HO'
      have hdd : decide ((m.data.size : Int) ≤ 60) = decide (m.data.size ≤ 60) := decide_eq_decide.2 (by omega)
      go_wp2
      go_ret
      exact ⟨by rw [HN.out, ← hdd]; rfl, HB.out⟩
  · have d0 : (m.kind == 5) = false := by simp [hk5]
    have HO' : Hid (O = ((decide (m.conf.length = 0) && decide (m.data.size = 0)) && !m.last)) := by show _ = _; rw [HO.out]; unfold tailB; rw [if_neg hk5]
    clear HO hk5
    by_cases hl0 : m.conf.length = 0
    rotate_left
    · have HN : Hid (O = false) := by show _ = _; rw [HO'.out, decide_eq_false hl0]; rfl
      have d1 : ((m.conf.length : Int) == 0) = false := beq_eq_false_iff_ne.2 (by omega)
      clear HO' hl0
      go_enter Tryz.func86, Tryz.ntmps86
      go_wp2
      go_ret
      exact ⟨by rw [HN.out]; rfl, by rw [HWD.out]; exact HB.out⟩
    have d1 : ((m.conf.length : Int) == 0) = true := beq_iff_eq.2 (by omega)
    by_cases hz : m.data.size = 0
    rotate_left
    · have HN : Hid (O = false) := by show _ = _; rw [HO'.out, decide_eq_false hz]; simp
      have z2 : m.data.toList.isEmpty = false := by rw [nil_size]; exact decide_eq_false hz
      clear HO' hl0 hz
      go_enter Tryz.func86, Tryz.ntmps86
      go_wp2
      go_ret
      exact ⟨by rw [HN.out]; rfl, by rw [HWD.out]; exact HB.out⟩
    have HN : Hid (O = !m.last) := by show _ = _; rw [HO'.out, decide_eq_true hl0, decide_eq_true hz]; rfl
    have z2 : m.data.toList.isEmpty = true := by rw [nil_size]; exact decide_eq_true hz
    clear HO' hl0 hz
    go_enter Tryz.func86, Tryz.ntmps86
    go_wp2
    go_ret
    exact ⟨by rw [HN.out]; rfl, by rw [HWD.out]; exact HB.out⟩
set_option maxHeartbeats 8000000 in
set_option maxRecDepth 100000 in
theorem implMsgOk_is {a b : Option Addr} {g off cap h offb capb : Nat} (m : MsgL) (hlen : m.ents.length ≤ 1048576) (hd : ∀ e ∈ m.ents, e.data.size ≤ 1048576) (hlc : m.conf.length ≤ 1048576) (hds : m.data.size ≤ 1048576) (w : World) (hf : EnAt w a g off m.ents) (hc : IntAt w b h offb m.conf) :
    Calls Tryz.prog 26 #[msgV m a cap b capb] w fun en w' => en = .returned (.bool (okM m)) ∧ Below w.heap.size w w' := by
  obtain ⟨O, hO⟩ : ∃ O, O = okM m := ⟨_, rfl⟩
  rw [← hO]
  unfold msgV
  obtain ⟨W, hW⟩ : ∃ W, W = w.alloc (Obj.cells (msgC m a cap b capb) 25) := ⟨_, rfl⟩
  have hb : Below w.heap.size w W := by rw [hW]; exact (Below.refl _ _).alloc (Nat.le_refl _) _
  have HB : Hid (Below w.heap.size w W) := hb
  have hla : MsgAt W w.heap.size m a cap b capb := by rw [hW]; exact MsgAt.new w m a cap b capb 25
  have HWD : Hid (w.alloc (Obj.cells #[.int .i64 m.kind, .int .i64 m.frm, .int .i64 m.dst, .int .i64 m.term, .int .i64 m.index, .int .i64 m.lterm, .int .i64 m.commit, .bool m.ok, .slice a m.ents.length cap, .slice b m.conf.length capb, .string m.data, .bool m.last] 25) = W) := hW.symm
  have HEN : Hid (∀ W', Below W.heap.size W W' → EnAt W' a g off m.ents) := fun W' x => (hf.kept hb).kept x
  have HCO : Hid (∀ W', Below W.heap.size W W' → IntAt W' b h offb m.conf) := fun W' x => (hc.kept hb).kept x
  have HLA : Hid (∀ W', Below W.heap.size W W' → MsgAt W' w.heap.size m a cap b capb) := fun W' x => hla.kept x
  obtain ⟨R1, hR1⟩ : ∃ R1, R1 = (headB m && numsB m) := ⟨_, rfl⟩
  obtain ⟨R2, hR2⟩ : ∃ R2, R2 = (sendB m && rise m.term m.lterm m.ents) := ⟨_, rfl⟩
  obtain ⟨R3, hR3⟩ : ∃ R3, R3 = tailB m := ⟨_, rfl⟩
  have HO : Hid (O = (R1 && (R2 && R3))) := by show _ = _; rw [hO, hR1, hR2, hR3]; unfold okM; simp only [Bool.and_assoc]
  have HQ1 : Hid (∀ X, Calls Tryz.prog 84 #[.agg #[.int .i64 m.kind, .int .i64 m.frm, .int .i64 m.dst, .int .i64 m.term, .int .i64 m.index, .int .i64 m.lterm, .int .i64 m.commit, .bool m.ok, .slice a m.ents.length cap, .slice b m.conf.length capb, .string m.data, .bool m.last]] X fun en w' => en = .returned (.bool R1) ∧ Below X.heap.size X w') := fun X => by rw [hR1]; exact headOk_is m X
  have HQ2 : Hid (∀ X, Below W.heap.size W X → Calls Tryz.prog 85 #[.agg #[.int .i64 m.kind, .int .i64 m.frm, .int .i64 m.dst, .int .i64 m.term, .int .i64 m.index, .int .i64 m.lterm, .int .i64 m.commit, .bool m.ok, .slice a m.ents.length cap, .slice b m.conf.length capb, .string m.data, .bool m.last]] X fun en w' => en = .returned (.bool R2) ∧ Below X.heap.size X w') := fun X x => by rw [hR2]; exact sentOk_is m hlen hd X (HEN.out X x)
  have HQ3 : Hid (∀ X, Below W.heap.size W X → Calls Tryz.prog 86 #[.agg #[.int .i64 m.kind, .int .i64 m.frm, .int .i64 m.dst, .int .i64 m.term, .int .i64 m.index, .int .i64 m.lterm, .int .i64 m.commit, .bool m.ok, .slice a m.ents.length cap, .slice b m.conf.length capb, .string m.data, .bool m.last]] X fun en w' => en = .returned (.bool R3) ∧ Below X.heap.size X w') := fun X x => by rw [hR3]; exact shippedOk_is m hlc hds X (HCO.out X x)
  obtain ⟨q, hq⟩ : ∃ q, q = w.heap.size := ⟨_, rfl⟩
  rw [← hq] at HLA
  clear hla hb hf hc hW hO hR1 hR2 hR3 HEN HCO
  go_enter Tryz.func26, Tryz.ntmps26
  go_wp2_with fail
  rw [HWD.out, ← hq]
  clear HWD hq
  refine Calls.mono (HQ1.out _) ?_
  rintro en w1 ⟨rfl, hb1⟩
  have HB1 : Hid (Below W.heap.size W w1) := hb1
  have M := HLA.out _ hb1
  clear hb1 HQ1
  obtain ⟨c0, c1, c2, c3, c4, c5, c6, c7, c8, c9, c10, c11⟩ := M
  cases R1 with
  | false =>
    have HN : Hid (O = false) := HO.out
    clear HO
    go_wp2
    go_ret
    exact ⟨by rw [HN.out]; rfl, HB.out.trans (HB1.out.mono HB.out.size)⟩
  | true =>
    go_wp2_with fail
    clear c0 c1 c2 c3 c4 c5 c6 c7 c8 c9 c10 c11
    refine Calls.mono (HQ2.out _ HB1.out) ?_
    rintro en w2 ⟨rfl, hb2⟩
    have HB2 : Hid (Below W.heap.size W w2) := HB1.out.trans (hb2.mono HB1.out.size)
    have M := HLA.out _ HB2.out
    clear hb2 HQ2
    obtain ⟨c0, c1, c2, c3, c4, c5, c6, c7, c8, c9, c10, c11⟩ := M
    cases R2 with
    | false =>
      have HN : Hid (O = false) := HO.out
      clear HO
      go_wp2
      go_ret
      exact ⟨by rw [HN.out]; rfl, HB.out.trans (HB2.out.mono HB.out.size)⟩
    | true =>
      have HN : Hid (O = R3) := HO.out
      clear HO
      go_wp2_with fail
      clear c0 c1 c2 c3 c4 c5 c6 c7 c8 c9 c10 c11
      refine Calls.mono (HQ3.out _ HB2.out) ?_
      rintro en w3 ⟨rfl, hb3⟩
      go_wp2
      go_ret
      exact ⟨by rw [HN.out]; rfl, HB.out.trans ((HB2.out.trans (hb3.mono HB2.out.size)).mono HB.out.size)⟩
end Go.Proofs.YtimacmijinblmaaGreat
