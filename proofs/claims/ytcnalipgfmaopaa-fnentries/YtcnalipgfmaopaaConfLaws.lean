/- The laws of ConfText and ReadConf, walked. -/
import Derived.Test.YtcnalipgfmaopaaImplConf
namespace Go.Proofs.Ytcnalipgfmaopaa
open Go.RowKit
open Ents (confB confS confOf readC)
set_option linter.unusedVariables false
set_option linter.unusedSimpArgs false

/-- What both ConfText answer. -/
theorem conf_tuple (l : List Int) : ∃ T : ByteArray, ∃ R : Bool, confTuple l = .tuple #[.string T, .bool R] ∧ (R = Mans.confOk l) ∧ (R = true → T = confS l) := by
  unfold confTuple
  cases h : Mans.confOk l with
  | true => exact ⟨_, _, by simp, rfl, fun _ => rfl⟩
  | false => exact ⟨⟨#[]⟩, false, by simp, rfl, fun h => by cases h⟩
set_option maxHeartbeats 2000000 in
set_option maxRecDepth 100000 in
theorem lawConfText_any {a : Option Addr} {g off cap : Nat} (l : List Int) (hlen : l.length ≤ maxLen) (w : World) (hf : IntAt w a g off l) :
    Calls Try.prog 3 #[.slice a l.length cap] w fun e w' => e = .returned (.bool true) ∧ Below w.heap.size w w' := by
  unfold maxLen at hlen
  have HF : Hid (IntAt w a g off l) := hf
  clear hf
  by_cases hbig : 1048576 < l.length
  · have h1 : (1048576 : Int) < (l.length : Int) := by omega
    go_enter Try.func3, Try.ntmps3
    go_wp2
    go_ret
    exact ⟨rfl, Below.refl _ _⟩
  · have h1 : ¬ (1048576 : Int) < (l.length : Int) := by omega
    obtain ⟨T, R, hT, _, _⟩ := conf_tuple l
    have HSP : Hid (∀ (W : World) (A : Option Addr) (G : Nat) (c : Nat), IntAt W A G 0 l → Calls Try.prog 10 #[.slice A l.length c] W fun e w' => e = .returned (.tuple #[.string T, .bool R]) ∧ Below W.heap.size W w') := fun W A G c h => by
      have := specConfText_is (cap := c) l (by omega) W h
      rw [hT] at this
      exact this
    have HIM : Hid (∀ (W : World) (A : Option Addr) (G : Nat) (c : Nat), IntAt W A G 0 l → Calls Try.prog 12 #[.slice A l.length c] W fun e w' => e = .returned (.tuple #[.string T, .bool R]) ∧ Below W.heap.size W w') := fun W A G c h => by
      have := implConfText_is (cap := c) l (by omega) W h
      rw [hT] at this
      exact this
    clear hT
    go_enter Try.func3, Try.ntmps3
    go_wp2_with fail
    refine (toIntS_is l (by omega) _ HF.out).mono ?_
    rintro e w1 ⟨rfl, ho1, hb1⟩
    have HB1 : Hid (Below w.heap.size w w1) := hb1
    have HI1 : Hid (IntAt w1 (some ⟨w.heap.size, 0, none⟩) w.heap.size 0 l) := cellsI_own rfl ho1
    clear hb1 ho1
    go_wp2_with fail
    refine Calls.mono (HSP.out _ _ _ _ HI1.out) ?_
    rintro e w2 ⟨rfl, hb2⟩
    have HB2 : Hid (Below w.heap.size w w2) := HB1.out.trans (hb2.mono HB1.out.size)
    clear hb2
    go_wp2_with fail
    refine (toIntS_is l (by omega) _ (HF.out.kept HB2.out)).mono ?_
    rintro e w3 ⟨rfl, ho3, hb3⟩
    have HB3 : Hid (Below w.heap.size w w3) := HB2.out.trans (hb3.mono HB2.out.size)
    obtain ⟨g3, hg3⟩ : ∃ g3, g3 = w2.heap.size := ⟨_, rfl⟩
    rw [← hg3] at ho3 ⊢
    have HI3 : Hid (IntAt w3 (some ⟨g3, 0, none⟩) g3 0 l) := cellsI_own rfl ho3
    clear hb3 ho3 hg3
    go_wp2_with fail
    refine Calls.mono (HIM.out _ _ _ _ HI3.out) ?_
    rintro e w4 ⟨rfl, hb4⟩
    have HB4 : Hid (Below w.heap.size w w4) := HB3.out.trans (hb4.mono HB3.out.size)
    have HI4 : Hid (IntAt w4 (some ⟨g3, 0, none⟩) g3 0 l) := HI3.out.kept hb4
    clear hb4
    have hn1 : (!(T.toList == T.toList)) = false := by simp
    have hn2 : (!(R == R)) = false := by simp
    go_wp2_with fail
    refine (toIntS_is l (by omega) _ (HF.out.kept HB4.out)).mono ?_
    rintro e w5 ⟨rfl, ho5, hb5⟩
    have HB5 : Hid (Below w.heap.size w w5) := HB4.out.trans (hb5.mono HB4.out.size)
    have HI5 : Hid (IntAt w5 (some ⟨g3, 0, none⟩) g3 0 l) := HI4.out.kept hb5
    have HJ5 : Hid (IntAt w5 (some ⟨w4.heap.size, 0, none⟩) w4.heap.size 0 l) := cellsI_own rfl ho5
    clear hb5 ho5
    go_wp2_with fail
    refine (eqIntS_same l (by omega) _ HI5.out HJ5.out).mono ?_
    rintro e w6 ⟨rfl, hb6⟩
    have HB6 : Hid (Below w.heap.size w w6) := HB5.out.trans (hb6.mono HB5.out.size)
    clear hb6
    go_wp2
    go_ret
    exact ⟨rfl, HB6.out⟩
theorem own_apart2 {w1 w2 : World} {b1 b2 k1 k2 n1 n2 : Nat} {e1 e2 : TypeId} {v1 v2 : Value} {xs ys : List Value} (h1 : w1.ownsRow b1 e1 k1 v1 n1 xs) (h : w1.heap.size ≤ b2) (h2 : w2.ownsRow b2 e2 k2 v2 n2 ys) : ∀ g, v1.ownBlock = some g → v2.ownBlock ≠ some g := fun g e1 e2 => by
  have := (h1.lt g e1).2
  have := (h2.lt g e2).1
  omega
theorem own_kept_grown {w w' : World} {B k n : Nat} {e : TypeId} {v u : Value} {xs : List Value} (h : w.ownsRow B e k v n xs) (hg : w.grownBy w' u.ownBlock) (hne : ∀ g, v.ownBlock = some g → u.ownBlock ≠ some g) : w'.ownsRow B e k v n xs := by
  refine h.kept hg ?_
  cases hv : v.ownBlock with
  | none => exact Or.inl rfl
  | some q => exact Or.inr (fun e => hne q hv e.symm)
theorem rc_len {t : ByteArray} {l : List Int} {R : Bool} (h : RCIs t l R) : l.length ≤ 4 := by
  rcases h with ⟨h1, _⟩ | ⟨_, h2, _⟩
  · exact (Ents.conf_in (Ents.readC_iff.1 h1).1).1.2
  · rw [h2]; exact Nat.zero_le _
set_option maxHeartbeats 2000000 in
set_option maxRecDepth 100000 in
theorem lawReadConf_any (t : ByteArray) (ht : t.size ≤ maxLen) (w : World) :
    Calls Try.prog 4 #[.string t] w fun e w' => e = .returned (.bool true) ∧ Below w.heap.size w w' := by
  unfold maxLen at ht
  by_cases hbig : 1048576 < t.size
  · have h1 : (1048576 : Int) < (t.size : Int) := by omega
    go_enter Try.func4, Try.ntmps4
    go_wp2
    go_ret
    exact ⟨rfl, Below.refl _ _⟩
  · have h1 : ¬ (1048576 : Int) < (t.size : Int) := by omega
    obtain ⟨l, R, hRC⟩ := rc_ex t
    have hll := rc_len hRC
    have HRC : Hid (RCIs t l R) := hRC
    clear hRC
    go_enter Try.func4, Try.ntmps4
    go_wp2_with fail
    refine (specReadConf_is t (by omega) l R HRC.out _).mono ?_
    rintro e w1 ⟨vw, rfl, ho1, hb1⟩
    obtain ⟨aw, cw, hv1⟩ := own_slice ho1
    subst hv1
    have HB1 : Hid (Below w.heap.size w w1) := hb1
    have HO1 : Hid (w1.ownsRow w.heap.size 3 1 (.slice aw l.length cw) l.length (cellsI l)) := ho1
    clear hb1 ho1
    go_wp2_with fail
    refine (implReadConf_is t (by omega) l R HRC.out _).mono ?_
    rintro e w2 ⟨vg, rfl, ho2, hb2⟩
    obtain ⟨ag, cg, hv2⟩ := own_slice ho2
    subst hv2
    have HB2 : Hid (Below w.heap.size w w2) := HB1.out.trans (hb2.mono HB1.out.size)
    have HO2 : Hid (w2.ownsRow w1.heap.size 3 1 (.slice ag l.length cg) l.length (cellsI l)) := ho2
    have HW2 : Hid (w2.ownsRow w.heap.size 3 1 (.slice aw l.length cw) l.length (cellsI l)) := own_kept HO1.out hb2
    have HAP : Hid (∀ g, (Value.slice aw l.length cw).ownBlock = some g → (Value.slice ag l.length cg).ownBlock ≠ some g) := own_apart2 HO1.out (Nat.le_refl _) ho2
    clear hb2 ho2 HO1
    obtain ⟨_, gw, _, ew, iw⟩ := cellsI_slice HW2.out
    cases ew
    obtain ⟨_, gg, _, eg, ig⟩ := cellsI_slice HO2.out
    cases eg
    have HE1 : Hid (Calls Try.prog 13 #[.slice ag l.length cg, .slice aw l.length cw] w2 fun e w' => e = .returned (.bool true) ∧ Below w2.heap.size w2 w') := eqIntS_same l (by omega) w2 ig iw
    clear iw ig
    have hn2 : (!(R == R)) = false := by simp
    go_wp2_with fail
    refine Calls.mono HE1.out ?_
    rintro e w3 ⟨rfl, hb3⟩
    have HB3 : Hid (Below w.heap.size w w3) := HB2.out.trans (hb3.mono HB2.out.size)
    have HO3 : Hid (w3.ownsRow w1.heap.size 3 1 (.slice ag l.length cg) l.length (cellsI l)) := own_kept HO2.out hb3
    have HW3 : Hid (w3.ownsRow w.heap.size 3 1 (.slice aw l.length cw) l.length (cellsI l)) := own_kept HW2.out hb3
    clear hb3 HO2 HW2 HE1
    go_wp2_with fail
    refine (markIntS_own l (by omega) 1 (by omega) _ HO3.out).mono ?_
    rintro e w4 ⟨rfl, ho4, hg4⟩
    have HB4 : Hid (Below w.heap.size w w4) := HB3.out.grown hg4 HB3.out.size (fun k hk => Nat.le_trans HB1.out.size ((HO3.out.lt k hk).1))
    have HW4 : Hid (w4.ownsRow w.heap.size 3 1 (.slice aw l.length cw) l.length (cellsI l)) := own_kept_grown HW3.out hg4 HAP.out
    have HM4 : Hid (w4.ownsRow w1.heap.size 3 1 (.slice ag l.length cg) l.length (cellsI (marksI 1 l.length))) := ho4
    obtain ⟨m, hm⟩ : ∃ m : Nat, m = 1 + l.length := ⟨_, rfl⟩
    have hm1 : m ≤ 5 := by omega
    rw [← hm]
    have HMQ : Hid (∀ W, W.ownsRow w1.heap.size 3 1 (.slice ag l.length cg) l.length (cellsI (marksI 1 l.length)) → Calls Try.prog 17 #[.slice ag l.length cg, .int .i64 ((1 : Nat) : Int)] W fun e w' => e = .returned (.int .i64 (m : Int)) ∧ W = w') := fun W h => by
      have h' : W.ownsRow w1.heap.size 3 1 (.slice ag l.length cg) (marksI 1 l.length).length (cellsI (marksI 1 l.length)) := by rw [marksI_len]; exact h
      obtain ⟨_, g5, _, e5, i5⟩ := cellsI_slice h'
      rw [marksI_len] at e5
      cases e5
      rw [hm]
      exact heldIntS_is (by omega) 1 (by omega) W i5
    clear hg4 ho4 HO3 HW3 hm
    have hmn : (!((m : Int) == (m : Int))) = false := by simp
    have hm0 : ¬ (m : Int) < 0 := by omega
    go_wp2_with fail
    refine Calls.mono (HMQ.out _ HM4.out) ?_
    rintro e w5 ⟨rfl, rfl⟩
    go_wp2_with fail
    refine (implReadConf_is t (by omega) l R HRC.out _).mono ?_
    rintro e w6 ⟨vh, rfl, ho6, hb6⟩
    obtain ⟨ah, ch, hv6⟩ := own_slice ho6
    subst hv6
    have HB6 : Hid (Below w.heap.size w w6) := HB4.out.trans (hb6.mono HB4.out.size)
    have HW6 : Hid (w6.ownsRow w.heap.size 3 1 (.slice aw l.length cw) l.length (cellsI l)) := own_kept HW4.out hb6
    have HM6 : Hid (w6.ownsRow w1.heap.size 3 1 (.slice ag l.length cg) l.length (cellsI (marksI 1 l.length))) := own_kept HM4.out hb6
    obtain ⟨_, gw6, _, ew6, iw6⟩ := cellsI_slice HW6.out
    cases ew6
    obtain ⟨_, gh6, _, eh6, ih6⟩ := cellsI_slice ho6
    cases eh6
    have HE6 : Hid (Calls Try.prog 13 #[.slice ah l.length ch, .slice aw l.length cw] w6 fun e w' => e = .returned (.bool true) ∧ Below w6.heap.size w6 w') := eqIntS_same l (by omega) w6 ih6 iw6
    clear hb6 ho6 iw6 ih6 HW4 HM4
    go_wp2_with fail
    refine Calls.mono HE6.out ?_
    rintro e w7 ⟨rfl, hb7⟩
    have HB7 : Hid (Below w.heap.size w w7) := HB6.out.trans (hb7.mono HB6.out.size)
    have HM7 : Hid (w7.ownsRow w1.heap.size 3 1 (.slice ag l.length cg) l.length (cellsI (marksI 1 l.length))) := own_kept HM6.out hb7
    clear hb7 HE6
    go_wp2_with fail
    refine Calls.mono (HMQ.out _ HM7.out) ?_
    rintro e w8 ⟨rfl, rfl⟩
    go_wp2
    go_ret
    exact ⟨rfl, HB7.out⟩
end Go.Proofs.Ytcnalipgfmaopaa
