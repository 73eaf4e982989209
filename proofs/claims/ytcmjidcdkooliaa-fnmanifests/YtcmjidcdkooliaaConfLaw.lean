/- The calls of both ConfOk and the exact law of ConfOk, walked. -/
import Derived.Test.YtcmjidcdkooliaaConfOk
namespace Go.Proofs.Ytcmjidcdkooliaa
open Go.RowKit
set_option linter.unusedVariables false

set_option maxHeartbeats 1000000 in
theorem implConf_is {a : Option Addr} {g off cap : Nat} (l : List Int) (hlen : l.length ≤ 1048576) (R : Bool) (hR : Mans.confOk l = R) (w : World) (hf : IntAt w a g off l) :
    Calls Try.prog 17 #[.slice a l.length cap] w fun e w' => e = .returned (.bool R) ∧ w = w' := by
  have HF : Hid (IntAt w a g off l) := hf
  by_cases h1 : 1 ≤ l.length
  · by_cases h2 : l.length ≤ 4
    · have HR : Hid (Mans.asc 1 4 l = R) := by show _ = _; rw [← hR]; simp [Mans.confOk, h1, h2]
      have a1 : (1 : Int) ≤ (l.length : Int) := by omega
      have a2 : (l.length : Int) ≤ 4 := by omega
      clear hf hR
      go_enter Try.func17, Try.ntmps17
      go_wp2_with (go_at_call 41; refine (ascend_is l hlen 1 4 (by omega) (by omega) R HR.out _ HF.out).mono ?_; rintro e w1 ⟨rfl, rfl⟩)
      go_ret
      exact ⟨rfl, rfl⟩
    · have HR : Hid (R = false) := by show _ = _; rw [← hR]; simp [Mans.confOk, h2]
      have a1 : (1 : Int) ≤ (l.length : Int) := by omega
      have a2 : ¬ (l.length : Int) ≤ 4 := by omega
      clear hf hR
      go_enter Try.func17, Try.ntmps17
      go_wp2
      go_ret
      exact ⟨by rw [HR.out]; rfl, rfl⟩
  · have HR : Hid (R = false) := by show _ = _; rw [← hR]; simp only [Mans.confOk, h1]; rfl
    have a1 : ¬ (1 : Int) ≤ (l.length : Int) := by omega
    clear hf hR
    go_enter Try.func17, Try.ntmps17
    go_wp2
    go_ret
    exact ⟨by rw [HR.out]; rfl, rfl⟩
set_option maxHeartbeats 1000000 in
theorem specConf_is {a : Option Addr} {g off cap : Nat} (l : List Int) (hlen : l.length ≤ 1048576) (R : Bool) (hR : Mans.confOk l = R) (w : World) (hf : IntAt w a g off l) :
    Calls Try.prog 15 #[.slice a l.length cap] w fun e w' => e = .returned (.bool R) ∧ Below w.heap.size w w' := by
  have HF : Hid (IntAt w a g off l) := hf
  by_cases h1 : 1 ≤ l.length ∧ l.length ≤ 4
  · have HR : Hid (Mans.asc 1 4 l = R) := by show _ = _; rw [← hR]; simp [Mans.confOk, h1]
    clear hf hR
    go_enter Try.func15, Try.ntmps15
    go_wp2_with (first | (go_at_call 36; refine (in_is _ _ _ true (by simp; omega) _).mono ?_; rintro e w0 ⟨rfl, rfl⟩) | (go_at_call 37; refine (rise_is l hlen 1 4 R HR.out _ HF.out).mono ?_; rintro e w1 ⟨rfl, hb1⟩))
    go_ret
    exact ⟨rfl, hb1⟩
  · have HR : Hid (R = false) := by
      show _ = _
      rw [← hR]
      cases hq : Mans.confOk l with
      | false => rfl
      | true => exact absurd (Mans.confOk_iff.1 hq).1 h1
    clear hf hR
    go_enter Try.func15, Try.ntmps15
    go_wp2_with (first | (go_at_call 36; refine (in_is _ _ _ false (by simp; omega) _).mono ?_; rintro e w0 ⟨rfl, rfl⟩))
    go_ret
    exact ⟨by rw [HR.out]; rfl, Below.refl _ _⟩
set_option maxHeartbeats 2000000 in
theorem lawConf_any {a : Option Addr} {g off cap : Nat} (l : List Int) (hlen : l.length ≤ maxLen) (w : World) (hf : IntAt w a g off l) :
    Calls Try.prog 4 #[.slice a l.length cap] w fun e w' => e = .returned (.bool true) ∧ Below w.heap.size w w' := by
  unfold maxLen at hlen
  have HF : Hid (IntAt w a g off l) := hf
  clear hf
  by_cases hbig : 1048576 < l.length
  · have h1 : (1048576 : Int) < (l.length : Int) := by omega
    go_enter Try.func4, Try.ntmps4
    go_wp2
    go_ret
    exact ⟨rfl, Below.refl _ _⟩
  · have h1 : ¬ (1048576 : Int) < (l.length : Int) := by omega
    obtain ⟨R, hR⟩ : ∃ R, Mans.confOk l = R := ⟨_, rfl⟩
    have HR : Hid (Mans.confOk l = R) := hR
    clear hR
    go_enter Try.func4, Try.ntmps4
    go_wp2_with fail
    refine (toIntS_is l (by omega) _ HF.out).mono ?_
    rintro e w1 ⟨rfl, ho1, hb1⟩
    have HB1 : Hid (Below w.heap.size w w1) := hb1
    have HI1 : Hid (IntAt w1 (some ⟨w.heap.size, 0, none⟩) w.heap.size 0 l) := cellsI_own rfl ho1
    clear hb1 ho1
    go_wp2_with fail
    refine (specConf_is l (by omega) R HR.out _ HI1.out).mono ?_
    rintro e w2 ⟨rfl, hb2⟩
    have HB2 : Hid (Below w.heap.size w w2) := HB1.out.trans (hb2.mono HB1.out.size)
    clear hb2
    go_wp2_with fail
    refine (toIntS_is l (by omega) _ (HF.out.kept HB2.out)).mono ?_
    rintro e w3 ⟨rfl, ho3, hb3⟩
    have HB3 : Hid (Below w.heap.size w w3) := HB2.out.trans (hb3.mono HB2.out.size)
    obtain ⟨g3, hg3⟩ : ∃ g3, g3 = w2.heap.size := ⟨_, rfl⟩
    rw [← hg3] at ho3 ⊢
    have HI3 : Hid (IntAt w3 (some ⟨g3, 0, none⟩) g3 0 l) := cellsI_own rfl ho3
    clear hb3 ho3 hg3
    go_wp2_with fail
    refine (implConf_is l (by omega) R HR.out _ HI3.out).mono ?_
    rintro e w4 ⟨rfl, rfl⟩
    go_wp2_with fail
    refine (toIntS_is l (by omega) _ (HF.out.kept HB3.out)).mono ?_
    rintro e w5 ⟨rfl, ho5, hb5⟩
    have HB5 : Hid (Below w.heap.size w w5) := HB3.out.trans (hb5.mono HB3.out.size)
    have HI5 : Hid (IntAt w5 (some ⟨g3, 0, none⟩) g3 0 l) := HI3.out.kept hb5
    have HJ5 : Hid (IntAt w5 (some ⟨w3.heap.size, 0, none⟩) w3.heap.size 0 l) := cellsI_own rfl ho5
    clear hb5 ho5
    go_wp2_with fail
    refine (eqIntS_same l (by omega) _ HI5.out HJ5.out).mono ?_
    rintro e w6 ⟨rfl, hb6⟩
    have HB6 : Hid (Below w.heap.size w w6) := HB5.out.trans (hb6.mono HB5.out.size)
    clear hb6
    go_wp2
    go_ret
    exact ⟨rfl, HB6.out⟩
end Go.Proofs.Ytcmjidcdkooliaa
