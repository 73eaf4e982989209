/- The calls of both ConfOk and the exact law of ConfOk, walked. -/
import Derived.Test.YtojhjffkbjdgfaaConfOk
namespace Go.Proofs.Ytojhjffkbjdgfaa
open Go.RowKit
set_option linter.unusedVariables false

set_option maxHeartbeats 1000000 in
theorem implConf_is {a : Option Addr} {g off cap : Nat} (l : List Int) (hlen : l.length ≤ 1048576) (R : Bool) (hR : Mans.confOk l = R) (w : World) (hf : IntAt w a g off l) :
    Calls Try.prog 26 #[.slice a l.length cap] w fun e w' => e = .returned (.bool R) ∧ w = w' := by
  have HF : Hid (IntAt w a g off l) := hf
  by_cases h1 : 1 ≤ l.length
  · by_cases h2 : l.length ≤ 4
    · have HR : Hid (Mans.asc 1 4 l = R) := by show _ = _; rw [← hR]; simp [Mans.confOk, h1, h2]
      have a1 : (1 : Int) ≤ (l.length : Int) := by omega
      have a2 : (l.length : Int) ≤ 4 := by omega
      clear hf hR
      go_enter Try.func26, Try.ntmps26
      go_wp2_with (go_at_call 28; refine (ascend_is l hlen 1 4 (by omega) (by omega) R HR.out _ HF.out).mono ?_; rintro e w1 ⟨rfl, rfl⟩)
      go_ret
      exact ⟨rfl, rfl⟩
    · have HR : Hid (R = false) := by show _ = _; rw [← hR]; simp [Mans.confOk, h2]
      have a1 : (1 : Int) ≤ (l.length : Int) := by omega
      have a2 : ¬ (l.length : Int) ≤ 4 := by omega
      clear hf hR
      go_enter Try.func26, Try.ntmps26
      go_wp2
      go_ret
      exact ⟨by rw [HR.out]; rfl, rfl⟩
  · have HR : Hid (R = false) := by show _ = _; rw [← hR]; simp only [Mans.confOk, h1]; rfl
    have a1 : ¬ (1 : Int) ≤ (l.length : Int) := by omega
    clear hf hR
    go_enter Try.func26, Try.ntmps26
    go_wp2
    go_ret
    exact ⟨by rw [HR.out]; rfl, rfl⟩
set_option maxHeartbeats 1000000 in
theorem specConf_is {a : Option Addr} {g off cap : Nat} (l : List Int) (hlen : l.length ≤ 1048576) (R : Bool) (hR : Mans.confOk l = R) (w : World) (hf : IntAt w a g off l) :
    Calls Try.prog 13 #[.slice a l.length cap] w fun e w' => e = .returned (.bool R) ∧ Below w.heap.size w w' := by
  have HF : Hid (IntAt w a g off l) := hf
  by_cases h1 : 1 ≤ l.length ∧ l.length ≤ 4
  · have HR : Hid (Mans.asc 1 4 l = R) := by show _ = _; rw [← hR]; simp [Mans.confOk, h1]
    clear hf hR
    go_enter Try.func13, Try.ntmps13
    go_wp2_with (first | (go_at_call 11; refine (in_is _ _ _ true (by simp; omega) _).mono ?_; rintro e w0 ⟨rfl, rfl⟩) | (go_at_call 20; refine (rise_is l hlen 1 4 R HR.out _ HF.out).mono ?_; rintro e w1 ⟨rfl, hb1⟩))
    go_ret
    exact ⟨rfl, hb1⟩
  · have HR : Hid (R = false) := by
      show _ = _
      rw [← hR]
      cases hq : Mans.confOk l with
      | false => rfl
      | true => exact absurd (Mans.confOk_iff.1 hq).1 h1
    clear hf hR
    go_enter Try.func13, Try.ntmps13
    go_wp2_with (first | (go_at_call 11; refine (in_is _ _ _ false (by simp; omega) _).mono ?_; rintro e w0 ⟨rfl, rfl⟩))
    go_ret
    exact ⟨by rw [HR.out]; rfl, Below.refl _ _⟩
end Go.Proofs.Ytojhjffkbjdgfaa
