/- The program's standingOk, walked at any node whose log is right. Made by program. -/
import Derived.Test.YtiifjhalkihlbaaSpecNode
namespace Go.Proofs.Ytiifjhalkihlbaa
open Go.RowKit
open Logs (okL)
set_option linter.unusedVariables false
set_option linter.unusedSimpArgs false
theorem noneOk_is (x : Int) (R : Bool) (hR : R = true ↔ 0 ≤ x ∧ x ≤ 4) (w : World) : Calls Try.prog 61 #[.int .i64 x] w fun e w' => e = .returned (.bool R) ∧ Below w.heap.size w w' := by
  by_cases h0 : x = 0
  · subst h0
    obtain rfl : R = true := hR.2 (by omega)
    exact none0 w
  · by_cases h : 1 ≤ x ∧ x ≤ 4
    · obtain rfl : R = true := hR.2 (by omega)
      have HC : Hid (Calls Try.prog 32 #[.int .i64 x] w fun en w' => en = .returned (.bool true) ∧ w' = w) := idOk_yes x h.1 h.2 w
      clear hR h
      go_enter Try.func61, Try.ntmps61
      go_wp2_with fail
      refine Calls.mono HC.out ?_
      rintro e w1 ⟨rfl, hw⟩
      subst hw
      go_wp2
      go_ret
      exact ⟨rfl, Below.refl _ _⟩
    · obtain rfl : R = false := by cases R with | false => rfl | true => (have := hR.1 rfl; omega)
      have HC : Hid (Calls Try.prog 32 #[.int .i64 x] w fun en w' => en = .returned (.bool false) ∧ w' = w) := idOk_no x h w
      clear hR h
      go_enter Try.func61, Try.ntmps61
      go_wp2_with fail
      refine Calls.mono HC.out ?_
      rintro e w1 ⟨rfl, hw⟩
      subst hw
      go_wp2
      go_ret
      exact ⟨by simp [h0], Below.refl _ _⟩
theorem limitOk_yes (x : Int) (h1 : 1 ≤ x) (h2 : x ≤ 20) (w : World) : Calls Try.prog 62 #[.int .i64 x] w fun e w' => e = .returned (.bool true) ∧ Below w.heap.size w w' := by
  go_enter Try.func62, Try.ntmps62
  go_wp2
  go_ret
  exact ⟨rfl, Below.refl _ _⟩
theorem limitOk_no (x : Int) (h : ¬ (1 ≤ x ∧ x ≤ 20)) (w : World) : Calls Try.prog 62 #[.int .i64 x] w fun e w' => e = .returned (.bool false) ∧ Below w.heap.size w w' := by
  by_cases h1 : 1 ≤ x
  · have h2 : ¬ x ≤ 20 := fun q => h ⟨h1, q⟩
    clear h
    go_enter Try.func62, Try.ntmps62
    go_wp2
    go_ret
    exact ⟨rfl, Below.refl _ _⟩
  · clear h
    go_enter Try.func62, Try.ntmps62
    go_wp2
    go_ret
    exact ⟨rfl, Below.refl _ _⟩
end Go.Proofs.Ytiifjhalkihlbaa
