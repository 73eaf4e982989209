/- Small calls that chapter 15 makes, walked. -/
import Derived.Test.YtojhjffkbjdgfaaConfLaw
namespace Go.Proofs.Ytojhjffkbjdgfaa
open Go.RowKit
set_option linter.unusedVariables false
set_option linter.unusedSimpArgs false

theorem stampOk_is (st : Int) (R : Bool) (hR : R = true ↔ 0 ≤ st ∧ st ≤ 100000) (w : World) :
    Calls Try.prog 24 #[.int .i64 st] w fun e w' => e = .returned (.bool R) ∧ w' = w := by
  by_cases h1 : 0 ≤ st
  · by_cases h2 : st ≤ 100000
    · obtain rfl : R = true := hR.2 ⟨h1, h2⟩
      clear hR
      go_enter Try.func24, Try.ntmps24
      go_wp2
      go_ret
      exact ⟨rfl, rfl⟩
    · obtain rfl : R = false := ans_no hR (fun h => h2 h.2)
      clear hR
      go_enter Try.func24, Try.ntmps24
      go_wp2
      go_ret
      exact ⟨rfl, rfl⟩
  · obtain rfl : R = false := ans_no hR (fun h => h1 h.1)
    clear hR
    go_enter Try.func24, Try.ntmps24
    go_wp2
    go_ret
    exact ⟨rfl, rfl⟩
end Go.Proofs.Ytojhjffkbjdgfaa
