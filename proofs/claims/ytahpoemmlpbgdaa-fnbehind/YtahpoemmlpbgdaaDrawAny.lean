/- The call of l07AnyConf, walked. -/
import Derived.Test.YtahpoemmlpbgdaaDrawConf
namespace Go.Proofs.Ytahpoemmlpbgdaa
open Go.RowKit
set_option linter.unusedVariables false

theorem four_ints (p q r s : Int) (hp : -9223372036854775808 ≤ p ∧ p ≤ 9223372036854775807) (hq : -9223372036854775808 ≤ q ∧ q ≤ 9223372036854775807) (hr : -9223372036854775808 ≤ r ∧ r ≤ 9223372036854775807) (hs : -9223372036854775808 ≤ s ∧ s ≤ 9223372036854775807) :
    ∀ j, j < 4 → ∃ v : Int, (#[Value.int .i64 p, .int .i64 q, .int .i64 r, .int .i64 s] : Array Value)[j]? = some (.int .i64 v) ∧ -9223372036854775808 ≤ v ∧ v ≤ 9223372036854775807 := by
  intro j hj
  match j, hj with
  | 0, _ => exact ⟨p, rfl, hp⟩
  | 1, _ => exact ⟨q, rfl, hq⟩
  | 2, _ => exact ⟨r, rfl, hr⟩
  | 3, _ => exact ⟨s, rfl, hs⟩
theorem three_ints (p q r : Int) (hp : -9223372036854775808 ≤ p ∧ p ≤ 9223372036854775807) (hq : -9223372036854775808 ≤ q ∧ q ≤ 9223372036854775807) (hr : -9223372036854775808 ≤ r ∧ r ≤ 9223372036854775807) :
    ∀ j, j < 3 → ∃ v : Int, (#[Value.int .i64 p, .int .i64 q, .int .i64 r] : Array Value)[j]? = some (.int .i64 v) ∧ -9223372036854775808 ≤ v ∧ v ≤ 9223372036854775807 := by
  intro j hj
  match j, hj with
  | 0, _ => exact ⟨p, rfl, hp⟩
  | 1, _ => exact ⟨q, rfl, hq⟩
  | 2, _ => exact ⟨r, rfl, hr⟩
end Go.Proofs.Ytahpoemmlpbgdaa
