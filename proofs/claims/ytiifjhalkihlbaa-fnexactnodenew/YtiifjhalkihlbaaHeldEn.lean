/- heldEntryS and szIntS of the laws, walked. -/
import Derived.Test.YtiifjhalkihlbaaLEn
import Derived.Test.YtiifjhalkihlbaaInts
import Derived.Deep.RegionHeld3
namespace Go.Proofs.Ytiifjhalkihlbaa
open Go.RowKit
set_option linter.unusedVariables false
set_option linter.unusedSimpArgs false

set_option maxHeartbeats 1000000 in
theorem szIntS_is {a : Option Addr} {cap n left : Nat} (hn : n ≤ maxLen) (hl : left ≤ 1048576) (w : World) :
    Calls Try.prog 20 #[.slice a n cap, .int .i64 (left : Int)] w fun e w' => ∃ x : Int, e = .returned (.int .i64 x) ∧ Left left n x ∧ Below w.heap.size w w' := by
  unfold maxLen at hn
  by_cases h0 : left < n
  · have h1 : (left : Int) - (n : Int) < 0 := by omega
    go_enter Try.func20, Try.ntmps20
    go_wp2
    go_ret
    exact ⟨_, rfl, Or.inr ⟨by omega, rfl⟩, Below.refl _ _⟩
  · have h1 : ¬ (left : Int) - (n : Int) < 0 := by omega
    go_enter Try.func20, Try.ntmps20
    go_wp2
    go_ret
    exact ⟨_, rfl, Or.inl ⟨by omega, by omega⟩, Below.refl _ _⟩
end Go.Proofs.Ytiifjhalkihlbaa
