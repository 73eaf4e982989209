/- NodeOk of both sides, of a node as NodeNew makes it, walked. Made by program. -/
import Derived.Test.YtiifjhalkihlbaaNodeA
import Derived.Test.YtiifjhalkihlbaaImplTerm
namespace Go.Proofs.Ytiifjhalkihlbaa
open Go.RowKit
open Logs (okL inB)
set_option linter.unusedVariables false
set_option linter.unusedSimpArgs false
theorem none0 (X : World) : Calls Try.prog 61 #[.int .i64 0] X fun en w' => en = .returned (.bool true) ∧ Below X.heap.size X w' := by
  go_enter Try.func61, Try.ntmps61
  go_wp2
  go_ret
  exact ⟨rfl, Below.refl _ _⟩
theorem idOk_yes (x : Int) (h1 : 1 ≤ x) (h2 : x ≤ 4) (X : World) : Calls Try.prog 32 #[.int .i64 x] X fun en w' => en = .returned (.bool true) ∧ w' = X := by
  go_enter Try.func32, Try.ntmps32
  go_wp2
  go_ret
  exact ⟨rfl, rfl⟩
theorem idOk_no (x : Int) (h1 : ¬ (1 ≤ x ∧ x ≤ 4)) (X : World) : Calls Try.prog 32 #[.int .i64 x] X fun en w' => en = .returned (.bool false) ∧ w' = X := by
  by_cases h : 1 ≤ x
  · have h2 : ¬ x ≤ 4 := fun k => h1 ⟨h, k⟩
    clear h1
    go_enter Try.func32, Try.ntmps32
    go_wp2
    go_ret
    exact ⟨rfl, rfl⟩
  · clear h1
    go_enter Try.func32, Try.ntmps32
    go_wp2
    go_ret
    exact ⟨rfl, rfl⟩
theorem idOk_q (x : Int) (h1 : 1 ≤ x) (h2 : x ≤ 4) (X : World) : Calls Try.prog 32 #[.int .i64 x] X fun en w' => en = .returned (.bool true) ∧ Below X.heap.size X w' := (idOk_yes x h1 h2 X).mono (by rintro e w' ⟨rfl, rfl⟩; exact ⟨rfl, Below.refl _ _⟩)
theorem implConf_q {a : Option Addr} {g off cap : Nat} (l : List Int) (hlen : l.length ≤ 1048576) (R : Bool) (hk : Mans.confOk l = R) (w : World) (hf : IntAt w a g off l) : Calls Try.prog 33 #[.slice a l.length cap] w fun e w' => e = .returned (.bool R) ∧ Below w.heap.size w w' := (implConf_is l hlen R hk w hf).mono (by rintro e w' ⟨rfl, rfl⟩; exact ⟨rfl, Below.refl _ _⟩)
end Go.Proofs.Ytiifjhalkihlbaa
