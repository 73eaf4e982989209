/- The exact law of NodeNew at every argument. -/
import Derived.Test.YtiifjhalkihlbaaNewLaw
namespace Go.Proofs.Ytiifjhalkihlbaa
open Go.RowKit
theorem lawNew_all {a : Option Addr} {g off cap : Nat} (id : Int) (l : List Int) (hl : l.length ≤ maxLen) (w : World) (hf : IntAt w a g off l) :
    Calls Try.prog 4 #[.int .i64 id, .slice a l.length cap] w fun e w' => e = .returned (.bool true) ∧ Below w.heap.size w w' := by
  by_cases h : l.length ≤ 1048576
  · exact lawNew_any id l h w hf
  · exact lawNew_big id (by omega) hl w
end Go.Proofs.Ytiifjhalkihlbaa
