/- The calls by which bytes, numbers and texts are drawn, walked: what comes is within its bounds. More that is drawn, walked: once in so many, long texts, one out of some. More that is drawn, walked: once in so many, long texts, one out of some. -/
import Derived.Test.YtiifjhalkihlbaaKit
import Derived.Deep.QuietTactic
import Derived.BigQuiet
import Derived.Deep.RegionHeld3
import Derived.Maps.AppendAt
import Derived.Maps.Range
namespace Go.Proofs.Ytiifjhalkihlbaa
section
open Go.RowKit

/-- The bytes that came in. -/
def Code (B : Nat) (w : World) (a : Option Addr) (len b off : Nat) (z : Nat → Int) : Prop :=
  (0 < len → b < B) ∧ len ≤ 1048576 ∧ ∀ j, j < len → a = some ⟨b, off, none⟩ ∧ w.cell? ⟨b, off + j, none⟩ = some (.int .u8 (z j)) ∧ 0 ≤ z j ∧ z j ≤ 255

end
section
open Go.RowKit
set_option linter.unusedVariables false

end
section
open Go.RowKit
set_option linter.unusedVariables false

end
end Go.Proofs.Ytiifjhalkihlbaa
