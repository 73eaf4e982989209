/- The exact laws of LogOk and LogLast, walked. -/
import Derived.Test.YtddmogggdckneaaLogArg
import Derived.Test.YtddmogggdckneaaImplLog
import Derived.Deep.RegionHeld3
namespace Go.Proofs.Ytddmogggdckneaa
open Go.RowKit
open Logs (okL)
set_option linter.unusedVariables false
set_option linter.unusedSimpArgs false
theorem below_undrew {w w' : World} (h : Below w.drew.heap.size w.drew w') : Below w.heap.size w w' := ((Below.refl _ _).drew).trans h

end Go.Proofs.Ytddmogggdckneaa
