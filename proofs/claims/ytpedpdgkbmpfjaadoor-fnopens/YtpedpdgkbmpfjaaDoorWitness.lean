/- For the witness: a block that holds other cells. -/
import Derived.Test.YtpedpdgkbmpfjaaDoorRows
import Derived.WalkKit
import Derived.ProofKit
namespace Go.Proofs.YtpedpdgkbmpfjaaDoor
open Go.RowKit

def putCells (cs : Array Value) : Obj → Obj
  | .cells _ t frozen => .cells cs t frozen
  | o => o
end Go.Proofs.YtpedpdgkbmpfjaaDoor
