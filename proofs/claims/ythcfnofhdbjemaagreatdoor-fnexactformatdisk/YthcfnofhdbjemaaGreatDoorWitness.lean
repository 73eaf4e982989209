/- For the witness: a block that holds other cells. -/
import Derived.Test.YthcfnofhdbjemaaGreatDoorRows
import Derived.WalkKit
import Derived.ProofKit
namespace Go.Proofs.YthcfnofhdbjemaaGreatDoor
open Go.RowKit

def putCells (cs : Array Value) : Obj → Obj
  | .cells _ t frozen => .cells cs t frozen
  | o => o
end Go.Proofs.YthcfnofhdbjemaaGreatDoor
