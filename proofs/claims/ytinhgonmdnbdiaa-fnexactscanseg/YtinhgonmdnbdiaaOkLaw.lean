/- The exact law of BatchOk, walked. -/
import Derived.Test.YtinhgonmdnbdiaaImplOk
import Derived.Deep.RegionHeld3
namespace Go.Proofs.Ytinhgonmdnbdiaa
open Go.RowKit

theorem below_undrew {w w' : World} (h : Below w.drew.heap.size w.drew w') : Below w.heap.size w w' := ((Below.refl _ _).drew).trans h
end Go.Proofs.Ytinhgonmdnbdiaa
