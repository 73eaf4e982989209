/- Plain facts on shelves: a formatted disk, the range of stamps, what is shipped of a shelf; no program is named here. -/
import Derived.Test.YtjpokcjpogkafaaGreatDoorMathComes2
namespace Go.Proofs.YtjpokcjpogkafaaGreatDoor
set_option linter.unusedVariables false
namespace Shelves
open Go
open Batches (by_ by_inj lt)
open Scan (segEnd segSpots segStamp Full valAt by_len)
open Disks (fileAt textOf RawL nameIs run putRaw rawOut whole cutDone room)
theorem sealed_len (l : List UInt8) : (Mans.sealed l).length = l.length + 4 := by
  unfold Mans.sealed
  rw [List.length_append, Sums.four_len]
end Shelves
end Go.Proofs.YtjpokcjpogkafaaGreatDoor
