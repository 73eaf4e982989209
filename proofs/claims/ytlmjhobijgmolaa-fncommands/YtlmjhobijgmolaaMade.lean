/- Bytes that were made, and one of them set. -/
import Derived.Test.YtlmjhobijgmolaaKit
namespace Go.Proofs.Ytlmjhobijgmolaa
open Go.RowKit
set_option linter.unusedVariables false
set_option linter.unusedSimpArgs false

theorem made_bytes (n : Nat) : (madeCells #[Value.int .u8 0] n).toList = cellsB (List.replicate n 0) := by
  rw [toList_madeCells_one]
  simp [cellsB]

theorem set_bytes (pre : List UInt8) (j : Nat) (c : UInt8) : (cellsB pre).set j (.int .u8 (c.toNat : Int)) = cellsB (pre.set j c) := by
  simp [cellsB, List.map_set]
end Go.Proofs.Ytlmjhobijgmolaa
