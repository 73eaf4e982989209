/- The program's reader of a command, the closure over it, readWhole and ReadCommand, walked. -/
import Derived.Test.YtlmjhobijgmolaaImplCmd
import Derived.Test.YtlmjhobijgmolaaReader
import Derived.StillTailTactics
import Derived.Test.YtlmjhobijgmolaaSpecCur
import Derived.Deep.Cut
import Derived.Deep.CutBlock
import Derived.Test.YtlmjhobijgmolaaVar
import Derived.Test.YtlmjhobijgmolaaShelf
import Derived.Defers
import Derived.Recover
import Derived.Test.YtlmjhobijgmolaaKit
import Derived.Laws.CopyOwn
import Derived.Laws.Cells
namespace Go.Proofs.Ytlmjhobijgmolaa
open Go.RowKit
open Cmds (okC Reads Got)
set_option linter.unusedVariables false
set_option linter.unusedSimpArgs false

def zeroC : Array Value := #[.int .i64 0, .int .i64 0, .int .i64 0, .string ⟨#[]⟩, .string ⟨#[]⟩, .string ⟨#[]⟩]
theorem Try.isAgg26 (w : World) : (isAgg 26).run Try.prog w = .ok true w := by kernel_rfl
theorem Try.sizeOf26 (w : World) : (sizeOf 26).run Try.prog w = .ok 6 w := by kernel_rfl
end Go.Proofs.Ytlmjhobijgmolaa
