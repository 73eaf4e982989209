/- The calls of l01Var and of VarText: they answer with the bytes of the number, and leave old memory as it was; for every number. -/
import Derived.Test.YtlmjhobijgmolaaRows
import Derived.Test.YtlmjhobijgmolaaMath
import Derived.WalkKit
import Derived.WalkSpells
import Derived.WalkLawsBesides
import Derived.Laws.IdiomStrings
import Derived.Laws.BytesArg
import Derived.Laws.BitsAllLaws
namespace Go.Proofs.Ytlmjhobijgmolaa
open Go.RowKit

theorem Try.info5 : (Try.prog.info? 5).map (fun i => (i.zero, i.size, i.bytes)) = some (some (.int .u8 0), 1, 1) := by kernel_rfl

end Go.Proofs.Ytlmjhobijgmolaa
