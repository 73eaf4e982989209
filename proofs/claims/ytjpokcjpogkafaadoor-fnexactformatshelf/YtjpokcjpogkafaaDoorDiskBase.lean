/- What the walks share: rows of bytes that a call owns, bytes and their numbers. -/
import Derived.Test.YtjpokcjpogkafaaDoorProg
import Derived.WalkKit
import Derived.WalkSpells
import Derived.WalkLawsBesides
import Derived.Laws.IdiomStrings
import Derived.Laws.BytesArg
import Derived.Laws.BitsAllLaws
namespace Go.Proofs.YtjpokcjpogkafaaDoor.Words
end Go.Proofs.YtjpokcjpogkafaaDoor.Words
namespace Go.Proofs.YtjpokcjpogkafaaDoor
open Go.RowKit

end Go.Proofs.YtjpokcjpogkafaaDoor
