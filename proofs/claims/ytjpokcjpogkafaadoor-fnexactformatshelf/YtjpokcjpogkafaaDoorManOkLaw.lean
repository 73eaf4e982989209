/- The exact law of ManifestOk, walked. Made by program. -/
import Derived.Test.YtjpokcjpogkafaaDoorMans
import Derived.Deep.RegionHeld3
namespace Go.Proofs.YtjpokcjpogkafaaDoor
open Go.RowKit
set_option linter.unusedVariables false

end Go.Proofs.YtjpokcjpogkafaaDoor
