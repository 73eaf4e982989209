/- Raw writes copied and measured; disks marked and found marked: szRaw, toRaw, markDisk, heldDisk, walked. -/
import Derived.Test.YthcfnofhdbjemaaGreatDoorRawArg
import Derived.Test.YthcfnofhdbjemaaGreatDoorDiskMark
import Derived.Test.YthcfnofhdbjemaaGreatDoorConfOk
import Derived.Test.YthcfnofhdbjemaaGreatDoorMathDisk
import Derived.Deep.RegionWith
import Derived.Deep.QuietTactic
import Derived.BigQuiet
import Derived.Deep.RegionHeld3
import Derived.Test.YthcfnofhdbjemaaGreatDoorMathRaw
import Derived.Test.YthcfnofhdbjemaaGreatDoorFiles
import Derived.Test.YthcfnofhdbjemaaGreatDoorProg
import Derived.WalkKit
import Derived.WalkSpells
import Derived.WalkLawsBesides
import Derived.Laws.IdiomStrings
import Derived.Laws.BytesArg
import Derived.Laws.BitsAllLaws
import Derived.Test.YthcfnofhdbjemaaGreatDoorRows
namespace Go.Proofs.YthcfnofhdbjemaaGreatDoor
open Go.RowKit

def rawV (r : Disks.RawL) : Value := .agg #[.int .i64 r.kind, .string r.name, .string r.dst, .string r.text]
end Go.Proofs.YthcfnofhdbjemaaGreatDoor
