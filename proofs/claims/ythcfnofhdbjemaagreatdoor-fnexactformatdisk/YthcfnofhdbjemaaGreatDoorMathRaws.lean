/- Plain facts on lists of raw writes. -/
import Derived.Test.YthcfnofhdbjemaaGreatDoorMathRaw
namespace Go.Proofs.YthcfnofhdbjemaaGreatDoor.Disks
open Go
theorem put_ok {l l' : List FileL} {r : RawL} (h : putRaw l r = some l') : ok l' := by
  obtain ⟨_, h2, rfl⟩ := putRaw_some h
  exact h2
end Go.Proofs.YthcfnofhdbjemaaGreatDoor.Disks
