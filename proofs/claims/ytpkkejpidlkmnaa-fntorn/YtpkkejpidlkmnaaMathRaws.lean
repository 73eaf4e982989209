/- Plain facts on lists of raw writes. -/
import Derived.Test.YtpkkejpidlkmnaaMathRaw
namespace Go.Proofs.Ytpkkejpidlkmnaa.Disks
open Go
/-- Raw writes done one by one, up to the first that is refused: the disk, and how many were done. -/
def run : List FileL → List RawL → List FileL × Nat
  | l, [] => (l, 0)
  | l, r :: rs => match putRaw l r with
    | none => (l, 0)
    | some l' => ((run l' rs).1, (run l' rs).2 + 1)
theorem run_none {l : List FileL} {r : RawL} {rs : List RawL} (h : putRaw l r = none) : run l (r :: rs) = (l, 0) := by
  rw [run, h]
theorem run_some {l l' : List FileL} {r : RawL} {rs : List RawL} (h : putRaw l r = some l') : run l (r :: rs) = ((run l' rs).1, (run l' rs).2 + 1) := by
  rw [run, h]
theorem put_ok {l l' : List FileL} {r : RawL} (h : putRaw l r = some l') : ok l' := by
  obtain ⟨_, h2, rfl⟩ := putRaw_some h
  exact h2
theorem run_le : ∀ (rs : List RawL) (l : List FileL), (run l rs).2 ≤ rs.length
  | [], l => Nat.le_refl _
  | r :: rs, l => by
    cases h : putRaw l r with
    | none => rw [run_none h]; exact Nat.zero_le _
    | some l' => rw [run_some h]; have := run_le rs l'; simp only [List.length_cons]; omega
theorem run_ok : ∀ (rs : List RawL) {l : List FileL}, ok l → ok (run l rs).1
  | [], l, h => h
  | r :: rs, l, h => by
    cases e : putRaw l r with
    | none => rw [run_none e]; exact h
    | some l' => rw [run_some e]; exact run_ok rs (put_ok e)
end Go.Proofs.Ytpkkejpidlkmnaa.Disks
