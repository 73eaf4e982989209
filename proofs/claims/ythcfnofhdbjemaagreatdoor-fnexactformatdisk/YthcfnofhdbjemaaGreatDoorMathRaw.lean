/- Plain facts on raw writes. -/
import Derived.Test.YthcfnofhdbjemaaGreatDoorMathDisk
namespace Go.Proofs.YthcfnofhdbjemaaGreatDoor.Disks
open Go
structure RawL where
  kind : Int
  name : ByteArray
  dst : ByteArray
  text : ByteArray
def textOf (l : List FileL) (n : ByteArray) : ByteArray := match l.find? (nameIs n) with | some f => f.2 | none => ⟨#[]⟩
def rawOut (l : List FileL) (r : RawL) : List FileL :=
  if r.kind = 1 then put l (r.name, r.text) else if r.kind = 2 then put l (r.name, textOf l r.name ++ r.text)
  else if r.kind = 3 then (if (r.dst.toList == r.name.toList) = true then l else put (drop l r.name) (r.dst, textOf l r.name)) else drop l r.name
def good (l : List FileL) (r : RawL) : Prop := ok l ∧ (1 ≤ r.kind ∧ r.kind ≤ 4) ∧ (None l r.name → r.kind < 3)
def goodB (l : List FileL) (r : RawL) : Bool := okB l && decide (1 ≤ r.kind ∧ r.kind ≤ 4) && (l.any (nameIs r.name) || decide (r.kind < 3))
theorem any_iff (l : List FileL) (n : ByteArray) : l.any (nameIs n) = true ↔ ¬ None l n := by
  rw [List.any_eq_true]
  constructor
  · rintro ⟨f, hf, h⟩ h2
    obtain ⟨j, hj, rfl⟩ := List.mem_iff_getElem.1 hf
    rw [h2 j hj] at h; cases h
  · intro h
    rcases at_or_none l n with h2 | ⟨k, hk, h2, _⟩
    · exact absurd h2 h
    · exact ⟨_, List.getElem_mem _, h2⟩
theorem goodB_iff (l : List FileL) (r : RawL) : goodB l r = true ↔ good l r := by
  unfold goodB good
  rw [Bool.and_eq_true, Bool.and_eq_true, okB_iff, decide_eq_true_iff, Bool.or_eq_true, any_iff, decide_eq_true_iff]
  constructor
  · rintro ⟨⟨h1, h2⟩, h3⟩
    exact ⟨h1, h2, fun h => h3.resolve_left (fun h4 => h4 h)⟩
  · rintro ⟨h1, h2, h4⟩
    refine ⟨⟨h1, h2⟩, ?_⟩
    rcases Classical.em (None l r.name) with h5 | h5
    · exact Or.inr (h4 h5)
    · exact Or.inl h5
def putRaw (l : List FileL) (r : RawL) : Option (List FileL) := if (goodB l r && okB (rawOut l r)) = true then some (rawOut l r) else none
theorem putRaw_pos {l : List FileL} {r : RawL} (h : good l r ∧ ok (rawOut l r)) : putRaw l r = some (rawOut l r) := by
  unfold putRaw
  rw [if_pos (by rw [Bool.and_eq_true, goodB_iff, okB_iff]; exact h)]
theorem putRaw_neg {l : List FileL} {r : RawL} (h : ¬ (good l r ∧ ok (rawOut l r))) : putRaw l r = none := by
  unfold putRaw
  rw [if_neg (fun h2 => h (by rw [Bool.and_eq_true, goodB_iff, okB_iff] at h2; exact h2))]
theorem putRaw_some {l l' : List FileL} {r : RawL} (h : putRaw l r = some l') : good l r ∧ ok (rawOut l r) ∧ l' = rawOut l r := by
  rcases Classical.em (good l r ∧ ok (rawOut l r)) with h2 | h2
  · rw [putRaw_pos h2] at h; cases h; exact ⟨h2.1, h2.2, rfl⟩
  · rw [putRaw_neg h2] at h; cases h
end Go.Proofs.YthcfnofhdbjemaaGreatDoor.Disks
