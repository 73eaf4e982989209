/- Plain facts on disks as lists of files: which are right. -/
import Derived.Test.YthcfnofhdbjemaaGreatDoorFiles
import Derived.Test.YthcfnofhdbjemaaGreatDoorProg
import Derived.WalkKit
import Derived.WalkSpells
import Derived.WalkLawsBesides
import Derived.Laws.IdiomStrings
import Derived.Laws.BytesArg
import Derived.Laws.BitsAllLaws
import Derived.Test.YthcfnofhdbjemaaGreatDoorRows
namespace Go.Proofs.YthcfnofhdbjemaaGreatDoor.Disks
open Go
/-- Texts byte by byte, a beginning being less. -/
def lt (a b : ByteArray) : Bool := Op.bytesLess a.toList b.toList
def fileOk (f : FileL) : Prop := 1 ≤ f.1.size ∧ f.1.size ≤ 12 ∧ f.2.size ≤ 20000
def fileOkB (f : FileL) : Bool := decide (1 ≤ f.1.size ∧ f.1.size ≤ 12 ∧ f.2.size ≤ 20000)
theorem fileOkB_iff (f : FileL) : fileOkB f = true ↔ fileOk f := decide_eq_true_iff
/-- Is the file at j right, and behind the one ahead of it? -/
def okAt (l : List FileL) (j : Nat) : Prop := ∃ hj : j < l.length, fileOk l[j] ∧ (0 < j → ∃ hi : j - 1 < l.length, lt l[j - 1].1 l[j].1 = true)
def ok (l : List FileL) : Prop := l.length ≤ 30 ∧ ∀ j, j < l.length → okAt l j
/-- The same, reckoned. -/
def okAtB (l : List FileL) (j : Nat) : Bool := match l[j]? with
  | none => false
  | some f => fileOkB f && (j == 0 || match l[j - 1]? with | none => false | some e => lt e.1 f.1)
def okB (l : List FileL) : Bool := decide (l.length ≤ 30) && (List.range l.length).all (okAtB l)
theorem okAtB_iff (l : List FileL) (j : Nat) : okAtB l j = true ↔ okAt l j := by
  unfold okAtB okAt
  by_cases hj : j < l.length
  · rw [List.getElem?_eq_getElem hj]
    simp only [Bool.and_eq_true, fileOkB_iff, Bool.or_eq_true, beq_iff_eq]
    constructor
    · rintro ⟨h1, h2⟩
      refine ⟨hj, h1, fun hp => ⟨by omega, ?_⟩⟩
      rcases h2 with h2 | h2
      · omega
      · rw [List.getElem?_eq_getElem (show j - 1 < l.length by omega)] at h2; exact h2
    · rintro ⟨_, h1, h2⟩
      refine ⟨h1, ?_⟩
      by_cases hz : j = 0
      · exact Or.inl hz
      · right
        obtain ⟨hi, h3⟩ := h2 (by omega)
        rw [List.getElem?_eq_getElem hi]; exact h3
  · rw [List.getElem?_eq_none (by omega)]
    simp [hj]
theorem okB_iff (l : List FileL) : okB l = true ↔ ok l := by
  unfold okB ok
  simp only [Bool.and_eq_true, decide_eq_true_eq, List.all_eq_true, List.mem_range, okAtB_iff]
theorem ok_step {l : List FileL} {k : Nat} (h : ∀ j, j < k → okAt l j) (hk : okAt l k) : ∀ j, j < k + 1 → okAt l j := fun j hj => by
  rcases Nat.lt_succ_iff_lt_or_eq.1 hj with h1 | h1
  · exact h j h1
  · rw [h1]; exact hk
theorem not_ok {l : List FileL} {j : Nat} (hj : j < l.length) (h : ¬ okAt l j) : ¬ ok l := fun h2 => h (h2.2 j hj)
/-- Is this the file's name? -/
def nameIs (n : ByteArray) (f : FileL) : Bool := f.1.toList == n.toList
def At (l : List FileL) (n : ByteArray) (k : Nat) : Prop := ∃ hk : k < l.length, nameIs n l[k] = true ∧ ∀ j (hj : j < k), nameIs n (l[j]'(Nat.lt_trans hj hk)) = false
def None (l : List FileL) (n : ByteArray) : Prop := ∀ j (hj : j < l.length), nameIs n l[j] = false
theorem at_or_none (l : List FileL) (n : ByteArray) : None l n ∨ ∃ k, At l n k := by
  cases h : l.findIdx? (nameIs n) with
  | none =>
    left
    intro j hj
    have := List.findIdx?_eq_none_iff.1 h l[j] (List.getElem_mem _)
    simpa using this
  | some k =>
    right
    obtain ⟨hk, h1, h2⟩ := List.findIdx?_eq_some_iff_getElem.1 h
    exact ⟨k, hk, h1, fun j hj => by simpa using h2 j hj⟩
/-- Greater, as the model of the language has it. -/
def gt (a b : ByteArray) : Bool := !(Op.bytesLess a.toList b.toList || a.toList == b.toList)
/-- A file put among others, by name. -/
def put (l : List FileL) (f : FileL) : List FileL := l.filter (fun e => lt e.1 f.1) ++ [f] ++ l.filter (fun e => gt e.1 f.1)
def drop (l : List FileL) (n : ByteArray) : List FileL := l.filter fun f => !nameIs n f
end Go.Proofs.YthcfnofhdbjemaaGreatDoor.Disks
