/- Plain facts on batches: which are right, their texts, what is read of a text; no program is named here. -/
import Derived.Test.YtlmjhobijgmolaaMathBack
import Derived.Test.YtlmjhobijgmolaaVar
namespace Go.Proofs.Ytlmjhobijgmolaa
structure ChangeL where
  key : ByteArray
  value : ByteArray
  gone : Bool
namespace Batches
open Go
/-- Texts byte by byte, a beginning being less. -/
def lt (a b : ByteArray) : Bool := Op.bytesLess a.toList b.toList
abbrev by_ (s : ByteArray) : List UInt8 := s.data.toList
theorem by_inj {a b : ByteArray} (h : by_ a = by_ b) : a = b := by
  cases a; cases b
  simp only [ByteArray.mk.injEq]
  exact Array.ext' h
def changeOk (c : ChangeL) : Prop := 1 ≤ c.key.size ∧ c.key.size ≤ 10 ∧ c.value.size ≤ 40 ∧ (c.gone = true → c.value.size = 0)
/-- Is the change at j right, and behind the one ahead of it? -/
def okAt (l : List ChangeL) (j : Nat) : Prop := ∃ hj : j < l.length, changeOk l[j] ∧ (0 < j → ∃ hi : j - 1 < l.length, lt l[j - 1].key l[j].key = true)
def ok (st : Int) (l : List ChangeL) : Prop := (0 ≤ st ∧ st ≤ 100000) ∧ l.length ≤ 60 ∧ ∀ j, j < l.length → okAt l j
def flag (g : Bool) : UInt8 := if g then 1 else 0
def short (s : ByteArray) : List UInt8 := Words.var s.size ++ by_ s
def one (c : ChangeL) : List UInt8 := short c.key ++ (flag c.gone :: short c.value)
def many : List ChangeL → List UInt8
  | [] => []
  | c :: l => one c ++ many l
def text (st : Nat) (l : List ChangeL) : List UInt8 := Words.var st ++ (Words.var l.length ++ many l)
def rdShort (s : ByteArray) (a : Nat) : Option (ByteArray × Nat) :=
  match Words.rd (by_ s) a with
  | none => none
  | some (n, k) => if n ≤ 20000 ∧ k + n ≤ s.size then some (s.extract k (k + n), k + n) else none
/-- The bytes from a up to b. -/
def cut (s : ByteArray) (a b : Nat) : List UInt8 := ((by_ s).drop a).take (b - a)
theorem cut_app (s : ByteArray) {a b c : Nat} (h1 : a ≤ b) (h2 : b ≤ c) : cut s a c = cut s a b ++ cut s b c := by
  unfold cut
  have e : c - a = (b - a) + (c - b) := by omega
  rw [e, List.take_add, List.drop_drop]
  congr 3
  omega
theorem cut_all (s : ByteArray) : cut s 0 s.size = by_ s := by
  unfold cut
  rw [List.drop_zero, Nat.sub_zero]
  exact List.take_of_length_le (Nat.le_of_eq (Words.size_list s))
theorem rd_cut {s : ByteArray} {a n b : Nat} (h : Words.rd (by_ s) a = some (n, b)) : a < b ∧ b ≤ s.size ∧ cut s a b = Words.var n ∧ n ≤ 1000000000 := by
  obtain ⟨h1, _, h3, _, h5, h6⟩ := Words.rd_front h
  exact ⟨h1, h3, h5.symm, h6⟩
theorem rdShort_cut {s : ByteArray} {a b : Nat} {x : ByteArray} (h : rdShort s a = some (x, b)) : a < b ∧ b ≤ s.size ∧ cut s a b = short x ∧ x.size ≤ 20000 := by
  unfold rdShort at h
  split at h
  · cases h
  · rename_i n k hr
    split at h
    · rename_i hn
      simp only [Option.some.injEq, Prod.mk.injEq] at h
      obtain ⟨rfl, rfl⟩ := h
      obtain ⟨h1, h2, h3, _⟩ := rd_cut hr
      have hsz : (s.extract k (k + n)).size = n := by rw [ByteArray.size_extract]; omega
      refine ⟨by omega, hn.2, ?_, by omega⟩
      rw [cut_app s (Nat.le_of_lt h1) (Nat.le_add_right k n), h3]
      unfold short
      rw [hsz]
      congr 1
      unfold by_
      rw [Words.extract_list]
      rfl
    · cases h
theorem rd_at {s : ByteArray} {n : Nat} {p r : List UInt8} (hn : n ≤ 1000000000) (h : by_ s = p ++ (Words.var n ++ r)) : Words.rd (by_ s) p.length = some (n, (p ++ Words.var n).length) := by
  rw [h, Words.rd_back n hn, List.length_append]
theorem rdShort_at {s x : ByteArray} {p r : List UInt8} (hn : x.size ≤ 20000) (h : by_ s = p ++ (short x ++ r)) : rdShort s p.length = some (x, (p ++ short x).length) := by
  have h' : by_ s = p ++ (Words.var x.size ++ (by_ x ++ r)) := by rw [h, short, List.append_assoc]
  have hl : (by_ s).length = s.size := Words.size_list s
  have hx : (by_ x).length = x.size := Words.size_list x
  unfold rdShort
  rw [rd_at (by omega) h']
  have hle : (p ++ Words.var x.size).length + x.size ≤ s.size := by
    rw [← hl, h']
    simp only [List.length_append, hx]
    omega
  simp only
  rw [if_pos ⟨hn, hle⟩]
  have e1 : s.extract (p ++ Words.var x.size).length ((p ++ Words.var x.size).length + x.size) = x := by
    refine by_inj ?_
    unfold by_ at *
    rw [Words.extract_list, h', ← List.append_assoc, List.drop_left, show (p ++ Words.var x.size).length + x.size - (p ++ Words.var x.size).length = x.data.toList.length by omega, List.take_left]
  rw [e1]
  congr 2
  unfold short
  simp only [List.length_append, hx]
  omega
/-- The batch that a text is the text of. -/
def Got (s : ByteArray) (st : Nat) (l : List ChangeL) : Prop := by_ s = text st l ∧ ok (st : Int) l
end Batches
end Go.Proofs.Ytlmjhobijgmolaa
