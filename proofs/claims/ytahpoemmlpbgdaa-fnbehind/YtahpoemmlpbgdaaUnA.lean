/- Lists of texts that a call owns; the law's own helpers over them, walked: they are compared, marked, and found marked. The calls of framedAt and of whole, walked. The call of Unframe's yield, walked: a whole frame's record is put behind the records, and the place moves on; at a torn one it says false. The calls of tellFrames and of Unframe, walked: the records of the whole frames, and the place behind the last. The call of the document's Unframe, walked: the records of the whole frames, and the place behind the last. -/
import Derived.Test.YtahpoemmlpbgdaaSealA
import Derived.Test.YtahpoemmlpbgdaaMarkA
import Derived.Maps.AppendAt
import Derived.Test.YtahpoemmlpbgdaaTxtA
import Derived.Test.YtahpoemmlpbgdaaMathB
import Derived.Test.YtahpoemmlpbgdaaKit
import Derived.OneCell
import Derived.Deep.AppendLies
import Derived.Deep.RegionHeld3
import Derived.Deep.RegionLaw
namespace Go.Proofs.Ytahpoemmlpbgdaa
section
open Go.RowKit

theorem own_heap {w w' : World} {base : Nat} {v : Value} {n : Nat} {xs : List Value} (h : w.ownsRow base 9 1 v n xs) (e : w'.heap = w.heap) : w'.ownsRow base 9 1 v n xs := by
  unfold World.ownsRow at *
  rw [e]; exact h
theorem cell_at {w : World} {base g cap : Nat} {ps : List (List UInt8)} (h : w.ownsRow base 9 1 (.slice (some ⟨g, 0, none⟩) ps.length cap) ps.length (cellsS ps)) (k : Nat) (hk : k < ps.length) :
    w.cell? ⟨g, k, none⟩ = some (.string ⟨ps[k].toArray⟩) := by
  rw [h.cellAt k (by omega)]
  simp [cellsS, hk]

/-- The row's content behind j marks. -/
def half (k n j : Nat) (ps : List (List UInt8)) : List (List UInt8) := (marks k n).take j ++ ps.drop j
theorem half_set {k n j : Nat} {ps : List (List UInt8)} (hn : ps.length = n) (hj : j < n) : (cellsS (half k n j ps)).set j (.string ⟨(mark (k + j)).toArray⟩) = cellsS (half k n (j + 1) ps) := by
  apply List.ext_getElem?
  intro i
  have hm := marks_len k n
  rw [List.getElem?_set]
  simp only [cellsS, half, List.length_map, List.length_append, List.length_take, List.length_drop, List.getElem?_map, List.getElem?_append, hm, hn]
  by_cases hij : j = i
  · subst hij
    have h1 : min (j + 1) n = j + 1 := by omega
    have h2 : min j n = j := by omega
    simp only [h1, h2, if_true]
    rw [if_pos (by omega), if_pos (by omega)]
    rw [List.getElem?_take_of_lt (by omega)]
    simp [marks, hj]
  · rw [if_neg hij]
    have h1 : min (j + 1) n = j + 1 := by omega
    have h2 : min j n = j := by omega
    simp only [h1, h2]
    by_cases hlt : i < j
    · rw [if_pos hlt, if_pos (by omega), List.getElem?_take_of_lt hlt, List.getElem?_take_of_lt (by omega)]
    · rw [if_neg hlt, if_neg (by omega), List.getElem?_drop, List.getElem?_drop]
      congr 2
      omega
theorem half_zero (k n : Nat) (ps : List (List UInt8)) : half k n 0 ps = ps := by simp [half]
theorem half_all {k n : Nat} {ps : List (List UInt8)} (hn : ps.length = n) : half k n n ps = marks k n := by
  have hm := marks_len k n
  simp only [half]
  rw [List.take_of_length_le (by omega), List.drop_eq_nil_of_le (by omega), List.append_nil]
theorem marks_at (k n j : Nat) (hj : j < n) : (marks k n)[j]'(by rw [marks_len]; exact hj) = mark (k + j) := by simp [marks]
end
section
open Go.RowKit

def framedV (a b : ByteArray) (e : Int) : Value := .agg #[.string a, .string b, .int .i64 e]

theorem rdZ_nat (s : ByteArray) (a : Nat) (h : a ≤ s.size) : rdZ s (a : Int) = Words.rd s.data.toList a := by
  unfold rdZ
  rw [if_pos (by omega)]; simp

end
section
open Go.RowKit

theorem one_string_list (S : ByteArray) : ∀ u ∈ [Value.string S], u.oneCell' = true := by intro u hu; simp at hu; subst hu; rfl
theorem blk_kept {w w' : World} {k : Nat} {o : Obj} (h : w.heap[k]? = some o) (hb : Below w.heap.size w w') : w'.heap[k]? = some o := (hb.block k (Array.getElem?_eq_some_iff.1 h).1).trans h
theorem blk_alloc {w : World} {k : Nat} {o : Obj} (h : w.heap[k]? = some o) (x : Obj) : (w.alloc x).heap[k]? = some o := blk_kept h ((Below.refl _ _).alloc (Nat.le_refl _) x)
theorem blk_grown {w w' : World} {k : Nat} {o : Obj} {r : Option Nat} (h : w.heap[k]? = some o) (hg : w.grownBy w' r) (hne : some k ≠ r) : w'.heap[k]? = some o := (hg.block k (Array.getElem?_eq_some_iff.1 h).1 hne).trans h
theorem blk_cell {w : World} {k j : Nat} {cs : Array Value} {t : TypeId} {v : Value} (h : w.heap[k]? = some (.cells cs t (0, 0))) (hj : cs[j]? = some v) : w.cell? ⟨k, j, none⟩ = some v := by
  simp [World.cell?, h, hj]

/-- The two variables that yield writes: the records told so far, and the place behind the last. -/
def Tell (base R Q : Nat) (ps : List (List UInt8)) (z : Nat) (w : World) : Prop :=
  ∃ v, w.heap[R]? = some (.cells #[v] 96 (0, 0)) ∧ w.heap[Q]? = some (.cells #[.int .i64 (z : Int)] 3 (0, 0)) ∧ w.ownsRow base 9 1 v ps.length (cellsS ps)

/-- The structs that stood in their own cells are as they were. -/
def Kept64 (w w' : World) : Prop := ∀ (k : Nat) (cs : Array Value), w.heap[k]? = some (.cells cs 113 (0, 0)) → w'.heap[k]? = some (.cells cs 113 (0, 0))

end
section
open Go.RowKit

theorem ext_list (s : ByteArray) (b n : Nat) : (s.extract (b + 4) (b + 4 + n)).data.toList = (s.data.toList.drop (b + 4)).take n := by
  rw [Words.extract_list]; congr 1; omega
theorem sum_iff (s : ByteArray) (b n : Nat) : ((s.extract b (b + 4)).toList == Sums.four (Sums.sumOf (s.extract (b + 4) (b + 4 + n)).data.toList)) = decide ((s.data.toList.drop b).take 4 = Sums.four (Sums.sumOf ((s.data.toList.drop (b + 4)).take n))) := by
  rw [ext_list, ByteArray.toList_eq, Words.extract_list, show b + 4 - b = 4 by omega]
  rw [Bool.eq_iff_iff]; simp

theorem tell_kept {base R Q : Nat} {ps : List (List UInt8)} {z : Nat} {w w' : World} (h : Tell base R Q ps z w) (hb : Below w.heap.size w w') : Tell base R Q ps z w' := by
  obtain ⟨v, h1, h2, h3⟩ := h
  exact ⟨v, blk_kept h1 hb, blk_kept h2 hb, own_kept h3 hb⟩

def unT (v : Value) (z : Nat) : Value := .tuple #[v, .int .i64 (z : Int)]
theorem un_long {s : ByteArray} : (Words.un (s.size + 1) s.data.toList 0).length ≤ s.size := by
  have := Words.un_len (s.size + 1) s.data.toList 0
  rwa [Words.size_list] at this
theorem below2 (w : World) (o o' : Obj) : Below w.heap.size w ((w.alloc o).alloc o') := ((Below.refl _ _).alloc (Nat.le_refl _) o).alloc (by simp) o'

end
section
open Go.RowKit

end
end Go.Proofs.Ytahpoemmlpbgdaa
