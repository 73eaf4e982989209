/- Plain facts on the parts of a line; no program is named here. -/
import Derived.Test.YtbajccpnkgdfpaaMath
namespace Go.Proofs.Ytbajccpnkgdfpaa.Words
def partsF : List UInt8 → List UInt8 → List (List UInt8)
  | [], cur => if cur = [] then [] else [cur]
  | b :: r, cur => if b.toNat = 32 then (if cur = [] then partsF r [] else cur :: partsF r []) else partsF r (cur ++ [b])
def plain (l : List UInt8) : Prop := ∀ b ∈ l, 32 ≤ b.toNat ∧ b.toNat ≤ 126
theorem dropB (s : ByteArray) (k : Nat) (h : k < s.size) : s.data.toList.drop k = s[k] :: s.data.toList.drop (k + 1) := by
  rw [List.drop_eq_getElem_cons (by rw [size_list]; exact h)]; rfl
theorem dropB_end (s : ByteArray) (k : Nat) (h : ¬ k < s.size) : s.data.toList.drop k = [] := List.drop_eq_nil_of_le (by rw [size_list]; omega)
theorem memB (s : ByteArray) (k : Nat) (h : k < s.size) : s[k] ∈ s.data.toList := List.getElem_mem (l := s.data.toList) (by rw [size_list]; exact h)
/-- A blank where no part is begun. -/
theorem parts_skip {s : ByteArray} {k : Nat} (h : k < s.size) (hb : s[k].toNat = 32) : partsF (s.data.toList.drop k) [] = partsF (s.data.toList.drop (k + 1)) [] := by
  rw [dropB s k h, partsF, if_pos hb, if_pos rfl]
/-- A byte more of a part. -/
theorem parts_more {s : ByteArray} {k : Nat} {cur : List UInt8} (h : k < s.size) (hb : ¬ s[k].toNat = 32) : partsF (s.data.toList.drop k) cur = partsF (s.data.toList.drop (k + 1)) (cur ++ [s[k]]) := by
  rw [dropB s k h, partsF, if_neg hb]
/-- A part's end. -/
theorem parts_end {s : ByteArray} {k : Nat} {cur : List UInt8} (hc : cur ≠ []) (he : ∀ h : k < s.size, s[k].toNat = 32) : partsF (s.data.toList.drop k) cur = cur :: partsF (s.data.toList.drop k) [] := by
  by_cases h : k < s.size
  · rw [parts_skip h (he h), dropB s k h, partsF, if_pos (he h), if_neg hc]
  · rw [dropB_end s k h, partsF, partsF, if_neg hc, if_pos rfl]
theorem parts_end1 {s : ByteArray} {k : Nat} {cur : List UInt8} (hc : cur ≠ []) (h : k < s.size) (hb : s[k].toNat = 32) : partsF (s.data.toList.drop k) cur = cur :: partsF (s.data.toList.drop (k + 1)) [] := by
  rw [dropB s k h, partsF, if_pos hb, if_neg hc]
theorem cut_snoc {s : ByteArray} {a k : Nat} (ha : a ≤ k) (h : k < s.size) : (s.data.toList.drop a).take (k + 1 - a) = (s.data.toList.drop a).take (k - a) ++ [s[k]] := by
  have := met_more (s := s) (a := a) (k := k - a) (by omega)
  rw [show k + 1 - a = k - a + 1 from by omega, this]
  have e : a + (k - a) = k := by omega
  simp only [e]
theorem cut_len {s : ByteArray} {a k : Nat} (ha : a ≤ k) (h : k ≤ s.size) : ((s.data.toList.drop a).take (k - a)).length = k - a := by
  rw [List.length_take, List.length_drop, size_list]; omega
theorem cut_ne {s : ByteArray} {a k : Nat} (ha : a < k) (h : k ≤ s.size) : (s.data.toList.drop a).take (k - a) ≠ [] := by
  intro e
  have := cut_len (s := s) (a := a) (k := k) (by omega) h
  rw [e] at this
  simp at this; omega
end Go.Proofs.Ytbajccpnkgdfpaa.Words
