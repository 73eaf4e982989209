/- Plain facts on manifests: which are right, their texts, what is read of a text; no program is named here. -/
import Derived.Test.YthcfnofhdbjemaaGreatDoorMathBack
import Derived.Test.YthcfnofhdbjemaaGreatDoorVar
import Derived.Test.YthcfnofhdbjemaaGreatDoorSums
namespace Go.Proofs.YthcfnofhdbjemaaGreatDoor
structure ManL where
  segs : List Int
  next : Int
  base : Int
  term : Int
  conf : List Int
namespace Mans
open Go

/-- Ascending, in lo .. hi. -/
def asc : Int → Int → List Int → Bool
  | _, _, [] => true
  | lo, hi, n :: r => (decide (lo ≤ n) && decide (n ≤ hi)) && asc (n + 1) hi r
theorem asc_step {lo hi : Int} {l : List Int} {k : Nat} {R : Bool} (hk : k < l.length) (h : asc lo hi (l.drop k) = R) (h1 : lo ≤ l[k]) (h2 : l[k] ≤ hi) : asc (l[k] + 1) hi (l.drop (k + 1)) = R := by
  rw [List.drop_eq_getElem_cons hk, asc] at h
  simpa [h1, h2] using h
theorem asc_bad {lo hi : Int} {l : List Int} {k : Nat} {R : Bool} (hk : k < l.length) (h : asc lo hi (l.drop k) = R) (h1 : ¬ (lo ≤ l[k] ∧ l[k] ≤ hi)) : R = false := by
  rw [List.drop_eq_getElem_cons hk, asc] at h
  rw [← h]
  have : (decide (lo ≤ l[k]) && decide (l[k] ≤ hi)) = false := by
    by_cases q1 : lo ≤ l[k] <;> by_cases q2 : l[k] ≤ hi <;> simp_all
  rw [this]; rfl
theorem asc_end {lo hi : Int} {l : List Int} {k : Nat} {R : Bool} (hk : l.length ≤ k) (h : asc lo hi (l.drop k) = R) : R = true := by
  rw [List.drop_of_length_le hk, asc] at h; exact h.symm
theorem asc_in : ∀ (l : List Int) (lo hi : Int), asc lo hi l = true → ∀ x ∈ l, lo ≤ x ∧ x ≤ hi
  | [], _, _, _, x, hx => (List.not_mem_nil hx).elim
  | n :: r, lo, hi, h, x, hx => by
    simp only [asc, Bool.and_eq_true, decide_eq_true_eq] at h
    rcases List.mem_cons.1 hx with rfl | hx
    · exact h.1
    · have := asc_in r _ _ h.2 x hx; omega
def confOk (l : List Int) : Bool := (decide (1 ≤ l.length) && decide (l.length ≤ 4)) && asc 1 4 l
def ok (m : ManL) : Prop := (1 ≤ m.segs.length ∧ m.segs.length ≤ 8) ∧ (0 ≤ m.next ∧ m.next ≤ 1000) ∧ asc 0 (m.next - 1) m.segs = true ∧ (0 ≤ m.base ∧ m.base ≤ 100000) ∧ (0 ≤ m.term ∧ m.term ≤ 100000) ∧ confOk m.conf = true
theorem confOk_iff {l : List Int} : confOk l = true ↔ (1 ≤ l.length ∧ l.length ≤ 4) ∧ asc 1 4 l = true := by
  unfold confOk
  simp [Bool.and_eq_true]

def many : List Int → List UInt8
  | [] => []
  | x :: l => Words.var x.toNat ++ many l
theorem many_app : ∀ (l m : List Int), many (l ++ m) = many l ++ many m
  | [], m => rfl
  | c :: l, m => by simp [many, many_app l m]
theorem many_take {l : List Int} {k : Nat} (hk : k < l.length) : many (l.take (k + 1)) = many (l.take k) ++ Words.var l[k].toNat := by
  rw [List.take_succ_eq_append_getElem hk, many_app]; simp [many]
def list (l : List Int) : List UInt8 := Words.var l.length ++ many l
def text (m : ManL) : List UInt8 := list m.segs ++ (Words.var m.next.toNat ++ (Words.var m.base.toNat ++ (Words.var m.term.toNat ++ list m.conf)))
def sealed (l : List UInt8) : List UInt8 := l ++ Sums.four (Sums.sumOf l)
theorem var_five (n : Nat) (h : n ≤ 1000000000) : (Words.var n).length ≤ 5 := by
  have h1 := Words.rd_back n h [] []
  have h2 := (Words.rd_front h1).2.1
  simp at h2
  exact h2
theorem many_len : ∀ l : List Int, (∀ x ∈ l, x ≤ 1000000000) → (many l).length ≤ 5 * l.length
  | [], _ => by simp [many]
  | x :: l, h => by
    have h1 := var_five x.toNat (by have := h x List.mem_cons_self; omega)
    have h2 := many_len l (fun y hy => h y (List.mem_cons_of_mem _ hy))
    simp [many]; omega
end Mans
end Go.Proofs.YthcfnofhdbjemaaGreatDoor
