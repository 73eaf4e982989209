/- Terms that do not fall, told as the program asks it; no program is named here. -/
import Derived.Test.YtimacmijinblmaaGreatMathMsg
namespace Go.Proofs.YtimacmijinblmaaGreat
set_option linter.unusedVariables false
set_option linter.unusedSimpArgs false
namespace Msgs
open Ents (okB)
def rises : Int → List EntL → Bool
  | _, [] => true
  | t, e :: r => (okB e && decide (t ≤ e.term)) && rises e.term r
theorem rises_step {t : Int} {l : List EntL} {k : Nat} {R : Bool} (hk : k < l.length) (h : rises t (l.drop k) = R) (h1 : okB l[k] = true) (h2 : t ≤ l[k].term) : rises l[k].term (l.drop (k + 1)) = R := by
  rw [List.drop_eq_getElem_cons hk] at h
  simpa [rises, h1, h2] using h
theorem rises_bad {t : Int} {l : List EntL} {k : Nat} {R : Bool} (hk : k < l.length) (h : rises t (l.drop k) = R) (h1 : okB l[k] = false ∨ ¬ t ≤ l[k].term) : R = false := by
  rw [List.drop_eq_getElem_cons hk] at h
  rw [← h]
  rcases h1 with h1 | h1
  · simp [rises, h1]
  · simp [rises, h1]
theorem rises_end {t : Int} {l : List EntL} {k : Nat} {R : Bool} (hk : l.length ≤ k) (h : rises t (l.drop k) = R) : R = true := by
  rw [List.drop_of_length_le hk] at h
  exact h.symm
/-- The term of the last entry, or the one ahead. -/
def lastT : Int → List EntL → Int
  | t, [] => t
  | _, e :: r => lastT e.term r
theorem lastT_get : ∀ (l : List EntL) (t : Int) (h : 0 < l.length), lastT t l = (l[l.length - 1]'(by omega)).term
  | [e], t, h => rfl
  | e :: f :: r, t, h => by
    have := lastT_get (f :: r) e.term (by simp)
    simp only [lastT] at this ⊢
    rw [this]
    simp
theorem lastT_ge : ∀ (l : List EntL) (t : Int), rises t l = true → t ≤ lastT t l
  | [], t, _ => Int.le_refl _
  | e :: r, t, h => by
    simp only [rises, Bool.and_eq_true, decide_eq_true_eq] at h
    have := lastT_ge r e.term h.2
    simp only [lastT]
    omega
theorem rise_rises (hi : Int) : ∀ (l : List EntL) (t : Int), 0 < l.length → rise hi t l = (rises t l && decide (lastT t l ≤ hi))
  | [e], t, _ => by
    simp only [rise, rises, lastT, Bool.and_true]
    exact (Bool.and_assoc _ _ _).symm
  | e :: f :: r, t, _ => by
    have h := rise_rises hi (f :: r) e.term (by simp)
    have e1 : rise hi t (e :: f :: r) = ((okB e && (decide (t ≤ e.term) && decide (e.term ≤ hi))) && rise hi e.term (f :: r)) := rfl
    have e2 : rises t (e :: f :: r) = ((okB e && decide (t ≤ e.term)) && rises e.term (f :: r)) := rfl
    have e3 : lastT t (e :: f :: r) = lastT e.term (f :: r) := rfl
    rw [e1, e2, e3, h]
    cases hr : rises e.term (f :: r)
    · simp
    · have := lastT_ge _ _ hr
      by_cases hq : lastT e.term (f :: r) ≤ hi
      · rw [decide_eq_true hq, decide_eq_true (p := e.term ≤ hi) (by omega)]
        simp
      · rw [decide_eq_false hq]; simp
end Msgs
end Go.Proofs.YtimacmijinblmaaGreat
