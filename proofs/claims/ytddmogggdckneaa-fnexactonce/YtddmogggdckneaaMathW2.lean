/- A table of first places whose keys are unlike just for the things of a kind; no program. -/
import Derived.Test.YtddmogggdckneaaMathW
namespace Go.Proofs.Ytddmogggdckneaa.Watch
open Go
set_option linter.unusedVariables false
set_option linter.unusedSimpArgs false
/-- The first j that were seen have their places in a table; all things that are asked for are ok. -/
structure ToldP {T S : Type} [DecidableEq T] (ok : T → Prop) (kl : T → Lit) (l : List (T × S)) (j : Nat) (D : DataW Unit) : Prop where
  has : ∀ t : T, ok t → Maps.has D (kl t) = (l.take j).any fun p => p.1 == t
  elem : ∀ i (hi : i < l.length), i < j → ∀ z, D.atKey (kl l[i].1) z = .lit (.int .i64 (place l l[i].1 : Int))
theorem toldP_nil {T S : Type} [DecidableEq T] (ok : T → Prop) (kl : T → Lit) (l : List (T × S)) : ToldP ok kl l 0 (.map []) := ⟨fun _ _ => by simp [Maps.has], fun _ _ h => by omega⟩
theorem toldP_seen {T S : Type} [DecidableEq T] {ok : T → Prop} {kl : T → Lit} {l : List (T × S)} {j : Nat} {D : DataW Unit} (h : ToldP ok kl l j D) (hj : j < l.length) (hs : ((l.take j).any fun p => p.1 == l[j].1) = true) : ToldP ok kl l (j + 1) D := by
  refine ⟨fun t hok => ?_, fun i hi hij z => ?_⟩
  · rw [h.has t hok, take_any hj]
    by_cases ht : l[j].1 = t
    · rw [ht] at hs; simp [hs]
    · simp [ht]
  · by_cases e : i = j
    · subst e
      obtain ⟨i', hi', hlt, he⟩ := seen_ex hs
      have := h.elem i' hi' hlt z
      rw [he] at this
      exact this
    · exact h.elem i hi (by omega) z
theorem toldP_put {T S : Type} [DecidableEq T] {ok : T → Prop} {kl : T → Lit} (hinj : ∀ a b, ok a → ok b → kl a = kl b → a = b) (hkey : ∀ a, Go.WideAt.IsKeyLit (kl a)) {l : List (T × S)} (hok : ∀ i (hi : i < l.length), ok l[i].1) {j : Nat} {D : DataW Unit} (hD : Maps.IsMap D) (h : ToldP ok kl l j D) (hj : j < l.length) (hs : ((l.take j).any fun p => p.1 == l[j].1) = false) :
    ToldP ok kl l (j + 1) (D.put (kl l[j].1) (.lit (.int .i64 (j : Int)))) := by
  have hpl := place_new hj hs
  have hoj := hok j hj
  refine ⟨fun t hot => ?_, fun i hi hij z => ?_⟩
  · rw [take_any hj]
    by_cases ht : l[j].1 = t
    · rw [← ht, Maps.has_put_same hD (hkey _)]; simp
    · rw [Maps.has_put_other (fun e => ht (hinj _ _ hot hoj e).symm), h.has t hot]; simp [ht]
  · by_cases ht : l[i].1 = l[j].1
    · rw [ht, Maps.atKey_put_same hD (hkey _), hpl]
    · have hij' : i < j := by
        rcases Nat.lt_or_ge i j with q | q
        · exact q
        · exfalso; have : i = j := by omega
          subst this; exact ht rfl
      rw [Maps.atKey_put_other (fun e => ht (hinj _ _ (hok i hi) hoj e))]
      exact h.elem i hi hij' z
/-- A relation of places, held for all that stand behind one another. -/
def onesR (R : Nat → Nat → Bool) (i k : Nat) : Bool := (List.range k).all fun k => R i k
def allR (R : Nat → Nat → Bool) (i : Nat) : Bool := (List.range i).all fun i => onesR R i i
theorem onesR_zero (R : Nat → Nat → Bool) (i : Nat) : onesR R i 0 = true := rfl
theorem onesR_succ (R : Nat → Nat → Bool) (i k : Nat) : onesR R i (k + 1) = (onesR R i k && R i k) := by simp [onesR, List.range_succ]
theorem allR_zero (R : Nat → Nat → Bool) : allR R 0 = true := rfl
theorem allR_succ (R : Nat → Nat → Bool) (i : Nat) : allR R (i + 1) = (allR R i && onesR R i i) := by simp [allR, List.range_succ]
theorem allR_no {R : Nat → Nat → Bool} {i k n : Nat} (hi : i < n) (hk : k < i) (h : R i k = false) : allR R n = false := by
  rw [← Bool.not_eq_true]; unfold allR onesR
  intro hc
  simp only [List.all_eq_true, List.mem_range] at hc
  have := hc i hi k hk
  rw [h] at this; cases this
/-- A relation of members as one of places. -/
def relR {α : Type} (r : α → α → Bool) (l : List α) (i k : Nat) : Bool := match l[i]?, l[k]? with
  | some x, some y => r x y
  | _, _ => true
theorem relR_at {α : Type} (r : α → α → Bool) {l : List α} {i k : Nat} (hi : i < l.length) (hk : k < l.length) : relR r l i k = r l[i] l[k] := by
  unfold relR; rw [List.getElem?_eq_getElem hi, List.getElem?_eq_getElem hk]
theorem allR_iff {α : Type} {r : α → α → Bool} (hs : ∀ x y, r x y = r y x) (hx : ∀ x, r x x = true) (l : List α) : allR (relR r l) l.length = true ↔ ∀ x ∈ l, ∀ y ∈ l, r x y = true := by
  unfold allR onesR
  simp only [List.all_eq_true, List.mem_range]
  constructor
  · intro h x hx' y hy'
    obtain ⟨i, hi, rfl⟩ := List.mem_iff_getElem.1 hx'
    obtain ⟨k, hk, rfl⟩ := List.mem_iff_getElem.1 hy'
    rcases Nat.lt_trichotomy i k with c | c | c
    · have := h k hk i c
      rw [relR_at r hk hi] at this
      rw [hs]; exact this
    · subst c; exact hx _
    · have := h i hi k c
      rwa [relR_at r hi hk] at this
  · intro h i hi k hk
    rw [relR_at r hi (by omega)]
    exact h _ (List.getElem_mem _) _ (List.getElem_mem _)
theorem allOne_relR {T S : Type} [DecidableEq T] [DecidableEq S] (l : List (T × S)) (n : Nat) : allOne l n = allR (relR (fun p q => !(decide (p.1 = q.1) && decide (p.2 ≠ q.2))) l) n := by
  have : ∀ i k, one l i k = relR (fun p q => !(decide (p.1 = q.1) && decide (p.2 ≠ q.2))) l i k := by
    intro i k
    unfold one relR
    split
    · rename_i p q h1 h2
      rw [h1, h2]
      rw [Bool.eq_iff_iff]; simp
    · rename_i h
      split
      · rename_i x y h1 h2
        exact absurd h2 (by intro h2; exact h _ _ h1 h2)
      · rfl
  unfold allOne ones allR onesR
  simp only [this]
end Go.Proofs.Ytddmogggdckneaa.Watch
