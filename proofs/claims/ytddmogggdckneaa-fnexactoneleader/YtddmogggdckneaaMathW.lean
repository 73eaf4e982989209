/- Who watches, in plain words: lists of things and of what was seen of them; no program. -/
import Derived.Maps.OwnSet
namespace Go.Proofs.Ytddmogggdckneaa.Watch
open Go
set_option linter.unusedVariables false
set_option linter.unusedSimpArgs false
/-- Where a thing is seen first. -/
def place {T S : Type} [DecidableEq T] (l : List (T × S)) (t : T) : Nat := l.findIdx fun p => p.1 == t
theorem place_lt {T S : Type} [DecidableEq T] {l : List (T × S)} {j : Nat} (hj : j < l.length) : place l l[j].1 < l.length :=
  List.findIdx_lt_length_of_exists ⟨l[j], List.getElem_mem _, by simp⟩
theorem place_le {T S : Type} [DecidableEq T] {l : List (T × S)} {j : Nat} (hj : j < l.length) : place l l[j].1 ≤ j := by
  unfold place
  rcases Nat.lt_or_ge j (l.findIdx fun p => p.1 == l[j].1) with h | h
  · have := List.not_of_lt_findIdx h
    simp at this
  · exact h
theorem place_thing {T S : Type} [DecidableEq T] {l : List (T × S)} {j : Nat} (hj : j < l.length) : (l[place l l[j].1]'(place_lt hj)).1 = l[j].1 := by
  have := List.findIdx_getElem (xs := l) (p := fun p => p.1 == l[j].1) (w := by exact place_lt hj)
  exact eq_of_beq this
/-- Whether the one at j is at one with the first who saw that thing. -/
def same {T S : Type} [DecidableEq T] [DecidableEq S] (l : List (T × S)) (j : Nat) : Bool := match l[j]?, (l[j]?).bind fun p => l[place l p.1]? with
  | some p, some q => p.2 == q.2
  | _, _ => true
theorem same_at {T S : Type} [DecidableEq T] [DecidableEq S] {l : List (T × S)} {j : Nat} (hj : j < l.length) : same l j = ((l[j].2) == (l[place l l[j].1]'(place_lt hj)).2) := by
  unfold same
  rw [List.getElem?_eq_getElem hj]
  simp only [Option.bind_some]
  rw [List.getElem?_eq_getElem (place_lt hj)]
def agree {T S : Type} [DecidableEq T] [DecidableEq S] (l : List (T × S)) : Bool := (List.range l.length).all fun j => same l j
/-- Whether the ones at i and k are at one. -/
def one {T S : Type} [DecidableEq T] [DecidableEq S] (l : List (T × S)) (i k : Nat) : Bool := match l[i]?, l[k]? with
  | some p, some q => !(p.1 == q.1 && p.2 != q.2)
  | _, _ => true
def ones {T S : Type} [DecidableEq T] [DecidableEq S] (l : List (T × S)) (i k : Nat) : Bool := (List.range k).all fun k => one l i k
def allOne {T S : Type} [DecidableEq T] [DecidableEq S] (l : List (T × S)) (i : Nat) : Bool := (List.range i).all fun i => ones l i i
theorem one_at {T S : Type} [DecidableEq T] [DecidableEq S] {l : List (T × S)} {i k : Nat} (hi : i < l.length) (hk : k < l.length) : one l i k = !(l[i].1 == l[k].1 && l[i].2 != l[k].2) := by
  unfold one; rw [List.getElem?_eq_getElem hi, List.getElem?_eq_getElem hk]
theorem ones_zero {T S : Type} [DecidableEq T] [DecidableEq S] (l : List (T × S)) (i : Nat) : ones l i 0 = true := rfl
theorem ones_succ {T S : Type} [DecidableEq T] [DecidableEq S] (l : List (T × S)) (i k : Nat) : ones l i (k + 1) = (ones l i k && one l i k) := by simp [ones, List.range_succ]
theorem allOne_zero {T S : Type} [DecidableEq T] [DecidableEq S] (l : List (T × S)) : allOne l 0 = true := rfl
theorem allOne_succ {T S : Type} [DecidableEq T] [DecidableEq S] (l : List (T × S)) (i : Nat) : allOne l (i + 1) = (allOne l i && ones l i i) := by simp [allOne, List.range_succ]
def agreeTo {T S : Type} [DecidableEq T] [DecidableEq S] (l : List (T × S)) (i : Nat) : Bool := (List.range i).all fun j => same l j
theorem agreeTo_zero {T S : Type} [DecidableEq T] [DecidableEq S] (l : List (T × S)) : agreeTo l 0 = true := rfl
theorem agreeTo_succ {T S : Type} [DecidableEq T] [DecidableEq S] (l : List (T × S)) (i : Nat) : agreeTo l (i + 1) = (agreeTo l i && same l i) := by simp [agreeTo, List.range_succ]
theorem agreeTo_no {T S : Type} [DecidableEq T] [DecidableEq S] {l : List (T × S)} {i : Nat} (hi : i < l.length) (h : same l i = false) : agree l = false := by
  rw [← Bool.not_eq_true]; unfold agree
  intro hc
  rw [List.all_eq_true] at hc
  have := hc i (List.mem_range.2 hi)
  rw [h] at this; cases this
theorem allOne_no {T S : Type} [DecidableEq T] [DecidableEq S] {l : List (T × S)} {i k : Nat} (hi : i < l.length) (hk : k < i) (h : one l i k = false) : allOne l l.length = false := by
  rw [← Bool.not_eq_true]; unfold allOne ones
  intro hc
  simp only [List.all_eq_true, List.mem_range] at hc
  have := hc i hi k hk
  rw [h] at this; cases this
/-- All agree with the first just where no two are not at one. -/
theorem agree_allOne {T S : Type} [DecidableEq T] [DecidableEq S] (l : List (T × S)) : agree l = allOne l l.length := by
  rw [Bool.eq_iff_iff]
  unfold agree allOne ones
  simp only [List.all_eq_true, List.mem_range]
  constructor
  · intro h i hi k hk
    have hk' : k < l.length := by omega
    rw [one_at hi hk']
    by_cases ht : l[i].1 = l[k].1
    · have h1 := h i hi
      have h2 := h k hk'
      rw [same_at hi] at h1
      rw [same_at hk'] at h2
      have e : place l l[i].1 = place l l[k].1 := by rw [ht]
      simp only [e] at h1
      have q1 := eq_of_beq h1
      have q2 := eq_of_beq h2
      simp [q1, q2]
    · simp [ht]
  · intro h j hj
    rw [same_at hj]
    have hp := place_lt hj
    rcases Nat.lt_or_ge (place l l[j].1) j with hlt | hge
    · have := h j hj _ hlt
      rw [one_at hj hp, place_thing hj] at this
      simpa using this
    · have e : place l l[j].1 = j := Nat.le_antisymm (place_le hj) hge
      simp only [e]
      simp
/-- The first j that were seen have their places in a table. -/
structure Told {T S : Type} [DecidableEq T] (kl : T → Lit) (l : List (T × S)) (j : Nat) (D : DataW Unit) : Prop where
  has : ∀ t : T, Maps.has D (kl t) = (l.take j).any fun p => p.1 == t
  elem : ∀ i (hi : i < l.length), i < j → ∀ z, D.atKey (kl l[i].1) z = .lit (.int .i64 (place l l[i].1 : Int))
theorem told_nil {T S : Type} [DecidableEq T] (kl : T → Lit) (l : List (T × S)) : Told kl l 0 (.map []) := ⟨fun _ => by simp [Maps.has], fun _ _ h => by omega⟩
theorem take_any {T S : Type} [DecidableEq T] {l : List (T × S)} {j : Nat} (hj : j < l.length) (t : T) : ((l.take (j + 1)).any fun p => p.1 == t) = (((l.take j).any fun p => p.1 == t) || l[j].1 == t) := by
  rw [List.take_succ_eq_append_getElem hj, List.any_append]; simp
theorem seen_ex {T S : Type} [DecidableEq T] {l : List (T × S)} {j : Nat} {t : T} (h : ((l.take j).any fun p => p.1 == t) = true) : ∃ i, ∃ hi : i < l.length, i < j ∧ l[i].1 = t := by
  rw [List.any_eq_true] at h
  obtain ⟨p, hp, he⟩ := h
  obtain ⟨i, hi, rfl⟩ := List.mem_iff_getElem.1 hp
  rw [List.length_take] at hi
  refine ⟨i, by omega, by omega, ?_⟩
  simpa using he
theorem told_seen {T S : Type} [DecidableEq T] {kl : T → Lit} {l : List (T × S)} {j : Nat} {D : DataW Unit} (h : Told kl l j D) (hj : j < l.length) (hs : ((l.take j).any fun p => p.1 == l[j].1) = true) : Told kl l (j + 1) D := by
  refine ⟨fun t => ?_, fun i hi hij z => ?_⟩
  · rw [h.has, take_any hj]
    by_cases ht : l[j].1 = t
    · rw [ht] at hs; simp [hs]
    · simp [ht]
  · by_cases e : i = j
    · subst e
      obtain ⟨i', hi', hlt, he⟩ := seen_ex hs
      have := h.elem i' hi' hlt z
      rw [he] at this
      exact this
    · exact h.elem i hi (by omega) z
theorem place_new {T S : Type} [DecidableEq T] {l : List (T × S)} {j : Nat} (hj : j < l.length) (hs : ((l.take j).any fun p => p.1 == l[j].1) = false) : place l l[j].1 = j := by
  refine Nat.le_antisymm (place_le hj) ?_
  rcases Nat.lt_or_ge (place l l[j].1) j with h | h
  · exfalso
    have h1 : ((l.take j).any fun p => p.1 == l[j].1) = true := by
      rw [List.any_eq_true]
      refine ⟨l[place l l[j].1]'(place_lt hj), ?_, by rw [place_thing hj]; simp⟩
      exact List.mem_take_iff_getElem.2 ⟨place l l[j].1, by have := place_lt hj; omega, rfl⟩
    rw [hs] at h1; cases h1
  · exact h
theorem told_put {T S : Type} [DecidableEq T] {kl : T → Lit} (hinj : ∀ a b, kl a = kl b → a = b) (hkey : ∀ a, Go.WideAt.IsKeyLit (kl a)) {l : List (T × S)} {j : Nat} {D : DataW Unit} (hD : Maps.IsMap D) (h : Told kl l j D) (hj : j < l.length) (hs : ((l.take j).any fun p => p.1 == l[j].1) = false) :
    Told kl l (j + 1) (D.put (kl l[j].1) (.lit (.int .i64 (j : Int)))) := by
  have hpl := place_new hj hs
  refine ⟨fun t => ?_, fun i hi hij z => ?_⟩
  · rw [take_any hj]
    by_cases ht : l[j].1 = t
    · rw [← ht, Maps.has_put_same hD (hkey _)]; simp
    · rw [Maps.has_put_other (fun e => ht (hinj _ _ e).symm), h.has]; simp [ht]
  · by_cases ht : l[i].1 = l[j].1
    · rw [ht, Maps.atKey_put_same hD (hkey _), hpl]
    · have hij' : i < j := by
        rcases Nat.lt_or_ge i j with q | q
        · exact q
        · exfalso; have : i = j := by omega
          subst this; exact ht rfl
      rw [Maps.atKey_put_other (fun e => ht (hinj _ _ e))]
      exact h.elem i hi hij' z
end Go.Proofs.Ytddmogggdckneaa.Watch
