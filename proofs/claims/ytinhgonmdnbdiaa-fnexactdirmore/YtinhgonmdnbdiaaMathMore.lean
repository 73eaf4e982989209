/- Plain facts on directories behind spots: one spot put in, or taken out; no program is named here. -/
import Derived.Test.YtinhgonmdnbdiaaMathDir
namespace Go.Proofs.Ytinhgonmdnbdiaa
set_option linter.unusedVariables false
namespace Dirs
open Go
open Batches (by_ lt lt_iff lt_irrefl lt_trans lt_total lt_asymm by_inj)
def asc (l : List SpotL) : Prop := l.Pairwise fun e f => lt e.key f.key = true
def put1 (l : List SpotL) (x : SpotL) : List SpotL := l.filter (fun y => lt y.key x.key) ++ ((if x.size = -1 then [] else [x]) ++ l.filter (fun y => lt x.key y.key))
def more : List SpotL → List SpotL → List SpotL
  | l, [] => l
  | l, x :: xs => more (put1 l x) xs
theorem more_snoc : ∀ (xs l : List SpotL) (x : SpotL), more l (xs ++ [x]) = put1 (more l xs) x
  | [], l, x => rfl
  | y :: xs, l, x => by rw [List.cons_append, more, more, more_snoc xs]
theorem more_take {l xs : List SpotL} {k : Nat} (hk : k < xs.length) : more l (xs.take (k + 1)) = put1 (more l (xs.take k)) xs[k] := by
  rw [List.take_succ_eq_append_getElem hk, more_snoc]
theorem more_nil (l : List SpotL) : more l [] = l := rfl
theorem ne_lt {a b : ByteArray} (h : a ≠ b) : lt a b = true ∨ lt b a = true := by
  cases h1 : lt a b
  · cases h2 : lt b a
    · exact absurd (lt_total h1 h2) h
    · exact Or.inr rfl
  · exact Or.inl rfl
theorem put1_mem {l : List SpotL} {x y : SpotL} : y ∈ put1 l x ↔ (y ∈ l ∧ y.key ≠ x.key) ∨ (x.size ≠ -1 ∧ y = x) := by
  unfold put1
  simp only [List.mem_append, List.mem_filter]
  constructor
  · rintro (⟨h1, h2⟩ | h | ⟨h1, h2⟩)
    · exact Or.inl ⟨h1, fun e => by rw [e, lt_irrefl] at h2; cases h2⟩
    · split at h
      · exact (List.not_mem_nil h).elim
      · rename_i hs; exact Or.inr ⟨hs, List.mem_singleton.1 h⟩
    · exact Or.inl ⟨h1, fun e => by rw [e, lt_irrefl] at h2; cases h2⟩
  · rintro (⟨h1, h2⟩ | ⟨h1, rfl⟩)
    · rcases ne_lt h2 with h | h
      · exact Or.inl ⟨h1, h⟩
      · exact Or.inr (Or.inr ⟨h1, h⟩)
    · exact Or.inr (Or.inl (by rw [if_neg h1]; simp))
theorem asc_put1 {l : List SpotL} (h : asc l) (x : SpotL) : asc (put1 l x) := by
  unfold asc put1
  refine List.pairwise_append.2 ⟨h.filter _, List.pairwise_append.2 ⟨?_, h.filter _, ?_⟩, ?_⟩
  · split
    · exact List.Pairwise.nil
    · exact List.pairwise_singleton _ _
  · intro a ha b hb
    split at ha
    · exact (List.not_mem_nil ha).elim
    · rw [List.mem_singleton.1 ha]; exact (List.mem_filter.1 hb).2
  · intro a ha b hb
    have h1 : lt a.key x.key = true := (List.mem_filter.1 ha).2
    rcases List.mem_append.1 hb with hb | hb
    · split at hb
      · exact (List.not_mem_nil hb).elim
      · rw [List.mem_singleton.1 hb]; exact h1
    · exact lt_trans h1 (List.mem_filter.1 hb).2
theorem asc_more : ∀ (xs l : List SpotL), asc l → asc (more l xs)
  | [], l, h => h
  | x :: xs, l, h => asc_more xs _ (asc_put1 h x)
theorem two_filter (x : SpotL) : ∀ l : List SpotL, (l.filter (fun y => lt y.key x.key)).length + (l.filter (fun y => lt x.key y.key)).length ≤ l.length
  | [] => by simp
  | y :: l => by
    have ih := two_filter x l
    cases h1 : lt y.key x.key
    · cases h2 : lt x.key y.key
      · simp only [List.filter_cons, h1, h2, List.length_cons]
        simp only [Bool.false_eq_true, if_false]; omega
      · simp only [List.filter_cons, h1, h2, List.length_cons]
        simp only [Bool.false_eq_true, if_false, if_true, List.length_cons]; omega
    · have h2 : lt x.key y.key = false := lt_asymm h1
      simp only [List.filter_cons, h1, h2, List.length_cons]
      simp only [Bool.false_eq_true, if_false, if_true, List.length_cons]; omega
theorem put1_len (l : List SpotL) (x : SpotL) : (put1 l x).length ≤ l.length + 1 := by
  have := two_filter x l
  unfold put1
  simp only [List.length_append]
  have h2 : (if x.size = -1 then [] else [x]).length ≤ 1 := by split <;> simp
  omega
theorem more_len : ∀ (xs l : List SpotL), (more l xs).length ≤ l.length + xs.length
  | [], l => by simp [more]
  | x :: xs, l => by
    have := more_len xs (put1 l x)
    have := put1_len l x
    rw [more, List.length_cons]
    omega
theorem more_take_len {l xs : List SpotL} (k : Nat) : (more l (xs.take k)).length ≤ l.length + xs.length := by
  have := more_len (xs.take k) l
  rw [List.length_take] at this
  omega
theorem more_all {p : SpotL → Prop} : ∀ (xs l : List SpotL), (∀ c ∈ l, p c) → (∀ c ∈ xs, p c) → ∀ c ∈ more l xs, p c
  | [], l, h1, _ => h1
  | x :: xs, l, h1, h2 => more_all xs _ (fun c hc => by
      rcases put1_mem.1 hc with ⟨h, _⟩ | ⟨_, rfl⟩
      · exact h1 c h
      · exact h2 _ List.mem_cons_self) (fun c hc => h2 c (List.mem_cons_of_mem _ hc))
theorem put1_last {l : List SpotL} {x : SpotL} (h : ∀ y ∈ l, lt y.key x.key = true) (hx : x.size ≠ -1) : put1 l x = l ++ [x] := by
  unfold put1
  rw [List.filter_eq_self.2 h, if_neg hx, List.filter_eq_nil_iff.2 (fun y hy => by rw [lt_asymm (h y hy)]; simp)]
  simp
theorem more_self {l : List SpotL} (h : asc l) (hs : ∀ c ∈ l, c.size ≠ -1) : more [] l = l := by
  have key : ∀ k, k ≤ l.length → more [] (l.take k) = l.take k := by
    intro k
    induction k with
    | zero => intro _; simp [more]
    | succ k ih =>
      intro hk
      have hlt : k < l.length := by omega
      rw [more_take hlt, ih (by omega), put1_last (fun y hy => ?_) (hs _ (List.getElem_mem _)), List.take_succ_eq_append_getElem hlt]
      obtain ⟨i, hi, rfl⟩ := List.getElem_of_mem hy
      rw [List.getElem_take]
      rw [List.length_take] at hi
      exact List.pairwise_iff_getElem.1 h i k _ _ (by omega)
  have := key l.length (Nat.le_refl _)
  rwa [List.take_length] at this
theorem ok_asc {l : List SpotL} (h : ok l) : asc l := by
  refine List.pairwise_iff_getElem.2 ?_
  have step : ∀ i j (hi : i < l.length) (hj : j < l.length), i < j → lt l[i].key l[j].key = true := by
    intro i j
    induction j with
    | zero => intro _ _ h; omega
    | succ j ih =>
      intro hi hj hij
      obtain ⟨_, _, q⟩ := h.2 (j + 1) hj
      obtain ⟨q1, q2⟩ := q (by omega)
      simp only [Nat.add_sub_cancel] at q2
      rcases Nat.lt_succ_iff_lt_or_eq.1 hij with hh | hh
      · exact lt_trans (ih hi (by omega) hh) q2
      · subst hh; exact q2
  exact step
theorem ok_size {l : List SpotL} (h : ok l) : ∀ c ∈ l, c.size ≠ -1 := fun c hc => by
  obtain ⟨_, _, _, h4, _⟩ := ok_mem h c hc
  omega
theorem asc_nodup {l : List SpotL} (h : asc l) : (l.map fun f => by_ f.key).Nodup := List.pairwise_map.2 (List.Pairwise.imp (fun {a b} hab e => by rw [by_inj e, lt_irrefl] at hab; cases hab) h)
theorem asc_unique {l : List SpotL} (h : asc l) {a b : SpotL} (ha : a ∈ l) (hb : b ∈ l) (e : a.key = b.key) : a = b := by
  obtain ⟨i, hi, rfl⟩ := List.getElem_of_mem ha
  obtain ⟨j, hj, rfl⟩ := List.getElem_of_mem hb
  have h1 := List.pairwise_iff_getElem.1 h
  rcases Nat.lt_trichotomy i j with q | q | q
  · have := h1 i j hi hj q; rw [e, lt_irrefl] at this; cases this
  · subst q; rfl
  · have := h1 j i hj hi q; rw [e, lt_irrefl] at this; cases this
/-- What DirMore is to answer. -/
def MoreIs (l xs cs : List SpotL) (R : Bool) : Prop := (ok l ∧ ok (more l xs) ∧ cs = more l xs ∧ R = true) ∨ (¬ (ok l ∧ ok (more l xs)) ∧ cs = [] ∧ R = false)
end Dirs
end Go.Proofs.Ytinhgonmdnbdiaa
