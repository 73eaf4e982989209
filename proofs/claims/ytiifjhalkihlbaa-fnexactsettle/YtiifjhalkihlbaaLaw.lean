/- What a law holds while it calls: its variables' blocks and its rows, apart from each other; rows of whatever elements. -/
import Derived.Test.YtiifjhalkihlbaaKit
namespace Go.Proofs.Ytiifjhalkihlbaa
open Go.RowKit
set_option linter.unusedVariables false

/-- A slice of the law's own: n elements of z cells of type e. -/
structure RowD where
  v : Value
  e : TypeId
  z : Nat
  n : Nat
  xs : List Value
structure LawS (w : World) (bs : List (Nat × Obj)) (rows : List RowD) (W : World) : Prop where
  below : Below w.heap.size w W
  has : ∀ p ∈ bs, W.heap[p.1]? = some p.2
  own : ∀ r ∈ rows, W.ownsRow w.heap.size r.e r.z r.v r.n r.xs
  sep : ∀ p ∈ bs, ∀ r ∈ rows, r.v.ownBlock ≠ some p.1
  apart : rows.Pairwise fun r s => r.v.ownBlock = none ∨ r.v.ownBlock ≠ s.v.ownBlock
  dist : bs.Pairwise fun p q => p.1 ≠ q.1
  up : ∀ p ∈ bs, w.heap.size ≤ p.1
theorem LawS.bsz {w W : World} {bs : List (Nat × Obj)} {rows : List RowD} (h : LawS w bs rows W) : ∀ p ∈ bs, p.1 < W.heap.size := fun p hp => (Array.getElem?_eq_some_iff.1 (h.has p hp)).1
theorem LawS.rsz {w W : World} {bs : List (Nat × Obj)} {rows : List RowD} (h : LawS w bs rows W) : ∀ r ∈ rows, ∀ k, r.v.ownBlock = some k → k < W.heap.size := fun r hr k hk => ((h.own r hr).lt k hk).2
theorem LawS.start (w : World) : LawS w [] [] w :=
  ⟨Below.refl _ _, fun p hp => (List.not_mem_nil hp).elim, fun p hp => (List.not_mem_nil hp).elim, fun p hp => (List.not_mem_nil hp).elim, List.Pairwise.nil, List.Pairwise.nil, fun p hp => (List.not_mem_nil hp).elim⟩
theorem LawS.step {w W W' : World} {bs : List (Nat × Obj)} {rows : List RowD} (h : LawS w bs rows W) (hb : Below W.heap.size W W') : LawS w bs rows W' :=
  ⟨h.below.trans (hb.mono h.below.size), fun p hp => (hb.block _ (h.bsz p hp)).trans (h.has p hp), fun p hp => own_kept (h.own p hp) hb, h.sep, h.apart, h.dist, h.up⟩
theorem LawS.alloc {w W : World} {bs : List (Nat × Obj)} {rows : List RowD} (h : LawS w bs rows W) (o : Obj) : LawS w ((W.heap.size, o) :: bs) rows (W.alloc o) := by
  have hb : Below W.heap.size W (W.alloc o) := (Below.refl _ _).alloc (Nat.le_refl _) _
  have h2 := h.step hb
  refine ⟨h2.below, fun p hp => ?_, h2.own, fun p hp q hq => ?_, h.apart, List.Pairwise.cons (fun q hq => by have := h.bsz q hq; simp only; omega) h.dist, fun p hp => ?_⟩
  · rcases List.mem_cons.1 hp with rfl | hp
    · exact heap_alloc_new W o
    · exact h2.has p hp
  · rcases List.mem_cons.1 hp with rfl | hp
    · intro e
      have := h.rsz q hq _ e
      exact Nat.lt_irrefl _ this
    · exact h.sep p hp q hq
  · rcases List.mem_cons.1 hp with rfl | hp
    · exact h.below.size
    · exact h.up p hp
theorem pair_get {α : Type} {R : α → α → Prop} {l : List α} (h : l.Pairwise R) {i j : Nat} {x y : α} (hi : l[i]? = some x) (hj : l[j]? = some y) (hij : i < j) : R x y := by
  obtain ⟨h1, rfl⟩ := List.getElem?_eq_some_iff.1 hi
  obtain ⟨h2, rfl⟩ := List.getElem?_eq_some_iff.1 hj
  exact List.pairwise_iff_getElem.1 h i j h1 h2 hij
/-- The row at i is written: what else there is stays. -/
theorem LawS.mark {w W W' : World} {bs : List (Nat × Obj)} {rows : List RowD} (h : LawS w bs rows W) (i : Nat) {r : RowD} (hi : rows[i]? = some r) (hg : W.grownBy W' r.v.ownBlock) {xs : List Value} (hv : W'.ownsRow w.heap.size r.e r.z r.v r.n xs) : LawS w bs (rows.set i ⟨r.v, r.e, r.z, r.n, xs⟩) W' := by
  have hr : r ∈ rows := List.mem_of_getElem? hi
  have hil : i < rows.length := (List.getElem?_eq_some_iff.1 hi).1
  have key : ∀ j s, (rows.set i ⟨r.v, r.e, r.z, r.n, xs⟩)[j]? = some s → (j = i ∧ s = ⟨r.v, r.e, r.z, r.n, xs⟩) ∨ (j ≠ i ∧ rows[j]? = some s) := fun j s hs => by
    by_cases hji : j = i
    · subst hji
      rw [List.getElem?_set_self hil] at hs
      exact Or.inl ⟨rfl, (Option.some.inj hs).symm⟩
    · rw [List.getElem?_set_ne (fun e => hji e.symm)] at hs
      exact Or.inr ⟨hji, hs⟩
  have far : ∀ j s, j ≠ i → rows[j]? = some s → s.v.ownBlock = none ∨ s.v.ownBlock ≠ r.v.ownBlock := fun j s hji hs => by
    rcases Nat.lt_or_gt_of_ne hji with q | q
    · exact pair_get h.apart hs hi q
    · rcases pair_get h.apart hi hs q with e | e
      · cases es : s.v.ownBlock with
        | none => exact Or.inl rfl
        | some k => right; rw [e]; simp
      · exact Or.inr (fun e2 => e e2.symm)
  refine ⟨h.below.grown hg h.below.size (fun j hj => (hv.lt j hj).1), fun p hp => (hg.block _ (h.bsz p hp) (fun e => h.sep p hp r hr e.symm)).trans (h.has p hp), fun s hs => ?_, fun p hp s hs => ?_, List.pairwise_iff_getElem.2 fun a b ha hb hab => ?_, h.dist, h.up⟩
  · obtain ⟨j, hj⟩ := List.getElem?_of_mem hs
    rcases key j s hj with ⟨_, rfl⟩ | ⟨hji, hj2⟩
    · exact hv
    · exact (h.own s (List.mem_of_getElem? hj2)).kept hg (far j s hji hj2)
  · obtain ⟨j, hj⟩ := List.getElem?_of_mem hs
    rcases key j s hj with ⟨_, rfl⟩ | ⟨_, hj2⟩
    · exact h.sep p hp r hr
    · exact h.sep p hp s (List.mem_of_getElem? hj2)
  · have ea := key a _ (List.getElem?_eq_getElem ha)
    have eb := key b _ (List.getElem?_eq_getElem hb)
    rcases ea with ⟨e1, e2⟩ | ⟨e1, e2⟩ <;> rcases eb with ⟨q1, q2⟩ | ⟨q1, q2⟩
    · omega
    · rw [e2]
      subst e1
      have := pair_get h.apart hi q2 hab
      exact this
    · rw [q2]
      subst q1
      have := pair_get h.apart e2 hi hab
      exact this
    · exact pair_get h.apart e2 q2 hab
end Go.Proofs.Ytiifjhalkihlbaa
