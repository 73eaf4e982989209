/- What a law holds while it calls: its variables, its rows of files. -/
import Derived.Test.YtpkkejpidlkmnaaPutRaw4
import Derived.Test.YtpkkejpidlkmnaaTo
import Derived.Test.YtpkkejpidlkmnaaEq
namespace Go.Proofs.Ytpkkejpidlkmnaa
open Go.RowKit

structure LawSt (w : World) (bs : List (Nat × Obj)) (rows : List (Value × List FileL)) (W : World) : Prop where
  below : Below w.heap.size w W
  has : ∀ p ∈ bs, W.heap[p.1]? = some p.2
  own : ∀ p ∈ rows, W.ownsRow w.heap.size 68 2 p.1 p.2.length (cellsF p.2)
  sep : ∀ p ∈ bs, ∀ q ∈ rows, q.1.ownBlock ≠ some p.1
  apart : rows.Pairwise fun p q => p.1.ownBlock = none ∨ p.1.ownBlock ≠ q.1.ownBlock
  dist : bs.Pairwise fun p q => p.1 ≠ q.1
  up : ∀ p ∈ bs, w.heap.size ≤ p.1
theorem LawSt.bsz {w W : World} {bs : List (Nat × Obj)} {rows : List (Value × List FileL)} (h : LawSt w bs rows W) : ∀ p ∈ bs, p.1 < W.heap.size := fun p hp => (Array.getElem?_eq_some_iff.1 (h.has p hp)).1
theorem LawSt.rsz {w W : World} {bs : List (Nat × Obj)} {rows : List (Value × List FileL)} (h : LawSt w bs rows W) : ∀ q ∈ rows, ∀ k, q.1.ownBlock = some k → k < W.heap.size := fun q hq k hk => ((h.own q hq).lt k hk).2
theorem LawSt.step {w W W' : World} {bs : List (Nat × Obj)} {rows : List (Value × List FileL)} (h : LawSt w bs rows W) (hb : Below W.heap.size W W') : LawSt w bs rows W' :=
  ⟨h.below.trans (hb.mono h.below.size), fun p hp => (hb.block _ (h.bsz p hp)).trans (h.has p hp), fun p hp => own_kept (h.own p hp) hb, h.sep, h.apart, h.dist, h.up⟩
theorem LawSt.drew {w W : World} {bs : List (Nat × Obj)} {rows : List (Value × List FileL)} (h : LawSt w bs rows W) : LawSt w bs rows W.drew := ⟨h.below.drew, h.has, h.own, h.sep, h.apart, h.dist, h.up⟩
theorem LawSt.alloc {w W : World} {bs : List (Nat × Obj)} {rows : List (Value × List FileL)} (h : LawSt w bs rows W) (o : Obj) : LawSt w ((W.heap.size, o) :: bs) rows (W.alloc o) := by
  have hb : Below W.heap.size W (W.alloc o) := (Below.refl _ _).alloc (Nat.le_refl _) _
  have h2 := h.step hb
  refine ⟨h2.below, fun p hp => ?_, h2.own, fun p hp q hq => ?_, h.apart, List.Pairwise.cons (fun q hq => by have := h.bsz q hq; simp only; omega) h.dist, fun p hp => ?_⟩
  · rcases List.mem_cons.1 hp with rfl | hp
    · exact heap_alloc_new W o
    · exact h2.has p hp
  · rcases List.mem_cons.1 hp with rfl | hp
    · intro e
      have := h.rsz q hq _ e
      exact Nat.lt_irrefl _ this
    · exact h.sep p hp q hq
  · rcases List.mem_cons.1 hp with rfl | hp
    · exact h.below.size
    · exact h.up p hp
/-- A call that answers with a row of its own. -/
theorem LawSt.call {w W W' : World} {bs : List (Nat × Obj)} {rows : List (Value × List FileL)} (h : LawSt w bs rows W) (hb : Below W.heap.size W W') {v : Value} {l : List FileL} (hv : W'.ownsRow W.heap.size 68 2 v l.length (cellsF l)) : LawSt w bs ((v, l) :: rows) W' := by
  have h2 := h.step hb
  refine ⟨h2.below, h2.has, fun p hp => ?_, fun p hp q hq => ?_, List.Pairwise.cons (fun q hq => ?_) h.apart, h.dist, h.up⟩
  · rcases List.mem_cons.1 hp with rfl | hp
    · exact own_mono hv h.below.size
    · exact h2.own p hp
  · rcases List.mem_cons.1 hq with rfl | hq
    · intro e
      have h3 := (hv.lt _ e).1
      have h4 := h.bsz p hp
      omega
    · exact h.sep p hp q hq
  · cases e : v.ownBlock with
    | none => exact Or.inl rfl
    | some k =>
      right
      intro e2
      have h3 := (hv.lt _ e).1
      have h4 := h.rsz q hq k e2.symm
      omega
/-- A variable is set. -/
theorem LawSt.set {w W : World} {bs : List (Nat × Obj)} {rows : List (Value × List FileL)} {b : Nat} {x : Value} {t : TypeId} (h : LawSt w ((b, Obj.cells #[x] t (0, 0)) :: bs) rows W) (v : Value) : LawSt w ((b, .cells #[v] t (0, 0)) :: bs) rows (W.setCell ⟨b, 0, none⟩ v) := by
  have hd := (List.pairwise_cons.1 h.dist)
  refine ⟨h.below.setCell (h.up _ (List.Mem.head _)) _, fun p hp => ?_, fun p hp => own_set (h.own p hp) b 0 v (h.sep _ (List.Mem.head _) p hp), fun p hp q hq => ?_, h.apart, List.Pairwise.cons (fun q hq => hd.1 q hq) hd.2, fun p hp => ?_⟩
  · rcases List.mem_cons.1 hp with rfl | hp
    · have := heap_setCell_same W b 0 _ t v (h.has _ (List.Mem.head _))
      simpa using this
    · exact (Below.heap_setCell W ⟨b, 0, none⟩ v p.1 (fun e => hd.1 p hp e.symm)).trans (h.has p (List.mem_cons_of_mem _ hp))
  · rcases List.mem_cons.1 hp with rfl | hp
    · exact h.sep (b, Obj.cells #[x] t (0, 0)) (List.Mem.head _) q hq
    · exact h.sep p (List.mem_cons_of_mem _ hp) q hq
  · rcases List.mem_cons.1 hp with rfl | hp
    · exact h.up (b, Obj.cells #[x] t (0, 0)) (List.Mem.head _)
    · exact h.up p (List.mem_cons_of_mem _ hp)
/-- One row is marked: what else there is stays. -/
theorem LawSt.mark {w W W' : World} {bs : List (Nat × Obj)} {rows : List (Value × List FileL)} (h : LawSt w bs rows W) {v : Value} {l l' : List FileL} (hm : (v, l) ∈ rows) (hg : W.grownBy W' v.ownBlock) (hv : W'.ownsRow w.heap.size 68 2 v l'.length (cellsF l'))
    (rest : List (Value × List FileL)) (hrest : ∀ p ∈ rest, p ∈ rows ∧ (p.1.ownBlock = none ∨ p.1.ownBlock ≠ v.ownBlock)) (hpw : rest.Pairwise fun p q => p.1.ownBlock = none ∨ p.1.ownBlock ≠ q.1.ownBlock) : LawSt w bs ((v, l') :: rest) W' := by
  refine ⟨h.below.grown hg h.below.size (fun j hj => (hv.lt j hj).1), fun p hp => (hg.block _ (h.bsz p hp) (fun e => h.sep p hp _ hm e.symm)).trans (h.has p hp), fun p hp => ?_, fun p hp q hq => ?_, List.Pairwise.cons (fun q hq => ?_) hpw, h.dist, h.up⟩
  · rcases List.mem_cons.1 hp with rfl | hp
    · exact hv
    · exact (h.own p (hrest p hp).1).kept hg (hrest p hp).2
  · rcases List.mem_cons.1 hq with rfl | hq
    · exact h.sep p hp (v, l) hm
    · exact h.sep p hp q (hrest q hq).1
  · rcases (hrest q hq).2 with h1 | h1
    · cases e : v.ownBlock with
      | none => exact Or.inl rfl
      | some k => right; rw [h1]; simp
    · exact Or.inr (fun e => h1 e.symm)
theorem LawSt.cell {w W : World} {bs : List (Nat × Obj)} {rows : List (Value × List FileL)} (h : LawSt w bs rows W) {b : Nat} {x : Value} {t : TypeId} (hm : (b, Obj.cells #[x] t (0, 0)) ∈ bs) : W.cell? ⟨b, 0, none⟩ = some x := cell_of_row _ _ 0 _ _ _ (h.has _ hm)
theorem LawSt.frozen {w W : World} {bs : List (Nat × Obj)} {rows : List (Value × List FileL)} (h : LawSt w bs rows W) {b : Nat} {x : Value} {t : TypeId} (hm : (b, Obj.cells #[x] t (0, 0)) ∈ bs) : W.frozen? ⟨b, 0, none⟩ = false := frozen_of_row _ _ _ _ _ (h.has _ hm)
theorem LawSt.raw {w W : World} {bs : List (Nat × Obj)} {rows : List (Value × List FileL)} (h : LawSt w bs rows W) {b : Nat} {K : Int} {N O X : ByteArray} {t : TypeId} (hm : (b, Obj.cells #[.int .i64 K, .string N, .string O, .string X] t (0, 0)) ∈ bs) :
    W.cell? ⟨b, 0, none⟩ = some (.int .i64 K) ∧ W.cell? ⟨b, 1, none⟩ = some (.string N) ∧ W.cell? ⟨b, 2, none⟩ = some (.string O) ∧ W.cell? ⟨b, 3, none⟩ = some (.string X) :=
  ⟨cell_of_row _ _ 0 _ _ _ (h.has _ hm), cell_of_row _ _ 1 _ _ _ (h.has _ hm), cell_of_row _ _ 2 _ _ _ (h.has _ hm), cell_of_row _ _ 3 _ _ _ (h.has _ hm)⟩
theorem LawSt.files {w W : World} {bs : List (Nat × Obj)} {rows : List (Value × List FileL)} (h : LawSt w bs rows W) {a : Option Addr} {n c : Nat} {l : List FileL} (hn : l.length = n) (hm : (Value.slice a n c, l) ∈ rows) : ∃ g, FilesAt W a g 0 l := by
  subst hn
  obtain ⟨a', g', c', e, hf⟩ := own_filesAt (h.own _ hm)
  have e1 : a = a' := by simpa using congrArg (fun v => match v with | Value.slice x _ _ => x | _ => none) e
  subst e1
  exact ⟨g', hf⟩
theorem LawSt.tail {w W : World} {bs : List (Nat × Obj)} {r : Value × List FileL} {rows : List (Value × List FileL)} (h : LawSt w bs (r :: rows) W) : LawSt w bs rows W :=
  ⟨h.below, h.has, fun p hp => h.own p (List.mem_cons_of_mem _ hp), fun p hp q hq => h.sep p hp q (List.mem_cons_of_mem _ hq), (List.pairwise_cons.1 h.apart).2, h.dist, h.up⟩
theorem LawSt.second {w W : World} {bs : List (Nat × Obj)} {r s : Value × List FileL} {rows : List (Value × List FileL)} (h : LawSt w bs (r :: s :: rows) W) : LawSt w bs (r :: rows) W :=
  ⟨h.below, h.has, fun p hp => h.own p (by rcases List.mem_cons.1 hp with rfl | hp <;> simp [*]), fun p hp q hq => h.sep p hp q (by rcases List.mem_cons.1 hq with rfl | hq <;> simp [*]),
    List.Pairwise.cons (fun q hq => (List.pairwise_cons.1 h.apart).1 q (List.mem_cons_of_mem _ hq)) (List.pairwise_cons.1 (List.pairwise_cons.1 h.apart).2).2, h.dist, h.up⟩
theorem LawSt.start (w : World) (x y : Obj) : LawSt w [(w.heap.size + 1, y), (w.heap.size, x)] [] ((w.alloc x).alloc y) := by
  refine ⟨((Below.refl _ _).alloc (Nat.le_refl _) _).alloc (by simp) _, fun p hp => ?_, fun p hp => (List.not_mem_nil hp).elim, fun p _ q hq => (List.not_mem_nil hq).elim, List.Pairwise.nil, by simp, fun p hp => by rcases List.mem_cons.1 hp with rfl | hp; exact Nat.le_succ _; obtain rfl := List.mem_singleton.1 hp; exact Nat.le_refl _⟩
  simp only [List.mem_cons, List.not_mem_nil, or_false] at hp
  rcases hp with rfl | rfl
  · have := heap_alloc_new (w.alloc x) y
    simpa using this
  · show ((w.alloc x).alloc y).heap[w.heap.size]? = some x
    rw [Below.heap_alloc _ _ _ (by simp)]
    exact heap_alloc_new w x
/-- The middle one of three rows is marked. -/
theorem LawSt.markMid {w W W' : World} {bs : List (Nat × Obj)} {u v x : Value} {l lu lx l' : List FileL} (h : LawSt w bs [(u, lu), (v, l), (x, lx)] W) (hn : v.ownBlock ≠ none) (hg : W.grownBy W' v.ownBlock) (hv : W'.ownsRow w.heap.size 68 2 v l'.length (cellsF l')) : LawSt w bs [(v, l'), (u, lu), (x, lx)] W' := by
  have hp := h.apart
  simp only [List.pairwise_cons, List.mem_cons, List.not_mem_nil, or_false, forall_eq_or_imp, forall_eq] at hp
  obtain ⟨⟨huv, hux⟩, hvx, _⟩ := hp
  refine h.mark (v := v) (l := l) (by simp) hg hv [(u, lu), (x, lx)] (fun p hp => ?_) ?_
  · simp only [List.mem_cons, List.not_mem_nil, or_false] at hp
    rcases hp with rfl | rfl
    · exact ⟨by simp, huv⟩
    · refine ⟨by simp, Or.inr fun e => ?_⟩
      rcases hvx with h1 | h1
      · exact hn h1
      · exact h1 e.symm
  · simp only [List.pairwise_cons, List.mem_cons, List.not_mem_nil, or_false, forall_eq]
    exact ⟨hux, by simp⟩
/-- The second of three rows is marked, which may be none. -/
theorem LawSt.markSnd {w W W' : World} {bs : List (Nat × Obj)} {u v x : Value} {l lu lx l' : List FileL} (h : LawSt w bs [(v, l), (u, lu), (x, lx)] W) (hg : W.grownBy W' u.ownBlock) (hu : W'.ownsRow w.heap.size 68 2 u l'.length (cellsF l')) (hux : u.ownBlock = none ∨ u.ownBlock ≠ x.ownBlock) : LawSt w bs [(u, l'), (x, lx)] W' := by
  refine h.mark (v := u) (l := lu) (by simp) hg hu [(x, lx)] (fun p hp => ?_) (by simp)
  obtain rfl := List.mem_singleton.1 hp
  refine ⟨by simp, ?_⟩
  cases e : x.ownBlock with
  | none => exact Or.inl rfl
  | some k =>
    right
    intro e2
    rcases hux with h1 | h1
    · rw [h1] at e2; cases e2
    · exact h1 (by rw [e, ← e2])
theorem put_ok_len (l : List FileL) (r : Disks.RawL) : ((Disks.putRaw l r).getD []).length ≤ 30 := by
  cases h : Disks.putRaw l r with
  | none => exact Nat.zero_le _
  | some l' =>
    obtain ⟨_, h2, rfl⟩ := Disks.putRaw_some h
    exact h2.1
end Go.Proofs.Ytpkkejpidlkmnaa
