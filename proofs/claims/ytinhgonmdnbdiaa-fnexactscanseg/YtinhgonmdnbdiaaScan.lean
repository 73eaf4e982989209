/- What a scan of a segment holds in memory; the call of spotOf, walked. -/
import Derived.Test.YtinhgonmdnbdiaaMathScan
import Derived.Test.YtinhgonmdnbdiaaTexts
import Derived.Test.YtinhgonmdnbdiaaRdDir
import Derived.Test.YtinhgonmdnbdiaaImplRead
namespace Go.Proofs.Ytinhgonmdnbdiaa
open Go.RowKit
set_option linter.unusedVariables false

/-- What is kept: blocks below B but sb; blocks that are of other kinds than the two rows. -/
structure Kp (B sb : Nat) (W W' : World) : Prop where
  os : W'.os = W.os
  tape : W'.tape = W.tape
  output : W'.output = W.output
  size : W.heap.size ≤ W'.heap.size
  low : ∀ k, k < B → k ≠ sb → W'.heap[k]? = W.heap[k]?
  typ : ∀ (k : Nat) (cs : Array Value) (t : TypeId), W.heap[k]? = some (.cells cs t (0, 0)) → t ≠ 56 → t ≠ 9 → k ≠ sb → W'.heap[k]? = some (.cells cs t (0, 0))
section
variable {B sb : Nat} {W W' W'' : World}
theorem Kp.refl : Kp B sb W W := ⟨rfl, rfl, rfl, Nat.le_refl _, fun _ _ _ => rfl, fun _ _ _ h _ _ _ => h⟩
theorem Kp.trans (h : Kp B sb W W') (h2 : Kp B sb W' W'') : Kp B sb W W'' :=
  ⟨h2.os.trans h.os, h2.tape.trans h.tape, h2.output.trans h.output, Nat.le_trans h.size h2.size, fun k hk hn => (h2.low k hk hn).trans (h.low k hk hn), fun k cs t hk h1 h3 h4 => h2.typ k cs t (h.typ k cs t hk h1 h3 h4) h1 h3 h4⟩
theorem Kp.of_below (hB : B ≤ W.heap.size) (h : Below W.heap.size W W') : Kp B sb W W' :=
  ⟨h.os, h.tape, h.output, h.size, fun k hk _ => h.block k (by omega), fun k cs t hk _ _ _ => (h.block k (Array.getElem?_eq_some_iff.1 hk).1).trans hk⟩
theorem Kp.of_row {ty z n : Nat} {v : Value} {xs : List Value} (hB : B ≤ W.heap.size) (ho : W.ownsRow B ty z v n xs) (ht : ty = 56 ∨ ty = 9) (h : W.grownBy W' v.ownBlock) : Kp B sb W W' :=
  ⟨h.os, h.tape, h.output, h.size, fun k hk _ => h.block k (by omega) (fun e => by have := (ho.lt k e.symm).1; omega), fun k cs t hk h1 h2 _ => (h.block k (Array.getElem?_eq_some_iff.1 hk).1 (fun e => own_not ho hk (by rcases ht with q | q <;> rw [q] <;> first | exact fun e => h1 e.symm | exact fun e => h2 e.symm) e.symm)).trans hk⟩
theorem Kp.of_set (j : Nat) (x : Value) : Kp B sb W (W.setCell ⟨sb, j, none⟩ x) := by
  have h := grown_set W sb j x
  exact ⟨h.os, h.tape, h.output, h.size, fun k hk hn => Below.heap_setCell W ⟨sb, j, none⟩ x k (by simpa using hn), fun k cs t hk _ _ hn => (Below.heap_setCell W ⟨sb, j, none⟩ x k (by simpa using hn)).trans hk⟩
theorem Kp.below {w : World} (h : Kp B sb W W') (hb : Below w.heap.size w W) (h1 : w.heap.size ≤ B) (h2 : w.heap.size ≤ sb) : Below w.heap.size w W' :=
  ⟨h.os.trans hb.os, h.tape.trans hb.tape, h.output.trans hb.output, Nat.le_trans hb.size h.size, fun k hk => (h.low k (by omega) (by omega)).trans (hb.block k hk)⟩
end
theorem own_apart {W : World} {B1 B2 t1 t2 z1 z2 n1 n2 : Nat} {u v : Value} {xs ys : List Value} (h1 : W.ownsRow B1 t1 z1 u n1 xs) (h2 : W.ownsRow B2 t2 z2 v n2 ys) (hne : t1 ≠ t2) : ∀ g, u.ownBlock = some g → v.ownBlock ≠ some g := by
  intro g hg
  rcases h1.2 with ⟨q, _⟩ | ⟨g', cap', cur', q1, _, q2, _⟩
  · rw [q] at hg; simp [Value.ownBlock] at hg
  · rw [q1] at hg
    obtain rfl : g' = g := by simpa [Value.ownBlock] using hg
    exact own_not h2 q2 (fun e => hne e.symm)
theorem own_other {W W' : World} {B1 B2 t1 t2 z1 z2 n1 n2 : Nat} {u v : Value} {xs ys : List Value} (h1 : W.ownsRow B1 t1 z1 u n1 xs) (h2 : W.ownsRow B2 t2 z2 v n2 ys) (hne : t1 ≠ t2) (hg : W.grownBy W' v.ownBlock) : W'.ownsRow B1 t1 z1 u n1 xs := by
  refine h1.kept hg ?_
  cases e : u.ownBlock with
  | none => exact Or.inl rfl
  | some g => exact Or.inr (fun q => own_apart h1 h2 hne g e q.symm)
/-- The scan s in its block: its spots, its texts, its stamp, its end. -/
structure Sc (B sb : Nat) (seg : Int) (v1 : Value) (sp : List SpotL) (v2 : Value) (tx : List (List UInt8)) (stamp : Int) (e : Nat) (W : World) : Prop where
  blk : W.heap[sb]? = some (.cells #[.int .i64 seg, v1, v2, .int .i64 stamp, .int .i64 (e : Int)] 58 (0, 0))
  own1 : W.ownsRow B 56 4 v1 sp.length (cellsSpot sp)
  own2 : W.ownsRow B 9 1 v2 tx.length (cellsS tx)
  lo : sb < B
  up : B ≤ W.heap.size
section
variable {B sb : Nat} {seg : Int} {v1 v1' v2 v2' : Value} {sp : List SpotL} {tx : List (List UInt8)} {stamp : Int} {e : Nat} {W W' : World}
theorem Sc.same (h : Sc B sb seg v1 sp v2 tx stamp e W) (hb : Below W.heap.size W W') : Sc B sb seg v1 sp v2 tx stamp e W' :=
  ⟨(hb.block sb (Array.getElem?_eq_some_iff.1 h.blk).1).trans h.blk, own_kept h.own1 hb, own_kept h.own2 hb, h.lo, Nat.le_trans h.up hb.size⟩
theorem Sc.alloc (h : Sc B sb seg v1 sp v2 tx stamp e W) (o : Obj) : Sc B sb seg v1 sp v2 tx stamp e (W.alloc o) := h.same ((Below.refl _ _).alloc (Nat.le_refl _) _)
theorem Sc.drew (h : Sc B sb seg v1 sp v2 tx stamp e W) : Sc B sb seg v1 sp v2 tx stamp e W.drew := ⟨h.blk, h.own1, h.own2, h.lo, h.up⟩
theorem Sc.fz (h : Sc B sb seg v1 sp v2 tx stamp e W) (i : Nat) : W.frozen? ⟨sb, i, none⟩ = false := frozen_of_row _ _ _ _ _ h.blk
theorem Sc.c0 (h : Sc B sb seg v1 sp v2 tx stamp e W) : W.cell? ⟨sb, 0, none⟩ = some (.int .i64 seg) := cell_of_row _ _ 0 _ _ _ h.blk
theorem Sc.c1 (h : Sc B sb seg v1 sp v2 tx stamp e W) : W.cell? ⟨sb, 1, none⟩ = some v1 := cell_of_row _ _ 1 _ _ _ h.blk
theorem Sc.c2 (h : Sc B sb seg v1 sp v2 tx stamp e W) : W.cell? ⟨sb, 2, none⟩ = some v2 := cell_of_row _ _ 2 _ _ _ h.blk
theorem Sc.c3 (h : Sc B sb seg v1 sp v2 tx stamp e W) : W.cell? ⟨sb, 3, none⟩ = some (.int .i64 stamp) := cell_of_row _ _ 3 _ _ _ h.blk
theorem Sc.c4 (h : Sc B sb seg v1 sp v2 tx stamp e W) : W.cell? ⟨sb, 4, none⟩ = some (.int .i64 (e : Int)) := cell_of_row _ _ 4 _ _ _ h.blk
theorem Sc.nb1 (h : Sc B sb seg v1 sp v2 tx stamp e W) : v1.ownBlock ≠ some sb := own_not h.own1 h.blk (by decide)
theorem Sc.nb2 (h : Sc B sb seg v1 sp v2 tx stamp e W) : v2.ownBlock ≠ some sb := own_not h.own2 h.blk (by decide)
/-- A spot is added. -/
theorem Sc.app1 (h : Sc B sb seg v1 sp v2 tx stamp e W) {c : SpotL} (hg : W.grownBy W' v1.ownBlock) (hown : W'.ownsRow B 56 4 v1' (sp.length + 1) (cellsSpot sp ++ [.string c.key, .int .i64 c.seg, .int .i64 c.pos, .int .i64 c.size])) :
    Sc B sb seg v1' (sp ++ [c]) v2 tx stamp e (W'.setCell ⟨sb, 1, none⟩ v1') := by
  have hb := grown_keep' h.blk hg h.nb1
  have h2 := own_other h.own2 h.own1 (by decide) hg
  have hs := heap_setCell_same W' sb 1 _ 58 v1' hb
  have hn : v1'.ownBlock ≠ some sb := own_not hown hb (by decide)
  refine ⟨by simpa using hs, own_set (ownSpot_snoc hown) _ _ _ hn, own_set h2 _ _ _ (own_not h2 hb (by decide)), h.lo, by have := Nat.le_trans h.up hg.size; simpa [World.setCell] using this⟩
/-- A text is added. -/
theorem Sc.app2 (h : Sc B sb seg v1 sp v2 tx stamp e W) {p : List UInt8} (hg : W.grownBy W' v2.ownBlock) (hown : W'.ownsRow B 9 1 v2' (tx.length + 1) (cellsS tx ++ [.string ⟨p.toArray⟩])) :
    Sc B sb seg v1 sp v2' (tx ++ [p]) stamp e (W'.setCell ⟨sb, 2, none⟩ v2') := by
  have hb := grown_keep' h.blk hg h.nb2
  have h1 := own_other h.own1 h.own2 (by decide) hg
  have hs := heap_setCell_same W' sb 2 _ 58 v2' hb
  have hn : v2'.ownBlock ≠ some sb := own_not hown hb (by decide)
  refine ⟨by simpa using hs, own_set h1 _ _ _ (own_not h1 hb (by decide)), own_set ?_ _ _ _ hn, h.lo, by have := Nat.le_trans h.up hg.size; simpa [World.setCell] using this⟩
  have e1 : cellsS (tx ++ [p]) = cellsS tx ++ [.string ⟨p.toArray⟩] := by rw [cellsS_app]; rfl
  rw [e1, List.length_append]
  exact hown
theorem Sc.stamped (h : Sc B sb seg v1 sp v2 tx stamp e W) (s : Int) : Sc B sb seg v1 sp v2 tx s e (W.setCell ⟨sb, 3, none⟩ (.int .i64 s)) := by
  have hs := heap_setCell_same W sb 3 _ 58 (.int .i64 s) h.blk
  exact ⟨by simpa using hs, own_set h.own1 _ _ _ h.nb1, own_set h.own2 _ _ _ h.nb2, h.lo, by have := h.up; simpa [World.setCell] using this⟩
theorem Sc.ended (h : Sc B sb seg v1 sp v2 tx stamp e W) (s : Nat) : Sc B sb seg v1 sp v2 tx stamp s (W.setCell ⟨sb, 4, none⟩ (.int .i64 (s : Int))) := by
  have hs := heap_setCell_same W sb 4 _ 58 (.int .i64 (s : Int)) h.blk
  exact ⟨by simpa using hs, own_set h.own1 _ _ _ h.nb1, own_set h.own2 _ _ _ h.nb2, h.lo, by have := h.up; simpa [World.setCell] using this⟩
end
set_option maxHeartbeats 1000000 in
set_option maxRecDepth 100000 in
theorem spotOf_is (c : ChangeL) (hv : c.value.size ≤ 2097152) (seg : Int) (p : Nat) (w : World) :
    Calls Try.prog 91 #[changeV c, .int .i64 seg, .int .i64 (p : Int)] w fun e w' => e = .returned (spotV (Scan.spotC seg p c)) ∧ Below w.heap.size w w' := by
  obtain ⟨A, V, G⟩ := c
  unfold changeV spotV Scan.spotC
  simp only at hv ⊢
  have key : ∀ x y z u : Value, ∃ W, W = (w.alloc (Obj.cells #[.string A, .string V, .bool G] 53)).alloc (Obj.cells #[x, y, z, u] 56) ∧ Below w.heap.size w W ∧ W.cell? ⟨w.heap.size + 1, 0, none⟩ = some x ∧ W.cell? ⟨w.heap.size + 1, 1, none⟩ = some y ∧ W.cell? ⟨w.heap.size + 1, 2, none⟩ = some z ∧ W.cell? ⟨w.heap.size + 1, 3, none⟩ = some u := fun x y z u => by
    have h := heap_alloc_new (w.alloc (Obj.cells #[.string A, .string V, .bool G] 53)) (Obj.cells #[x, y, z, u] 56)
    have hz : (w.alloc (Obj.cells #[.string A, .string V, .bool G] 53)).heap.size = w.heap.size + 1 := by simp
    rw [hz] at h
    exact ⟨_, rfl, ((Below.refl _ _).alloc (Nat.le_refl _) _).alloc (by simp) _, cell_of_row _ _ 0 _ _ _ h, cell_of_row _ _ 1 _ _ _ h, cell_of_row _ _ 2 _ _ _ h, cell_of_row _ _ 3 _ _ _ h⟩
  have HK : Hid (∀ x y z u : Value, _) := key
  clear key
  cases G with
  | true =>
    go_enter Try.func91, Try.ntmps91
    go_wp2
    obtain ⟨W, hW, hb, l0, l1, l2, l3⟩ := HK.out (.string A) (.int .i64 seg) (.int .i64 0) (.int .i64 (-1))
    rw [← hW]
    exact bodyPost_ret (v := .agg #[.string A, .int .i64 seg, .int .i64 0, .int .i64 (-1)]) (by simp [results, Try.results91, go_sem, l0, l1, l2, l3]) rfl ⟨by simp, hb⟩
  | false =>
    go_enter Try.func91, Try.ntmps91
    go_wp2
    obtain ⟨W, hW, hb, l0, l1, l2, l3⟩ := HK.out (.string A) (.int .i64 seg) (.int .i64 (p : Int)) (.int .i64 (V.size : Int))
    rw [← hW]
    exact bodyPost_ret (v := .agg #[.string A, .int .i64 seg, .int .i64 (p : Int), .int .i64 (V.size : Int)]) (by simp [results, Try.results91, go_sem, l0, l1, l2, l3]) rfl ⟨by simp, hb⟩
end Go.Proofs.Ytinhgonmdnbdiaa
