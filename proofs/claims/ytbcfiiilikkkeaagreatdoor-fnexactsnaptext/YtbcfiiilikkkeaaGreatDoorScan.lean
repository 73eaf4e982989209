/- What a scan of a segment holds in memory; the call of spotOf, walked. The call of (*scan).takeChanges, walked. -/
import Derived.Test.YtbcfiiilikkkeaaGreatDoorMathScan
import Derived.Test.YtbcfiiilikkkeaaGreatDoorImplSeal
import Derived.Test.YtbcfiiilikkkeaaGreatDoorReader
import Derived.Maps.AppendAt
import Derived.Test.YtbcfiiilikkkeaaGreatDoorRdDir
import Derived.Test.YtbcfiiilikkkeaaGreatDoorOkLaw
namespace Go.Proofs.YtbcfiiilikkkeaaGreatDoor
open Go.RowKit
set_option linter.unusedVariables false

/-- What is kept: blocks below B but sb; blocks that are of other kinds than the two rows. -/
structure Kp (B sb : Nat) (W W' : World) : Prop where
  os : W'.os = W.os
  tape : W'.tape = W.tape
  output : W'.output = W.output
  size : W.heap.size ≤ W'.heap.size
  low : ∀ k, k < B → k ≠ sb → W'.heap[k]? = W.heap[k]?
  typ : ∀ (k : Nat) (cs : Array Value) (t : TypeId), W.heap[k]? = some (.cells cs t (0, 0)) → t ≠ 134 → t ≠ 9 → k ≠ sb → W'.heap[k]? = some (.cells cs t (0, 0))
section
variable {B sb : Nat} {W W' W'' : World}
theorem Kp.refl : Kp B sb W W := ⟨rfl, rfl, rfl, Nat.le_refl _, fun _ _ _ => rfl, fun _ _ _ h _ _ _ => h⟩
theorem Kp.trans (h : Kp B sb W W') (h2 : Kp B sb W' W'') : Kp B sb W W'' :=
  ⟨h2.os.trans h.os, h2.tape.trans h.tape, h2.output.trans h.output, Nat.le_trans h.size h2.size, fun k hk hn => (h2.low k hk hn).trans (h.low k hk hn), fun k cs t hk h1 h3 h4 => h2.typ k cs t (h.typ k cs t hk h1 h3 h4) h1 h3 h4⟩
theorem Kp.of_below (hB : B ≤ W.heap.size) (h : Below W.heap.size W W') : Kp B sb W W' :=
  ⟨h.os, h.tape, h.output, h.size, fun k hk _ => h.block k (by omega), fun k cs t hk _ _ _ => (h.block k (Array.getElem?_eq_some_iff.1 hk).1).trans hk⟩
theorem Kp.of_row {ty z n : Nat} {v : Value} {xs : List Value} (hB : B ≤ W.heap.size) (ho : W.ownsRow B ty z v n xs) (ht : ty = 134 ∨ ty = 9) (h : W.grownBy W' v.ownBlock) : Kp B sb W W' :=
  ⟨h.os, h.tape, h.output, h.size, fun k hk _ => h.block k (by omega) (fun e => by have := (ho.lt k e.symm).1; omega), fun k cs t hk h1 h2 _ => (h.block k (Array.getElem?_eq_some_iff.1 hk).1 (fun e => own_not ho hk (by rcases ht with q | q <;> rw [q] <;> first | exact fun e => h1 e.symm | exact fun e => h2 e.symm) e.symm)).trans hk⟩
theorem Kp.of_set (j : Nat) (x : Value) : Kp B sb W (W.setCell ⟨sb, j, none⟩ x) := by
  have h := grown_set W sb j x
  exact ⟨h.os, h.tape, h.output, h.size, fun k hk hn => Below.heap_setCell W ⟨sb, j, none⟩ x k (by simpa using hn), fun k cs t hk _ _ hn => (Below.heap_setCell W ⟨sb, j, none⟩ x k (by simpa using hn)).trans hk⟩
theorem Kp.below {w : World} (h : Kp B sb W W') (hb : Below w.heap.size w W) (h1 : w.heap.size ≤ B) (h2 : w.heap.size ≤ sb) : Below w.heap.size w W' :=
  ⟨h.os.trans hb.os, h.tape.trans hb.tape, h.output.trans hb.output, Nat.le_trans hb.size h.size, fun k hk => (h.low k (by omega) (by omega)).trans (hb.block k hk)⟩
end
theorem own_apart {W : World} {B1 B2 t1 t2 z1 z2 n1 n2 : Nat} {u v : Value} {xs ys : List Value} (h1 : W.ownsRow B1 t1 z1 u n1 xs) (h2 : W.ownsRow B2 t2 z2 v n2 ys) (hne : t1 ≠ t2) : ∀ g, u.ownBlock = some g → v.ownBlock ≠ some g := by
  intro g hg
  rcases h1.2 with ⟨q, _⟩ | ⟨g', cap', cur', q1, _, q2, _⟩
  · rw [q] at hg; simp [Value.ownBlock] at hg
  · rw [q1] at hg
    obtain rfl : g' = g := by simpa [Value.ownBlock] using hg
    exact own_not h2 q2 (fun e => hne e.symm)
theorem own_other {W W' : World} {B1 B2 t1 t2 z1 z2 n1 n2 : Nat} {u v : Value} {xs ys : List Value} (h1 : W.ownsRow B1 t1 z1 u n1 xs) (h2 : W.ownsRow B2 t2 z2 v n2 ys) (hne : t1 ≠ t2) (hg : W.grownBy W' v.ownBlock) : W'.ownsRow B1 t1 z1 u n1 xs := by
  refine h1.kept hg ?_
  cases e : u.ownBlock with
  | none => exact Or.inl rfl
  | some g => exact Or.inr (fun q => own_apart h1 h2 hne g e q.symm)
/-- The scan s in its block: its spots, its texts, its stamp, its end. -/
structure Sc (B sb : Nat) (seg : Int) (v1 : Value) (sp : List SpotL) (v2 : Value) (tx : List (List UInt8)) (stamp : Int) (e : Nat) (W : World) : Prop where
  blk : W.heap[sb]? = some (.cells #[.int .i64 seg, v1, v2, .int .i64 stamp, .int .i64 (e : Int)] 213 (0, 0))
  own1 : W.ownsRow B 134 4 v1 sp.length (cellsSpot sp)
  own2 : W.ownsRow B 9 1 v2 tx.length (cellsS tx)
  lo : sb < B
  up : B ≤ W.heap.size
section
variable {B sb : Nat} {seg : Int} {v1 v1' v2 v2' : Value} {sp : List SpotL} {tx : List (List UInt8)} {stamp : Int} {e : Nat} {W W' : World}
theorem Sc.same (h : Sc B sb seg v1 sp v2 tx stamp e W) (hb : Below W.heap.size W W') : Sc B sb seg v1 sp v2 tx stamp e W' :=
  ⟨(hb.block sb (Array.getElem?_eq_some_iff.1 h.blk).1).trans h.blk, own_kept h.own1 hb, own_kept h.own2 hb, h.lo, Nat.le_trans h.up hb.size⟩
theorem Sc.alloc (h : Sc B sb seg v1 sp v2 tx stamp e W) (o : Obj) : Sc B sb seg v1 sp v2 tx stamp e (W.alloc o) := h.same ((Below.refl _ _).alloc (Nat.le_refl _) _)
theorem Sc.drew (h : Sc B sb seg v1 sp v2 tx stamp e W) : Sc B sb seg v1 sp v2 tx stamp e W.drew := ⟨h.blk, h.own1, h.own2, h.lo, h.up⟩
theorem Sc.fz (h : Sc B sb seg v1 sp v2 tx stamp e W) (i : Nat) : W.frozen? ⟨sb, i, none⟩ = false := frozen_of_row _ _ _ _ _ h.blk
theorem Sc.c0 (h : Sc B sb seg v1 sp v2 tx stamp e W) : W.cell? ⟨sb, 0, none⟩ = some (.int .i64 seg) := cell_of_row _ _ 0 _ _ _ h.blk
theorem Sc.c1 (h : Sc B sb seg v1 sp v2 tx stamp e W) : W.cell? ⟨sb, 1, none⟩ = some v1 := cell_of_row _ _ 1 _ _ _ h.blk
theorem Sc.c2 (h : Sc B sb seg v1 sp v2 tx stamp e W) : W.cell? ⟨sb, 2, none⟩ = some v2 := cell_of_row _ _ 2 _ _ _ h.blk
theorem Sc.c3 (h : Sc B sb seg v1 sp v2 tx stamp e W) : W.cell? ⟨sb, 3, none⟩ = some (.int .i64 stamp) := cell_of_row _ _ 3 _ _ _ h.blk
theorem Sc.c4 (h : Sc B sb seg v1 sp v2 tx stamp e W) : W.cell? ⟨sb, 4, none⟩ = some (.int .i64 (e : Int)) := cell_of_row _ _ 4 _ _ _ h.blk
theorem Sc.nb1 (h : Sc B sb seg v1 sp v2 tx stamp e W) : v1.ownBlock ≠ some sb := own_not h.own1 h.blk (by decide)
theorem Sc.nb2 (h : Sc B sb seg v1 sp v2 tx stamp e W) : v2.ownBlock ≠ some sb := own_not h.own2 h.blk (by decide)
/-- A spot is added. -/
theorem Sc.app1 (h : Sc B sb seg v1 sp v2 tx stamp e W) {c : SpotL} (hg : W.grownBy W' v1.ownBlock) (hown : W'.ownsRow B 134 4 v1' (sp.length + 1) (cellsSpot sp ++ [.string c.key, .int .i64 c.seg, .int .i64 c.pos, .int .i64 c.size])) :
    Sc B sb seg v1' (sp ++ [c]) v2 tx stamp e (W'.setCell ⟨sb, 1, none⟩ v1') := by
  have hb := grown_keep' h.blk hg h.nb1
  have h2 := own_other h.own2 h.own1 (by decide) hg
  have hs := heap_setCell_same W' sb 1 _ 213 v1' hb
  have hn : v1'.ownBlock ≠ some sb := own_not hown hb (by decide)
  refine ⟨by simpa using hs, own_set (ownSpot_snoc hown) _ _ _ hn, own_set h2 _ _ _ (own_not h2 hb (by decide)), h.lo, by have := Nat.le_trans h.up hg.size; simpa [World.setCell] using this⟩
/-- A text is added. -/
theorem Sc.app2 (h : Sc B sb seg v1 sp v2 tx stamp e W) {p : List UInt8} (hg : W.grownBy W' v2.ownBlock) (hown : W'.ownsRow B 9 1 v2' (tx.length + 1) (cellsS tx ++ [.string ⟨p.toArray⟩])) :
    Sc B sb seg v1 sp v2' (tx ++ [p]) stamp e (W'.setCell ⟨sb, 2, none⟩ v2') := by
  have hb := grown_keep' h.blk hg h.nb2
  have h1 := own_other h.own1 h.own2 (by decide) hg
  have hs := heap_setCell_same W' sb 2 _ 213 v2' hb
  have hn : v2'.ownBlock ≠ some sb := own_not hown hb (by decide)
  refine ⟨by simpa using hs, own_set h1 _ _ _ (own_not h1 hb (by decide)), own_set ?_ _ _ _ hn, h.lo, by have := Nat.le_trans h.up hg.size; simpa [World.setCell] using this⟩
  have e1 : cellsS (tx ++ [p]) = cellsS tx ++ [.string ⟨p.toArray⟩] := by rw [cellsS_app]; rfl
  rw [e1, List.length_append]
  exact hown
theorem Sc.stamped (h : Sc B sb seg v1 sp v2 tx stamp e W) (s : Int) : Sc B sb seg v1 sp v2 tx s e (W.setCell ⟨sb, 3, none⟩ (.int .i64 s)) := by
  have hs := heap_setCell_same W sb 3 _ 213 (.int .i64 s) h.blk
  exact ⟨by simpa using hs, own_set h.own1 _ _ _ h.nb1, own_set h.own2 _ _ _ h.nb2, h.lo, by have := h.up; simpa [World.setCell] using this⟩
theorem Sc.ended (h : Sc B sb seg v1 sp v2 tx stamp e W) (s : Nat) : Sc B sb seg v1 sp v2 tx stamp s (W.setCell ⟨sb, 4, none⟩ (.int .i64 (s : Int))) := by
  have hs := heap_setCell_same W sb 4 _ 213 (.int .i64 (s : Int)) h.blk
  exact ⟨by simpa using hs, own_set h.own1 _ _ _ h.nb1, own_set h.own2 _ _ _ h.nb2, h.lo, by have := h.up; simpa [World.setCell] using this⟩
end
set_option maxHeartbeats 1000000 in
set_option maxRecDepth 100000 in
theorem spotOf_is (c : ChangeL) (hv : c.value.size ≤ 2097152) (seg : Int) (p : Nat) (w : World) :
    Calls Tryz.prog 322 #[changeV c, .int .i64 seg, .int .i64 (p : Int)] w fun e w' => e = .returned (spotV (Scan.spotC seg p c)) ∧ Below w.heap.size w w' := by
  obtain ⟨A, V, G⟩ := c
  unfold changeV spotV Scan.spotC
  simp only at hv ⊢
  have key : ∀ x y z u : Value, ∃ W, W = (w.alloc (Obj.cells #[.string A, .string V, .bool G] 149)).alloc (Obj.cells #[x, y, z, u] 134) ∧ Below w.heap.size w W ∧ W.cell? ⟨w.heap.size + 1, 0, none⟩ = some x ∧ W.cell? ⟨w.heap.size + 1, 1, none⟩ = some y ∧ W.cell? ⟨w.heap.size + 1, 2, none⟩ = some z ∧ W.cell? ⟨w.heap.size + 1, 3, none⟩ = some u := fun x y z u => by
    have h := heap_alloc_new (w.alloc (Obj.cells #[.string A, .string V, .bool G] 149)) (Obj.cells #[x, y, z, u] 134)
    have hz : (w.alloc (Obj.cells #[.string A, .string V, .bool G] 149)).heap.size = w.heap.size + 1 := by simp
    rw [hz] at h
    exact ⟨_, rfl, ((Below.refl _ _).alloc (Nat.le_refl _) _).alloc (by simp) _, cell_of_row _ _ 0 _ _ _ h, cell_of_row _ _ 1 _ _ _ h, cell_of_row _ _ 2 _ _ _ h, cell_of_row _ _ 3 _ _ _ h⟩
  have HK : Hid (∀ x y z u : Value, _) := key
  clear key
  cases G with
  | true =>
    go_enter Tryz.func322, Tryz.ntmps322
    go_wp2
    obtain ⟨W, hW, hb, l0, l1, l2, l3⟩ := HK.out (.string A) (.int .i64 seg) (.int .i64 0) (.int .i64 (-1))
    rw [← hW]
    exact bodyPost_ret (v := .agg #[.string A, .int .i64 seg, .int .i64 0, .int .i64 (-1)]) (by simp [results, Tryz.results322, go_sem, l0, l1, l2, l3]) rfl ⟨by simp, hb⟩
  | false =>
    go_enter Tryz.func322, Tryz.ntmps322
    go_wp2
    obtain ⟨W, hW, hb, l0, l1, l2, l3⟩ := HK.out (.string A) (.int .i64 seg) (.int .i64 (p : Int)) (.int .i64 (V.size : Int))
    rw [← hW]
    exact bodyPost_ret (v := .agg #[.string A, .int .i64 seg, .int .i64 (p : Int), .int .i64 (V.size : Int)]) (by simp [results, Tryz.results322, go_sem, l0, l1, l2, l3]) rfl ⟨by simp, hb⟩
open Go.RowKit
set_option linter.unusedVariables false

/-- The call of a Go function of three arguments by its contract, as one step of a region that draws its order. -/
theorem step_call3 {P : Program} {ops : Array Oper} {o : Oper} {a : Act} {w : World} {K : Act → World → Prop} {Q : Exit → Act → World → Prop} {E : Prop} (hgd : o.guard = none) (f : Nat) (x y z : Operand) (t s r : TypeId)
    (ho : o.op = .call { callee := .value (.func f), args := #[x, y, z], argTypes := #[t, s, r] }) (v1 v2 v3 : Value) (hx : a.eval x = v1) (hy : a.eval y = v2) (hz : a.eval z = v3) (u : Value) (R : World → Prop) (hcf : ∀ w, (callFunc f #[v1, v2, v3]).run P w = .ok (.enter f #[v1, v2, v3]) w)
    (hc : Calls P f #[v1, v2, v3] w fun e w' => e = .returned u ∧ R w') (h : ∀ w', R w' → K (a.put o.dst u) w') : if Region.wanted o (yielded ops a.tmps) = true then Oper.wp P o a w K Q else E := by
  have hw : Region.wanted o (yielded ops a.tmps) = true := by simp [Region.wanted, hgd]
  rw [if_pos hw]
  unfold Oper.wp
  have hf : a.eval (.func f) = .func (.func f) #[] #[] := rfl
  simp [execOp, ho, resolve, invoke, hf, hx, hy, hz, hcf, Deferred.ofValue, Oper.upon]
  refine hc.mono ?_
  rintro e w' ⟨rfl, hr⟩
  exact h w' hr
theorem spot_news (c : SpotL) : ∀ u ∈ [Value.string c.key, .int .i64 c.seg, .int .i64 c.pos, .int .i64 c.size], u.oneCell' = true := by
  intro u hu
  simp at hu
  rcases hu with rfl | rfl | rfl | rfl <;> rfl
theorem varS_len (n : Nat) : (varS (n : Int)).size = (Words.var n).length := by rw [(varS_is (n : Int)).size]; simp
theorem shortS_len (s : ByteArray) : (shortS s).size = (Batches.short s).length := (shortS_is s).size
set_option maxHeartbeats 4000000 in
set_option maxRecDepth 100000 in
theorem takeCh_is {B sb : Nat} {seg : Int} {v1 v2 : Value} {sp : List SpotL} {tx : List (List UInt8)} {stamp : Int} {e : Nat} (l : List ChangeL) (st : Nat) (hl : l.length ≤ 60) (hok : ∀ c ∈ l, Batches.changeOk c) (hst : st ≤ 100000) (a : Nat) (ha : a ≤ 1000000000) (hsp : sp.length ≤ 1300000) {Bc : Nat} {cv : Value} (w : World) (hS : Sc B sb seg v1 sp v2 tx stamp e w) (hC : w.ownsRow Bc 149 3 cv l.length (cellsChange l)) :
    Calls Tryz.prog 291 #[.pointer (some ⟨sb, 0, none⟩), .agg #[.int .i64 (st : Int), cv], .int .i64 (a : Int)] w fun en w' => en = .returned (.tuple #[]) ∧ ∃ v1', Sc B sb seg v1' (sp ++ Scan.chSpots seg (a + (Words.var st).length + (Words.var l.length).length) l) v2 tx stamp e w' ∧ Kp B sb w w' := by
  obtain ⟨i0, hi, hz0, hz1, hz2⟩ := info_parts Tryz.info134
  obtain ⟨ca, cg, cc, rfl, _⟩ := cellsChange_slice hC
  have HS : Hid (Sc B sb seg v1 sp v2 tx stamp e w) := hS
  have HCR : Hid (w.ownsRow Bc 149 3 (.slice ca l.length cc) l.length (cellsChange l)) := hC
  have HOK : Hid (∀ c ∈ l, Batches.changeOk c) := hok
  clear hS hC hok
  obtain ⟨W1, hW1⟩ : ∃ W1, W1 = w.alloc (Obj.cells #[Value.int .i64 (st : Int), Value.slice ca l.length cc] 51) := ⟨_, rfl⟩
  have hb1 : Below w.heap.size w W1 := by rw [hW1]; exact (Below.refl _ _).alloc (Nat.le_refl _) _
  have d0 : W1.cell? ⟨w.heap.size, 0, none⟩ = some (.int .i64 (st : Int)) := by rw [hW1]; exact cell_of_row _ _ 0 _ _ _ (heap_alloc_new w _)
  have d1 : W1.cell? ⟨w.heap.size, 1, none⟩ = some (.slice ca l.length cc) := by rw [hW1]; exact cell_of_row _ _ 1 _ _ _ (heap_alloc_new w _)
  have hz1' : w.heap.size < W1.heap.size := World.block_lt_of_cell? W1 _ d0
  obtain ⟨a0, ha0⟩ : ∃ a0, a0 = a + (Words.var st).length + (Words.var l.length).length := ⟨_, rfl⟩
  have x1 := varS_len st
  have x2 := varS_len l.length
  have y1 := Words.var_len st
  have y2 := Words.var_len l.length
  have hw1 : IntKind.i64.wrap (((varS (st : Int)).size : Int) + ((varS (l.length : Int)).size : Int)) = ((varS (st : Int)).size : Int) + ((varS (l.length : Int)).size : Int) := IntWalk.i64_in _ (by omega)
  have hw2 : IntKind.i64.wrap ((a : Int) + (((varS (st : Int)).size : Int) + ((varS (l.length : Int)).size : Int))) = (a0 : Int) := by rw [IntWalk.i64_in _ (by omega)]; omega
  have ha0b : a0 ≤ 1001000000 := by omega
  have HA0 : Hid ((a : Int) + (((varS (st : Int)).size : Int) + ((varS (l.length : Int)).size : Int)) = (a0 : Int)) := by show _ = _; omega
  rw [← ha0]
  clear ha0 x1 x2
  go_enter Tryz.func291, Tryz.ntmps291
  go_wp2_with fail
  rw [← hW1]
  clear hW1
  have NE := Abv.ne W1
  have F0 := fun x : Abv W1 => x.cell d0
  have F1 := fun x : Abv W1 => x.cell d1
  refine wp_region_above (by kernel_rfl) (by kernel_rfl) ?_
  repeat (go_big_quiet_step (first | (go_at_call 138; exact calls_above (varOf_q _ (by omega) (by omega) _))))
  refine wpQuiet_nil ?_
  rintro w2 ⟨⟨_, hb2⟩, rfl⟩
  have hB2 : Below w.heap.size w w2 := hb1.trans (hb2.mono hb1.size)
  have d2 : w2.cell? ⟨w.heap.size, 1, none⟩ = some (.slice ca l.length cc) := (hb2.cell (p := ⟨w.heap.size, 1, none⟩) hz1').trans d1
  have HS2 : Hid (Sc B sb seg v1 sp v2 tx stamp e w2) := HS.out.same hB2
  have HC2 : Hid (w2.ownsRow Bc 149 3 (.slice ca l.length cc) l.length (cellsChange l)) := own_kept HCR.out hB2
  have HK2 : Hid (Kp B sb w w2) := Kp.of_below HS.out.up hB2
  clear NE F0 F1 hb2 hB2 hb1 d0 d1 hz1' y1 y2 hw1 hw2 HS HCR
  go_wp2_with fail
  go_loopw [2, 23] (fun x i wr => ∃ (k : Nat) (v : Value), k ≤ l.length ∧ i = .int .i64 (k : Int) ∧ x = .int .i64 ((Scan.chEnd a0 (l.take k) : Nat) : Int) ∧ Hid (Sc B sb seg v (sp ++ Scan.chSpots seg a0 (l.take k)) v2 tx stamp e wr) ∧ Hid (wr.ownsRow Bc 149 3 (.slice ca l.length cc) l.length (cellsChange l)) ∧ Hid (Kp B sb w wr))
    (fun _ i _ => l.length - (intOf i).toNat)
  case atStart => exact ⟨0, v1, Nat.zero_le _, rfl, rfl, by show Sc _ _ _ _ _ _ _ _ _ _; simpa [Scan.chSpots] using HS2.out, HC2, HK2⟩
  case round =>
    obtain ⟨k, v, hk, rfl, rfl, HSk, HCk, HKk⟩ := hrel
    by_cases hlt : k < l.length
    · obtain ⟨_, gg, _, eS, hAt⟩ := cellsChange_slice HCk.out
      cases eS
      obtain ⟨c0, c1, c2⟩ := hAt.2 k hlt
      have ea := hAt.1 (by omega)
      subst ea
      have o1 := HOK.out l[k] (List.getElem_mem _)
      have HAA0 : Hid (∃ c, c = l[k] ∧ l[k] = c) := ⟨_, rfl, rfl⟩
      obtain ⟨c, hc, hc'⟩ := HAA0.out
      have hend : Scan.chEnd a0 (l.take (k + 1)) = Scan.chPos (Scan.chEnd a0 (l.take k)) c + c.value.size := by rw [Scan.chEnd_take hlt, hc']
      have hspn : Scan.chSpots seg a0 (l.take (k + 1)) = Scan.chSpots seg a0 (l.take k) ++ [Scan.spotC seg (Scan.chPos (Scan.chEnd a0 (l.take k)) c) c] := by rw [Scan.chSpots_take hlt, hc']
      have hle := Scan.chEnd_take_le (a := a0) (k := k) HOK.out hl
      have hpl : (sp ++ Scan.chSpots seg a0 (l.take k)).length ≤ 1300060 := by rw [List.length_append, Scan.chSpots_len, List.length_take]; omega
      rw [← hc] at c0 c1 c2 o1
      clear HAA0 hc hc' hAt
      obtain ⟨A, V, G⟩ := c
      simp only at c0 c1 c2
      simp only [Nat.zero_add] at c0 c1 c2
      have p1 := Scan.chPos_le (a := Scan.chEnd a0 (l.take k)) o1
      obtain ⟨_, o2, o3, _⟩ := o1
      simp only at o2 o3
      obtain ⟨E, hE⟩ : ∃ E, E = Scan.chEnd a0 (l.take k) := ⟨_, rfl⟩
      rw [← hE] at hend hspn hle p1 ⊢
      obtain ⟨P, hP⟩ : ∃ P, P = Scan.chPos E ⟨A, V, G⟩ := ⟨_, rfl⟩
      have HPE : Hid (P = E + (shortS A).size + 1 + (varS (V.size : Int)).size) := by show _ = _; rw [hP, Scan.chPos, shortS_len, varS_len]
      rw [← hP] at hend hspn p1
      have HEND : Hid (Scan.chEnd a0 (l.take (k + 1)) = P + V.size) := hend
      have HSPN : Hid (Scan.chSpots seg a0 (l.take (k + 1)) = Scan.chSpots seg a0 (l.take k) ++ [Scan.spotC seg P ⟨A, V, G⟩]) := hspn
      obtain ⟨pre, hpre⟩ : ∃ pre, pre = sp ++ Scan.chSpots seg a0 (l.take k) := ⟨_, rfl⟩
      have HPRE : Hid (pre = sp ++ Scan.chSpots seg a0 (l.take k)) := hpre
      rw [← hpre] at HSk hpl
      clear hE hP hend hspn hpre
      have hk0 : (0 : Int) ≤ (k : Int) := by omega
      have hk1 : (k : Int) < (l.length : Int) := by omega
      obtain ⟨W3, hW3⟩ : ∃ W3, W3 = wr.alloc (Obj.cells #[Value.string A, Value.string V, Value.bool G] 149) := ⟨_, rfl⟩
      have hb3 : Below wr.heap.size wr W3 := by rw [hW3]; exact (Below.refl _ _).alloc (Nat.le_refl _) _
      have hx3 : W3.heap[wr.heap.size]? = some (.cells #[Value.string A, Value.string V, Value.bool G] 149 (0, 0)) := by rw [hW3]; exact heap_alloc_new wr _
      have HS3 : Hid (Sc B sb seg v pre v2 tx stamp e W3) := HSk.out.same hb3
      have HC3 : Hid (W3.ownsRow Bc 149 3 (.slice (some ⟨gg, 0, none⟩) l.length cc) l.length (cellsChange l)) := own_kept HCk.out hb3
      have HK3 : Hid (Kp B sb w W3) := HKk.out.trans (Kp.of_below HSk.out.up hb3)
      obtain ⟨q, hq⟩ : ∃ q, q = wr.heap.size := ⟨_, rfl⟩
      have hqb : sb ≠ q := by have := HSk.out.lo; have := HSk.out.up; omega
      go_wp2_with fail
      rw [← hW3, ← hq]
      rw [← hq] at hx3
      clear hW3 hb3 HSk HCk HKk hq c0 c1 c2
      have f0 := cell_of_row _ _ 0 _ _ _ hx3
      have f1 := cell_of_row _ _ 1 _ _ _ hx3
      have f2 := cell_of_row _ _ 2 _ _ _ hx3
      simp at f0 f1 f2
      have y0 := shortS_size A 10 o2
      have y1 := varS_size (V.size : Int) 40 (by omega)
      have y2 := flagS_size G
      have hw1 : IntKind.i64.wrap (((shortS A).size : Int) + ((flagS G).size : Int)) = ((shortS A).size : Int) + 1 := by rw [y2, IntWalk.i64_in _ (by omega)]; rfl
      have hw2 : IntKind.i64.wrap (((shortS A).size : Int) + 1 + ((varS (V.size : Int)).size : Int)) = ((shortS A).size : Int) + 1 + ((varS (V.size : Int)).size : Int) := IntWalk.i64_in _ (by omega)
      have hw3 : IntKind.i64.wrap ((E : Int) + (((shortS A).size : Int) + 1 + ((varS (V.size : Int)).size : Int))) = (P : Int) := by have := HPE.out; rw [IntWalk.i64_in _ (by omega)]; omega
      have NE := Abv.ne W3
      have F0 := fun x : Abv W3 => x.cell f0
      have F1 := fun x : Abv W3 => x.cell f1
      have F2 := fun x : Abv W3 => x.cell f2
      refine wp_region_above (by kernel_rfl) (by kernel_rfl) ?_
      repeat (go_big_quiet_step (first | (go_at_call 138; exact calls_above (varOf_q _ (by omega) (by omega) _)) | (go_at_call 139; exact calls_above (shortOf_q _ (by omega) _)) | (go_at_call 140; exact calls_above (flagOf_q _ _))))
      refine wpQuiet_nil ?_
      rintro w4 ⟨⟨_, hb4⟩, rfl⟩
      have HS4 : Hid (Sc B sb seg v pre v2 tx stamp e w4) := HS3.out.same hb4
      have HC4 : Hid (w4.ownsRow Bc 149 3 (.slice (some ⟨gg, 0, none⟩) l.length cc) l.length (cellsChange l)) := own_kept HC3.out hb4
      have HK4 : Hid (Kp B sb w w4) := HK3.out.trans (Kp.of_below HS3.out.up hb4)
      have hx4 := (hb4.block q (Array.getElem?_eq_some_iff.1 hx3).1).trans hx3
      have HX4 : Hid (w4.heap[q]? = some (.cells #[Value.string A, Value.string V, Value.bool G] 149 (0, 0))) := hx4
      have g0 := cell_of_row _ _ 0 _ _ _ hx4
      have g1 := cell_of_row _ _ 1 _ _ _ hx4
      have g2' := cell_of_row _ _ 2 _ _ _ hx4
      simp at g0 g1 g2'
      clear NE F0 F1 F2 hb4 hx3 hx4 f0 f1 f2 hw1 hw2 hw3 y0 y1 y2 HPE HS3 HC3 HK3
      obtain ⟨D, hD⟩ : ∃ D, D = Scan.spotC seg P ⟨A, V, G⟩ := ⟨_, rfl⟩
      have HD : Hid (D = Scan.spotC seg P ⟨A, V, G⟩) := hD
      have HCT : Hid (∀ wx : World, Calls Tryz.prog 322 #[.agg #[.string A, .string V, .bool G], .int .i64 seg, .int .i64 (P : Int)] wx fun e w' => e = .returned (.agg #[.string D.key, .int .i64 D.seg, .int .i64 D.pos, .int .i64 D.size]) ∧ Below wx.heap.size wx w') := fun wx => by
        have := spotOf_is ⟨A, V, G⟩ (show V.size ≤ 2097152 by omega) seg P wx
        rw [← hD] at this
        exact this
      have HCF : Hid (∀ wx : World, (callFunc 322 #[.agg #[.string A, .string V, .bool G], .int .i64 seg, .int .i64 (P : Int)]).run Tryz.prog wx = .ok (.enter 322 #[.agg #[.string A, .string V, .bool G], .int .i64 seg, .int .i64 (P : Int)]) wx) := fun _ => by kernel_rfl
      clear hD
      obtain ⟨va, vc, hva⟩ := own_slice HS4.out.own1
      subst hva
      have s0 := HS4.out.c0
      have s1 := HS4.out.c1
      have hnB := HS4.out.nb1
      have hpl1 : pre.length + 1 ≤ maxLen := by unfold maxLen; omega
      have hby : (pre.length + 1) * 40 ≤ 140737488355328 := by omega
      have hup4 := HS4.out.up
      go_wp2_with fail
      go_region_law (first | (refine step_call3 (by rfl) 322 _ _ _ _ _ _ (by rfl) (.agg #[.string A, .string V, .bool G]) (.int .i64 seg) (.int .i64 (P : Int)) (by rfl) (by rfl) (by rfl) (.agg #[.string D.key, .int .i64 D.seg, .int .i64 D.pos, .int .i64 D.size]) _ HCF.out (HCT.out _) ?_; intro wa hba; have hba' : Below w4.heap.size w4 wa := below_undrew hba; have HSa : Hid (Sc B sb seg (.slice va pre.length vc) pre v2 tx stamp e wa) := HS4.out.same hba'; have cRa := HSa.out.c1; have cRb := fun o => (HSa.out.alloc o).c1; clear hba) | (refine step_append_lies _ (by rfl) _ _ _ (by rfl) B 134 i0 _ 4 40 Tryz.underlying38 hi hz0 hz1 hz2 rfl (Nat.zero_lt_succ _) _ pre.length (cellsSpot pre) (by rfl) ((HSa.out.alloc _).own1) ⟨wa.heap.size, 0, none⟩ 1 1 [.string D.key, .int .i64 D.seg, .int .i64 D.pos, .int .i64 D.size] (by rfl) (by rfl) (World.news_of_block (cs := #[.string D.key, .int .i64 D.seg, .int .i64 D.pos, .int .i64 D.size]) (t := 134) (fr := (0, 0)) (heap_alloc_new wa _)) (spot_news D) (Nat.zero_lt_succ _) hpl1 hby (by have h2 := HSa.out.up; simp; omega) (wa.heap.size + 1) (Array.size_push ..) ?_; intro g2 cap2 w8 hown8 hgrow hat hlt8; have hB8 := grown_keep' (HSa.out.alloc _).blk hgrow hnB; have cR8 := cell_of_row _ _ 1 _ _ _ hB8; have fR8 := frozen_of_row _ _ 1 _ _ hB8))
      all_goals
        have HS9 : Hid (Sc B sb seg (.slice (some ⟨g2, 0, none⟩) (pre.length + 1) cap2) (pre ++ [D]) v2 tx stamp e (w8.setCell ⟨sb, 1, none⟩ (.slice (some ⟨g2, 0, none⟩) (pre.length + 1) cap2))) := (HSa.out.alloc _).app1 hgrow hown8
        have hbA : Below w4.heap.size w4 (wa.alloc (Obj.cells #[.string D.key, .int .i64 D.seg, .int .i64 D.pos, .int .i64 D.size] 134)) := hba'.alloc hba'.size _
        have HK9 : Hid (Kp B sb w (w8.setCell ⟨sb, 1, none⟩ (.slice (some ⟨g2, 0, none⟩) (pre.length + 1) cap2))) := ((HK4.out.trans (Kp.of_below hup4 hbA)).trans (Kp.of_row (HSa.out.alloc _).up (HSa.out.alloc _).own1 (Or.inl rfl) hgrow)).trans (Kp.of_set _ _)
        have HC9 : Hid ((w8.setCell ⟨sb, 1, none⟩ (.slice (some ⟨g2, 0, none⟩) (pre.length + 1) cap2)).ownsRow Bc 149 3 (.slice (some ⟨gg, 0, none⟩) l.length cc) l.length (cellsChange l)) := by
          have h1 := own_other (own_kept HC4.out hbA) (HSa.out.alloc _).own1 (by decide) hgrow
          exact own_set h1 _ _ _ (own_not h1 hB8 (by decide))
        have hx9 : (w8.setCell ⟨sb, 1, none⟩ (.slice (some ⟨g2, 0, none⟩) (pre.length + 1) cap2)).heap[q]? = some (.cells #[Value.string A, Value.string V, Value.bool G] 149 (0, 0)) := by
          have h1 := (hbA.block q (Array.getElem?_eq_some_iff.1 HX4.out).1).trans HX4.out
          exact set_far (grown_keep' h1 hgrow (own_not (HSa.out.alloc _).own1 h1 (by decide))) (fun e => hqb e.symm) _ _
        have r1 := cell_of_row _ _ 1 _ _ _ hx9
        simp at r1
        have HPN : Hid (pre ++ [D] = sp ++ Scan.chSpots seg a0 (l.take (k + 1))) := by show _ = _; rw [HSPN.out, HPRE.out, HD.out, List.append_assoc]
        clear hown8 hgrow hat hlt8 hB8 hbA hx9 hba' cRa cRb
        go_wp2
        go_roundw
        case rel =>
          refine ⟨k + 1, .slice (some ⟨g2, 0, none⟩) (pre.length + 1) cap2, by omega, by go_num, ?_, ?_, HC9, HK9⟩
          · rw [HEND.out]
            refine congrArg (Value.int .i64) ?_
            omega
          · show Sc _ _ _ _ _ _ _ _ _ _
            rw [← HPN.out]; exact HS9.out
        case measure => simp [intOf]; omega
    · have hk1 : ¬ (k : Int) < (l.length : Int) := by omega
      have HF : Hid (Sc B sb seg v (sp ++ Scan.chSpots seg a0 l) v2 tx stamp e wr) := by
        have := HSk.out
        rw [List.take_of_length_le (by omega)] at this
        exact this
      go_wp2
      go_end0
      exact ⟨rfl, ⟨v, HF.out⟩, HKk.out⟩
end Go.Proofs.YtbcfiiilikkkeaaGreatDoor
