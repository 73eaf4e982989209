/- What is drawn of logs is right: l12Right. -/
import Derived.Test.YtahpoemmlpbgdaaGreatDrawFit
import Derived.Test.YtahpoemmlpbgdaaGreatSpecBehind
import Derived.Test.YtahpoemmlpbgdaaGreatRegLast
import Derived.Test.YtahpoemmlpbgdaaGreatRLogA
namespace Go.Proofs.YtahpoemmlpbgdaaGreat
open Go.RowKit
set_option linter.unusedVariables false
set_option linter.unusedSimpArgs false

namespace Logs
theorem rises_snoc : ∀ (es : List EntL) (s : Int) (d : EntL), rises s es = true → (∀ e ∈ es, e.term ≤ d.term) → s ≤ d.term → Ents.okB d = true → rises s (es ++ [d]) = true
  | [], s, d, _, _, h2, h3 => by simp [rises, h2, h3]
  | x :: r, s, d, h, h1, h2, h3 => by
    simp only [rises, List.cons_append, Bool.and_eq_true, decide_eq_true_eq] at h ⊢
    exact ⟨h.1, rises_snoc r x.term d h.2 (fun e he => h1 e (List.mem_cons_of_mem _ he)) (h1 x (List.mem_cons_self ..)) h3⟩
end Logs
/-- Entries drawn so far: right, rising, at most of term t, their data short. -/
structure Drawn (s t : Int) (es : List EntL) : Prop where
  ri : Logs.rises s es = true
  te : ∀ e ∈ es, e.term ≤ t
  da : ∀ e ∈ es, e.data.size ≤ 120
  lo : s ≤ t
theorem Drawn.nil (s : Int) : Drawn s s [] := ⟨rfl, fun e h => (List.not_mem_nil h).elim, fun e h => (List.not_mem_nil h).elim, Int.le_refl _⟩
theorem Drawn.up {s t t' : Int} {es : List EntL} (h : Drawn s t es) (ht : t ≤ t') : Drawn s t' es := ⟨h.ri, fun e he => Int.le_trans (h.te e he) ht, h.da, Int.le_trans h.lo ht⟩
theorem Drawn.snoc {s t : Int} {es : List EntL} {d : EntL} (h : Drawn s t es) (hd : d.term = t) (ho : Ents.okB d = true) (hz : d.data.size ≤ 120) : Drawn s t (es ++ [d]) := by
  refine ⟨Logs.rises_snoc es s d h.ri (fun e he => by rw [hd]; exact h.te e he) (by rw [hd]; exact h.lo) ho, fun e he => ?_, fun e he => ?_, h.lo⟩
  · rcases List.mem_append.1 he with he | he
    · exact h.te e he
    · simp at he; rw [he, hd]; exact Int.le_refl _
  · rcases List.mem_append.1 he with he | he
    · exact h.da e he
    · simp at he; rw [he]; exact hz
/-- What l12Right holds: the cursor, the log, its row, the result. -/
structure LS (B g len cap b off : Nat) (a : Option Addr) (z : Nat → Int) (w : World) (xb : Nat) (st sT : Int) (es : List EntL) (v : Value) (W : World) : Prop where
  cur : Cur B W g a len cap b off z
  x : W.heap[xb]? = some (.cells #[.int .i64 st, .int .i64 sT, v] 26 (0, 0))
  own : W.ownsRow w.heap.size 51 3 v es.length (cellsEn es)
  zz : W.heap[w.heap.size]? = some (.cells #[.int .i64 0, .int .i64 0, .slice none 0 0] 26 (0, 0))
  gr : w.grownBy W (some g)
  lt : g < w.heap.size
  up : w.heap.size < xb
section
variable {B g len cap b off : Nat} {a : Option Addr} {z : Nat → Int} {w W W' : World} {xb : Nat} {st sT : Int} {es es' : List EntL} {v v' : Value}
theorem LS.not (h : LS B g len cap b off a z w xb st sT es v W) : v.ownBlock ≠ some g := by
  obtain ⟨cs, hcs⟩ := h.cur.blk
  exact own_not h.own hcs (by decide)
theorem LS.call (h : LS B g len cap b off a z w xb st sT es v W) (hc : Cur B W' g a len cap b off z) (hg : W.grownBy W' (some g)) : LS B g len cap b off a z w xb st sT es v W' :=
  have hl := h.lt
  have hu := h.up
  ⟨hc, grown_keep h.x hg (by omega), h.own.kept hg (Or.inr h.not), grown_keep h.zz hg (by omega), h.gr.trans hg, hl, hu⟩
theorem LS.alloc (h : LS B g len cap b off a z w xb st sT es v W) (o : Obj) : LS B g len cap b off a z w xb st sT es v (W.alloc o) := h.call (h.cur.alloc o) (World.grownBy_alloc W o (some g))
theorem LS.drew (h : LS B g len cap b off a z w xb st sT es v W) : LS B g len cap b off a z w xb st sT es v W.drew :=
  h.call (h.cur.same (Below.refl _ _).drew) (own_below' (Below.refl _ _).drew)
theorem LS.cell (h : LS B g len cap b off a z w xb st sT es v W) : W.cell? ⟨xb, 2, none⟩ = some v := by
  have := cell_of_row _ _ 2 _ _ _ h.x
  simpa using this
/-- A row appended to, and the log's field written. -/
theorem LS.grows (h : LS B g len cap b off a z w xb st sT es v W) (hg : W.grownBy W' v.ownBlock) : Cur B W' g a len cap b off z ∧ W'.heap[xb]? = some (.cells #[.int .i64 st, .int .i64 sT, v] 26 (0, 0)) ∧ W'.heap[w.heap.size]? = some (.cells #[.int .i64 0, .int .i64 0, .slice none 0 0] 26 (0, 0)) ∧ w.grownBy W' (some g) := by
  have hlo := h.cur.low
  have hl := h.lt
  refine ⟨h.cur.kept hg (fun r e => Or.inl (by have := (h.own.lt r e).1; omega)) (hg.block g h.cur.lt (fun e => h.not e.symm)), grown_keep' h.x hg (own_not h.own h.x (by decide)), grown_keep' h.zz hg (own_not h.own h.zz (by decide)), h.gr.andThen hg (fun r e => Or.inl (h.own.lt r e).1)⟩
theorem LS.put (h : LS B g len cap b off a z w xb st sT es v W) (hg : W.grownBy W' v.ownBlock) (hown : W'.ownsRow w.heap.size 51 3 v' es'.length (cellsEn es')) : LS B g len cap b off a z w xb st sT es' v' (W'.setCell ⟨xb, 2, none⟩ v') := by
  have hl := h.lt
  have hu := h.up
  obtain ⟨h1, h2, h3, h4⟩ := h.grows hg
  have hx := heap_setCell_same W' xb 2 _ 26 v' h2
  simp at hx
  refine ⟨h1.far2 (by omega) 2 v', hx, own_set hown xb 2 _ (own_not hown h2 (by decide)), set_far h3 (by omega) 2 v', grown_new h4 (by omega) 2 v', hl, hu⟩
theorem LS.done (h : LS B g len cap b off a z w xb st sT es v W) (A : Array Value) : Cur B (W.setRow w.heap.size A) g a len cap b off z ∧ w.grownBy (W.setRow w.heap.size A) (some g) ∧ (W.setRow w.heap.size A).ownsRow w.heap.size 51 3 v es.length (cellsEn es) :=
  have hl := h.lt
  ⟨h.cur.kept (grown_setRow W w.heap.size A) (fun r e => Or.inl (by have := h.cur.low; cases e; omega)) (setRow_other W w.heap.size g A (by omega)),
    h.gr.andThen (grown_setRow W w.heap.size A) (fun r e => Or.inl (by cases e; exact Nat.le_refl _)), own_row h.own _ _ (own_not h.own h.zz (by decide))⟩
end
theorem resultL {f : Func} {w : World} {g : Nat} {A C : Array Value} (hg : w.heap[g]? = some (.cells C 26 (0, 0))) (hs : A.size = 3) {tmps : Array Value} (ht : tmps.getD 2 undef = .pointer (some ⟨g, 0, none⟩)) : (results Tryz.f18 tmps).run Tryz.prog (w.setRow g A) = .ok (.agg A) (w.setRow g A) := by
  have h := run_loadVar_agg (P := Tryz.prog) Tryz.isAgg26 Tryz.sizeOf26 (row_size (A := A) hg) hs
  have ht' : tmps[2]?.getD undef = .pointer (some ⟨g, 0, none⟩) := by simpa using ht
  simp [results, Tryz.results18, ht', asAddr, h]
/-- A right log of at most n entries, lying in a row of the call's own. -/
def LogPostR (B g len cap b off : Nat) (a : Option Addr) (z : Nat → Int) (w : World) (s : Int) (n : Nat) (T : Int) (e : Ending) (w' : World) : Prop := ∃ (l : LogL) (v : Value), e = .returned (.agg #[.int .i64 l.start, .int .i64 l.sterm, v]) ∧ (0 ≤ l.start ∧ l.start ≤ s) ∧ (0 ≤ l.sterm ∧ l.sterm ≤ T) ∧ l.ents.length ≤ n ∧ Drawn l.sterm T l.ents ∧ w'.ownsRow w.heap.size 51 3 v l.ents.length (cellsEn l.ents) ∧ Cur B w' g a len cap b off z ∧ w.grownBy w' (some g)
theorem step_call2 {P : Program} {ops : Array Oper} {o : Oper} {a : Act} {w : World} {K : Act → World → Prop} {Q : Exit → Act → World → Prop} {E : Prop} (hgd : o.guard = none) (f : Nat) (x y : Operand) (t1 t2 : TypeId)
    (ho : o.op = .call { callee := .value (.func f), args := #[x, y], argTypes := #[t1, t2] }) (v1 v2 : Value) (hx : a.eval x = v1) (hy : a.eval y = v2) (R : Value → World → Prop) (hcf : ∀ w, (callFunc f #[v1, v2]).run P w = .ok (.enter f #[v1, v2]) w)
    (hc : Calls P f #[v1, v2] w fun e w' => ∃ u, e = .returned u ∧ R u w') (h : ∀ u w', R u w' → K (a.put o.dst u) w') : if Region.wanted o (yielded ops a.tmps) = true then Oper.wp P o a w K Q else E := by
  have hw : Region.wanted o (yielded ops a.tmps) = true := by simp [Region.wanted, hgd]
  rw [if_pos hw]
  unfold Oper.wp
  have hf : a.eval (.func f) = .func (.func f) #[] #[] := rfl
  simp [execOp, ho, resolve, invoke, hf, hx, hy, hcf, Deferred.ofValue, Oper.upon]
  refine hc.mono ?_
  rintro e w' ⟨u, rfl, hr⟩
  exact h u w' hr
theorem step_appV {w : World} {ops : Array Oper} {o : Oper} {act : Act} {K : Act → World → Prop} {Q : Exit → Act → World → Prop} {E : Prop} (hgd : o.guard = none) (s x : Operand)
    (ho : o.op = .call { callee := .builtin .append, args := #[s, x], argTypes := #[24, 24] }) (base : Nat) (v : Value) (B : Nat) (l : List EntL) (e : EntL) (hs : act.eval s = v) (hx : act.eval x = .slice (some ⟨B, 0, none⟩) 1 1)
    (h : w.ownsRow base 51 3 v l.length (cellsEn l)) (hb : base ≤ w.heap.size) (hn : l.length ≤ 1048576) (hB : w.heap[B]? = some (.cells #[.int .i64 e.term, .int .i64 e.kind, .string e.data] 51 (0, 0)))
    (hk : ∀ v' w', w'.ownsRow base 51 3 v' (l ++ [e]).length (cellsEn (l ++ [e])) → w.grownBy w' v.ownBlock → K (act.put o.dst v') w') : if Region.wanted o (yielded ops act.tmps) = true then Oper.wp Tryz.prog o act w K Q else E := by
  obtain ⟨ao, cc, rfl⟩ := own_slice h
  refine step_app1 hgd s x ho base ao l.length cc B l e hs hx ⟨rfl, Or.inl h⟩ hb hn hB ?_
  intro a' cap' w' h1 h2
  exact hk _ w' (by rw [List.length_append]; exact h1) h2
theorem log_one' {w : World} {base : Nat} {v : Value} {n : Nat} {xs : List Value} (h : w.ownsRow base 51 3 v n xs) (p q : Int) : ∀ x ∈ (#[.int .i64 p, .int .i64 q, v] : Array Value).toList, x.oneCell' = true := by
  obtain ⟨a, c, rfl⟩ := own_slice h
  exact log_one p q a n c
set_option maxHeartbeats 8000000 in
set_option maxRecDepth 100000 in
theorem logR_any {B g len cap b off : Nat} {a : Option Addr} {z : Nat → Int} (w : World) (hc : Cur B w g a len cap b off z) :
    Calls Tryz.prog 18 #[.pointer (some ⟨g, 0, none⟩)] w (LogPostR B g len cap b off a z w 6 7 100) := by
  have hlt := hc.lt
  obtain ⟨W0, hW0⟩ : ∃ W0, W0 = w.alloc (Obj.cells #[.int .i64 0, .int .i64 0, .slice none 0 0] 26) := ⟨_, rfl⟩
  have HC0 : Hid (Cur B W0 g a len cap b off z) := by rw [hW0]; exact hc.alloc _
  have HG0 : Hid (w.grownBy W0 (some g)) := by rw [hW0]; exact grown_alloc _ _
  have HZ0 : Hid (W0.heap[w.heap.size]? = some (.cells #[.int .i64 0, .int .i64 0, .slice none 0 0] 26 (0, 0))) := by show _ = _; rw [hW0]; exact heap_alloc_new w _
  clear hc
  go_enter Tryz.func18, Tryz.ntmps18
  go_wp2_with fail
  rw [← hW0]
  clear hW0
  refine (below_any 3 (by omega) _ HC0.out).mono ?_
  rintro e w1 ⟨x1, rfl, hx1, hc1, hg1⟩
  have HC1 : Hid (Cur B w1 g a len cap b off z) := hc1
  have HZ1 : Hid (w1.heap[w.heap.size]? = some (.cells #[.int .i64 0, .int .i64 0, .slice none 0 0] 26 (0, 0))) := grown_keep HZ0.out hg1 (by omega)
  have HG1 : Hid (w.grownBy w1 (some g)) := HG0.out.trans hg1
  obtain ⟨p0, _, p1⟩ := hx1
  have p2 := p1 (by omega)
  clear hc1 hg1 HC0 HZ0 HG0 p1
  go_wp2_with fail
  refine (below_any 4 (by omega) _ HC1.out).mono ?_
  rintro e w2 ⟨x2, rfl, hx2, hc2, hg2⟩
  have HC2 : Hid (Cur B w2 g a len cap b off z) := hc2
  have HZ2 : Hid (w2.heap[w.heap.size]? = some (.cells #[.int .i64 0, .int .i64 0, .slice none 0 0] 26 (0, 0))) := grown_keep HZ1.out hg2 (by omega)
  have HG2 : Hid (w.grownBy w2 (some g)) := HG1.out.trans hg2
  obtain ⟨q0, _, q1⟩ := hx2
  have q2 := q1 (by omega)
  have hm0 : 0 ≤ x1 * x2 := Int.mul_nonneg p0 q0
  have hm1 : x1 * x2 ≤ 6 := by
    have h1 : x1 * x2 ≤ 2 * x2 := Int.mul_le_mul_of_nonneg_right (by omega) q0
    omega
  clear hc2 hg2 HC1 HZ1 HG1 q1
  go_wp2_with fail
  refine (below_any 3 (by omega) _ HC2.out).mono ?_
  rintro e w3 ⟨x3, rfl, hx3, hc3, hg3⟩
  obtain ⟨r0, _, r1⟩ := hx3
  have r2 := r1 (by omega)
  have HZ3 : w3.heap[w.heap.size]? = some (.cells #[.int .i64 0, .int .i64 0, .slice none 0 0] 26 (0, 0)) := grown_keep HZ2.out hg3 (by omega)
  have hz3 : w.heap.size < w3.heap.size := (Array.getElem?_eq_some_iff.1 HZ3).1
  have HG3 : Hid (w.grownBy w3 (some g)) := HG2.out.trans hg3
  obtain ⟨st, hst⟩ : ∃ st, st = x1 * x2 := ⟨_, rfl⟩
  have HL3 : Hid (LS B g len cap b off a z w w3.heap.size st x3 [] (.slice none 0 0) (w3.alloc (Obj.cells #[.int .i64 (x1 * x2), .int .i64 x3, .slice none 0 0] 26))) := by
    rw [← hst]
    refine ⟨hc3.alloc _, heap_alloc_new w3 _, World.ownsRow_nil _ _ _ _, ?_, HG3.out.trans (grown_alloc _ _), hlt, hz3⟩
    rw [Below.heap_alloc _ _ _ hz3]; exact HZ3
  have HST : Hid (0 ≤ st ∧ st ≤ 6) := ⟨by omega, by omega⟩
  have HX3 : Hid (0 ≤ x3 ∧ x3 < 3) := ⟨r0, r2⟩
  obtain ⟨xb, hxb⟩ : ∃ xb, xb = w3.heap.size := ⟨_, rfl⟩
  clear r1 HZ3 HG3 hc3 hg3 HZ2 HG2 HC2 hz3
  go_wp2_with fail
  rw [← hxb] at HL3 ⊢
  clear hxb hst hm0 hm1
  go_loopw [4, 5] (fun t i wr => ∃ (k : Nat) (es : List EntL) (v : Value) (T : Int), k ≤ 7 ∧ i = .int .i64 ((k : Nat) : Int) ∧ t = .int .i64 T ∧ (0 ≤ T ∧ T ≤ 2 + 2 * (k : Int)) ∧ es.length = k ∧ Hid (Drawn x3 T es) ∧ LS B g len cap b off a z w xb st x3 es v wr) (fun _ i _ => 8 - (intOf i).toNat)
  case atStart => exact ⟨0, [], _, x3, by omega, rfl, rfl, ⟨r0, by omega⟩, rfl, Drawn.nil x3, HL3.out⟩
  case round =>
    obtain ⟨k, es, v, T, hk, rfl, rfl, hT, hes, HD, hls⟩ := hrel
    have HL : Hid (LS B g len cap b off a z w xb st x3 es v wr) := hls
    clear hls HL3
    go_wp2_with fail
    refine (below_any 8 (by omega) _ HL.out.cur).mono ?_
    rintro e w4 ⟨n, rfl, hn, hc4, hg4⟩
    obtain ⟨n0, _, n1⟩ := hn
    have n2 := n1 (by omega)
    have HL4 : Hid (LS B g len cap b off a z w xb st x3 es v w4) := HL.out.call hc4 hg4
    clear hc4 hg4 n1 HL
    by_cases hkn : (k : Int) < n
    · go_wp2_with fail
      refine (once_any 3 (by omega) _ HL4.out.cur).mono ?_
      rintro e w5 ⟨y, rfl, hc5, hg5⟩
      have HL5 : Hid (LS B g len cap b off a z w xb st x3 es v w5) := HL4.out.call hc5 hg5
      clear hc5 hg5 HL4
      cases hy : (y == 0) with
      | true =>
        go_wp2_with fail
        refine (below_any 2 (by omega) _ HL5.out.cur).mono ?_
        rintro e w6 ⟨m, rfl, hm, hc6, hg6⟩
        obtain ⟨m0, _, m1⟩ := hm
        have m2 := m1 (by omega)
        have HL6 : Hid (LS B g len cap b off a z w xb st x3 es v w6) := HL5.out.call hc6 hg6
        have HD6 : Hid (Drawn x3 (T + 1 + m) es) := HD.out.up (by omega)
        clear hc6 hg6 HL5 m1
        go_wp2_with fail
        have hS0 : w6.drew.cell? ⟨xb, 2, none⟩ = some v := HL6.out.drew.cell
        refine wp_region_last (S := fun X => X.cell? ⟨xb, 2, none⟩ = some v) (by kernel_rfl) (by kernel_rfl) hS0 (fun _ => ?_)
        simp only [List.dropLast, List.length_cons, List.length_nil, Nat.zero_add, Nat.reduceAdd, Nat.add_one_sub_one, Nat.reduceSub]
        refine wpAnyH_take (i := 0) (v := .pointer (some ⟨xb, 2, none⟩)) rfl (by kernel_rfl) (by kernel_rfl) (by kernel_rfl) (fun _ _ _ h => h) (Or.inl ⟨by rfl, fun X hX => by go_simp⟩) hS0 ?_
        try simp only [Act.put, List.setIfInBounds_toArray, List.set_cons_zero, List.set_cons_succ, List.getElem_toArray, List.getElem_cons_zero, List.getElem_cons_succ]
        refine wpAnyH_take (i := 1) (v := v) rfl (by kernel_rfl) (by kernel_rfl) (by kernel_rfl) (fun _ _ _ h => h) (Or.inl ⟨by rfl, fun X hX => by go_simp⟩) hS0 ?_
        try simp only [Act.put, List.setIfInBounds_toArray, List.set_cons_zero, List.set_cons_succ, List.getElem_toArray, List.getElem_cons_zero, List.getElem_cons_succ]
        refine wpAnyH_take (i := 2) (v := .pointer (some ⟨g, 0, none⟩)) rfl (by kernel_rfl) (by kernel_rfl) (by kernel_rfl) (fun _ _ _ h => h) (Or.inl ⟨by rfl, fun X hX => by go_simp⟩) hS0 ?_
        try simp only [Act.put, List.setIfInBounds_toArray, List.set_cons_zero, List.set_cons_succ, List.getElem_toArray, List.getElem_cons_zero, List.getElem_cons_succ]
        refine wpAnyH_take (i := 3) (v := .int .i64 (T + 1 + m)) rfl (by kernel_rfl) (by kernel_rfl) (by kernel_rfl) (fun _ _ _ h => h) (Or.inl ⟨by rfl, fun X hX => by go_simp⟩) hS0 ?_
        try simp only [Act.put, List.setIfInBounds_toArray, List.set_cons_zero, List.set_cons_succ, List.getElem_toArray, List.getElem_cons_zero, List.getElem_cons_succ]
        refine wpAnyH_ready (rs := [4]) (by kernel_rfl) (by simp) ?_
        refine AllReadyH.cons rfl (fun K hK => ?_) AllReadyH.nil
        refine step_call2 (by with_unfolding_all rfl) 43 _ _ 54 3 (by with_unfolding_all rfl) (.pointer (some ⟨g, 0, none⟩)) (.int .i64 (T + 1 + m)) (by with_unfolding_all rfl) (by with_unfolding_all rfl) (fun u w' => ∃ d : EntL, u = entV d ∧ d.term = (T + 1 + m) ∧ Ents.okB d = true ∧ d.data.size ≤ 120 ∧ Cur B w' g a len cap b off z ∧ w6.drew.grownBy w' (some g)) (fun w => by kernel_rfl) ((rightR_any (T + 1 + m) (by omega) (by omega) _ HL6.out.drew.cur).mono (fun e w' ⟨d, q1, q2⟩ => ⟨_, q1, d, rfl, q2⟩)) ?_
        rintro u w7 ⟨d, rfl, hd1, hd2, hd3, hc7, hg7⟩
        have HL7 : Hid (LS B g len cap b off a z w xb st x3 es v w7) := HL6.out.drew.call hc7 hg7
        have HDN : Hid (Drawn x3 (T + 1 + m) (es ++ [d])) := HD6.out.snoc hd1 hd2 hd3
        clear hd1 hd2 hd3 hc7 hg7 HL6 HD6
        unfold entV
        refine hK.out _ _ HL7.out.cell (fun _ => ?_)
        clear hK K
        try simp only [Act.put, List.setIfInBounds_toArray, List.set_cons_zero, List.set_cons_succ, List.getElem_toArray, List.getElem_cons_zero, List.getElem_cons_succ]
        refine wpAnyH_ready (rs := [5]) (by kernel_rfl) (by simp) ?_
        refine AllReadyH.cons rfl (fun K hK => ?_) AllReadyH.nil
        go_simp
        refine hK.out _ _ (HL7.out.alloc _).cell (fun _ => ?_)
        clear hK K
        try simp only [Act.put, List.setIfInBounds_toArray, List.set_cons_zero, List.set_cons_succ, List.getElem_toArray, List.getElem_cons_zero, List.getElem_cons_succ]
        have HN7 : Hid ((w7.alloc (Obj.cells #[.int .i64 d.term, .int .i64 d.kind, .string d.data] 51)).heap[w7.heap.size]? = some (.cells #[.int .i64 d.term, .int .i64 d.kind, .string d.data] 51 (0, 0))) := heap_alloc_new w7 _
        have HL8 : Hid (LS B g len cap b off a z w xb st x3 es v (w7.alloc (Obj.cells #[.int .i64 d.term, .int .i64 d.kind, .string d.data] 51))) := HL7.out.alloc _
        clear HL7
        refine wpAnyH_ready (rs := [6]) (by kernel_rfl) (by simp) ?_
        refine AllReadyH.cons rfl (fun K hK => ?_) AllReadyH.nil
        refine step_appV (by with_unfolding_all rfl) _ _ (by with_unfolding_all rfl) w.heap.size v w7.heap.size es d (by with_unfolding_all rfl) (by with_unfolding_all rfl) HL8.out.own HL8.out.gr.size (by omega) HN7.out ?_
        intro v9 w9 hown9 hg9
        obtain ⟨a9, c9, rfl⟩ := own_slice hown9
        have hx9 := HL8.out.grows hg9
        have z2 := cell_of_row _ _ 2 _ _ _ hx9.2.1
        have zf := frozen_of_row _ _ 2 _ _ hx9.2.1
        simp at z2
        have HL9 : Hid (LS B g len cap b off a z w xb st x3 (es ++ [d]) (.slice a9 (es ++ [d]).length c9) (w9.setCell ⟨xb, 2, none⟩ (.slice a9 (es ++ [d]).length c9))) := HL8.out.put hg9 hown9
        clear hown9 hg9 HL8 HN7 hx9
        refine hK.out _ _ z2 (fun _ => ?_)
        clear hK K
        try simp only [Act.put, List.setIfInBounds_toArray, List.set_cons_zero, List.set_cons_succ, List.getElem_toArray, List.getElem_cons_zero, List.getElem_cons_succ]
        refine wpAnyH_take (i := 7) (v := .pointer (some ⟨xb, 2, none⟩)) rfl (by kernel_rfl) (by kernel_rfl) (by kernel_rfl) (fun _ _ _ h => h) (Or.inl ⟨by rfl, fun X hX => by go_simp⟩) z2 ?_
        try simp only [Act.put, List.setIfInBounds_toArray, List.set_cons_zero, List.set_cons_succ, List.getElem_toArray, List.getElem_cons_zero, List.getElem_cons_succ]
        refine wpAnyH_done (by kernel_rfl) ?_ _
        dsimp only [NX]
        refine wpOp_step rfl (fun K hK => ?_)
        go_simp
        refine hK _ _ ?_
        clear hK K z2 zf
        go_wp2
        have hn9 : (es ++ [d]).length = k + 1 := by simp [hes]
        rw [hn9] at HL9
        go_roundw
        case rel => exact ⟨k + 1, es ++ [d], _, _, by omega, by go_num, rfl, ⟨by omega, by omega⟩, by simp [hes], HDN, HL9.out⟩
        case measure => simp [intOf]; omega
      | false =>
        have HL6 : Hid (LS B g len cap b off a z w xb st x3 es v w5) := HL5.out
        have HD6 : Hid (Drawn x3 T es) := HD.out
        clear HL5
        go_wp2_with fail
        have hS0 : w5.drew.cell? ⟨xb, 2, none⟩ = some v := HL6.out.drew.cell
        refine wp_region_last (S := fun X => X.cell? ⟨xb, 2, none⟩ = some v) (by kernel_rfl) (by kernel_rfl) hS0 (fun _ => ?_)
        simp only [List.dropLast, List.length_cons, List.length_nil, Nat.zero_add, Nat.reduceAdd, Nat.add_one_sub_one, Nat.reduceSub]
        refine wpAnyH_take (i := 0) (v := .pointer (some ⟨xb, 2, none⟩)) rfl (by kernel_rfl) (by kernel_rfl) (by kernel_rfl) (fun _ _ _ h => h) (Or.inl ⟨by rfl, fun X hX => by go_simp⟩) hS0 ?_
        try simp only [Act.put, List.setIfInBounds_toArray, List.set_cons_zero, List.set_cons_succ, List.getElem_toArray, List.getElem_cons_zero, List.getElem_cons_succ]
        refine wpAnyH_take (i := 1) (v := v) rfl (by kernel_rfl) (by kernel_rfl) (by kernel_rfl) (fun _ _ _ h => h) (Or.inl ⟨by rfl, fun X hX => by go_simp⟩) hS0 ?_
        try simp only [Act.put, List.setIfInBounds_toArray, List.set_cons_zero, List.set_cons_succ, List.getElem_toArray, List.getElem_cons_zero, List.getElem_cons_succ]
        refine wpAnyH_take (i := 2) (v := .pointer (some ⟨g, 0, none⟩)) rfl (by kernel_rfl) (by kernel_rfl) (by kernel_rfl) (fun _ _ _ h => h) (Or.inl ⟨by rfl, fun X hX => by go_simp⟩) hS0 ?_
        try simp only [Act.put, List.setIfInBounds_toArray, List.set_cons_zero, List.set_cons_succ, List.getElem_toArray, List.getElem_cons_zero, List.getElem_cons_succ]
        refine wpAnyH_take (i := 3) (v := .int .i64 (T)) rfl (by kernel_rfl) (by kernel_rfl) (by kernel_rfl) (fun _ _ _ h => h) (Or.inl ⟨by rfl, fun X hX => by go_simp⟩) hS0 ?_
        try simp only [Act.put, List.setIfInBounds_toArray, List.set_cons_zero, List.set_cons_succ, List.getElem_toArray, List.getElem_cons_zero, List.getElem_cons_succ]
        refine wpAnyH_ready (rs := [4]) (by kernel_rfl) (by simp) ?_
        refine AllReadyH.cons rfl (fun K hK => ?_) AllReadyH.nil
        refine step_call2 (by with_unfolding_all rfl) 43 _ _ 54 3 (by with_unfolding_all rfl) (.pointer (some ⟨g, 0, none⟩)) (.int .i64 (T)) (by with_unfolding_all rfl) (by with_unfolding_all rfl) (fun u w' => ∃ d : EntL, u = entV d ∧ d.term = (T) ∧ Ents.okB d = true ∧ d.data.size ≤ 120 ∧ Cur B w' g a len cap b off z ∧ w5.drew.grownBy w' (some g)) (fun w => by kernel_rfl) ((rightR_any (T) (by omega) (by omega) _ HL6.out.drew.cur).mono (fun e w' ⟨d, q1, q2⟩ => ⟨_, q1, d, rfl, q2⟩)) ?_
        rintro u w7 ⟨d, rfl, hd1, hd2, hd3, hc7, hg7⟩
        have HL7 : Hid (LS B g len cap b off a z w xb st x3 es v w7) := HL6.out.drew.call hc7 hg7
        have HDN : Hid (Drawn x3 (T) (es ++ [d])) := HD6.out.snoc hd1 hd2 hd3
        clear hd1 hd2 hd3 hc7 hg7 HL6 HD6
        unfold entV
        refine hK.out _ _ HL7.out.cell (fun _ => ?_)
        clear hK K
        try simp only [Act.put, List.setIfInBounds_toArray, List.set_cons_zero, List.set_cons_succ, List.getElem_toArray, List.getElem_cons_zero, List.getElem_cons_succ]
        refine wpAnyH_ready (rs := [5]) (by kernel_rfl) (by simp) ?_
        refine AllReadyH.cons rfl (fun K hK => ?_) AllReadyH.nil
        go_simp
        refine hK.out _ _ (HL7.out.alloc _).cell (fun _ => ?_)
        clear hK K
        try simp only [Act.put, List.setIfInBounds_toArray, List.set_cons_zero, List.set_cons_succ, List.getElem_toArray, List.getElem_cons_zero, List.getElem_cons_succ]
        have HN7 : Hid ((w7.alloc (Obj.cells #[.int .i64 d.term, .int .i64 d.kind, .string d.data] 51)).heap[w7.heap.size]? = some (.cells #[.int .i64 d.term, .int .i64 d.kind, .string d.data] 51 (0, 0))) := heap_alloc_new w7 _
        have HL8 : Hid (LS B g len cap b off a z w xb st x3 es v (w7.alloc (Obj.cells #[.int .i64 d.term, .int .i64 d.kind, .string d.data] 51))) := HL7.out.alloc _
        clear HL7
        refine wpAnyH_ready (rs := [6]) (by kernel_rfl) (by simp) ?_
        refine AllReadyH.cons rfl (fun K hK => ?_) AllReadyH.nil
        refine step_appV (by with_unfolding_all rfl) _ _ (by with_unfolding_all rfl) w.heap.size v w7.heap.size es d (by with_unfolding_all rfl) (by with_unfolding_all rfl) HL8.out.own HL8.out.gr.size (by omega) HN7.out ?_
        intro v9 w9 hown9 hg9
        obtain ⟨a9, c9, rfl⟩ := own_slice hown9
        have hx9 := HL8.out.grows hg9
        have z2 := cell_of_row _ _ 2 _ _ _ hx9.2.1
        have zf := frozen_of_row _ _ 2 _ _ hx9.2.1
        simp at z2
        have HL9 : Hid (LS B g len cap b off a z w xb st x3 (es ++ [d]) (.slice a9 (es ++ [d]).length c9) (w9.setCell ⟨xb, 2, none⟩ (.slice a9 (es ++ [d]).length c9))) := HL8.out.put hg9 hown9
        clear hown9 hg9 HL8 HN7 hx9
        refine hK.out _ _ z2 (fun _ => ?_)
        clear hK K
        try simp only [Act.put, List.setIfInBounds_toArray, List.set_cons_zero, List.set_cons_succ, List.getElem_toArray, List.getElem_cons_zero, List.getElem_cons_succ]
        refine wpAnyH_take (i := 7) (v := .pointer (some ⟨xb, 2, none⟩)) rfl (by kernel_rfl) (by kernel_rfl) (by kernel_rfl) (fun _ _ _ h => h) (Or.inl ⟨by rfl, fun X hX => by go_simp⟩) z2 ?_
        try simp only [Act.put, List.setIfInBounds_toArray, List.set_cons_zero, List.set_cons_succ, List.getElem_toArray, List.getElem_cons_zero, List.getElem_cons_succ]
        refine wpAnyH_done (by kernel_rfl) ?_ _
        dsimp only [NX]
        refine wpOp_step rfl (fun K hK => ?_)
        go_simp
        refine hK _ _ ?_
        clear hK K z2 zf
        go_wp2
        have hn9 : (es ++ [d]).length = k + 1 := by simp [hes]
        rw [hn9] at HL9
        go_roundw
        case rel => exact ⟨k + 1, es ++ [d], _, _, by omega, by go_num, rfl, ⟨by omega, by omega⟩, by simp [hes], HDN, HL9.out⟩
        case measure => simp [intOf]; omega
    · go_wp2_with (first | (refine wpList_loadA Tryz.isAgg26 Tryz.sizeOf26 rfl _ rfl xb #[.int .i64 st, .int .i64 x3, v] 26 rfl HL4.out.x rfl ?_) | (refine wpList_storeA Tryz.sizeOf26 rfl _ _ rfl w.heap.size #[.int .i64 st, .int .i64 x3, v] #[.int .i64 0, .int .i64 0, .slice none 0 0] 26 rfl rfl HL4.out.zz rfl rfl (log_one' HL4.out.own _ _) ?_) | fail)
      obtain ⟨s1, s2, s3⟩ := HL4.out.done #[.int .i64 st, .int .i64 x3, v]
      exact bodyPost_ret (resultL (f := Tryz.f18) HL4.out.zz rfl rfl) rfl ⟨⟨st, x3, es⟩, v, rfl, HST.out, ⟨HX3.out.1, by have := HX3.out.2; show x3 ≤ 100; omega⟩, by show es.length ≤ 7; omega, HD.out.up (by omega), s3, s1, s2⟩
end Go.Proofs.YtahpoemmlpbgdaaGreat
