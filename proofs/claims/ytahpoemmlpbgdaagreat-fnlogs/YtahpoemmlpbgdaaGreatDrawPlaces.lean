/- What is drawn of logs is right: DrawRightLogs. The call of DrawPlaces, walked: twelve numbers below 10000. -/
import Derived.Test.YtahpoemmlpbgdaaGreatDrawNext
import Derived.Test.YtahpoemmlpbgdaaGreatSpecLog3
import Derived.Test.YtahpoemmlpbgdaaGreatDrawA
import Derived.Test.YtahpoemmlpbgdaaGreatConfA
namespace Go.Proofs.YtahpoemmlpbgdaaGreat
open Go.RowKit
set_option linter.unusedVariables false
set_option linter.unusedSimpArgs false

/-- Two right logs and the file of the first, all in rows of the call's own. -/
def LogsPost (w : World) (e : Ending) (w' : World) : Prop := ∃ (F : ByteArray) (R : Bool) (l m : LogL) (v u : Value), e = .returned (.tuple #[.string F, .agg #[.int .i64 l.start, .int .i64 l.sterm, v], .agg #[.int .i64 m.start, .int .i64 m.sterm, u]]) ∧ fileTuple l = .tuple #[.string F, .bool R] ∧
  ((0 ≤ l.start ∧ l.start ≤ 6) ∧ (0 ≤ l.sterm ∧ l.sterm ≤ 100) ∧ l.ents.length ≤ 7 ∧ Drawn l.sterm 100 l.ents) ∧ ((0 ≤ m.start ∧ m.start ≤ 20) ∧ (0 ≤ m.sterm ∧ m.sterm ≤ 110) ∧ m.ents.length ≤ 10 ∧ Drawn m.sterm 110 m.ents) ∧
  w'.ownsRow w.heap.size 51 3 v l.ents.length (cellsEn l.ents) ∧ w'.ownsRow w.heap.size 51 3 u m.ents.length (cellsEn m.ents) ∧ Below w.heap.size w w'
theorem file_tuple (l : LogL) : ∃ (F : ByteArray) (R : Bool), fileTuple l = .tuple #[.string F, .bool R] := by
  unfold fileTuple
  split
  · exact ⟨_, _, rfl⟩
  · exact ⟨_, _, rfl⟩
/-- What grows but for a cursor that is new is below. -/
theorem below_of_grown {w w1 w2 : World} {g : Nat} (hb : Below w.heap.size w w1) (hg : w1.grownBy w2 (some g)) (h : w.heap.size ≤ g) : Below w.heap.size w w2 := hb.grown hg hb.size (fun q hq => by cases hq; exact h)
theorem below_row {B : Nat} {w w' : World} (h : Below B w w') {g : Nat} (hg : B ≤ g) (A : Array Value) : Below B w (w'.setRow g A) :=
  ⟨h.os, h.tape, h.output, by rw [setRow_size]; exact h.size, fun k hk => (setRow_other w' g k A (by omega)).trans (h.block k hk)⟩
/-- What the draw holds ahead of its answer: the cursor, the log, its variable, the two results. -/
structure DS (w : World) (B g len cap b off : Nat) (a : Option Addr) (z : Nat → Int) (q3 q4 lb : Nat) (l : LogL) (v : Value) (A3 : Array Value) (W : World) : Prop where
  cur : Cur B W g a len cap b off z
  own : W.ownsRow w.heap.size 51 3 v l.ents.length (cellsEn l.ents)
  x : W.heap[lb]? = some (.cells #[.int .i64 l.start, .int .i64 l.sterm, v] 26 (0, 0))
  z3 : W.heap[q3]? = some (.cells A3 26 (0, 0))
  z4 : W.heap[q4]? = some (.cells #[.int .i64 0, .int .i64 0, .slice none 0 0] 26 (0, 0))
  bel : Below w.heap.size w W
  h3 : w.heap.size ≤ q3
  h34 : q3 < q4
  h4 : q4 < g
  hg : g < lb
  hB : B ≤ w.heap.size
section
variable {w W W' : World} {B g len cap b off : Nat} {a : Option Addr} {z : Nat → Int} {q3 q4 lb : Nat} {l : LogL} {v : Value} {A3 : Array Value}
theorem DS.not (h : DS w B g len cap b off a z q3 q4 lb l v A3 W) : v.ownBlock ≠ some g := by
  obtain ⟨cs, hcs⟩ := h.cur.blk
  exact own_not h.own hcs (by decide)
theorem DS.call (h : DS w B g len cap b off a z q3 q4 lb l v A3 W) (hc : Cur B W' g a len cap b off z) (hg : W.grownBy W' (some g)) : DS w B g len cap b off a z q3 q4 lb l v A3 W' :=
  have e1 := h.h3
  have e2 := h.h34
  have e3 := h.h4
  have e4 := h.hg
  ⟨hc, h.own.kept hg (Or.inr h.not), grown_keep h.x hg (by omega), grown_keep h.z3 hg (by omega), grown_keep h.z4 hg (by omega), below_of_grown h.bel hg (by omega), e1, e2, e3, e4, h.hB⟩
theorem DS.drew (h : DS w B g len cap b off a z q3 q4 lb l v A3 W) : DS w B g len cap b off a z q3 q4 lb l v A3 W.drew := h.call (h.cur.same (Below.refl _ _).drew) (own_below' (Below.refl _ _).drew)
theorem DS.store (h : DS w B g len cap b off a z q3 q4 lb l v A3 W) (A : Array Value) : DS w B g len cap b off a z q3 q4 lb l v A (W.setRow q3 A) :=
  have e1 := h.h3
  have e2 := h.h34
  have e3 := h.h4
  have e4 := h.hg
  ⟨h.cur.kept (grown_setRow W q3 _) (fun r e => Or.inl (by have := h.hB; cases e; omega)) (setRow_other W q3 g _ (by omega)), own_row h.own q3 _ (own_not h.own h.z3 (by decide)), row_far h.x (by omega) _, row_size h.z3, row_far h.z4 (by omega) _, below_row h.bel e1 _, e1, e2, e3, e4, h.hB⟩
end
theorem resultD {w : World} {q3 q4 : Nat} {F : ByteArray} {A3 A4 C4 : Array Value} (h3 : w.heap[q3]? = some (.cells A3 26 (0, 0))) (h4 : w.heap[q4]? = some (.cells C4 26 (0, 0))) (hne : q3 ≠ q4) (s3 : A3.size = 3) (s4 : A4.size = 3) {tmps : Array Value} (t2 : tmps.getD 2 undef = .string F) (t3 : tmps.getD 3 undef = .pointer (some ⟨q3, 0, none⟩)) (t4 : tmps.getD 4 undef = .pointer (some ⟨q4, 0, none⟩)) :
    (results Tryz.f5 tmps).run Tryz.prog (w.setRow q4 A4) = .ok (.tuple #[.string F, .agg A3, .agg A4]) (w.setRow q4 A4) := by
  have e3 := run_loadVar_agg (P := Tryz.prog) Tryz.isAgg26 Tryz.sizeOf26 (row_far h3 hne A4) s3
  have e4 := run_loadVar_agg (P := Tryz.prog) Tryz.isAgg26 Tryz.sizeOf26 (row_size (A := A4) h4) s4
  have t2' : tmps[2]?.getD undef = .string F := by simpa using t2
  have t3' : tmps[3]?.getD undef = .pointer (some ⟨q3, 0, none⟩) := by simpa using t3
  have t4' : tmps[4]?.getD undef = .pointer (some ⟨q4, 0, none⟩) := by simpa using t4
  simp [results, Tryz.results5, t2', t3', t4', asAddr, e3, e4]
set_option maxHeartbeats 4000000 in
set_option maxRecDepth 100000 in
theorem logs_any {B cap len b off : Nat} {a : Option Addr} {z : Nat → Int} (w : World) (hB : B ≤ w.heap.size) (hc : Code B w a len b off z) :
    Calls Tryz.prog 5 #[.slice a len cap] w (LogsPost w) := by
  obtain ⟨W0, hW0⟩ : ∃ W0, W0 = (w.alloc (Obj.cells #[.int .i64 0, .int .i64 0, .slice none 0 0] 26)).alloc (Obj.cells #[.int .i64 0, .int .i64 0, .slice none 0 0] 26) := ⟨_, rfl⟩
  have hb0 : Below w.heap.size w W0 := by rw [hW0]; exact ((Below.refl _ _).alloc (Nat.le_refl _) _).alloc (by simp) _
  have hs0 : W0.heap.size = w.heap.size + 2 := by rw [hW0]; simp
  have h3 : W0.heap[w.heap.size]? = some (.cells #[.int .i64 0, .int .i64 0, .slice none 0 0] 26 (0, 0)) := by
    rw [hW0, Below.heap_alloc _ _ _ (by simp)]
    exact heap_alloc_new w _
  have h4 : W0.heap[w.heap.size + 1]? = some (.cells #[.int .i64 0, .int .i64 0, .slice none 0 0] 26 (0, 0)) := by
    have := heap_alloc_new (w.alloc (Obj.cells #[.int .i64 0, .int .i64 0, .slice none 0 0] 26)) (Obj.cells #[.int .i64 0, .int .i64 0, .slice none 0 0] 26)
    rw [hW0]; simpa using this
  obtain ⟨q3, hq3⟩ : ∃ q, q = w.heap.size := ⟨_, rfl⟩
  obtain ⟨q4, hq4⟩ : ∃ q, q = w.heap.size + 1 := ⟨_, rfl⟩
  rw [← hq3] at h3
  rw [← hq4] at h4
  obtain ⟨g, hg⟩ : ∃ g, g = W0.heap.size := ⟨_, rfl⟩
  have HS : Hid (q3 = w.heap.size ∧ q4 = w.heap.size + 1 ∧ g = w.heap.size + 2 ∧ W0.heap.size = w.heap.size + 2) := ⟨hq3, hq4, by omega, hs0⟩
  have H3 : Hid (W0.heap[q3]? = some (.cells #[.int .i64 0, .int .i64 0, .slice none 0 0] 26 (0, 0))) := h3
  have H4 : Hid (W0.heap[q4]? = some (.cells #[.int .i64 0, .int .i64 0, .slice none 0 0] 26 (0, 0))) := h4
  have HB0 : Hid (Below w.heap.size w W0) := hb0
  have HQ : Hid (Calls Tryz.prog 17 #[.slice a len cap] W0 fun e w' => e = .returned (.pointer (some ⟨g, 0, none⟩)) ∧ Cur B w' g a len cap b off z ∧ Below W0.heap.size W0 w') := by
    rw [hg]; exact new_any W0 (by omega) (hc.below (hb0.mono hB))
  clear hc hb0 hs0 h3 h4 hg
  go_enter Tryz.func5, Tryz.ntmps5
  go_wp2_with fail
  rw [← hW0, ← hq4, ← hq3]
  clear hW0 hq3 hq4
  refine Calls.mono HQ.out ?_
  rintro e w1 ⟨rfl, hc1, hb1⟩
  have HC1 : Hid (Cur B w1 g a len cap b off z) := hc1
  have HB1 : Hid (Below W0.heap.size W0 w1) := hb1
  clear hc1 hb1 HQ
  go_wp2_with fail
  refine (logR_any w1 HC1.out).mono ?_
  rintro e w2 ⟨l, v, rfl, p1, p2, p3, p4, ho2, hc2, hg2⟩
  obtain ⟨va, vc, hv⟩ := own_slice ho2
  subst hv
  obtain ⟨F, R, hF⟩ := file_tuple l
  have HF : Hid (fileTuple l = .tuple #[.string F, .bool R]) := hF
  have HP : Hid ((0 ≤ l.start ∧ l.start ≤ 6) ∧ (0 ≤ l.sterm ∧ l.sterm ≤ 100) ∧ l.ents.length ≤ 7 ∧ Drawn l.sterm 100 l.ents) := ⟨p1, p2, p3, p4⟩
  obtain ⟨W3, hW3⟩ : ∃ W3, W3 = w2.alloc (Obj.cells #[.int .i64 l.start, .int .i64 l.sterm, .slice va l.ents.length vc] 26) := ⟨_, rfl⟩
  obtain ⟨lb, hlb⟩ : ∃ lb, lb = w2.heap.size := ⟨_, rfl⟩
  have hb23 : Below w2.heap.size w2 W3 := by rw [hW3]; exact (Below.refl _ _).alloc (Nat.le_refl _) _
  have HX3 : Hid (W3.heap[lb]? = some (.cells #[.int .i64 l.start, .int .i64 l.sterm, .slice va l.ents.length vc] 26 (0, 0))) := by show _ = _; rw [hW3, hlb]; exact heap_alloc_new w2 _
  have HO3 : Hid (W3.ownsRow w1.heap.size 51 3 (.slice va l.ents.length vc) l.ents.length (cellsEn l.ents)) := own_kept ho2 hb23
  have HC3 : Hid (Cur B W3 g a len cap b off z) := hc2.same hb23
  have HB3 : Hid (Below W0.heap.size W0 W3) := (below_of_grown HB1.out hg2 (by have := HS.out; omega)).trans (hb23.mono (Nat.le_trans HB1.out.size hg2.size))
  have HZ1 : Hid (W0.heap.size ≤ w1.heap.size) := HB1.out.size
  have HLB : Hid (g < lb) := by have := hc2.lt; show _ < _; omega
  have HQ33 : Hid (Calls Tryz.prog 19 #[.agg #[.int .i64 l.start, .int .i64 l.sterm, .slice va l.ents.length vc]] W3 fun en w' => en = .returned (.tuple #[.string F, .bool R]) ∧ Below W3.heap.size W3 w') := by
    obtain ⟨a3, g3, c3, e3, h3⟩ := cellsEn_slice HO3.out
    simp only [Value.slice.injEq] at e3
    obtain ⟨rfl, _, rfl⟩ := e3
    have := specFile_is (cap := vc) l (by omega) (fun e he => by have := p4.da e he; omega) W3 h3
    rw [hF] at this
    exact this
  have HX3c := cell_of_row _ _ 0 _ _ _ HX3.out
  clear p1 p2 p3 p4 ho2 hc2 hg2 hF HC1 hb23 HX3c HB1
  go_wp2_with (first | (refine wpList_loadA Tryz.isAgg26 Tryz.sizeOf26 rfl _ rfl lb #[.int .i64 l.start, .int .i64 l.sterm, .slice va l.ents.length vc] 26 rfl HX3.out rfl ?_) | fail)
  rw [← hW3, ← hlb]
  clear hW3 hlb
  refine Calls.mono HQ33.out ?_
  rintro e w4 ⟨rfl, hb4⟩
  have HD4 : Hid (DS w B g len cap b off a z q3 q4 lb l (.slice va l.ents.length vc) #[.int .i64 0, .int .i64 0, .slice none 0 0] w4) := by
    obtain ⟨e1, e2, e3, e4⟩ := HS.out
    have hz1 := HZ1.out
    have hlb := HLB.out
    have hb34 : Below W0.heap.size W0 w4 := HB3.out.trans (hb4.mono HB3.out.size)
    refine ⟨HC3.out.same hb4, own_mono (own_kept HO3.out hb4) (by omega), (hb4.block _ (Array.getElem?_eq_some_iff.1 HX3.out).1).trans HX3.out, (hb34.block _ (by omega)).trans H3.out, (hb34.block _ (by omega)).trans H4.out, HB0.out.trans (hb34.mono (by omega)), by omega, by omega, by omega, by omega, hB⟩
  clear hb4 HQ33 HC3 HO3 HX3 HB3 HZ1 HLB H3 H4 HB0 HS
  have HN4 : Hid (∀ W A, DS w B g len cap b off a z q3 q4 lb l (.slice va l.ents.length vc) A W → Calls Tryz.prog 20 #[.pointer (some ⟨g, 0, none⟩), .agg #[.int .i64 l.start, .int .i64 l.sterm, .slice va l.ents.length vc]] W (LogPostR B g len cap b off a z W 20 10 110)) := fun W A h =>
    nextR_any l va vc W h.cur HP.out.1 HP.out.2.1 HP.out.2.2.1 HP.out.2.2.2 h.own
  go_wp2_with fail
  have hS0 : w4.drew.heap[lb]? = some (.cells #[.int .i64 l.start, .int .i64 l.sterm, .slice va l.ents.length vc] 26 (0, 0)) := HD4.out.drew.x
  refine wp_region_last (S := fun X => X.heap[lb]? = some (.cells #[.int .i64 l.start, .int .i64 l.sterm, .slice va l.ents.length vc] 26 (0, 0))) (by kernel_rfl) (by kernel_rfl) hS0 (fun _ => ?_)
  simp only [List.dropLast, List.length_cons, List.length_nil, Nat.zero_add, Nat.reduceAdd, Nat.add_one_sub_one, Nat.reduceSub]
  refine wpAnyH_take (i := 0) (v := .string F) rfl (by kernel_rfl) (by kernel_rfl) (by kernel_rfl) (fun _ _ _ h => h) (Or.inl ⟨by rfl, fun X hX => by go_simp⟩) hS0 ?_
  try simp only [Act.put, List.setIfInBounds_toArray, List.set_cons_zero, List.set_cons_succ, List.getElem_toArray, List.getElem_cons_zero, List.getElem_cons_succ]
  refine wpAnyH_take (i := 1) (v := .agg #[.int .i64 l.start, .int .i64 l.sterm, .slice va l.ents.length vc]) rfl (by kernel_rfl) (by kernel_rfl) (by kernel_rfl) (fun _ _ _ h => h) (Or.inl ⟨by rfl, fun X hX => by have z0 := cell_of_row _ _ 0 _ _ _ hX; have z1 := cell_of_row _ _ 1 _ _ _ hX; have z2 := cell_of_row _ _ 2 _ _ _ hX; simp at z0 z1 z2; go_simp⟩) hS0 ?_
  try simp only [Act.put, List.setIfInBounds_toArray, List.set_cons_zero, List.set_cons_succ, List.getElem_toArray, List.getElem_cons_zero, List.getElem_cons_succ]
  refine wpAnyH_take (i := 2) (v := .pointer (some ⟨g, 0, none⟩)) rfl (by kernel_rfl) (by kernel_rfl) (by kernel_rfl) (fun _ _ _ h => h) (Or.inl ⟨by rfl, fun X hX => by go_simp⟩) hS0 ?_
  try simp only [Act.put, List.setIfInBounds_toArray, List.set_cons_zero, List.set_cons_succ, List.getElem_toArray, List.getElem_cons_zero, List.getElem_cons_succ]
  refine wpAnyH_take (i := 3) (v := .agg #[.int .i64 l.start, .int .i64 l.sterm, .slice va l.ents.length vc]) rfl (by kernel_rfl) (by kernel_rfl) (by kernel_rfl) (fun _ _ _ h => h) (Or.inl ⟨by rfl, fun X hX => by have z0 := cell_of_row _ _ 0 _ _ _ hX; have z1 := cell_of_row _ _ 1 _ _ _ hX; have z2 := cell_of_row _ _ 2 _ _ _ hX; simp at z0 z1 z2; go_simp⟩) hS0 ?_
  try simp only [Act.put, List.setIfInBounds_toArray, List.set_cons_zero, List.set_cons_succ, List.getElem_toArray, List.getElem_cons_zero, List.getElem_cons_succ]
  refine wpAnyH_ready (rs := [4]) (by kernel_rfl) (by simp) ?_
  refine AllReadyH.cons rfl (fun K hK => ?_) AllReadyH.nil
  · refine step_call2 (by with_unfolding_all rfl) 20 _ _ 54 26 (by with_unfolding_all rfl) (.pointer (some ⟨g, 0, none⟩)) (.agg #[.int .i64 l.start, .int .i64 l.sterm, .slice va l.ents.length vc]) (by with_unfolding_all rfl) (by with_unfolding_all rfl) (fun u w' => LogPostR B g len cap b off a z w4.drew 20 10 110 (.returned u) w') (fun w => by kernel_rfl) ((HN4.out _ _ HD4.out.drew).mono (fun e w' ⟨m, u, q1, q2⟩ => ⟨_, q1, m, u, rfl, q2⟩)) ?_
    rintro u w5 ⟨m, mv, hu, q1, q2, q3', q4', ho5, hc5, hg5⟩
    cases hu
    obtain ⟨ma, mc, rfl⟩ := own_slice ho5
    have HD5 : Hid (DS w B g len cap b off a z q3 q4 lb l (.slice va l.ents.length vc) #[.int .i64 0, .int .i64 0, .slice none 0 0] w5) := HD4.out.drew.call hc5 hg5
    have HM : Hid ((0 ≤ m.start ∧ m.start ≤ 20) ∧ (0 ≤ m.sterm ∧ m.sterm ≤ 110) ∧ m.ents.length ≤ 10 ∧ Drawn m.sterm 110 m.ents) := ⟨q1, q2, q3', q4'⟩
    have HO5 : Hid (w5.ownsRow w.heap.size 51 3 (.slice ma m.ents.length mc) m.ents.length (cellsEn m.ents)) := own_mono ho5 HD4.out.drew.bel.size
    clear ho5 hc5 hg5 HD4 q1 q2 q3' q4'
    refine hK.out _ _ HD5.out.x (fun _ => ?_)
    clear hK K
    try simp only [Act.put, List.setIfInBounds_toArray, List.set_cons_zero, List.set_cons_succ, List.getElem_toArray, List.getElem_cons_zero, List.getElem_cons_succ]
    refine wpAnyH_take (i := 5) (v := .string F) rfl (by kernel_rfl) (by kernel_rfl) (by kernel_rfl) (fun _ _ _ h => h) (Or.inl ⟨by rfl, fun X hX => by go_simp⟩) HD5.out.x ?_
    try simp only [Act.put, List.setIfInBounds_toArray, List.set_cons_zero, List.set_cons_succ, List.getElem_toArray, List.getElem_cons_zero, List.getElem_cons_succ]
    refine wpAnyH_ready (rs := [6]) (by kernel_rfl) (by simp) ?_
    refine AllReadyH.cons rfl (fun K hK => ?_) AllReadyH.nil
    refine step_storeA (by with_unfolding_all rfl) _ _ (by with_unfolding_all rfl) q3 #[.int .i64 l.start, .int .i64 l.sterm, .slice va l.ents.length vc] #[.int .i64 0, .int .i64 0, .slice none 0 0] (by with_unfolding_all rfl) (by with_unfolding_all rfl) HD5.out.z3 rfl rfl (log_one' HD5.out.own _ _) ?_
    have HD6 : Hid (DS w B g len cap b off a z q3 q4 lb l (.slice va l.ents.length vc) #[.int .i64 l.start, .int .i64 l.sterm, .slice va l.ents.length vc] (w5.setRow q3 #[.int .i64 l.start, .int .i64 l.sterm, .slice va l.ents.length vc])) := HD5.out.store _
    have HO6 : Hid ((w5.setRow q3 #[.int .i64 l.start, .int .i64 l.sterm, .slice va l.ents.length vc]).ownsRow w.heap.size 51 3 (.slice ma m.ents.length mc) m.ents.length (cellsEn m.ents)) := own_row HO5.out q3 _ (own_not HO5.out HD5.out.z3 (by decide))
    obtain ⟨W6, hW6⟩ : ∃ W6, W6 = w5.setRow q3 #[.int .i64 l.start, .int .i64 l.sterm, .slice va l.ents.length vc] := ⟨_, rfl⟩
    rw [← hW6] at HD6 HO6 ⊢
    clear hW6 HD5 HO5
    refine hK.out _ _ HD6.out.x (fun _ => ?_)
    clear hK K
    try simp only [Act.put, List.setIfInBounds_toArray, List.set_cons_zero, List.set_cons_succ, List.getElem_toArray, List.getElem_cons_zero, List.getElem_cons_succ]
    refine wpAnyH_done (by kernel_rfl) ?_ _
    dsimp only [NX]
    refine wpOp_step rfl (fun K hK => ?_)
    refine step_storeA (by with_unfolding_all rfl) _ _ (by with_unfolding_all rfl) q4 #[.int .i64 m.start, .int .i64 m.sterm, .slice ma m.ents.length mc] #[.int .i64 0, .int .i64 0, .slice none 0 0] (by with_unfolding_all rfl) (by with_unfolding_all rfl) HD6.out.z4 rfl rfl (log_one' HO6.out _ _) (hK _ _ ?_)
    clear hK K
    have HE : Hid (LogsPost w (.returned (.tuple #[.string F, .agg #[.int .i64 l.start, .int .i64 l.sterm, .slice va l.ents.length vc], .agg #[.int .i64 m.start, .int .i64 m.sterm, .slice ma m.ents.length mc]])) (W6.setRow q4 #[.int .i64 m.start, .int .i64 m.sterm, .slice ma m.ents.length mc])) :=
      ⟨F, R, l, m, _, _, rfl, HF.out, HP.out, HM.out, own_row HD6.out.own q4 _ (own_not HD6.out.own HD6.out.z4 (by decide)), own_row HO6.out q4 _ (own_not HO6.out HD6.out.z4 (by decide)), below_row HD6.out.bel (by have := HD6.out.h3; have := HD6.out.h34; omega) _⟩
    go_wp2
    exact bodyPost_ret (resultD HD6.out.z3 HD6.out.z4 (by have := HD6.out.h34; omega) rfl rfl rfl rfl rfl) rfl HE.out
end Go.Proofs.YtahpoemmlpbgdaaGreat
namespace Go.Proofs.YtahpoemmlpbgdaaGreat
open Go.RowKit

set_option maxHeartbeats 1000000 in
set_option maxRecDepth 100000 in
theorem drawPlaces_any {B cap len b off : Nat} {a : Option Addr} {z : Nat → Int} (w : World) (hB : B ≤ w.heap.size) (hc : Code B w a len b off z) :
    Calls Tryz.prog 13 #[.slice a len cap] w fun e w' => ∃ (v : Value) (l : List Int), e = .returned v ∧ l.length = 12 ∧ (∀ x ∈ l, 0 ≤ x ∧ x < 10000) ∧ w'.ownsRow w.heap.size 3 1 v 12 (cellsI l) ∧ Below w.heap.size w w' := by
  obtain ⟨i0, hi, hz0, hz1, hz2⟩ := info_parts Tryz.info3
  have HC : Hid (Code B w a len b off z) := hc
  clear hc
  go_enter Tryz.func13, Tryz.ntmps13
  go_wp2_with fail
  refine (new_any w hB HC.out).mono ?_
  rintro e w1 ⟨rfl, hc1, hb1⟩
  go_wp2_with fail
  refine (byte_any w1 hc1).mono ?_
  rintro e w2 ⟨x0, rfl, _, _, hc2, hg2⟩
  have hb2 : Below w.heap.size w w2 := hb1.grown hg2 hb1.size (fun k hk => by cases hk; exact Nat.le_refl _)
  have hs1 := hb1.size
  have hgz := hc2.lt
  have HC2 : Hid (Cur B w2 w.heap.size a len cap b off z) := hc2
  have HB2 : Hid (Below w.heap.size w w2) := hb2
  clear hc1 hb1 hg2 hc2 hb2
  go_wp2
  go_loopw [4, 5] (fun v i wr => ∃ (k : Nat) (pre : List Int), k ≤ 12 ∧ i = .int .i64 (k : Int) ∧ pre.length = k ∧ (∀ x ∈ pre, 0 ≤ x ∧ x < 10000) ∧ wr.ownsRow w2.heap.size 3 1 v pre.length (cellsI pre) ∧ Cur B wr w.heap.size a len cap b off z ∧ w2.grownBy wr (some w.heap.size))
    (fun _ i _ => 12 - (intOf i).toNat)
  case atStart =>
    have hg0 := World.grownBy_alloc w2 (.cells #[] 3) (some w.heap.size)
    refine ⟨0, [], by omega, rfl, rfl, by simp, World.ownsRow_made w2 #[] 0 (Nat.le_refl _) (by unfold maxLen; omega) rfl, ?_, hg0⟩
    exact HC2.out.kept hg0 (fun r e => by cases e; exact Or.inr rfl) (by rw [Below.heap_alloc _ _ _ hgz])
  case round =>
    obtain ⟨k, pre, hk, rfl, hlen, hall, hown, hcur, hgr⟩ := hrel
    have HL : Hid (_ = _) := hlen
    have HA : Hid (∀ x ∈ pre, 0 ≤ x ∧ x < 10000) := hall
    have hpl : pre.length ≤ 12 := by omega
    clear hlen hall
    by_cases hlt : k < 12
    · go_wp2_with fail
      refine (below_any 10000 (by omega) wr hcur).mono ?_
      rintro e w3 ⟨x, rfl, ⟨hx0, _, hx2⟩, hc1, hg1⟩
      have hx1 := hx2 (by omega)
      have hne : ∀ r, u4.ownBlock = some r → r ≠ w.heap.size := fun r hr e => by have := (hown.lt r hr).1; omega
      have hown1 := hown.kept hg1 (by
        cases e : u4.ownBlock with
        | none => exact Or.inl rfl
        | some r => exact Or.inr (fun e2 => hne r e (Option.some.inj e2)))
      have hgr1 := hgr.trans hg1
      have hbz := hgr1.size
      have HC1 : Hid (Cur B w3 w.heap.size a len cap b off z) := hc1
      have HNE : Hid (∀ r, u4.ownBlock = some r → r ≠ w.heap.size) := hne
      have hgz1 := hc1.lt
      clear hc1 hne hown hg1 hgr hcur hx2
      go_wp2_with (at_builtin; refine wpList_append_own _ rfl _ _ 45 rfl w2.heap.size 3 i0 (.int .i64 0) 1 8 Tryz.underlying45 hi hz0 hz1 hz2 rfl (by decide) _ _ _ rfl (hown1.alloc _) ⟨w3.heap.size, 0, none⟩ 1 1 [.int .i64 x] rfl rfl ?c1 ?c2 ?c3 ?c4 ?c5 ?_)
      case c1 =>
        intro j u hj
        match j, hj with
        | 0, hj => simp at hj; subst hj; simp [Addr.add]
      case c2 => intro u hu; simp at hu; subst hu; rfl
      case c3 => unfold maxLen; omega
      case c4 => omega
      case c5 => simp; omega
      intro v' w4 hown2 hgrow _
      go_wp2
      go_roundw
      case rel =>
        have hga := World.grownBy_alloc w3 (.cells #[.int .i64 x] 3) (some w.heap.size)
        have hrow : ∀ r, u4.ownBlock = some r → w2.heap.size ≤ r := fun r hr => (hown1.lt r hr).1
        refine ⟨k + 1, pre ++ [x], by omega, by go_num, by rw [List.length_append, HL.out]; rfl, ?_, ownI_snoc hown2, ?_, (hgr1.trans hga).andThen hgrow (fun j hj => Or.inl (hrow j hj))⟩
        · intro y hy
          rcases List.mem_append.1 hy with h | h
          · exact HA.out y h
          · obtain rfl := List.mem_singleton.1 h
            exact ⟨hx0, hx1⟩
        · have hcA : Cur B (w3.alloc (.cells #[.int .i64 x] 3)) w.heap.size a len cap b off z := HC1.out.kept hga (fun r e => by cases e; exact Or.inr rfl) (by rw [Below.heap_alloc _ _ _ hgz1])
          refine hcA.kept hgrow (fun r hr => Or.inl (by have := hrow r hr; omega)) (hgrow.block w.heap.size (by simp; omega) (fun e => HNE.out w.heap.size e.symm rfl))
      case measure => simp [intOf]; omega
    · go_wp2
      go_ret
      have hk12 : pre.length = 12 := by rw [HL.out]; omega
      rw [hk12] at hown
      exact ⟨u4, pre, rfl, hk12, HA.out, own_mono hown (by omega), HB2.out.grown hgr HB2.out.size (fun k hk => by cases hk; exact Nat.le_refl _)⟩
end Go.Proofs.YtahpoemmlpbgdaaGreat
