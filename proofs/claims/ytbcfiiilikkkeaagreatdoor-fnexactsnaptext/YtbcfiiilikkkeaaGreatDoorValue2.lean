/- The program's valueOf of a manifest, cell by cell; two such values held against each other. -/
import Derived.Test.YtbcfiiilikkkeaaGreatDoorManText
import Derived.Test.YtbcfiiilikkkeaaGreatDoorMathShelf
import Derived.Laws.StructEq
namespace Go.Proofs.YtbcfiiilikkkeaaGreatDoor
open Go.RowKit
set_option linter.unusedVariables false
set_option linter.unusedSimpArgs false

def val17 (m : ManL) : Array Value := (splice ((([.int .i64 (m.segs.length : Int), .int .i64 m.next, .int .i64 m.base, .int .i64 m.term, .int .i64 (m.conf.length : Int)] : List Value) ++ splice ([.int .i64 0, .int .i64 0, .int .i64 0, .int .i64 0, .int .i64 0, .int .i64 0, .int .i64 0, .int .i64 0, .int .i64 0, .int .i64 0, .int .i64 0, .int .i64 0] : List Value) 0 (cellsI m.segs))) 13 (cellsI m.conf)).toArray
def intV (l : List Int) : Array Value := (l.map (Value.int .i64)).toArray
theorem intV_at (l : List Int) (j : Nat) (h : j < l.length) : (intV l)[j]? = some (.int .i64 l[j]) := by simp [intV, h]
theorem part_int {P : Program} {e : Nat} (w : World) (ha : (isAgg e).run P w = .ok false w) (l : List Int) (j : Nat) (h : j < l.length) : (part e (intV l) j).run P w = .ok (.int .i64 l[j]) w := by
  simp only [part, Sem.run_bind, ha, Result.andThen_ok, Bool.false_eq_true, if_false, intV_at l j h, Sem.run_pure]
theorem eq_int {P : Program} {e : Nat} {k : IntKind} (d : Nat) (w : World) (he : P.underlying e = some (.int k)) (x y : Int) : (Op.equalIn (d + 1) e (.int .i64 x) (.int .i64 y)).run P w = .ok (x == y) w := by
  simp only [Op.equalIn, Sem.run_bind, run_underlying he, Result.andThen_ok]
  simp
theorem arr_loop {P : Program} {e : Nat} {k : IntKind} (d : Nat) (w : World) (he : P.underlying e = some (.int k)) (ha : (isAgg e).run P w = .ok false w) (xs ys : List Int) : ∀ (m j : Nat), j + m = xs.length → j + m = ys.length →
    (forIn (List.range' j m) ((none, ()) : Option Bool × Unit) fun i (__s : Option Bool × Unit) => (do
              let __do_lift ← part e (intV xs) (i * 1)
              let __do_lift_1 ← part e (intV ys) (i * 1)
              let __do_lift ← Op.equalIn (d + 1) e __do_lift __do_lift_1
              if (!__do_lift) = true then pure (ForInStep.done (some false, ())) else pure (ForInStep.yield (none, ())) : Sem (ForInStep (Option Bool × Unit)))).run P w = .ok (if xs.drop j = ys.drop j then (none, ()) else (some false, ())) w
  | 0, j, h1, h2 => by
    rw [List.drop_eq_nil_of_le (by omega), List.drop_eq_nil_of_le (by omega)]
    simp
  | m + 1, j, h1, h2 => by
    have hx : j < xs.length := by omega
    have hy : j < ys.length := by omega
    rw [List.range'_succ, List.forIn_cons]
    simp only [Nat.mul_one, Sem.run_bind, part_int w ha xs j hx, part_int w ha ys j hy, Result.andThen_ok, eq_int d w he]
    have hd : (xs.drop j = ys.drop j) ↔ (xs[j] = ys[j] ∧ xs.drop (j + 1) = ys.drop (j + 1)) := by
      rw [List.drop_eq_getElem_cons hx, List.drop_eq_getElem_cons hy, List.cons.injEq]
    have hc : (if xs.drop j = ys.drop j then ((none, ()) : Option Bool × Unit) else (some false, ())) = if (xs[j] = ys[j] ∧ xs.drop (j + 1) = ys.drop (j + 1)) then (none, ()) else (some false, ()) := by
      by_cases c : xs.drop j = ys.drop j
      · rw [if_pos c, if_pos (hd.1 c)]
      · rw [if_neg c, if_neg fun c' => c (hd.2 c')]
    rw [hc]
    by_cases q : xs[j] = ys[j]
    · have ih := arr_loop d w he ha xs ys m (j + 1) (by omega) (by omega)
      simp only [Nat.mul_one] at ih
      simp only [q, beq_self_eq_true, Bool.not_true, Bool.false_eq_true, if_false, Sem.run_pure, Result.andThen_ok, true_and]
      exact ih
    · have q' : (xs[j] == ys[j]) = false := by simpa using q
      simp only [q', Bool.not_false, if_true, Sem.run_pure, Result.andThen_ok, q, false_and, if_false]
theorem arr_eq {P : Program} {t e n : Nat} {k : IntKind} (d : Nat) (xs ys : List Int) (w : World) (ht : P.underlying t = some (.array n e)) (he : P.underlying e = some (.int k)) (hz : (sizeOf e).run P w = .ok 1 w) (ha : (isAgg e).run P w = .ok false w) (hx : xs.length = n) (hy : ys.length = n) :
    (Op.equalIn (d + 2) t (.agg (intV xs)) (.agg (intV ys))).run P w = .ok (decide (xs = ys)) w := by
  rw [show d + 2 = (d + 1) + 1 from rfl, Op.equalIn]
  simp only [Sem.run_bind, run_underlying ht, Result.andThen_ok, hz]
  have := arr_loop d w he ha xs ys n 0 (by omega) (by omega)
  rw [Std.Legacy.Range.forIn_eq_forIn_range']
  simp only [Std.Legacy.Range.size, Nat.sub_zero, Nat.add_sub_cancel, Nat.div_one]
  rw [this]
  by_cases q : xs = ys
  · simp [q]
  · simp [q]
theorem intV_extract (l : List Int) (i j : Nat) : (intV l).extract i j = intV ((l.take j).drop i) := by
  simp [intV, List.map_take, List.map_drop, List.drop_take]
theorem part_agg {P : Program} {t n : Nat} (w : World) (ha : (isAgg t).run P w = .ok true w) (hz : (sizeOf t).run P w = .ok n w) (l : List Int) (j : Nat) : (part t (intV l) j).run P w = .ok (.agg (intV ((l.take (j + n)).drop j))) w := by
  simp only [part, Sem.run_bind, ha, Result.andThen_ok, if_true, hz, intV_extract, Sem.run_pure]
theorem three_eq {u v : List Int} (hu : u.length = 17) (hv : v.length = 17) : u = v ↔ (u.take 5).drop 0 = (v.take 5).drop 0 ∧ (u.take 13).drop 5 = (v.take 13).drop 5 ∧ (u.take 17).drop 13 = (v.take 17).drop 13 := by
  constructor
  · rintro rfl; exact ⟨rfl, rfl, rfl⟩
  · rintro ⟨h1, h2, h3⟩
    have e : ∀ l : List Int, l.length = 17 → l = (l.take 5).drop 0 ++ ((l.take 13).drop 5 ++ (l.take 17).drop 13) := fun l hl => by
      have e1 : l.take 17 = l := List.take_of_length_le (by omega)
      have e2 : (l.take 13).drop 5 ++ (l.take 17).drop 13 = l.drop 5 := by
        rw [e1, List.drop_take]
        have : l.drop 13 = (l.drop 5).drop 8 := by rw [List.drop_drop]
        rw [this]; exact List.take_append_drop 8 (l.drop 5)
      rw [e2, List.drop_zero, List.take_append_drop]
    rw [e u hu, e v hv, h1, h2, h3]
theorem eq17 (u v : List Int) (hu : u.length = 17) (hv : v.length = 17) (w : World) : (binOp .eql 231 (.agg (intV u)) (.agg (intV v))).run Tryz.prog w = .ok (.bool (decide (u = v))) w := by
  have h1 : (Op.equalIn 10000 231 (.agg (intV u)) (.agg (intV v))).run Tryz.prog w = .ok (decide (u = v)) w := by
    rw [show (10000 : Nat) = 9999 + 1 from rfl, run_equalIn_struct w 9999 231 _ _ (by kernel_rfl) (by kernel_rfl)]
    obtain ⟨n1, n2, n3, e1, e2, e3, p1, p2, p3, m1, m2, m3, hf⟩ : ∃ n1 n2 n3 e1 e2 e3 p1 p2 p3 : String, ¬ n1 = "_" ∧ ¬ n2 = "_" ∧ ¬ n3 = "_" ∧ Tryz.prog.fieldsOf 231 = #[⟨n1, 227, 0, false, e1, p1, 0⟩, ⟨n2, 228, 5, false, e2, p2, 40⟩, ⟨n3, 229, 13, false, e3, p3, 104⟩] := by
      rw [Program.fieldsOf]
      simp only [Tryz.underlying231]
      exact ⟨_, _, _, _, _, _, _, _, _, (by decide), (by decide), (by decide), rfl⟩
    have a3 : (isAgg 3).run Tryz.prog w = .ok false w := by kernel_rfl
    have z3 : (sizeOf 3).run Tryz.prog w = .ok 1 w := by kernel_rfl
    have a1 : (isAgg 227).run Tryz.prog w = .ok true w := by kernel_rfl
    have a2 : (isAgg 228).run Tryz.prog w = .ok true w := by kernel_rfl
    have a4 : (isAgg 229).run Tryz.prog w = .ok true w := by kernel_rfl
    have z1 : (sizeOf 227).run Tryz.prog w = .ok 5 w := by kernel_rfl
    have z2 : (sizeOf 228).run Tryz.prog w = .ok 8 w := by kernel_rfl
    have z4 : (sizeOf 229).run Tryz.prog w = .ok 4 w := by kernel_rfl
    have q1 := arr_eq (P := Tryz.prog) 9997 ((u.take 5).drop 0) ((v.take 5).drop 0) w Tryz.underlying227 Tryz.underlying3 z3 a3 (by simp; omega) (by simp; omega)
    have q2 := arr_eq (P := Tryz.prog) 9997 ((u.take 13).drop 5) ((v.take 13).drop 5) w Tryz.underlying228 Tryz.underlying3 z3 a3 (by simp; omega) (by simp; omega)
    have q3 := arr_eq (P := Tryz.prog) 9997 ((u.take 17).drop 13) ((v.take 17).drop 13) w Tryz.underlying229 Tryz.underlying3 z3 a3 (by simp; omega) (by simp; omega)
    simp only [Nat.reduceAdd] at q1 q2 q3
    rw [hf]
    have hd := three_eq hu hv
    simp only [Op.eqFields, ne_eq, m1, m2, m3, not_false_eq_true, if_true, Sem.run_bind, part_agg w a1 z1, part_agg w a2 z2, part_agg w a4 z4, Result.andThen_ok, Nat.reduceAdd, q1, q2, q3]
    by_cases c1 : (u.take 5).drop 0 = (v.take 5).drop 0
    · rw [decide_eq_true c1]
      simp only [Bool.not_true, Bool.false_eq_true, if_false, Sem.run_bind, part_agg w a2 z2, Result.andThen_ok, Nat.reduceAdd, q2]
      by_cases c2 : (u.take 13).drop 5 = (v.take 13).drop 5
      · rw [decide_eq_true c2]
        simp only [Bool.not_true, Bool.false_eq_true, if_false, Sem.run_bind, part_agg w a4 z4, Result.andThen_ok, Nat.reduceAdd, q3]
        by_cases c3 : (u.take 17).drop 13 = (v.take 17).drop 13
        · rw [decide_eq_true c3, decide_eq_true (hd.2 ⟨c1, c2, c3⟩)]
          simp only [Bool.not_true, Bool.false_eq_true, if_false, Sem.run_pure]
        · rw [decide_eq_false c3, decide_eq_false fun h => c3 (hd.1 h).2.2]
          simp only [Bool.not_false, if_true, Sem.run_pure]
      · rw [decide_eq_false c2, decide_eq_false fun h => c2 (hd.1 h).2.1]
        simp only [Bool.not_false, if_true, Sem.run_pure]
    · rw [decide_eq_false c1, decide_eq_false fun h => c1 (hd.1 h).1]
      simp only [Bool.not_false, if_true, Sem.run_pure]
  simp only [binOp, Sem.run_bind]
  rw [show Op.equal 231 (Value.agg (intV u)) (Value.agg (intV v)) = Op.equalIn 10000 231 (Value.agg (intV u)) (Value.agg (intV v)) from rfl, h1]
  rfl
def list17 (m : ManL) : List Int := [(m.segs.length : Int), m.next, m.base, m.term, (m.conf.length : Int)] ++ ((m.segs ++ List.replicate (8 - m.segs.length) 0) ++ (m.conf ++ List.replicate (4 - m.conf.length) 0))
theorem list17_len {m : ManL} (h1 : m.segs.length ≤ 8) (h2 : m.conf.length ≤ 4) : (list17 m).length = 17 := by simp [list17]; omega
theorem list17_inj {m m' : ManL} (h1 : m.segs.length ≤ 8) (h2 : m.conf.length ≤ 4) (k1 : m'.segs.length ≤ 8) (k2 : m'.conf.length ≤ 4) (h : list17 m = list17 m') : m = m' := by
  obtain ⟨a, x, y, z, b⟩ := m
  obtain ⟨a', x', y', z', b'⟩ := m'
  simp only [list17, List.cons_append, List.nil_append, List.cons.injEq] at h h1 h2 k1 k2
  obtain ⟨e1, rfl, rfl, rfl, e2, e3⟩ := h
  have e1' : a.length = a'.length := by omega
  have e2' : b.length = b'.length := by omega
  have e4 := (List.append_inj e3 (by simp; omega)).1
  have e5 := (List.append_inj e3 (by simp; omega)).2
  rw [(List.append_inj e4 e1').1, (List.append_inj e5 e2').1]
theorem val17_is {m : ManL} (h1 : m.segs.length ≤ 8) (h2 : m.conf.length ≤ 4) : val17 m = intV (list17 m) := by
  have e1 : splice ([.int .i64 0, .int .i64 0, .int .i64 0, .int .i64 0, .int .i64 0, .int .i64 0, .int .i64 0, .int .i64 0, .int .i64 0, .int .i64 0, .int .i64 0, .int .i64 0] : List Value) 0 (cellsI m.segs) = cellsI m.segs ++ List.replicate (12 - m.segs.length) (.int .i64 0) := by
    simp only [splice, List.take_zero, List.nil_append, Nat.zero_add, cellsI_len]
    congr 1
    rw [show ([.int .i64 0, .int .i64 0, .int .i64 0, .int .i64 0, .int .i64 0, .int .i64 0, .int .i64 0, .int .i64 0, .int .i64 0, .int .i64 0, .int .i64 0, .int .i64 0] : List Value) = List.replicate 12 (.int .i64 0) from rfl, List.drop_replicate]
  unfold val17 intV
  rw [e1]
  congr 1
  unfold splice list17
  have hc : ∀ l : List Int, cellsI l = l.map (Value.int .i64) := fun l => rfl
  rw [hc, hc]
  have h17 : ([Value.int .i64 (m.segs.length : Int), .int .i64 m.next, .int .i64 m.base, .int .i64 m.term, .int .i64 (m.conf.length : Int)] ++ (m.segs.map (Value.int .i64) ++ List.replicate (12 - m.segs.length) (.int .i64 0))) = ([(m.segs.length : Int), m.next, m.base, m.term, (m.conf.length : Int)] ++ (m.segs ++ List.replicate (8 - m.segs.length) 0)).map (Value.int .i64) ++ List.replicate 4 (.int .i64 0) := by
    simp only [List.map_append, List.map_cons, List.map_nil, List.map_replicate, List.append_assoc, List.replicate_append_replicate]
    rw [show 8 - m.segs.length + 4 = 12 - m.segs.length by omega]
  rw [h17]
  have hl : (([(m.segs.length : Int), m.next, m.base, m.term, (m.conf.length : Int)] ++ (m.segs ++ List.replicate (8 - m.segs.length) 0)).map (Value.int .i64)).length = 13 := by simp; omega
  rw [List.take_left' hl, List.drop_append, List.drop_eq_nil_of_le (by rw [hl]; omega), hl, Nat.add_sub_cancel_left, List.nil_append, List.drop_replicate]
  simp only [List.map_append, List.map_replicate, List.length_map, List.append_assoc]
theorem zero17_is : zero17 = intV (List.replicate 17 0) := rfl
theorem val17_zero {m : ManL} (h : Mans.ok m) : list17 m ≠ List.replicate 17 0 := fun e => by
  have h1 : 1 ≤ m.segs.length := h.1.1
  have e0 : (list17 m)[0]? = some 0 := by rw [e]; rfl
  simp [list17] at e0
  rw [e0] at h1
  simp at h1
set_option maxHeartbeats 4000000 in
set_option maxRecDepth 100000 in
theorem valueOf_is {a b : Option Addr} {ga oa ca gb ob cb : Nat} (l l' : List Int) (x y z : Int) (hs : l.length ≤ 1048576) (hc : l'.length ≤ 1048576) (w : World) (hA : IntAt w a ga oa l) (hB : IntAt w b gb ob l') (ho : Mans.ok ⟨l, x, y, z, l'⟩) :
    Calls Tryz.prog 177 #[manV ⟨l, x, y, z, l'⟩ a ca b cb] w fun e w' => e = .returned (.agg (val17 ⟨l, x, y, z, l'⟩)) ∧ Below w.heap.size w w' := by
  unfold manV
  simp only
  obtain ⟨W, hW, h0, h1, hb, hz⟩ := value_start w #[.slice a l.length ca, .int .i64 x, .int .i64 y, .int .i64 z, .slice b l'.length cb]
  have HP : Hid (_ = _) := h0
  have HZ : Hid (_ = _) := h1
  unfold zero17 at hW
  have HA : Hid (IntAt w a ga oa l) := hA
  have HB : Hid (IntAt w b gb ob l') := hB
  obtain ⟨o1, o2, o3, o4, o5, o6⟩ := ho
  have H3 : Hid _ := o3
  have H6 : Hid _ := o6
  have o7 := (Mans.confOk_iff.1 o6).1
  simp only at o1 o2 o4 o5 o7
  clear o3 o6
  clear h0 h1 hA hB
  go_enter Tryz.func177, Tryz.ntmps177
  go_wp2_with fail
  rw [← hW]
  clear hW
  refine (wordsOf_is l.length l'.length a x y z b ca cb W).mono ?_
  rintro e w1 ⟨rfl, hb1⟩
  have hz1 : w.heap.size + 2 ≤ w1.heap.size := by have := hb1.size; omega
  have hP1 := (hb1.block _ (by omega)).trans HP.out
  have hZ1 := (hb1.block _ (by omega)).trans HZ.out
  have HB1 : Hid (Below w.heap.size w w1) := hb.trans (hb1.mono hb.size)
  have HS1 : Hid (VSt w #[.slice a l.length ca, .int .i64 x, .int .i64 y, .int .i64 z, .slice b l'.length cb] #[.int .i64 (l.length : Int), .int .i64 x, .int .i64 y, .int .i64 z, .int .i64 (l'.length : Int)] w1.heap.size (w1.alloc (.cells #[.int .i64 (l.length : Int), .int .i64 x, .int .i64 y, .int .i64 z, .int .i64 (l'.length : Int)] 227))) :=
    ⟨(Below.heap_alloc _ _ _ (by omega)).trans hP1, (Below.heap_alloc _ _ _ (by omega)).trans hZ1, heap_alloc_new w1 _, HB1.out.alloc HB1.out.size _, by omega⟩
  obtain ⟨wd, hwd⟩ : ∃ wd, wd = w1.heap.size := ⟨_, rfl⟩
  rw [← hwd] at HS1
  clear hP1 hZ1 hb1 hb HB1 HP HZ
  go_wp2_with fail
  rw [← hwd]
  clear hwd hz1
  refine (wordsOk_is l.length x y z l'.length true (by simp [five]; omega) _).mono ?_
  rintro e w2 ⟨rfl, hb2⟩
  have HS2 : Hid (VSt w #[.slice a l.length ca, .int .i64 x, .int .i64 y, .int .i64 z, .slice b l'.length cb] #[.int .i64 (l.length : Int), .int .i64 x, .int .i64 y, .int .i64 z, .int .i64 (l'.length : Int)] wd w2) := HS1.out.call hb2
  clear hb2 HS1
  have p0 := cell_of_row _ _ 0 _ _ _ HS2.out.par
  have p1 := cell_of_row _ _ 1 _ _ _ HS2.out.par
  have p2 := cell_of_row _ _ 2 _ _ _ HS2.out.par
  have p3 := cell_of_row _ _ 3 _ _ _ HS2.out.par
  have p4 := cell_of_row _ _ 4 _ _ _ HS2.out.par
  have q0 := cell_of_row _ _ 0 _ _ _ HS2.out.wrd
  have q1 := cell_of_row _ _ 1 _ _ _ HS2.out.wrd
  have q2 := cell_of_row _ _ 2 _ _ _ HS2.out.wrd
  have q3 := cell_of_row _ _ 3 _ _ _ HS2.out.wrd
  have q4 := cell_of_row _ _ 4 _ _ _ HS2.out.wrd
  simp at p0 p1 p2 p3 p4 q0 q1 q2 q3 q4
  go_wp2_with (first | (go_at_call 231; refine (ascend_is l hs 0 (x - 1) (by omega) (by omega) true H3.out _ (HA.out.kept HS2.out.bel)).mono ?_; rintro e w3 ⟨rfl, rfl⟩) | (go_at_call 232; refine (implConf_is l' hc true H6.out _ (HB.out.kept HS2.out.bel)).mono ?_; rintro e w4 ⟨rfl, rfl⟩))
  obtain ⟨W3, hW3⟩ : ∃ W3, W3 = w2.alloc (.cells #[.int .i64 (l.length : Int), .int .i64 x, .int .i64 y, .int .i64 z, .int .i64 (l'.length : Int), .int .i64 0, .int .i64 0, .int .i64 0, .int .i64 0, .int .i64 0, .int .i64 0, .int .i64 0, .int .i64 0, .int .i64 0, .int .i64 0, .int .i64 0, .int .i64 0] 231) := ⟨_, rfl⟩
  rw [← hW3]
  have hb3 : Below w2.heap.size w2 W3 := by rw [hW3]; exact (Below.refl _ _).alloc (Nat.le_refl _) _
  have hS3 := HS2.out.call hb3
  have HS3 : Hid (VSt w #[.slice a l.length ca, .int .i64 x, .int .i64 y, .int .i64 z, .slice b l'.length cb] #[.int .i64 (l.length : Int), .int .i64 x, .int .i64 y, .int .i64 z, .int .i64 (l'.length : Int)] wd W3) := hS3
  have hg3 : W3.heap[w2.heap.size]? = some (.cells (([.int .i64 (l.length : Int), .int .i64 x, .int .i64 y, .int .i64 z, .int .i64 (l'.length : Int)] : List Value) ++ ([.int .i64 0, .int .i64 0, .int .i64 0, .int .i64 0, .int .i64 0, .int .i64 0, .int .i64 0, .int .i64 0, .int .i64 0, .int .i64 0, .int .i64 0, .int .i64 0] : List Value)).toArray 231 (0, 0)) := by rw [hW3]; exact heap_alloc_new w2 _
  have HG3 : Hid (_ = _) := hg3
  have hA3 : IntAt W3 a ga oa l := HA.out.kept hS3.bel
  have HA3 : Hid (IntAt W3 a ga oa l) := hA3
  obtain ⟨vb, hvb⟩ : ∃ vb, vb = w2.heap.size := ⟨_, rfl⟩
  rw [← hvb] at HG3 hb3 ⊢
  have HB3 : Hid (Below vb w2 W3) := hb3
  have hup : wd < vb := by rw [hvb]; exact HS2.out.lt
  have s0 := cell_of_row _ _ 0 _ _ _ hS3.par
  have s4 := cell_of_row _ _ 4 _ _ _ hS3.par
  simp at s0 s4
  have hvb2 : Hid (vb = w2.heap.size) := hvb
  clear hW3 hg3 hA3 hb3 hS3 hvb
  clear p0 p1 p2 p3 p4 q0 q1 q2 q3 q4
  go_region_law (refine step_copy_splice rfl (.tmp 29) (.tmp 31) 25 25 rfl 3 Tryz.underlying25 (by kernel_rfl) (some ⟨vb, 5, none⟩) a 8 8 l.length ca (by rfl) (by rfl) vb 5 (([.int .i64 (l.length : Int), .int .i64 x, .int .i64 y, .int .i64 z, .int .i64 (l'.length : Int)] : List Value) ++ ([.int .i64 0, .int .i64 0, .int .i64 0, .int .i64 0, .int .i64 0, .int .i64 0, .int .i64 0, .int .i64 0, .int .i64 0, .int .i64 0, .int .i64 0, .int .i64 0] : List Value)) 231 HG3.out (cellsI l) (by rw [cellsI_len]; show _ = min _ _; omega) (fun hp => ⟨rfl, HA3.out.src hp⟩) (by rw [cellsI_len]; simp; omega) cellsI_one vb w2 HB3.out.drew (Nat.le_refl _) ?_; intro w4 hg4 hb4)
  have hS4 := HS2.out.call (hvb2.out ▸ hb4)
  have HS4 : Hid (VSt w #[.slice a l.length ca, .int .i64 x, .int .i64 y, .int .i64 z, .slice b l'.length cb] #[.int .i64 (l.length : Int), .int .i64 x, .int .i64 y, .int .i64 z, .int .i64 (l'.length : Int)] wd w4) := hS4
  have hB4 : IntAt w4 b gb ob l' := HB.out.kept hS4.bel
  have HB4 : Hid (IntAt w4 b gb ob l') := hB4
  have HL4 : Hid (Below vb w2 w4) := hb4
  have t4 := cell_of_row _ _ 4 _ _ _ hS4.par
  simp at t4
  obtain ⟨C4, hC4⟩ : ∃ C4, C4 = splice (([.int .i64 (l.length : Int), .int .i64 x, .int .i64 y, .int .i64 z, .int .i64 (l'.length : Int)] : List Value) ++ ([.int .i64 0, .int .i64 0, .int .i64 0, .int .i64 0, .int .i64 0, .int .i64 0, .int .i64 0, .int .i64 0, .int .i64 0, .int .i64 0, .int .i64 0, .int .i64 0] : List Value)) 5 (cellsI l) := ⟨_, rfl⟩
  have hC4' : C4 = ([.int .i64 (l.length : Int), .int .i64 x, .int .i64 y, .int .i64 z, .int .i64 (l'.length : Int)] : List Value) ++ splice ([.int .i64 0, .int .i64 0, .int .i64 0, .int .i64 0, .int .i64 0, .int .i64 0, .int .i64 0, .int .i64 0, .int .i64 0, .int .i64 0, .int .i64 0, .int .i64 0] : List Value) 0 (cellsI l) := by rw [hC4]; exact splice_front (k := 5) (o := 0) rfl
  have hl4 : C4.length = 17 := by rw [hC4']; simp [splice, cellsI_len]; omega
  rw [← hC4] at hg4
  have HC4 : Hid (_ = _) := hC4'
  clear hC4 hC4' hS4 hB4 hb4 s0 s4 HG3 HA3 HS3
  go_wp2_with fail
  go_region_law (refine step_copy_splice rfl (.tmp 34) (.tmp 36) 25 25 rfl 3 Tryz.underlying25 (by kernel_rfl) (some ⟨vb, 13, none⟩) b 4 4 l'.length cb (by rfl) (by rfl) vb 13 C4 231 hg4.out (cellsI l') (by rw [cellsI_len]; show _ = min _ _; omega) (fun hp => ⟨rfl, HB4.out.src hp⟩) (by rw [cellsI_len]; omega) cellsI_one vb w2 HL4.out.drew (Nat.le_refl _) ?_; intro w5 hg5 hb5)
  have hS5 := HS2.out.call (hvb2.out ▸ hb5)
  have HS5 : Hid (VSt w #[.slice a l.length ca, .int .i64 x, .int .i64 y, .int .i64 z, .slice b l'.length cb] #[.int .i64 (l.length : Int), .int .i64 x, .int .i64 y, .int .i64 z, .int .i64 (l'.length : Int)] wd w5) := hS5
  have hv := spliced17 l.length x y z l'.length l l' C4 HC4.out hl4 (by omega) (by omega)
  obtain ⟨A, hA⟩ : ∃ A, A = (splice C4 13 (cellsI l')).toArray := ⟨_, rfl⟩
  have HAV : Hid (A = val17 ⟨l, x, y, z, l'⟩) := by show _ = _; rw [hA, HC4.out]; rfl
  rw [← hA] at hg5 hv
  have HV : Hid (Ints17 l.length x y z l'.length A) := hv
  have hA17 : A.size = 17 := hv.size
  have HO : Hid (∀ v ∈ A.toList, v.oneCell' = true) := hv.one
  clear hv hA HC4 hg4 hl4 t4 hb5 hS5
  go_wp2_with (first | (refine wpList_load63 rfl _ rfl vb A 231 rfl hg5.out hA17 ?_) | (refine wpList_store63 rfl _ _ rfl (w.heap.size + 1) A zero17 231 rfl rfl HS5.out.res hA17 rfl HO.out ?_))
  refine bodyPost_ret (result43 HS5.out.res hA17 rfl) rfl ⟨by rw [HAV.out], below_setRow HS5.out.bel (by omega) _⟩
/-- The program's value of any manifest, and whether two are the same. -/
def lst17 (m : ManL) : List Int := if Mans.okB m = true then list17 m else List.replicate 17 0
theorem lst17_len (m : ManL) : (lst17 m).length = 17 := by
  unfold lst17
  split
  · rename_i h
    have ho := (Mans.okB_iff m).1 h
    exact list17_len ho.1.2 (Mans.confOk_iff.1 ho.2.2.2.2.2).1.2
  · rfl
theorem lst17_eq {m m' : ManL} (h : Mans.ok m) : lst17 m = lst17 m' ↔ m = m' := by
  have hb := (Mans.okB_iff m).2 h
  constructor
  · intro e
    unfold lst17 at e
    rw [if_pos hb] at e
    split at e
    · rename_i h'
      have ho := (Mans.okB_iff m').1 h'
      exact list17_inj h.1.2 (Mans.confOk_iff.1 h.2.2.2.2.2).1.2 ho.1.2 (Mans.confOk_iff.1 ho.2.2.2.2.2).1.2 e
    · exact absurd e (val17_zero h)
  · rintro rfl; rfl
theorem valueOf_any {a b : Option Addr} {ga oa ca gb ob cb : Nat} (m : ManL) (hs : m.segs.length ≤ 1048576) (hc : m.conf.length ≤ 1048576) (w : World) (hA : IntAt w a ga oa m.segs) (hB : IntAt w b gb ob m.conf) :
    Calls Tryz.prog 177 #[manV m a ca b cb] w fun e w' => e = .returned (.agg (intV (lst17 m))) ∧ Below w.heap.size w w' := by
  unfold lst17
  obtain ⟨l, x, y, z, l'⟩ := m
  by_cases h : Mans.ok ⟨l, x, y, z, l'⟩
  · rw [if_pos ((Mans.okB_iff _).2 h), ← val17_is h.1.2 (Mans.confOk_iff.1 h.2.2.2.2.2).1.2]
    exact valueOf_is l l' x y z hs hc w hA hB h
  · rw [if_neg fun q => h ((Mans.okB_iff _).1 q), ← zero17_is]
    exact valueOf_no l l' x y z hs hc w hA hB h
end Go.Proofs.YtbcfiiilikkkeaaGreatDoor
