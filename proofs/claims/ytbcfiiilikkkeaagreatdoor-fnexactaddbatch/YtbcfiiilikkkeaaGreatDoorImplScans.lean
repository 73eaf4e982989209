/- The program's valueOf of a manifest, cell by cell; two such values held against each other. The program's sameShelf: are two shelves the same, walked. The calls of the program's hasMore, scansOf, stampOf, walked. -/
import Derived.Test.YtbcfiiilikkkeaaGreatDoorManText
import Derived.Test.YtbcfiiilikkkeaaGreatDoorMathTab
import Derived.Laws.StructEq
import Derived.Test.YtbcfiiilikkkeaaGreatDoorEqSpots
import Derived.Test.YtbcfiiilikkkeaaGreatDoorSh
import Derived.Test.YtbcfiiilikkkeaaGreatDoorMathFormat
import Derived.Test.YtbcfiiilikkkeaaGreatDoorDiskTold
import Derived.Test.YtbcfiiilikkkeaaGreatDoorSpecLoad
namespace Go.Proofs.YtbcfiiilikkkeaaGreatDoor
open Go.RowKit
set_option linter.unusedVariables false
set_option linter.unusedSimpArgs false

def val17 (m : ManL) : Array Value := (splice ((([.int .i64 (m.segs.length : Int), .int .i64 m.next, .int .i64 m.base, .int .i64 m.term, .int .i64 (m.conf.length : Int)] : List Value) ++ splice ([.int .i64 0, .int .i64 0, .int .i64 0, .int .i64 0, .int .i64 0, .int .i64 0, .int .i64 0, .int .i64 0, .int .i64 0, .int .i64 0, .int .i64 0, .int .i64 0] : List Value) 0 (cellsI m.segs))) 13 (cellsI m.conf)).toArray
def intV (l : List Int) : Array Value := (l.map (Value.int .i64)).toArray
theorem intV_at (l : List Int) (j : Nat) (h : j < l.length) : (intV l)[j]? = some (.int .i64 l[j]) := by simp [intV, h]
theorem part_int {P : Program} {e : Nat} (w : World) (ha : (isAgg e).run P w = .ok false w) (l : List Int) (j : Nat) (h : j < l.length) : (part e (intV l) j).run P w = .ok (.int .i64 l[j]) w := by
  simp only [part, Sem.run_bind, ha, Result.andThen_ok, Bool.false_eq_true, if_false, intV_at l j h, Sem.run_pure]
theorem eq_int {P : Program} {e : Nat} {k : IntKind} (d : Nat) (w : World) (he : P.underlying e = some (.int k)) (x y : Int) : (Op.equalIn (d + 1) e (.int .i64 x) (.int .i64 y)).run P w = .ok (x == y) w := by
  simp only [Op.equalIn, Sem.run_bind, run_underlying he, Result.andThen_ok]
  simp
theorem arr_loop {P : Program} {e : Nat} {k : IntKind} (d : Nat) (w : World) (he : P.underlying e = some (.int k)) (ha : (isAgg e).run P w = .ok false w) (xs ys : List Int) : ∀ (m j : Nat), j + m = xs.length → j + m = ys.length →
    (forIn (List.range' j m) ((none, ()) : Option Bool × Unit) fun i (__s : Option Bool × Unit) => (do
              let __do_lift ← part e (intV xs) (i * 1)
              let __do_lift_1 ← part e (intV ys) (i * 1)
              let __do_lift ← Op.equalIn (d + 1) e __do_lift __do_lift_1
              if (!__do_lift) = true then pure (ForInStep.done (some false, ())) else pure (ForInStep.yield (none, ())) : Sem (ForInStep (Option Bool × Unit)))).run P w = .ok (if xs.drop j = ys.drop j then (none, ()) else (some false, ())) w
  | 0, j, h1, h2 => by
    rw [List.drop_eq_nil_of_le (by omega), List.drop_eq_nil_of_le (by omega)]
    simp
  | m + 1, j, h1, h2 => by
    have hx : j < xs.length := by omega
    have hy : j < ys.length := by omega
    rw [List.range'_succ, List.forIn_cons]
    simp only [Nat.mul_one, Sem.run_bind, part_int w ha xs j hx, part_int w ha ys j hy, Result.andThen_ok, eq_int d w he]
    have hd : (xs.drop j = ys.drop j) ↔ (xs[j] = ys[j] ∧ xs.drop (j + 1) = ys.drop (j + 1)) := by
      rw [List.drop_eq_getElem_cons hx, List.drop_eq_getElem_cons hy, List.cons.injEq]
    have hc : (if xs.drop j = ys.drop j then ((none, ()) : Option Bool × Unit) else (some false, ())) = if (xs[j] = ys[j] ∧ xs.drop (j + 1) = ys.drop (j + 1)) then (none, ()) else (some false, ()) := by
      by_cases c : xs.drop j = ys.drop j
      · rw [if_pos c, if_pos (hd.1 c)]
      · rw [if_neg c, if_neg fun c' => c (hd.2 c')]
    rw [hc]
    by_cases q : xs[j] = ys[j]
    · have ih := arr_loop d w he ha xs ys m (j + 1) (by omega) (by omega)
      simp only [Nat.mul_one] at ih
      simp only [q, beq_self_eq_true, Bool.not_true, Bool.false_eq_true, if_false, Sem.run_pure, Result.andThen_ok, true_and]
      exact ih
    · have q' : (xs[j] == ys[j]) = false := by simpa using q
      simp only [q', Bool.not_false, if_true, Sem.run_pure, Result.andThen_ok, q, false_and, if_false]
theorem arr_eq {P : Program} {t e n : Nat} {k : IntKind} (d : Nat) (xs ys : List Int) (w : World) (ht : P.underlying t = some (.array n e)) (he : P.underlying e = some (.int k)) (hz : (sizeOf e).run P w = .ok 1 w) (ha : (isAgg e).run P w = .ok false w) (hx : xs.length = n) (hy : ys.length = n) :
    (Op.equalIn (d + 2) t (.agg (intV xs)) (.agg (intV ys))).run P w = .ok (decide (xs = ys)) w := by
  rw [show d + 2 = (d + 1) + 1 from rfl, Op.equalIn]
  simp only [Sem.run_bind, run_underlying ht, Result.andThen_ok, hz]
  have := arr_loop d w he ha xs ys n 0 (by omega) (by omega)
  rw [Std.Legacy.Range.forIn_eq_forIn_range']
  simp only [Std.Legacy.Range.size, Nat.sub_zero, Nat.add_sub_cancel, Nat.div_one]
  rw [this]
  by_cases q : xs = ys
  · simp [q]
  · simp [q]
theorem intV_extract (l : List Int) (i j : Nat) : (intV l).extract i j = intV ((l.take j).drop i) := by
  simp [intV, List.map_take, List.map_drop, List.drop_take]
theorem part_agg {P : Program} {t n : Nat} (w : World) (ha : (isAgg t).run P w = .ok true w) (hz : (sizeOf t).run P w = .ok n w) (l : List Int) (j : Nat) : (part t (intV l) j).run P w = .ok (.agg (intV ((l.take (j + n)).drop j))) w := by
  simp only [part, Sem.run_bind, ha, Result.andThen_ok, if_true, hz, intV_extract, Sem.run_pure]
theorem three_eq {u v : List Int} (hu : u.length = 17) (hv : v.length = 17) : u = v ↔ (u.take 5).drop 0 = (v.take 5).drop 0 ∧ (u.take 13).drop 5 = (v.take 13).drop 5 ∧ (u.take 17).drop 13 = (v.take 17).drop 13 := by
  constructor
  · rintro rfl; exact ⟨rfl, rfl, rfl⟩
  · rintro ⟨h1, h2, h3⟩
    have e : ∀ l : List Int, l.length = 17 → l = (l.take 5).drop 0 ++ ((l.take 13).drop 5 ++ (l.take 17).drop 13) := fun l hl => by
      have e1 : l.take 17 = l := List.take_of_length_le (by omega)
      have e2 : (l.take 13).drop 5 ++ (l.take 17).drop 13 = l.drop 5 := by
        rw [e1, List.drop_take]
        have : l.drop 13 = (l.drop 5).drop 8 := by rw [List.drop_drop]
        rw [this]; exact List.take_append_drop 8 (l.drop 5)
      rw [e2, List.drop_zero, List.take_append_drop]
    rw [e u hu, e v hv, h1, h2, h3]
theorem eq17 (u v : List Int) (hu : u.length = 17) (hv : v.length = 17) (w : World) : (binOp .eql 231 (.agg (intV u)) (.agg (intV v))).run Tryz.prog w = .ok (.bool (decide (u = v))) w := by
  have h1 : (Op.equalIn 10000 231 (.agg (intV u)) (.agg (intV v))).run Tryz.prog w = .ok (decide (u = v)) w := by
    rw [show (10000 : Nat) = 9999 + 1 from rfl, run_equalIn_struct w 9999 231 _ _ (by kernel_rfl) (by kernel_rfl)]
    have hf : Tryz.prog.fieldsOf 231 = #[⟨"words", 227, 0, false, "", "loop.example/g00103/impl", 0⟩, ⟨"segs", 228, 5, false, "", "loop.example/g00103/impl", 40⟩, ⟨"conf", 229, 13, false, "", "loop.example/g00103/impl", 104⟩] := by
      rw [Program.fieldsOf]; simp only [Tryz.underlying231]
    have a3 : (isAgg 3).run Tryz.prog w = .ok false w := by kernel_rfl
    have z3 : (sizeOf 3).run Tryz.prog w = .ok 1 w := by kernel_rfl
    have a1 : (isAgg 227).run Tryz.prog w = .ok true w := by kernel_rfl
    have a2 : (isAgg 228).run Tryz.prog w = .ok true w := by kernel_rfl
    have a4 : (isAgg 229).run Tryz.prog w = .ok true w := by kernel_rfl
    have z1 : (sizeOf 227).run Tryz.prog w = .ok 5 w := by kernel_rfl
    have z2 : (sizeOf 228).run Tryz.prog w = .ok 8 w := by kernel_rfl
    have z4 : (sizeOf 229).run Tryz.prog w = .ok 4 w := by kernel_rfl
    have q1 := arr_eq (P := Tryz.prog) 9997 ((u.take 5).drop 0) ((v.take 5).drop 0) w Tryz.underlying227 Tryz.underlying3 z3 a3 (by simp; omega) (by simp; omega)
    have q2 := arr_eq (P := Tryz.prog) 9997 ((u.take 13).drop 5) ((v.take 13).drop 5) w Tryz.underlying228 Tryz.underlying3 z3 a3 (by simp; omega) (by simp; omega)
    have q3 := arr_eq (P := Tryz.prog) 9997 ((u.take 17).drop 13) ((v.take 17).drop 13) w Tryz.underlying229 Tryz.underlying3 z3 a3 (by simp; omega) (by simp; omega)
    simp only [Nat.reduceAdd] at q1 q2 q3
    rw [hf]
    have hd := three_eq hu hv
    simp only [Op.eqFields, ne_eq, String.reduceEq, not_false_eq_true, if_true, Sem.run_bind, part_agg w a1 z1, part_agg w a2 z2, part_agg w a4 z4, Result.andThen_ok, Nat.reduceAdd, q1, q2, q3]
    by_cases c1 : (u.take 5).drop 0 = (v.take 5).drop 0
    · rw [decide_eq_true c1]
      simp only [Bool.not_true, Bool.false_eq_true, if_false, Sem.run_bind, part_agg w a2 z2, Result.andThen_ok, Nat.reduceAdd, q2]
      by_cases c2 : (u.take 13).drop 5 = (v.take 13).drop 5
      · rw [decide_eq_true c2]
        simp only [Bool.not_true, Bool.false_eq_true, if_false, Sem.run_bind, part_agg w a4 z4, Result.andThen_ok, Nat.reduceAdd, q3]
        by_cases c3 : (u.take 17).drop 13 = (v.take 17).drop 13
        · rw [decide_eq_true c3, decide_eq_true (hd.2 ⟨c1, c2, c3⟩)]
          simp only [Bool.not_true, Bool.false_eq_true, if_false, Sem.run_pure]
        · rw [decide_eq_false c3, decide_eq_false fun h => c3 (hd.1 h).2.2]
          simp only [Bool.not_false, if_true, Sem.run_pure]
      · rw [decide_eq_false c2, decide_eq_false fun h => c2 (hd.1 h).2.1]
        simp only [Bool.not_false, if_true, Sem.run_pure]
    · rw [decide_eq_false c1, decide_eq_false fun h => c1 (hd.1 h).1]
      simp only [Bool.not_false, if_true, Sem.run_pure]
  simp only [binOp, Sem.run_bind]
  rw [show Op.equal 231 (Value.agg (intV u)) (Value.agg (intV v)) = Op.equalIn 10000 231 (Value.agg (intV u)) (Value.agg (intV v)) from rfl, h1]
  rfl
def list17 (m : ManL) : List Int := [(m.segs.length : Int), m.next, m.base, m.term, (m.conf.length : Int)] ++ ((m.segs ++ List.replicate (8 - m.segs.length) 0) ++ (m.conf ++ List.replicate (4 - m.conf.length) 0))
theorem list17_len {m : ManL} (h1 : m.segs.length ≤ 8) (h2 : m.conf.length ≤ 4) : (list17 m).length = 17 := by simp [list17]; omega
theorem list17_inj {m m' : ManL} (h1 : m.segs.length ≤ 8) (h2 : m.conf.length ≤ 4) (k1 : m'.segs.length ≤ 8) (k2 : m'.conf.length ≤ 4) (h : list17 m = list17 m') : m = m' := by
  obtain ⟨a, x, y, z, b⟩ := m
  obtain ⟨a', x', y', z', b'⟩ := m'
  simp only [list17, List.cons_append, List.nil_append, List.cons.injEq] at h h1 h2 k1 k2
  obtain ⟨e1, rfl, rfl, rfl, e2, e3⟩ := h
  have e1' : a.length = a'.length := by omega
  have e2' : b.length = b'.length := by omega
  have e4 := (List.append_inj e3 (by simp; omega)).1
  have e5 := (List.append_inj e3 (by simp; omega)).2
  rw [(List.append_inj e4 e1').1, (List.append_inj e5 e2').1]
theorem val17_is {m : ManL} (h1 : m.segs.length ≤ 8) (h2 : m.conf.length ≤ 4) : val17 m = intV (list17 m) := by
  have e1 : splice ([.int .i64 0, .int .i64 0, .int .i64 0, .int .i64 0, .int .i64 0, .int .i64 0, .int .i64 0, .int .i64 0, .int .i64 0, .int .i64 0, .int .i64 0, .int .i64 0] : List Value) 0 (cellsI m.segs) = cellsI m.segs ++ List.replicate (12 - m.segs.length) (.int .i64 0) := by
    simp only [splice, List.take_zero, List.nil_append, Nat.zero_add, cellsI_len]
    congr 1
    rw [show ([.int .i64 0, .int .i64 0, .int .i64 0, .int .i64 0, .int .i64 0, .int .i64 0, .int .i64 0, .int .i64 0, .int .i64 0, .int .i64 0, .int .i64 0, .int .i64 0] : List Value) = List.replicate 12 (.int .i64 0) from rfl, List.drop_replicate]
  unfold val17 intV
  rw [e1]
  congr 1
  unfold splice list17
  have hc : ∀ l : List Int, cellsI l = l.map (Value.int .i64) := fun l => rfl
  rw [hc, hc]
  have h17 : ([Value.int .i64 (m.segs.length : Int), .int .i64 m.next, .int .i64 m.base, .int .i64 m.term, .int .i64 (m.conf.length : Int)] ++ (m.segs.map (Value.int .i64) ++ List.replicate (12 - m.segs.length) (.int .i64 0))) = ([(m.segs.length : Int), m.next, m.base, m.term, (m.conf.length : Int)] ++ (m.segs ++ List.replicate (8 - m.segs.length) 0)).map (Value.int .i64) ++ List.replicate 4 (.int .i64 0) := by
    simp only [List.map_append, List.map_cons, List.map_nil, List.map_replicate, List.append_assoc, List.replicate_append_replicate]
    rw [show 8 - m.segs.length + 4 = 12 - m.segs.length by omega]
  rw [h17]
  have hl : (([(m.segs.length : Int), m.next, m.base, m.term, (m.conf.length : Int)] ++ (m.segs ++ List.replicate (8 - m.segs.length) 0)).map (Value.int .i64)).length = 13 := by simp; omega
  rw [List.take_left' hl, List.drop_append, List.drop_eq_nil_of_le (by rw [hl]; omega), hl, Nat.add_sub_cancel_left, List.nil_append, List.drop_replicate]
  simp only [List.map_append, List.map_replicate, List.length_map, List.append_assoc]
theorem zero17_is : zero17 = intV (List.replicate 17 0) := rfl
theorem val17_zero {m : ManL} (h : Mans.ok m) : list17 m ≠ List.replicate 17 0 := fun e => by
  have h1 : 1 ≤ m.segs.length := h.1.1
  have e0 : (list17 m)[0]? = some 0 := by rw [e]; rfl
  simp [list17] at e0
  rw [e0] at h1
  simp at h1
set_option maxHeartbeats 4000000 in
set_option maxRecDepth 100000 in
theorem valueOf_is {a b : Option Addr} {ga oa ca gb ob cb : Nat} (l l' : List Int) (x y z : Int) (hs : l.length ≤ 1048576) (hc : l'.length ≤ 1048576) (w : World) (hA : IntAt w a ga oa l) (hB : IntAt w b gb ob l') (ho : Mans.ok ⟨l, x, y, z, l'⟩) :
    Calls Tryz.prog 177 #[manV ⟨l, x, y, z, l'⟩ a ca b cb] w fun e w' => e = .returned (.agg (val17 ⟨l, x, y, z, l'⟩)) ∧ Below w.heap.size w w' := by
  unfold manV
  simp only
  obtain ⟨W, hW, h0, h1, hb, hz⟩ := value_start w #[.slice a l.length ca, .int .i64 x, .int .i64 y, .int .i64 z, .slice b l'.length cb]
  have HP : Hid (_ = _) := h0
  have HZ : Hid (_ = _) := h1
  unfold zero17 at hW
  have HA : Hid (IntAt w a ga oa l) := hA
  have HB : Hid (IntAt w b gb ob l') := hB
  obtain ⟨o1, o2, o3, o4, o5, o6⟩ := ho
  have H3 : Hid _ := o3
  have H6 : Hid _ := o6
  have o7 := (Mans.confOk_iff.1 o6).1
  simp only at o1 o2 o4 o5 o7
  clear o3 o6
  clear h0 h1 hA hB
  go_enter Tryz.func177, Tryz.ntmps177
  go_wp2_with fail
  rw [← hW]
  clear hW
  refine (wordsOf_is l.length l'.length a x y z b ca cb W).mono ?_
  rintro e w1 ⟨rfl, hb1⟩
  have hz1 : w.heap.size + 2 ≤ w1.heap.size := by have := hb1.size; omega
  have hP1 := (hb1.block _ (by omega)).trans HP.out
  have hZ1 := (hb1.block _ (by omega)).trans HZ.out
  have HB1 : Hid (Below w.heap.size w w1) := hb.trans (hb1.mono hb.size)
  have HS1 : Hid (VSt w #[.slice a l.length ca, .int .i64 x, .int .i64 y, .int .i64 z, .slice b l'.length cb] #[.int .i64 (l.length : Int), .int .i64 x, .int .i64 y, .int .i64 z, .int .i64 (l'.length : Int)] w1.heap.size (w1.alloc (.cells #[.int .i64 (l.length : Int), .int .i64 x, .int .i64 y, .int .i64 z, .int .i64 (l'.length : Int)] 227))) :=
    ⟨(Below.heap_alloc _ _ _ (by omega)).trans hP1, (Below.heap_alloc _ _ _ (by omega)).trans hZ1, heap_alloc_new w1 _, HB1.out.alloc HB1.out.size _, by omega⟩
  obtain ⟨wd, hwd⟩ : ∃ wd, wd = w1.heap.size := ⟨_, rfl⟩
  rw [← hwd] at HS1
  clear hP1 hZ1 hb1 hb HB1 HP HZ
  go_wp2_with fail
  rw [← hwd]
  clear hwd hz1
  refine (wordsOk_is l.length x y z l'.length true (by simp [five]; omega) _).mono ?_
  rintro e w2 ⟨rfl, hb2⟩
  have HS2 : Hid (VSt w #[.slice a l.length ca, .int .i64 x, .int .i64 y, .int .i64 z, .slice b l'.length cb] #[.int .i64 (l.length : Int), .int .i64 x, .int .i64 y, .int .i64 z, .int .i64 (l'.length : Int)] wd w2) := HS1.out.call hb2
  clear hb2 HS1
  have p0 := cell_of_row _ _ 0 _ _ _ HS2.out.par
  have p1 := cell_of_row _ _ 1 _ _ _ HS2.out.par
  have p2 := cell_of_row _ _ 2 _ _ _ HS2.out.par
  have p3 := cell_of_row _ _ 3 _ _ _ HS2.out.par
  have p4 := cell_of_row _ _ 4 _ _ _ HS2.out.par
  have q0 := cell_of_row _ _ 0 _ _ _ HS2.out.wrd
  have q1 := cell_of_row _ _ 1 _ _ _ HS2.out.wrd
  have q2 := cell_of_row _ _ 2 _ _ _ HS2.out.wrd
  have q3 := cell_of_row _ _ 3 _ _ _ HS2.out.wrd
  have q4 := cell_of_row _ _ 4 _ _ _ HS2.out.wrd
  simp at p0 p1 p2 p3 p4 q0 q1 q2 q3 q4
  go_wp2_with (first | (go_at_call 231; refine (ascend_is l hs 0 (x - 1) (by omega) (by omega) true H3.out _ (HA.out.kept HS2.out.bel)).mono ?_; rintro e w3 ⟨rfl, rfl⟩) | (go_at_call 232; refine (implConf_is l' hc true H6.out _ (HB.out.kept HS2.out.bel)).mono ?_; rintro e w4 ⟨rfl, rfl⟩))
  obtain ⟨W3, hW3⟩ : ∃ W3, W3 = w2.alloc (.cells #[.int .i64 (l.length : Int), .int .i64 x, .int .i64 y, .int .i64 z, .int .i64 (l'.length : Int), .int .i64 0, .int .i64 0, .int .i64 0, .int .i64 0, .int .i64 0, .int .i64 0, .int .i64 0, .int .i64 0, .int .i64 0, .int .i64 0, .int .i64 0, .int .i64 0] 231) := ⟨_, rfl⟩
  rw [← hW3]
  have hb3 : Below w2.heap.size w2 W3 := by rw [hW3]; exact (Below.refl _ _).alloc (Nat.le_refl _) _
  have hS3 := HS2.out.call hb3
  have HS3 : Hid (VSt w #[.slice a l.length ca, .int .i64 x, .int .i64 y, .int .i64 z, .slice b l'.length cb] #[.int .i64 (l.length : Int), .int .i64 x, .int .i64 y, .int .i64 z, .int .i64 (l'.length : Int)] wd W3) := hS3
  have hg3 : W3.heap[w2.heap.size]? = some (.cells (([.int .i64 (l.length : Int), .int .i64 x, .int .i64 y, .int .i64 z, .int .i64 (l'.length : Int)] : List Value) ++ ([.int .i64 0, .int .i64 0, .int .i64 0, .int .i64 0, .int .i64 0, .int .i64 0, .int .i64 0, .int .i64 0, .int .i64 0, .int .i64 0, .int .i64 0, .int .i64 0] : List Value)).toArray 231 (0, 0)) := by rw [hW3]; exact heap_alloc_new w2 _
  have HG3 : Hid (_ = _) := hg3
  have hA3 : IntAt W3 a ga oa l := HA.out.kept hS3.bel
  have HA3 : Hid (IntAt W3 a ga oa l) := hA3
  obtain ⟨vb, hvb⟩ : ∃ vb, vb = w2.heap.size := ⟨_, rfl⟩
  rw [← hvb] at HG3 hb3 ⊢
  have HB3 : Hid (Below vb w2 W3) := hb3
  have hup : wd < vb := by rw [hvb]; exact HS2.out.lt
  have s0 := cell_of_row _ _ 0 _ _ _ hS3.par
  have s4 := cell_of_row _ _ 4 _ _ _ hS3.par
  simp at s0 s4
  have hvb2 : Hid (vb = w2.heap.size) := hvb
  clear hW3 hg3 hA3 hb3 hS3 hvb
  clear p0 p1 p2 p3 p4 q0 q1 q2 q3 q4
  go_region_law (refine step_copy_splice rfl (.tmp 29) (.tmp 31) 25 25 rfl 3 Tryz.underlying25 (by kernel_rfl) (some ⟨vb, 5, none⟩) a 8 8 l.length ca (by rfl) (by rfl) vb 5 (([.int .i64 (l.length : Int), .int .i64 x, .int .i64 y, .int .i64 z, .int .i64 (l'.length : Int)] : List Value) ++ ([.int .i64 0, .int .i64 0, .int .i64 0, .int .i64 0, .int .i64 0, .int .i64 0, .int .i64 0, .int .i64 0, .int .i64 0, .int .i64 0, .int .i64 0, .int .i64 0] : List Value)) 231 HG3.out (cellsI l) (by rw [cellsI_len]; show _ = min _ _; omega) (fun hp => ⟨rfl, HA3.out.src hp⟩) (by rw [cellsI_len]; simp; omega) cellsI_one vb w2 HB3.out.drew (Nat.le_refl _) ?_; intro w4 hg4 hb4)
  have hS4 := HS2.out.call (hvb2.out ▸ hb4)
  have HS4 : Hid (VSt w #[.slice a l.length ca, .int .i64 x, .int .i64 y, .int .i64 z, .slice b l'.length cb] #[.int .i64 (l.length : Int), .int .i64 x, .int .i64 y, .int .i64 z, .int .i64 (l'.length : Int)] wd w4) := hS4
  have hB4 : IntAt w4 b gb ob l' := HB.out.kept hS4.bel
  have HB4 : Hid (IntAt w4 b gb ob l') := hB4
  have HL4 : Hid (Below vb w2 w4) := hb4
  have t4 := cell_of_row _ _ 4 _ _ _ hS4.par
  simp at t4
  obtain ⟨C4, hC4⟩ : ∃ C4, C4 = splice (([.int .i64 (l.length : Int), .int .i64 x, .int .i64 y, .int .i64 z, .int .i64 (l'.length : Int)] : List Value) ++ ([.int .i64 0, .int .i64 0, .int .i64 0, .int .i64 0, .int .i64 0, .int .i64 0, .int .i64 0, .int .i64 0, .int .i64 0, .int .i64 0, .int .i64 0, .int .i64 0] : List Value)) 5 (cellsI l) := ⟨_, rfl⟩
  have hC4' : C4 = ([.int .i64 (l.length : Int), .int .i64 x, .int .i64 y, .int .i64 z, .int .i64 (l'.length : Int)] : List Value) ++ splice ([.int .i64 0, .int .i64 0, .int .i64 0, .int .i64 0, .int .i64 0, .int .i64 0, .int .i64 0, .int .i64 0, .int .i64 0, .int .i64 0, .int .i64 0, .int .i64 0] : List Value) 0 (cellsI l) := by rw [hC4]; exact splice_front (k := 5) (o := 0) rfl
  have hl4 : C4.length = 17 := by rw [hC4']; simp [splice, cellsI_len]; omega
  rw [← hC4] at hg4
  have HC4 : Hid (_ = _) := hC4'
  clear hC4 hC4' hS4 hB4 hb4 s0 s4 HG3 HA3 HS3
  go_wp2_with fail
  go_region_law (refine step_copy_splice rfl (.tmp 34) (.tmp 36) 25 25 rfl 3 Tryz.underlying25 (by kernel_rfl) (some ⟨vb, 13, none⟩) b 4 4 l'.length cb (by rfl) (by rfl) vb 13 C4 231 hg4.out (cellsI l') (by rw [cellsI_len]; show _ = min _ _; omega) (fun hp => ⟨rfl, HB4.out.src hp⟩) (by rw [cellsI_len]; omega) cellsI_one vb w2 HL4.out.drew (Nat.le_refl _) ?_; intro w5 hg5 hb5)
  have hS5 := HS2.out.call (hvb2.out ▸ hb5)
  have HS5 : Hid (VSt w #[.slice a l.length ca, .int .i64 x, .int .i64 y, .int .i64 z, .slice b l'.length cb] #[.int .i64 (l.length : Int), .int .i64 x, .int .i64 y, .int .i64 z, .int .i64 (l'.length : Int)] wd w5) := hS5
  have hv := spliced17 l.length x y z l'.length l l' C4 HC4.out hl4 (by omega) (by omega)
  obtain ⟨A, hA⟩ : ∃ A, A = (splice C4 13 (cellsI l')).toArray := ⟨_, rfl⟩
  have HAV : Hid (A = val17 ⟨l, x, y, z, l'⟩) := by show _ = _; rw [hA, HC4.out]; rfl
  rw [← hA] at hg5 hv
  have HV : Hid (Ints17 l.length x y z l'.length A) := hv
  have hA17 : A.size = 17 := hv.size
  have HO : Hid (∀ v ∈ A.toList, v.oneCell' = true) := hv.one
  clear hv hA HC4 hg4 hl4 t4 hb5 hS5
  go_wp2_with (first | (refine wpList_load63 rfl _ rfl vb A 231 rfl hg5.out hA17 ?_) | (refine wpList_store63 rfl _ _ rfl (w.heap.size + 1) A zero17 231 rfl rfl HS5.out.res hA17 rfl HO.out ?_))
  refine bodyPost_ret (result43 HS5.out.res hA17 rfl) rfl ⟨by rw [HAV.out], below_setRow HS5.out.bel (by omega) _⟩
/-- The program's value of any manifest, and whether two are the same. -/
def lst17 (m : ManL) : List Int := if Mans.okB m = true then list17 m else List.replicate 17 0
theorem lst17_len (m : ManL) : (lst17 m).length = 17 := by
  unfold lst17
  split
  · rename_i h
    have ho := (Mans.okB_iff m).1 h
    exact list17_len ho.1.2 (Mans.confOk_iff.1 ho.2.2.2.2.2).1.2
  · rfl
theorem lst17_eq {m m' : ManL} (h : Mans.ok m) : lst17 m = lst17 m' ↔ m = m' := by
  have hb := (Mans.okB_iff m).2 h
  constructor
  · intro e
    unfold lst17 at e
    rw [if_pos hb] at e
    split at e
    · rename_i h'
      have ho := (Mans.okB_iff m').1 h'
      exact list17_inj h.1.2 (Mans.confOk_iff.1 h.2.2.2.2.2).1.2 ho.1.2 (Mans.confOk_iff.1 ho.2.2.2.2.2).1.2 e
    · exact absurd e (val17_zero h)
  · rintro rfl; rfl
theorem valueOf_any {a b : Option Addr} {ga oa ca gb ob cb : Nat} (m : ManL) (hs : m.segs.length ≤ 1048576) (hc : m.conf.length ≤ 1048576) (w : World) (hA : IntAt w a ga oa m.segs) (hB : IntAt w b gb ob m.conf) :
    Calls Tryz.prog 177 #[manV m a ca b cb] w fun e w' => e = .returned (.agg (intV (lst17 m))) ∧ Below w.heap.size w w' := by
  unfold lst17
  obtain ⟨l, x, y, z, l'⟩ := m
  by_cases h : Mans.ok ⟨l, x, y, z, l'⟩
  · rw [if_pos ((Mans.okB_iff _).2 h), ← val17_is h.1.2 (Mans.confOk_iff.1 h.2.2.2.2.2).1.2]
    exact valueOf_is l l' x y z hs hc w hA hB h
  · rw [if_neg fun q => h ((Mans.okB_iff _).1 q), ← zero17_is]
    exact valueOf_no l l' x y z hs hc w hA hB h
end Go.Proofs.YtbcfiiilikkkeaaGreatDoor
namespace Go.Proofs.YtbcfiiilikkkeaaGreatDoor
open Go.RowKit
set_option linter.unusedVariables false
set_option linter.unusedSimpArgs false

set_option maxHeartbeats 8000000 in
set_option maxRecDepth 100000 in
theorem implSame_is {b b' : Nat} {va vc vd va' vc' vd' : Value} (s t : ShelfL) (hok : Mans.ok s.man) (n1 : s.man.segs.length ≤ 1048576) (n2 : s.man.conf.length ≤ 1048576) (n3 : s.dir.length ≤ 1048576) (m1 : t.man.segs.length ≤ 1048576) (m2 : t.man.conf.length ≤ 1048576) (m3 : t.dir.length ≤ 1048576) (R : Bool) (hR : R = true ↔ s = t) (w : World) (hA : ShOwn b s va vc vd w) (hB : ShOwn b' t va' vc' vd' w) :
    Calls Tryz.prog 116 #[shV s va vc vd, shV t va' vc' vd'] w fun e w' => e = .returned (.bool R) ∧ Below w.heap.size w w' := by
  obtain ⟨sa, sg, sc, e1, i1⟩ := cellsI_slice hA.segs
  obtain ⟨ca, cg, cc, e2, i2⟩ := cellsI_slice hA.conf
  obtain ⟨da, dg, dc, e3, i3⟩ := cellsSpot_slice hA.dir
  obtain ⟨sa', sg', sc', e4, j1⟩ := cellsI_slice hB.segs
  obtain ⟨ca', cg', cc', e5, j2⟩ := cellsI_slice hB.conf
  obtain ⟨da', dg', dc', e6, j3⟩ := cellsSpot_slice hB.dir
  subst e1 e2 e3 e4 e5 e6
  unfold shV cells7
  obtain ⟨W, hW⟩ : ∃ W, W = (w.alloc (.cells #[.slice sa s.man.segs.length sc, .int .i64 s.man.next, .int .i64 s.man.base, .int .i64 s.man.term, .slice ca s.man.conf.length cc, .slice da s.dir.length dc, .int .i64 s.stamp] 40)).alloc (.cells #[.slice sa' t.man.segs.length sc', .int .i64 t.man.next, .int .i64 t.man.base, .int .i64 t.man.term, .slice ca' t.man.conf.length cc', .slice da' t.dir.length dc', .int .i64 t.stamp] 40) := ⟨_, rfl⟩
  have hb : Below w.heap.size w W := by rw [hW]; exact ((Below.refl _ _).alloc (Nat.le_refl _) _).alloc (by simp) _
  have hp0 : W.heap[w.heap.size]? = some (.cells #[.slice sa s.man.segs.length sc, .int .i64 s.man.next, .int .i64 s.man.base, .int .i64 s.man.term, .slice ca s.man.conf.length cc, .slice da s.dir.length dc, .int .i64 s.stamp] 40 (0, 0)) := by
    rw [hW, Below.heap_alloc _ _ _ (by simp)]; exact heap_alloc_new w _
  have hp1 : W.heap[w.heap.size + 1]? = some (.cells #[.slice sa' t.man.segs.length sc', .int .i64 t.man.next, .int .i64 t.man.base, .int .i64 t.man.term, .slice ca' t.man.conf.length cc', .slice da' t.dir.length dc', .int .i64 t.stamp] 40 (0, 0)) := by
    rw [hW]; have := heap_alloc_new (w.alloc (.cells #[.slice sa s.man.segs.length sc, .int .i64 s.man.next, .int .i64 s.man.base, .int .i64 s.man.term, .slice ca s.man.conf.length cc, .slice da s.dir.length dc, .int .i64 s.stamp] 40)) (.cells #[.slice sa' t.man.segs.length sc', .int .i64 t.man.next, .int .i64 t.man.base, .int .i64 t.man.term, .slice ca' t.man.conf.length cc', .slice da' t.dir.length dc', .int .i64 t.stamp] 40); simpa using this
  have HB : Hid (Below w.heap.size w W) := hb
  obtain ⟨A, hAq⟩ : ∃ A, A = intV (lst17 s.man) := ⟨_, rfl⟩
  obtain ⟨B, hBq⟩ : ∃ B, B = intV (lst17 t.man) := ⟨_, rfl⟩
  obtain ⟨RM, hRM⟩ : ∃ RM : Bool, RM = true ↔ s.man = t.man := by
    by_cases h : s.man = t.man
    · exact ⟨true, by simp [h]⟩
    · exact ⟨false, by simp [h]⟩
  obtain ⟨RD, hRD⟩ : ∃ RD : Bool, RD = true ↔ s.dir = t.dir := by
    by_cases h : s.dir = t.dir
    · exact ⟨true, by simp [h]⟩
    · exact ⟨false, by simp [h]⟩
  have hq : ∀ wx : World, (binOp .eql 231 (.agg A) (.agg B)).run Tryz.prog wx = .ok (.bool RM) wx := fun wx => by
    rw [hAq, hBq, eq17 _ _ (lst17_len _) (lst17_len _)]
    congr 2
    rw [Bool.eq_iff_iff, decide_eq_true_iff, lst17_eq hok, hRM]
  have V1 : Hid (∀ x : Abv W, Calls Tryz.prog 177 #[.agg #[.slice sa s.man.segs.length sc, .int .i64 s.man.next, .int .i64 s.man.base, .int .i64 s.man.term, .slice ca s.man.conf.length cc]] x.w fun e w' => e = .returned (.agg A) ∧ Below x.w.heap.size x.w w') := fun x => by
    have := valueOf_any (ca := sc) (cb := cc) s.man n1 n2 x.w ((i1.kept hb).kept x.b) ((i2.kept hb).kept x.b)
    unfold manV at this
    rw [hAq]; exact this
  have V2 : Hid (∀ x : Abv W, Calls Tryz.prog 177 #[.agg #[.slice sa' t.man.segs.length sc', .int .i64 t.man.next, .int .i64 t.man.base, .int .i64 t.man.term, .slice ca' t.man.conf.length cc']] x.w fun e w' => e = .returned (.agg B) ∧ Below x.w.heap.size x.w w') := fun x => by
    have := valueOf_any (ca := sc') (cb := cc') t.man m1 m2 x.w ((j1.kept hb).kept x.b) ((j2.kept hb).kept x.b)
    unfold manV at this
    rw [hBq]; exact this
  have VD : Hid (∀ x : Abv W, Calls Tryz.prog 178 #[.slice da s.dir.length dc, .slice da' t.dir.length dc'] x.w fun e w' => e = .returned (.bool RD) ∧ Below x.w.heap.size x.w w') := fun x => eqSpots_is s.dir t.dir n3 m3 RD hRD x.w ((i3.kept hb).kept x.b) ((j3.kept hb).kept x.b)
  have hd : (RM = false ∧ R = false) ∨ (RM = true ∧ RD = false ∧ R = false) ∨ (RM = true ∧ RD = true ∧ s.stamp ≠ t.stamp ∧ R = false) ∨ (RM = true ∧ RD = true ∧ s.stamp = t.stamp ∧ R = true) := by
    obtain ⟨ms, ds, ss⟩ := s
    obtain ⟨mt, dt, st⟩ := t
    simp only [ShelfL.mk.injEq] at hR hRM hRD ⊢
    cases RM <;> cases RD <;> cases R <;> simp_all
  obtain ⟨⟨p0, p1, p2, p3, p4, p5, p6⟩, _⟩ := seven_cells hp0
  obtain ⟨⟨q0, q1, q2, q3, q4, q5, q6⟩, _⟩ := seven_cells hp1
  clear hA hB i1 i2 i3 j1 j2 j3 hb hRM hRD hR hp0 hp1 hAq hBq hok
  go_enter Tryz.func116, Tryz.ntmps116
  rcases hd with ⟨rfl, rfl⟩ | ⟨rfl, rfl, rfl⟩ | ⟨rfl, rfl, h3, rfl⟩ | ⟨rfl, rfl, h3, rfl⟩
  · go_wp2
    rw [← hW]
    clear hW
    have NE := Abv.ne W
    have P0 := fun x : Abv W => x.cell p0
    have Q0 := fun x : Abv W => x.cell q0
    have P1 := fun x : Abv W => x.cell p1
    have Q1 := fun x : Abv W => x.cell q1
    have P2 := fun x : Abv W => x.cell p2
    have Q2 := fun x : Abv W => x.cell q2
    have P3 := fun x : Abv W => x.cell p3
    have Q3 := fun x : Abv W => x.cell q3
    have P4 := fun x : Abv W => x.cell p4
    have Q4 := fun x : Abv W => x.cell q4
    have P5 := fun x : Abv W => x.cell p5
    have Q5 := fun x : Abv W => x.cell q5
    have P6 := fun x : Abv W => x.cell p6
    have Q6 := fun x : Abv W => x.cell q6
    clear p0 p1 p2 p3 p4 p5 p6 q0 q1 q2 q3 q4 q5 q6
    refine wp_region_above (by kernel_rfl) (by kernel_rfl) ?_
    repeat (go_big_quiet_step (first | (go_at_call 177; with_reducible exact calls_above (V1.out _)) | (go_at_call 177; with_reducible exact calls_above (V2.out _)) | (go_at_call 178; exact calls_above (VD.out _))))
    refine wpQuiet_nil ?_
    rintro w1 ⟨⟨_, hb1⟩, rfl⟩
    have HF : Hid (Below w.heap.size w _) := HB.out.trans (hb1.mono HB.out.size)
    clear NE hb1 P0 P1 P2 P3 P4 P5 P6 Q0 Q1 Q2 Q3 Q4 Q5 Q6
    go_wp2
    go_ret
    exact ⟨rfl, HF.out⟩
  · go_wp2
    rw [← hW]
    clear hW
    have NE := Abv.ne W
    have P0 := fun x : Abv W => x.cell p0
    have Q0 := fun x : Abv W => x.cell q0
    have P1 := fun x : Abv W => x.cell p1
    have Q1 := fun x : Abv W => x.cell q1
    have P2 := fun x : Abv W => x.cell p2
    have Q2 := fun x : Abv W => x.cell q2
    have P3 := fun x : Abv W => x.cell p3
    have Q3 := fun x : Abv W => x.cell q3
    have P4 := fun x : Abv W => x.cell p4
    have Q4 := fun x : Abv W => x.cell q4
    have P5 := fun x : Abv W => x.cell p5
    have Q5 := fun x : Abv W => x.cell q5
    have P6 := fun x : Abv W => x.cell p6
    have Q6 := fun x : Abv W => x.cell q6
    clear p0 p1 p2 p3 p4 p5 p6 q0 q1 q2 q3 q4 q5 q6
    refine wp_region_above (by kernel_rfl) (by kernel_rfl) ?_
    repeat (go_big_quiet_step (first | (go_at_call 177; with_reducible exact calls_above (V1.out _)) | (go_at_call 177; with_reducible exact calls_above (V2.out _)) | (go_at_call 178; exact calls_above (VD.out _))))
    refine wpQuiet_nil ?_
    rintro w1 ⟨⟨_, hb1⟩, rfl⟩
    have HF : Hid (Below w.heap.size w _) := HB.out.trans (hb1.mono HB.out.size)
    clear NE hb1 P0 P1 P2 P3 P4 P5 P6 Q0 Q1 Q2 Q3 Q4 Q5 Q6
    go_wp2
    go_ret
    exact ⟨rfl, HF.out⟩
  · have h4 : (s.stamp == t.stamp) = false := beq_eq_false_iff_ne.2 h3
    clear h3
    go_wp2
    rw [← hW]
    clear hW
    have NE := Abv.ne W
    have P0 := fun x : Abv W => x.cell p0
    have Q0 := fun x : Abv W => x.cell q0
    have P1 := fun x : Abv W => x.cell p1
    have Q1 := fun x : Abv W => x.cell q1
    have P2 := fun x : Abv W => x.cell p2
    have Q2 := fun x : Abv W => x.cell q2
    have P3 := fun x : Abv W => x.cell p3
    have Q3 := fun x : Abv W => x.cell q3
    have P4 := fun x : Abv W => x.cell p4
    have Q4 := fun x : Abv W => x.cell q4
    have P5 := fun x : Abv W => x.cell p5
    have Q5 := fun x : Abv W => x.cell q5
    have P6 := fun x : Abv W => x.cell p6
    have Q6 := fun x : Abv W => x.cell q6
    clear p0 p1 p2 p3 p4 p5 p6 q0 q1 q2 q3 q4 q5 q6
    refine wp_region_above (by kernel_rfl) (by kernel_rfl) ?_
    repeat (go_big_quiet_step (first | (go_at_call 177; with_reducible exact calls_above (V1.out _)) | (go_at_call 177; with_reducible exact calls_above (V2.out _)) | (go_at_call 178; exact calls_above (VD.out _))))
    refine wpQuiet_nil ?_
    rintro w1 ⟨⟨_, hb1⟩, rfl⟩
    have HF : Hid (Below w.heap.size w _) := HB.out.trans (hb1.mono HB.out.size)
    clear NE hb1 P0 P1 P2 P3 P4 P5 P6 Q0 Q1 Q2 Q3 Q4 Q5 Q6
    go_wp2
    go_ret
    exact ⟨rfl, HF.out⟩
  · have h4 : (s.stamp == t.stamp) = true := beq_iff_eq.2 h3
    clear h3
    go_wp2
    rw [← hW]
    clear hW
    have NE := Abv.ne W
    have P0 := fun x : Abv W => x.cell p0
    have Q0 := fun x : Abv W => x.cell q0
    have P1 := fun x : Abv W => x.cell p1
    have Q1 := fun x : Abv W => x.cell q1
    have P2 := fun x : Abv W => x.cell p2
    have Q2 := fun x : Abv W => x.cell q2
    have P3 := fun x : Abv W => x.cell p3
    have Q3 := fun x : Abv W => x.cell q3
    have P4 := fun x : Abv W => x.cell p4
    have Q4 := fun x : Abv W => x.cell q4
    have P5 := fun x : Abv W => x.cell p5
    have Q5 := fun x : Abv W => x.cell q5
    have P6 := fun x : Abv W => x.cell p6
    have Q6 := fun x : Abv W => x.cell q6
    clear p0 p1 p2 p3 p4 p5 p6 q0 q1 q2 q3 q4 q5 q6
    refine wp_region_above (by kernel_rfl) (by kernel_rfl) ?_
    repeat (go_big_quiet_step (first | (go_at_call 177; with_reducible exact calls_above (V1.out _)) | (go_at_call 177; with_reducible exact calls_above (V2.out _)) | (go_at_call 178; exact calls_above (VD.out _))))
    refine wpQuiet_nil ?_
    rintro w1 ⟨⟨_, hb1⟩, rfl⟩
    have HF : Hid (Below w.heap.size w _) := HB.out.trans (hb1.mono HB.out.size)
    clear NE hb1 P0 P1 P2 P3 P4 P5 P6 Q0 Q1 Q2 Q3 Q4 Q5 Q6
    go_wp2
    go_ret
    exact ⟨rfl, HF.out⟩
end Go.Proofs.YtbcfiiilikkkeaaGreatDoor
namespace Go.Proofs.YtbcfiiilikkkeaaGreatDoor
open Go.RowKit
open Shelves (textAt segName dirOf stOf lastOf)
set_option linter.unusedVariables false

/-- A scan as a value: its segment, the rows of its spots and its texts. -/
structure ScV where
  seg : Int
  xa : Option Addr
  xc : Nat
  ta : Option Addr
  tn : Nat
  tc : Nat
def cellSc (l : List FileL) (x : ScV) : List Value := [.int .i64 x.seg, .slice x.xa (Scan.segSpots x.seg (textAt l x.seg)).length x.xc, .slice x.ta x.tn x.tc, .int .i64 (Scan.segStamp (textAt l x.seg)), .int .i64 ((Scan.segEnd (textAt l x.seg) : Nat) : Int)]
def cellsSc (l : List FileL) (xs : List ScV) : List Value := xs.flatMap (cellSc l)
theorem cellsSc_app (l : List FileL) (xs ys : List ScV) : cellsSc l (xs ++ ys) = cellsSc l xs ++ cellsSc l ys := by simp [cellsSc]
theorem cellsSc_at (l : List FileL) : ∀ (xs : List ScV) (j : Nat) (hj : j < xs.length), (cellsSc l xs)[j * 5]? = some (.int .i64 xs[j].seg) ∧ (cellsSc l xs)[j * 5 + 1]? = some (.slice xs[j].xa (Scan.segSpots xs[j].seg (textAt l xs[j].seg)).length xs[j].xc) ∧ (cellsSc l xs)[j * 5 + 2]? = some (.slice xs[j].ta xs[j].tn xs[j].tc) ∧ (cellsSc l xs)[j * 5 + 3]? = some (.int .i64 (Scan.segStamp (textAt l xs[j].seg))) ∧ (cellsSc l xs)[j * 5 + 4]? = some (.int .i64 ((Scan.segEnd (textAt l xs[j].seg) : Nat) : Int))
  | [], j, hj => absurd hj (Nat.not_lt_zero _)
  | x :: xs, 0, _ => ⟨rfl, rfl, rfl, rfl, rfl⟩
  | x :: xs, j + 1, hj => by
    have ih := cellsSc_at l xs j (by simpa using hj)
    have e : cellsSc l (x :: xs) = cellSc l x ++ cellsSc l xs := rfl
    have hl : (cellSc l x).length = 5 := rfl
    have q : ∀ i, (cellsSc l (x :: xs))[(j + 1) * 5 + i]? = (cellsSc l xs)[j * 5 + i]? := fun i => by
      rw [e, List.getElem?_append_right (by omega), hl]
      congr 1
      omega
    have q0 := q 0
    simp only [Nat.add_zero] at q0
    rw [q0, q 1, q 2, q 3, q 4]
    exact ih
structure Scans (b : Nat) (l : List FileL) (xs : List ScV) (v : Value) (W : World) : Prop where
  row : W.ownsRow b 213 5 v xs.length (cellsSc l xs)
  spots : ∀ x ∈ xs, W.ownsRow b 134 4 (.slice x.xa (Scan.segSpots x.seg (textAt l x.seg)).length x.xc) (Scan.segSpots x.seg (textAt l x.seg)).length (cellsSpot (Scan.segSpots x.seg (textAt l x.seg)))
theorem Scans.kept {b : Nat} {l : List FileL} {xs : List ScV} {v : Value} {W W' : World} (h : Scans b l xs v W) (hb : Below W.heap.size W W') : Scans b l xs v W' := ⟨own_kept h.row hb, fun x hx => own_kept (h.spots x hx) hb⟩
theorem Scans.mono {b b' : Nat} {l : List FileL} {xs : List ScV} {v : Value} {W : World} (h : Scans b l xs v W) (hb : b' ≤ b) : Scans b' l xs v W := ⟨own_mono h.row hb, fun x hx => own_mono (h.spots x hx) hb⟩
theorem Scans.at {b : Nat} {l : List FileL} {xs : List ScV} {a : Option Addr} {c : Nat} {W : World} (h : Scans b l xs (.slice a xs.length c) W) {k : Nat} (hk : k < xs.length) : ∃ g, a = some ⟨g, 0, none⟩ ∧ W.cell? ⟨g, k * 5, none⟩ = some (.int .i64 xs[k].seg) ∧ W.cell? ⟨g, k * 5 + 1, none⟩ = some (.slice xs[k].xa (Scan.segSpots xs[k].seg (textAt l xs[k].seg)).length xs[k].xc) ∧ W.cell? ⟨g, k * 5 + 2, none⟩ = some (.slice xs[k].ta xs[k].tn xs[k].tc) ∧ W.cell? ⟨g, k * 5 + 3, none⟩ = some (.int .i64 (Scan.segStamp (textAt l xs[k].seg))) ∧ W.cell? ⟨g, k * 5 + 4, none⟩ = some (.int .i64 ((Scan.segEnd (textAt l xs[k].seg) : Nat) : Int)) := by
  rcases h.row.2 with ⟨h1, h2⟩ | ⟨g, cap, cur, h1, _⟩
  · omega
  · simp only [Value.slice.injEq] at h1
    obtain ⟨rfl, _, rfl⟩ := h1
    obtain ⟨q0, q1, q2, q3, q4⟩ := cellsSc_at l xs k hk
    have hc := fun i hi => h.row.cellAt (k * 5 + i) (by omega)
    refine ⟨g, rfl, ?_, ?_, ?_, ?_, ?_⟩
    · have := h.row.cellAt (k * 5) (by omega); rw [this]; exact q0
    · have := h.row.cellAt (k * 5 + 1) (by omega); rw [this]; exact q1
    · have := h.row.cellAt (k * 5 + 2) (by omega); rw [this]; exact q2
    · have := h.row.cellAt (k * 5 + 3) (by omega); rw [this]; exact q3
    · have := h.row.cellAt (k * 5 + 4) (by omega); rw [this]; exact q4
set_option maxHeartbeats 1000000 in
set_option maxRecDepth 100000 in
theorem hasMore_is (l : List FileL) (hok : Disks.ok l) {tb : Nat} (n : Int) (xa ta : Option Addr) (xn xc tn tc : Nat) (st : Int) (e : Nat) (w : World) (hT : Table w tb l) (hp : Pow w) (B : Bool) (hB : B = decide (e < (Disks.textOf l (segName n)).size)) :
    Calls Tryz.prog 206 #[.map (some tb), .agg #[.int .i64 n, .slice xa xn xc, .slice ta tn tc, .int .i64 st, .int .i64 (e : Int)]] w fun en w' => en = .returned (.bool B) ∧ Below w.heap.size w w' := by
  obtain ⟨W1, hW1⟩ : ∃ W1, W1 = w.alloc (Obj.cells #[.int .i64 n, .slice xa xn xc, .slice ta tn tc, .int .i64 st, .int .i64 (e : Int)] 213) := ⟨_, rfl⟩
  have hb1 : Below w.heap.size w W1 := by rw [hW1]; exact (Below.refl _ _).alloc (Nat.le_refl _) _
  have r1 : W1.heap[w.heap.size]? = some (.cells #[.int .i64 n, .slice xa xn xc, .slice ta tn tc, .int .i64 st, .int .i64 (e : Int)] 213 (0, 0)) := by rw [hW1]; exact heap_alloc_new w _
  have c0 : W1.cell? ⟨w.heap.size, 0, none⟩ = some (.int .i64 n) := cell_of_row _ _ 0 _ _ _ r1
  have c4 : W1.cell? ⟨w.heap.size, 4, none⟩ = some (.int .i64 (e : Int)) := cell_of_row _ _ 4 _ _ _ r1
  obtain ⟨A, hA⟩ : ∃ A, A = (Disks.look l (segName n)).1.1 := ⟨_, rfl⟩
  obtain ⟨T, hTe⟩ : ∃ T, T = Disks.textOf l (segName n) := ⟨_, rfl⟩
  have hlk : Disks.look l (segName n) = ((A, T), (Disks.look l (segName n)).2) := by rw [hA, hTe, ← (Disks.look_file l (segName n)).1]
  have HG : Hid (∀ y : Abv W1, (Instr.lookup 129 (.map (some tb)) (.string (segName n)) false).run Tryz.prog y.w = .ok (.agg #[.string A, .string T]) y.w) := fun y => tab_get ((hT.below hb1).below y.b) (Nat.le_trans (seg_size n) (by unfold maxLen; omega)) hlk
  have HP : Hid (∀ y : Abv W1, Pow y.w) := fun y => (hp.below hb1).below y.b
  rw [← hTe] at hB
  have hTs : T.size ≤ 1048576 := by
    have := Shelves.text_le hok n
    unfold textAt at this
    rw [Scan.by_len, ← hTe] at this
    omega
  clear hlk hA hTe hT hp r1
  go_enter Tryz.func206, Tryz.ntmps206
  go_wp2_with fail
  rw [← hW1]
  clear hW1
  have hfl := field68 A T
  have NE := Abv.ne W1
  have F0 := fun y : Abv W1 => y.cell c0
  have F4 := fun y : Abv W1 => y.cell c4
  have FG := HG.out
  refine wp_region_above (by kernel_rfl) (by kernel_rfl) ?_
  repeat (go_big_quiet_step (first | (go_at_call 118; exact calls_above (implSeg_any n _ (HP.out _)))))
  refine wpQuiet_nil ?_
  rintro w6 ⟨⟨_, hb6⟩, rfl⟩
  go_wp2
  go_ret
  exact ⟨by rw [hB]; rfl, hb1.trans (hb6.mono hb1.size)⟩
theorem cellSc_one (l : List FileL) (x : ScV) : ∀ u ∈ cellsSc l [x], u.oneCell' = true := by
  intro u hu
  simp [cellsSc, cellSc] at hu
  rcases hu with rfl | rfl | rfl | rfl | rfl <;> rfl
theorem Tryz.info213 : (Tryz.prog.info? 213).map (fun i => (i.zero, i.size, i.bytes)) = some (some (.agg #[.int .i64 0, .slice none 0 0, .slice none 0 0, .int .i64 0, .int .i64 0]), 5, 72) := by kernel_rfl
structure SS2 (w : World) (l : List FileL) (xs : List ScV) (v : Value) (W : World) : Prop where
  sc : Scans w.heap.size l xs v W
  bel : Below w.heap.size w W
theorem SS2.same {w W W' : World} {l : List FileL} {xs : List ScV} {v : Value} (h : SS2 w l xs v W) (hb : Below W.heap.size W W') : SS2 w l xs v W' := ⟨h.sc.kept hb, h.bel.trans (hb.mono h.bel.size)⟩
theorem SS2.alloc {w W : World} {l : List FileL} {xs : List ScV} {v : Value} (h : SS2 w l xs v W) (o : Obj) : SS2 w l xs v (W.alloc o) := h.same ((Below.refl _ _).alloc (Nat.le_refl _) _)
theorem SS2.app {w W W' : World} {l : List FileL} {xs : List ScV} {v v' : Value} (h : SS2 w l xs v W) {x : ScV} (hx : W.ownsRow w.heap.size 134 4 (.slice x.xa (Scan.segSpots x.seg (textAt l x.seg)).length x.xc) (Scan.segSpots x.seg (textAt l x.seg)).length (cellsSpot (Scan.segSpots x.seg (textAt l x.seg))))
    (hg : W.grownBy W' v.ownBlock) (hown : W'.ownsRow w.heap.size 213 5 v' (xs.length + 1) (cellsSc l xs ++ cellsSc l [x])) : SS2 w l (xs ++ [x]) v' W' := by
  refine ⟨⟨?_, fun y hy => ?_⟩, h.bel.grown hg h.bel.size (fun k e => (h.sc.row.lt k e).1)⟩
  · rw [cellsSc_app, List.length_append]; exact hown
  · rcases List.mem_append.1 hy with hy | hy
    · exact own_other (h.sc.spots y hy) h.sc.row (by decide) hg
    · rw [List.mem_singleton.1 hy]; exact own_other hx h.sc.row (by decide) hg
def ScansPost (w : World) (l : List FileL) (segs : List Int) (en : Ending) (w' : World) : Prop :=
  ((∀ n ∈ segs, (Disks.fileAt l (segName n)).isSome = true) ∧ ∃ v xs, en = .returned (.tuple #[v, .nilIface]) ∧ xs.map (fun x => x.seg) = segs ∧ Scans w.heap.size l xs v w' ∧ Below w.heap.size w w') ∨
  ((∃ n ∈ segs, Disks.fileAt l (segName n) = none) ∧ en = .returned (.tuple #[.slice none 0 0, .iface 202 (.agg #[.int .i64 3])]) ∧ Below w.heap.size w w')
set_option maxHeartbeats 4000000 in
set_option maxRecDepth 100000 in
theorem scansOf_is {a : Option Addr} {g off cap tb : Nat} (l : List FileL) (hok : Disks.ok l) (segs : List Int) (hn : segs.length ≤ 8) (w : World) (hT : Table w tb l) (hp : Pow w) (hA : IntAt w a g off segs) :
    Calls Tryz.prog 161 #[.map (some tb), .slice a segs.length cap] w (ScansPost w l segs) := by
  obtain ⟨i0, hi, hz0, hz1, hz2⟩ := info_parts Tryz.info213
  have HOK : Hid (Disks.ok l) := hok
  have HT : Hid (Table w tb l) := hT
  have HP : Hid (Pow w) := hp
  have HA : Hid (IntAt w a g off segs) := hA
  clear hok hT hp hA
  go_enter Tryz.func161, Tryz.ntmps161
  go_wp2_with (at_make; refine wpList_make_own _ rfl _ _ 205 rfl w.heap.size 213 i0 (.agg #[.int .i64 0, .slice none 0 0, .slice none 0 0, .int .i64 0, .int .i64 0]) 5 Tryz.underlying205 hi hz0 hz1 _ _ _ segs.length rfl rfl rfl (by rw [hz2]; omega) (by unfold maxLen; omega) (Nat.le_refl _) ?_; intro w1 hrow1 hg1)
  have HS1 : Hid (SS2 w l [] (.slice (some ⟨w.heap.size, 0, none⟩) 0 segs.length) w1) := ⟨⟨hrow1, fun x hx => (List.not_mem_nil hx).elim⟩, (Below.refl _ _).grown hg1 (Nat.le_refl _) (fun k e => by cases e)⟩
  clear hrow1 hg1
  go_loopw [6, 16] (fun v i wr => ∃ (k : Nat) (xs : List ScV), k ≤ segs.length ∧ i = .int .i64 (k : Int) ∧ Hid (xs.map (fun x => x.seg) = segs.take k) ∧ Hid (∀ j (h : j < segs.length), j < k → (Disks.fileAt l (segName segs[j])).isSome = true) ∧ Hid (SS2 w l xs v wr))
    (fun _ i _ => segs.length - (intOf i).toNat)
  case atStart => exact ⟨0, [], Nat.zero_le _, rfl, rfl, fun j _ q => absurd q (Nat.not_lt_zero _), HS1⟩
  case round =>
    clear HS1
    obtain ⟨k, xs, hk, rfl, HXS, HSOME, HS⟩ := hrel
    have hxl : xs.length ≤ 8 := by
      have := congrArg List.length HXS.out
      rw [List.length_map, List.length_take] at this
      omega
    obtain ⟨va, vc, hv⟩ := own_slice HS.out.sc.row
    subst hv
    by_cases hlt : k < segs.length
    · have ea := HA.out.1 (by omega)
      subst ea
      have c0 := (HA.out.kept HS.out.bel).2 k hlt
      obtain ⟨n, hnn⟩ : ∃ n, n = segs[k] := ⟨_, rfl⟩
      have HN : Hid (n = segs[k]) := hnn
      rw [← hnn] at c0
      clear hnn
      obtain ⟨A, hA⟩ : ∃ A, A = (Disks.look l (segName n)).1.1 := ⟨_, rfl⟩
      obtain ⟨T, hTe⟩ : ∃ T, T = Disks.textOf l (segName n) := ⟨_, rfl⟩
      obtain ⟨B, hB⟩ : ∃ B, B = (Disks.fileAt l (segName n)).isSome := ⟨_, rfl⟩
      have HLK : Hid (Disks.look l (segName n) = ((A, T), B)) := by
        show _ = _
        rw [hA, hTe, hB, ← (Disks.look_file l (segName n)).1, ← (Disks.look_file l (segName n)).2]
      have HTA : Hid (textAt l n = Batches.by_ T) := by show _ = _; rw [hTe]; rfl
      have HBB : Hid (B = (Disks.fileAt l (segName n)).isSome) := hB
      have ht20 : T.size ≤ 20000 := by have := Shelves.text_le HOK.out n; rw [HTA.out, Scan.by_len] at this; exact this
      have hnm := seg_size n
      clear hA hTe hB
      have hk0 : (0 : Int) ≤ (k : Int) := by omega
      have hk1 : (k : Int) < (segs.length : Int) := by omega
      go_wp2_with fail
      clear c0
      refine Calls.mono (implSeg_any n wr (HP.out.below HS.out.bel)) ?_
      rintro en w2 ⟨rfl, hb2⟩
      have HS2 : Hid (SS2 w l xs (.slice va xs.length vc) w2) := HS.out.same hb2
      have HT2 : Hid (Table w2 tb l) := HT.out.below HS2.out.bel
      clear hb2 HS
      cases B with
      | false =>
        have HPOST : Hid (∀ o : Obj, ScansPost w l segs (.returned (.tuple #[.slice none 0 0, .iface 202 (.agg #[.int .i64 3])])) (w2.alloc o)) := fun o => Or.inr ⟨⟨segs[k], List.getElem_mem _, by
          rw [← HN.out]
          cases q : Disks.fileAt l (segName n) with
          | none => rfl
          | some t => have := HBB.out; rw [q] at this; cases this⟩, rfl, (HS2.out.alloc o).bel⟩
        go_wp2_with (first | (at_lookup; refine wpList_look_tab _ rfl _ _ rfl tb l (segName n) (by unfold maxLen; omega) HT2.out _ _ _ HLK.out (by rfl) (by rfl) ?_) | fail)
        exact bodyPost_ret (v := .tuple #[.slice none 0 0, .iface 202 (.agg #[.int .i64 3])]) (by simp [results, Tryz.results161, go_sem]) rfl (HPOST.out _)
      | true =>
        obtain ⟨W3, hW3⟩ : ∃ W3, W3 = w2.alloc (Obj.cells #[.string A, .string T] 164) := ⟨_, rfl⟩
        have HS3 : Hid (SS2 w l xs (.slice va xs.length vc) W3) := by rw [hW3]; exact HS2.out.alloc _
        have HRD : Hid (Scan.Reads (unS T) (Scan.its (textAt l n))) := by show Scan.Reads _ _; rw [HTA.out]; exact unS_reads ht20
        go_wp2_with (first | (at_lookup; refine wpList_look_tab _ rfl _ _ rfl tb l (segName n) (by unfold maxLen; omega) HT2.out _ _ _ HLK.out (by rfl) (by rfl) ?_) | fail)
        rw [← hW3]
        clear hW3 HS2 HT2
        refine Calls.mono (scanOf_is T (by unfold maxLen; omega) n _ HRD.out W3) ?_
        rintro en w4 ⟨v1, v2, rfl, ho1, ho2, hb4⟩
        obtain ⟨xa, xc, hv1⟩ := own_slice ho1
        subst hv1
        obtain ⟨ta, tc, hv2⟩ := own_slice ho2
        subst hv2
        have HS4 : Hid (SS2 w l xs (.slice va xs.length vc) w4) := HS3.out.same hb4
        have HO1 : Hid (w4.ownsRow w.heap.size 134 4 (.slice xa (Scan.segSpots n (textAt l n)).length xc) (Scan.segSpots n (textAt l n)).length (cellsSpot (Scan.segSpots n (textAt l n)))) := own_mono ho1 HS3.out.bel.size
        clear ho1 ho2 hb4 HS3
        obtain ⟨X, hX⟩ : ∃ X : ScV, X = ⟨n, xa, xc, ta, (Scan.its (textAt l n)).length, tc⟩ := ⟨_, rfl⟩
        have hnew : ∀ j u, (cellsSc l [X])[j]? = some u → (w4.alloc (Obj.cells #[.int .i64 n, .slice xa (Scan.itSpots n 0 (Scan.its (textAt l n))).length xc, .slice ta (Scan.its (textAt l n)).length tc, .int .i64 (Scan.itStamp (-1) (Scan.its (textAt l n))), .int .i64 ((Scan.itEnd 0 (Scan.its (textAt l n)) : Nat) : Int)] 213)).cell? ((⟨w4.heap.size, 0, none⟩ : Addr).add j) = some u := fun j u hu => by
          have hr := heap_alloc_new w4 (Obj.cells #[.int .i64 n, .slice xa (Scan.itSpots n 0 (Scan.its (textAt l n))).length xc, .slice ta (Scan.its (textAt l n)).length tc, .int .i64 (Scan.itStamp (-1) (Scan.its (textAt l n))), .int .i64 ((Scan.itEnd 0 (Scan.its (textAt l n)) : Nat) : Int)] 213)
          rw [Addr.add_lit, Nat.zero_add, cell_of_row _ _ j _ _ _ hr, ← hu, hX, ← Array.getElem?_toList]
          rfl
        have hrow := (HS4.out.alloc (Obj.cells #[.int .i64 n, .slice xa (Scan.itSpots n 0 (Scan.its (textAt l n))).length xc, .slice ta (Scan.its (textAt l n)).length tc, .int .i64 (Scan.itStamp (-1) (Scan.its (textAt l n))), .int .i64 ((Scan.itEnd 0 (Scan.its (textAt l n)) : Nat) : Int)] 213)).sc.row
        have hbz := (HS4.out.alloc (Obj.cells #[.int .i64 n, .slice xa (Scan.itSpots n 0 (Scan.its (textAt l n))).length xc, .slice ta (Scan.its (textAt l n)).length tc, .int .i64 (Scan.itStamp (-1) (Scan.its (textAt l n))), .int .i64 ((Scan.itEnd 0 (Scan.its (textAt l n)) : Nat) : Int)] 213)).bel.size
        have HXe : Hid (X = ⟨n, xa, xc, ta, (Scan.its (textAt l n)).length, tc⟩) := hX
        clear hX
        go_wp2_with (at_builtin; refine wpList_append_own _ rfl _ _ 205 rfl w.heap.size 213 i0 (.agg #[.int .i64 0, .slice none 0 0, .slice none 0 0, .int .i64 0, .int .i64 0]) 5 72 Tryz.underlying205 hi hz0 hz1 hz2 rfl (by decide) _ _ _ rfl hrow ⟨w4.heap.size, 0, none⟩ 1 1 (cellsSc l [X]) rfl rfl hnew (cellSc_one l X) (by unfold maxLen; omega) (by omega) hbz ?_)
        intro v9 w9 hown9 hgrow9 _
        have HS9 : Hid (SS2 w l (xs ++ [X]) v9 w9) := (HS4.out.alloc _).app (by rw [HXe.out]; exact own_kept HO1.out ((Below.refl _ _).alloc (Nat.le_refl _) _)) hgrow9 hown9
        have HX9 : Hid ((xs ++ [X]).map (fun x => x.seg) = segs.take (k + 1)) := by
          show _ = _
          rw [List.map_append, HXS.out, List.take_succ_eq_append_getElem hlt, ← HN.out, HXe.out]; rfl
        have HSM9 : Hid (∀ j (h : j < segs.length), j < k + 1 → (Disks.fileAt l (segName segs[j])).isSome = true) := fun j h q => by
          by_cases e : j = k
          · subst e; rw [← HN.out]; exact HBB.out.symm
          · exact HSOME.out j h (by omega)
        clear hown9 hgrow9 hrow hbz hnew HS4 HO1
        go_wp2
        go_roundw
        case rel => exact ⟨k + 1, xs ++ [X], by omega, by go_num, HX9, HSM9, HS9⟩
        case measure => simp [intOf]; omega
    · have hk1 : ¬ (k : Int) < (segs.length : Int) := by omega
      have HPOST : Hid (ScansPost w l segs (.returned (.tuple #[.slice va xs.length vc, .nilIface])) wr) := Or.inl ⟨fun n hn => by
          obtain ⟨j, hj, e⟩ := List.getElem_of_mem hn
          rw [← e]; exact HSOME.out j hj (by omega), _, xs, rfl, by rw [HXS.out, List.take_of_length_le (by omega)], HS.out.sc, HS.out.bel⟩
      go_wp2
      exact bodyPost_ret (v := .tuple #[.slice va xs.length vc, .nilIface]) (by simp [results, Tryz.results161, go_sem]) rfl HPOST.out
theorem st_step (l : List FileL) : ∀ (xs : List ScV) (b : Int) (x : ScV), stOf l b ((xs ++ [x]).map fun x => x.seg) = if stOf l b (xs.map fun x => x.seg) < Scan.segStamp (textAt l x.seg) then Scan.segStamp (textAt l x.seg) else stOf l b (xs.map fun x => x.seg) := fun xs b x => by
  rw [List.map_append, Shelves.stOf_app]; rfl
theorem imax (a b : Int) : (if a < b then b else a) = max a b := by
  rcases Int.lt_or_le a b with h | h
  · rw [if_pos h, Int.max_eq_right (by omega)]
  · rw [if_neg (by omega), Int.max_eq_left h]
set_option maxHeartbeats 4000000 in
set_option maxRecDepth 100000 in
theorem stampOf_is {a : Option Addr} {cap b : Nat} (l : List FileL) (xs : List ScV) (hn : xs.length ≤ 8) (base : Int) (w : World) (hS : Scans b l xs (.slice a xs.length cap) w) (st : Int) (hst : st = stOf l base (xs.map fun x => x.seg)) :
    Calls Tryz.prog 163 #[.int .i64 base, .slice a xs.length cap] w fun en w' => en = .returned (.int .i64 st) ∧ Below w.heap.size w w' := by
  have HS : Hid (Scans b l xs (.slice a xs.length cap) w) := hS
  have HST : Hid (st = stOf l base (xs.map fun x => x.seg)) := hst
  clear hS hst
  go_enter Tryz.func163, Tryz.ntmps163
  go_wp2
  go_loopw [5, 11] (fun s i wr => ∃ (k : Nat) (z : Int), k ≤ xs.length ∧ i = .int .i64 (k : Int) ∧ s = .int .i64 z ∧ Hid (z = stOf l base ((xs.take k).map fun x => x.seg)) ∧ Hid (Below w.heap.size w wr))
    (fun _ i _ => xs.length - (intOf i).toNat)
  case atStart => exact ⟨0, base, Nat.zero_le _, rfl, rfl, rfl, Below.refl _ _⟩
  case round =>
    obtain ⟨k, z, hk, rfl, rfl, HZ, HB⟩ := hrel
    by_cases hlt : k < xs.length
    · obtain ⟨g, ea, c0, c1, c2, c3, c4⟩ := (HS.out.kept HB.out).at hlt
      subst ea
      obtain ⟨X, hX⟩ : ∃ X, X = xs[k] := ⟨_, rfl⟩
      have HX : Hid (X = xs[k]) := hX
      rw [← hX] at c0 c1 c2 c3 c4
      clear hX
      obtain ⟨q, hq⟩ : ∃ q, q = Scan.segStamp (textAt l X.seg) := ⟨_, rfl⟩
      have HQ : Hid (max z q = stOf l base ((xs.take (k + 1)).map fun x => x.seg)) := by
        show _ = _
        rw [List.take_succ_eq_append_getElem hlt, st_step, ← HX.out, ← HZ.out, ← hq, imax]
      rw [← hq] at c3
      clear hq
      obtain ⟨ob, hob⟩ : ∃ ob, ob = Obj.cells #[.int .i64 X.seg, .slice X.xa (Scan.segSpots X.seg (textAt l X.seg)).length X.xc, .slice X.ta X.tn X.tc, .int .i64 q, .int .i64 ((Scan.segEnd (textAt l X.seg) : Nat) : Int)] 213 := ⟨_, rfl⟩
      have HB2 : Hid (Below w.heap.size w (wr.alloc ob)) := HB.out.alloc HB.out.size _
      rw [hob] at HB2
      clear hob
      have hk0 : (0 : Int) ≤ (k : Int) := by omega
      have hk1 : (k : Int) < (xs.length : Int) := by omega
      go_wp2
      go_roundw
      case rel => exact ⟨k + 1, max z q, by omega, by go_num, rfl, HQ, HB2⟩
      case measure => simp [intOf]; omega
    · have hk1 : ¬ (k : Int) < (xs.length : Int) := by omega
      have HE : Hid (z = st) := by show _ = _; rw [HZ.out, HST.out, List.take_of_length_le (by omega)]
      go_wp2
      go_ret
      exact ⟨by rw [← HE.out]; rfl, HB.out⟩
end Go.Proofs.YtbcfiiilikkkeaaGreatDoor
