/- The call of the program's ReadBatch, walked. -/
import Derived.Test.YtinhgonmdnbdiaaWhole2
namespace Go.Proofs.Ytinhgonmdnbdiaa
open Go.RowKit
set_option linter.unusedVariables false

theorem rdMany_small {t : ByteArray} : ∀ (n a e : Nat) (l : List ChangeL), Batches.rdMany t n a = some (l, e) → l.length = n ∧ ∀ c ∈ l, Batches.small c
  | 0, a, e, l, h => by
    simp only [Batches.rdMany, Option.some.injEq, Prod.mk.injEq] at h
    obtain ⟨rfl, rfl⟩ := h
    exact ⟨rfl, fun c hc => (List.not_mem_nil hc).elim⟩
  | n + 1, a, e, l, h => by
    obtain ⟨c, a1, r, h1, h2, rfl⟩ := rdMany_next h
    obtain ⟨b1, b2, g1, g2, g3⟩ := rdOne_parts h1
    obtain ⟨q1, q2⟩ := rdMany_small n a1 e r h2
    refine ⟨by simp [q1], fun x hx => ?_⟩
    rcases List.mem_cons.1 hx with rfl | hx
    · exact ⟨(Batches.rdShort_cut g1).2.2.2, (Batches.rdShort_cut g3).2.2.2⟩
    · exact q2 x hx
theorem Gets.small {t : ByteArray} {st e : Nat} {l : List ChangeL} (h : Gets t st l e) : l.length ≤ 60 ∧ ∀ c ∈ l, smallChange 2097152 c := by
  obtain ⟨a1, n, a2, _, _, hn, h3⟩ := h
  obtain ⟨q1, q2⟩ := rdMany_small _ _ _ _ h3
  exact ⟨by omega, fun c hc => ⟨Nat.le_trans (q2 c hc).1 (by omega), Nat.le_trans (q2 c hc).2 (by omega)⟩⟩

/-- What ReadBatch lays ahead of the reading: the result, the variable b. -/
theorem read_start (w : World) : ∃ W, W = ((w.alloc (Obj.cells #[Value.int IntKind.i64 0, Value.slice none 0 0] 47)).alloc (Obj.cells #[Value.int IntKind.i64 0, Value.slice none 0 0] 47)) ∧ W.heap[w.heap.size]? = some (.cells #[.int .i64 0, .slice none 0 0] 47 (0, 0)) ∧ W.heap[w.heap.size + 1]? = some (.cells #[.int .i64 0, .slice none 0 0] 47 (0, 0)) ∧ Below w.heap.size w W ∧ W.heap.size = w.heap.size + 2 := by
  refine ⟨_, rfl, ?_, ?_, ((Below.refl _ _).alloc (Nat.le_refl _) _).alloc (by simp) _, by simp⟩
  · rw [Below.heap_alloc _ _ _ (by simp)]
    exact heap_alloc_new w _
  · have := heap_alloc_new (w.alloc (Obj.cells #[Value.int IntKind.i64 0, Value.slice none 0 0] 47)) (Obj.cells #[Value.int IntKind.i64 0, Value.slice none 0 0] 47)
    simpa using this

set_option maxHeartbeats 400000 in
set_option maxRecDepth 100000 in
theorem implReadB_thrown {t : ByteArray} (hs : t.size ≤ 1048576) (w : World) (h : Reads t) :
    Calls Try.prog 76 #[.string t] w fun en w' => en = .returned (.tuple #[.agg #[.int .i64 0, .slice none 0 0], .bool false]) ∧ Below w.heap.size w w' := by
  have hmf : ∀ (fn : Fn) (first cap : Array Value) (w : World), (Instr.makeFunc fn first cap).run Try.prog w = .ok (.func fn first cap) w := fun _ _ _ _ => rfl
  have HH : Hid (Reads t) := h
  clear h
  obtain ⟨W, hW, h0, h1, hb, hz⟩ := read_start w
  have HZ : Hid (_ = _) := h0
  clear h0 h1
  go_enter Try.func76, Try.ntmps76
  go_wp2_with fail
  rw [← hW]
  clear hW
  refine (whole_thrown hs W (by omega) HH.out).mono ?_
  rintro en w1 ⟨rfl, hg1⟩
  have hr1 := grown_keep HZ.out hg1 (by omega)
  have HR1 : Hid (_ = _) := hr1
  have hB : Below w.heap.size w w1 := hb.grown hg1 (by omega) (fun k e => by cases e; omega)
  have c0 := cell_of_row _ _ 0 _ _ _ hr1
  have c1 := cell_of_row _ _ 1 _ _ _ hr1
  have f0 := frozen_of_row _ _ 0 _ _ hr1
  have f1 := frozen_of_row _ _ 1 _ _ hr1
  simp at c0 c1
  clear hr1 hg1 hb
  go_wp2
  obtain ⟨l0, l1⟩ := two_cell HR1.out (.int .i64 0) (.slice none 0 0)
  exact bodyPost_ret (v := .tuple #[.agg #[.int .i64 0, .slice none 0 0], .bool false]) (by simp [results, Try.results76, go_sem, l0, l1]) rfl ⟨rfl, (hB.setCell (by simp) _).setCell (by simp) _⟩
set_option maxHeartbeats 400000 in
set_option maxRecDepth 100000 in
theorem implReadB_short {t : ByteArray} {st e : Nat} {l : List ChangeL} (hs : t.size ≤ 1048576) (w : World) (h : Gets t st l e) (he : ¬ e = t.size) :
    Calls Try.prog 76 #[.string t] w fun en w' => en = .returned (.tuple #[.agg #[.int .i64 0, .slice none 0 0], .bool false]) ∧ Below w.heap.size w w' := by
  have hmf : ∀ (fn : Fn) (first cap : Array Value) (w : World), (Instr.makeFunc fn first cap).run Try.prog w = .ok (.func fn first cap) w := fun _ _ _ _ => rfl
  have HH : Hid (Gets t st l e) := h
  clear h
  obtain ⟨W, hW, h0, h1, hb, hz⟩ := read_start w
  have HZ : Hid (_ = _) := h0
  have HB : Hid (_ = _) := h1
  clear h0 h1
  go_enter Try.func76, Try.ntmps76
  go_wp2_with fail
  rw [← hW]
  clear hW
  refine (whole_gets hs W HB.out HH.out false (by symm; simpa using fun h : (e : Int) = t.size => he (by omega))).mono ?_
  rintro en w1 ⟨rfl, hg1, v, _, _⟩
  have hr1 := grown_keep HZ.out hg1 (by omega)
  have HR1 : Hid (_ = _) := hr1
  have hB : Below w.heap.size w w1 := hb.grown hg1 (by omega) (fun k e => by cases e; omega)
  have c0 := cell_of_row _ _ 0 _ _ _ hr1
  have c1 := cell_of_row _ _ 1 _ _ _ hr1
  have f0 := frozen_of_row _ _ 0 _ _ hr1
  have f1 := frozen_of_row _ _ 1 _ _ hr1
  simp at c0 c1
  clear hr1 hg1 hb
  go_wp2
  obtain ⟨l0, l1⟩ := two_cell HR1.out (.int .i64 0) (.slice none 0 0)
  exact bodyPost_ret (v := .tuple #[.agg #[.int .i64 0, .slice none 0 0], .bool false]) (by simp [results, Try.results76, go_sem, l0, l1]) rfl ⟨rfl, (hB.setCell (by simp) _).setCell (by simp) _⟩
set_option maxHeartbeats 400000 in
set_option maxRecDepth 100000 in
theorem implReadB_got {t : ByteArray} {st : Nat} {l : List ChangeL} (hs : t.size ≤ 1048576) (w : World) (h : Gets t st l t.size) (ho : Batches.ok (st : Int) l) :
    Calls Try.prog 76 #[.string t] w fun en w' => ∃ v, en = .returned (.tuple #[.agg #[.int .i64 (st : Int), v], .bool true]) ∧ w'.ownsRow w.heap.size 53 3 v l.length (cellsChange l) ∧ Below w.heap.size w w' := by
  have hmf : ∀ (fn : Fn) (first cap : Array Value) (w : World), (Instr.makeFunc fn first cap).run Try.prog w = .ok (.func fn first cap) w := fun _ _ _ _ => rfl
  have HH : Hid (Gets t st l t.size) := h
  have HS : Hid (∀ c ∈ l, smallChange 2097152 c) := h.small.2
  have hl := h.small.1
  have HK : Hid (Batches.ok (st : Int) l) := ho
  clear h ho
  obtain ⟨W, hW, h0, h1, hb, hz⟩ := read_start w
  have HZ : Hid (_ = _) := h0
  have HB : Hid (_ = _) := h1
  clear h0 h1
  go_enter Try.func76, Try.ntmps76
  go_wp2_with fail
  rw [← hW]
  clear hW
  refine (whole_gets hs W HB.out HH.out true (by simp)).mono ?_
  rintro en w1 ⟨rfl, hg1, v, hb1, hown⟩
  obtain ⟨va, gg, vc, rfl, hat⟩ := cellsChange_slice hown
  have hr1 := grown_keep HZ.out hg1 (by omega)
  have HR1 : Hid (_ = _) := hr1
  have HO1 : Hid (w1.ownsRow w.heap.size 53 3 (.slice va l.length vc) l.length (cellsChange l)) := own_mono hown (by omega)
  have hB : Below w.heap.size w w1 := hb.grown hg1 (by omega) (fun k e => by cases e; omega)
  have HA : Hid (ChangeAt w1 va gg 0 l) := hat
  have HB1 : Hid (_ = _) := hb1
  have d0 := cell_of_row _ _ 0 _ _ _ hb1
  have d1 := cell_of_row _ _ 1 _ _ _ hb1
  simp at d0 d1
  clear hr1 hg1 hb hown hat hb1
  go_wp2_with fail
  refine (implOk_any true (st : Int) l (by omega) w1 HA.out HS.out (by simp [HK.out])).mono ?_
  rintro en w2 ⟨rfl, hb2⟩
  have hz1 : w.heap.size + 1 < w1.heap.size := (Array.getElem?_eq_some_iff.1 HB1.out).1
  have hr2 : w2.heap[w.heap.size]? = some (.cells #[.int .i64 0, .slice none 0 0] 47 (0, 0)) := (hb2.block _ (by omega)).trans HR1.out
  have HR2 : Hid (w2.heap[w.heap.size]? = some (.cells #[.int .i64 0, .slice none 0 0] 47 (0, 0))) := hr2
  have hb3 := (hb2.block _ hz1).trans HB1.out
  have HO2 : Hid (w2.ownsRow w.heap.size 53 3 (.slice va l.length vc) l.length (cellsChange l)) := own_kept HO1.out hb2
  have hB2 : Below w.heap.size w w2 := hB.trans (hb2.mono hB.size)
  have c0 := cell_of_row _ _ 0 _ _ _ hr2
  have c1 := cell_of_row _ _ 1 _ _ _ hr2
  have f0 := frozen_of_row _ _ 0 _ _ hr2
  have f1 := frozen_of_row _ _ 1 _ _ hr2
  have e0 := cell_of_row _ _ 0 _ _ _ hb3
  have e1 := cell_of_row _ _ 1 _ _ _ hb3
  simp at c0 c1 e0 e1
  clear hr2 hb2 hb3 d0 d1 hB
  go_wp2
  obtain ⟨l0, l1⟩ := two_cell HR2.out (.int .i64 (st : Int)) (.slice va l.length vc)
  exact bodyPost_ret (v := .tuple #[.agg #[.int .i64 (st : Int), .slice va l.length vc], .bool true]) (by simp [results, Try.results76, go_sem, l0, l1]) rfl ⟨.slice va l.length vc, rfl, own_set (own_set HO2.out _ _ _ (own_not HO2.out HR2.out (by decide))) _ _ _ (own_not HO2.out HR2.out (by decide)), (hB2.setCell (by simp) _).setCell (by simp) _⟩
set_option maxHeartbeats 400000 in
set_option maxRecDepth 100000 in
theorem implReadB_wrong {t : ByteArray} {st : Nat} {l : List ChangeL} (hs : t.size ≤ 1048576) (w : World) (h : Gets t st l t.size) (ho : ¬ Batches.ok (st : Int) l) :
    Calls Try.prog 76 #[.string t] w fun en w' => en = .returned (.tuple #[.agg #[.int .i64 0, .slice none 0 0], .bool false]) ∧ Below w.heap.size w w' := by
  have hmf : ∀ (fn : Fn) (first cap : Array Value) (w : World), (Instr.makeFunc fn first cap).run Try.prog w = .ok (.func fn first cap) w := fun _ _ _ _ => rfl
  have HH : Hid (Gets t st l t.size) := h
  have HS : Hid (∀ c ∈ l, smallChange 2097152 c) := h.small.2
  have hl := h.small.1
  have HK : Hid (¬ Batches.ok (st : Int) l) := ho
  clear h ho
  obtain ⟨W, hW, h0, h1, hb, hz⟩ := read_start w
  have HZ : Hid (_ = _) := h0
  have HB : Hid (_ = _) := h1
  clear h0 h1
  go_enter Try.func76, Try.ntmps76
  go_wp2_with fail
  rw [← hW]
  clear hW
  refine (whole_gets hs W HB.out HH.out true (by simp)).mono ?_
  rintro en w1 ⟨rfl, hg1, v, hb1, hown⟩
  obtain ⟨va, gg, vc, rfl, hat⟩ := cellsChange_slice hown
  have hr1 := grown_keep HZ.out hg1 (by omega)
  have HR1 : Hid (_ = _) := hr1
  have HO1 : Hid (w1.ownsRow w.heap.size 53 3 (.slice va l.length vc) l.length (cellsChange l)) := own_mono hown (by omega)
  have hB : Below w.heap.size w w1 := hb.grown hg1 (by omega) (fun k e => by cases e; omega)
  have HA : Hid (ChangeAt w1 va gg 0 l) := hat
  have HB1 : Hid (_ = _) := hb1
  have d0 := cell_of_row _ _ 0 _ _ _ hb1
  have d1 := cell_of_row _ _ 1 _ _ _ hb1
  simp at d0 d1
  clear hr1 hg1 hb hown hat hb1
  go_wp2_with fail
  refine (implOk_any false (st : Int) l (by omega) w1 HA.out HS.out (by simp [HK.out])).mono ?_
  rintro en w2 ⟨rfl, hb2⟩
  have hz1 : w.heap.size + 1 < w1.heap.size := (Array.getElem?_eq_some_iff.1 HB1.out).1
  have hr2 : w2.heap[w.heap.size]? = some (.cells #[.int .i64 0, .slice none 0 0] 47 (0, 0)) := (hb2.block _ (by omega)).trans HR1.out
  have HR2 : Hid (w2.heap[w.heap.size]? = some (.cells #[.int .i64 0, .slice none 0 0] 47 (0, 0))) := hr2
  have hb3 := (hb2.block _ hz1).trans HB1.out
  have HO2 : Hid (w2.ownsRow w.heap.size 53 3 (.slice va l.length vc) l.length (cellsChange l)) := own_kept HO1.out hb2
  have hB2 : Below w.heap.size w w2 := hB.trans (hb2.mono hB.size)
  have c0 := cell_of_row _ _ 0 _ _ _ hr2
  have c1 := cell_of_row _ _ 1 _ _ _ hr2
  have f0 := frozen_of_row _ _ 0 _ _ hr2
  have f1 := frozen_of_row _ _ 1 _ _ hr2
  have e0 := cell_of_row _ _ 0 _ _ _ hb3
  have e1 := cell_of_row _ _ 1 _ _ _ hb3
  simp at c0 c1 e0 e1
  clear hr2 hb2 hb3 d0 d1 hB
  go_wp2
  obtain ⟨l0, l1⟩ := two_cell HR2.out (.int .i64 0) (.slice none 0 0)
  exact bodyPost_ret (v := .tuple #[.agg #[.int .i64 0, .slice none 0 0], .bool false]) (by simp [results, Try.results76, go_sem, l0, l1]) rfl ⟨rfl, (hB2.setCell (by simp) _).setCell (by simp) _⟩

theorem got_gets {t : ByteArray} {st : Nat} {l : List ChangeL} (h : Batches.Got t st l) : Gets t st l t.size := by
  obtain ⟨a, b, h1, h2, h3⟩ := Batches.got_read h
  exact ⟨a, l.length, b, h1, h2, h.2.2.1, h3⟩
theorem gets_got {t : ByteArray} {st : Nat} {l : List ChangeL} (h : Gets t st l t.size) (ho : Batches.ok (st : Int) l) : Batches.Got t st l := by
  obtain ⟨a, n, b, h1, h2, _, h3⟩ := h
  exact Batches.read_got h1 h2 h3 ho
theorem implReadB_yes {t : ByteArray} {st : Nat} {l : List ChangeL} (hs : t.size ≤ 1048576) (w : World) (h : Batches.Got t st l) :
    Calls Try.prog 76 #[.string t] w fun en w' => ∃ v, en = .returned (.tuple #[.agg #[.int .i64 (st : Int), v], .bool true]) ∧ w'.ownsRow w.heap.size 53 3 v l.length (cellsChange l) ∧ Below w.heap.size w w' :=
  implReadB_got hs w (got_gets h) h.2
theorem implReadB_no {t : ByteArray} (hs : t.size ≤ 1048576) (w : World) (h : ∀ st l, ¬ Batches.Got t st l) :
    Calls Try.prog 76 #[.string t] w fun en w' => en = .returned (.tuple #[.agg #[.int .i64 0, .slice none 0 0], .bool false]) ∧ Below w.heap.size w w' := by
  rcases reads_or t with hr | ⟨st, l, e, hg⟩
  · exact implReadB_thrown hs w hr
  · by_cases he : e = t.size
    · subst he
      exact implReadB_wrong hs w hg (fun ho => h st l (gets_got hg ho))
    · exact implReadB_short hs w hg he
end Go.Proofs.Ytinhgonmdnbdiaa
