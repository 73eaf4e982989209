/- The call of the program's readWhole, walked. -/
import Derived.Test.YtinhgonmdnbdiaaWhole
namespace Go.Proofs.Ytinhgonmdnbdiaa
open Go.RowKit
set_option linter.unusedVariables false

/-- What readWhole lays ahead of the reading: the named result, the reader. -/
theorem whole_start (t : ByteArray) (w : World) (B0 : Nat) : ∃ W, W = ((w.alloc (Obj.cells #[Value.bool false] 4)).alloc (Obj.cells #[Value.string t, Value.int IntKind.i64 0] 92)) ∧ Rd W (w.heap.size + 1) t 0 ∧ W.heap[w.heap.size]? = some (.cells #[.bool false] 4 (0, 0)) ∧ w.grownBy W (some B0) ∧ w.heap.size + 2 ≤ W.heap.size := by
  refine ⟨_, rfl, ⟨?_, Nat.zero_le _⟩, ?_, (grown_alloc _ _).trans (grown_alloc _ _), by simp⟩
  · have := heap_alloc_new (w.alloc (Obj.cells #[Value.bool false] 4)) (Obj.cells #[Value.string t, Value.int IntKind.i64 0] 92)
    simpa using this
  · rw [Below.heap_alloc _ _ _ (by simp)]
    exact heap_alloc_new w _

set_option maxHeartbeats 400000 in
set_option maxRecDepth 100000 in
theorem whole_thrown {B0 : Nat} {t : ByteArray} (hs : t.size ≤ 1048576) (w : World) (hB0 : B0 < w.heap.size) (h : Reads t) :
    Calls Try.prog 50 #[.string t, .func (.func 87) #[] #[.pointer (some ⟨B0, 0, none⟩)]] w fun en w' => en = .returned (.bool false) ∧ w.grownBy w' (some B0) := by
  have hmf : ∀ (fn : Fn) (first cap : Array Value) (w : World), (Instr.makeFunc fn first cap).run Try.prog w = .ok (.func fn first cap) w := fun _ _ _ _ => rfl
  have HH : Hid (Reads t) := h
  clear h
  obtain ⟨W, hW, hr, hwh, hg, hz⟩ := whole_start t w B0
  have HR : Hid (Rd W (w.heap.size + 1) t 0) := hr
  have HW : Hid (_ = _) := hwh
  have HG : Hid (w.grownBy W (some B0)) := hg
  clear hr hwh hg
  go_enter_defers Try.func50, Try.ntmps50
  go_wp2_with fail
  rw [← hW]
  refine (lit_thrown hs W HR.out HH.out).mono ?_
  rintro en w1 ⟨rfl, hg1⟩
  have hw1 := grown_keep HW.out hg1 (by omega)
  have hg2 : w.grownBy w1 (some B0) := HG.out.andThen hg1 (fun r e => Or.inl (by cases e; omega))
  have c0 := cell_of_row _ _ 0 _ _ _ hw1
  have f0 := frozen_of_row _ _ 0 _ _ hw1
  simp at c0
  refine leaves_cons (f := 67) (args := #[.pointer (some ⟨w.heap.size, 0, none⟩)]) (by simp) (by simp [go_sem]) ?_
  refine (catch_panicking ⟨w.heap.size, 0, none⟩ false 133 (.agg #[]) [] w1 c0 f0).mono ?_
  rintro e u' w'' ⟨rfl, rfl, rfl⟩
  have c1 : (w1.setCell ⟨w.heap.size, 0, none⟩ (.bool false)).cell? ⟨w.heap.size, 0, none⟩ = some (.bool false) := World.cell?_setCell_same _ _ _ c0
  simp [Leaves, settle, results, Try.results50, go_sem, c1]
  exact grown_new hg2 (Nat.le_refl _) _ _

set_option maxHeartbeats 400000 in
set_option maxRecDepth 100000 in
theorem whole_gets {B0 : Nat} {t : ByteArray} {st e : Nat} {l : List ChangeL} (hs : t.size ≤ 1048576) (w : World) (hB : w.heap[B0]? = some (.cells #[.int .i64 0, .slice none 0 0] 47 (0, 0))) (h : Gets t st l e) (R : Bool) (hR : R = ((e : Int) == (t.size : Int))) :
    Calls Try.prog 50 #[.string t, .func (.func 87) #[] #[.pointer (some ⟨B0, 0, none⟩)]] w fun en w' => en = .returned (.bool R) ∧ w.grownBy w' (some B0) ∧
      ∃ v, w'.heap[B0]? = some (.cells #[.int .i64 (st : Int), v] 47 (0, 0)) ∧ w'.ownsRow w.heap.size 53 3 v l.length (cellsChange l) := by
  have hmf : ∀ (fn : Fn) (first cap : Array Value) (w : World), (Instr.makeFunc fn first cap).run Try.prog w = .ok (.func fn first cap) w := fun _ _ _ _ => rfl
  have hB0 : B0 < w.heap.size := (Array.getElem?_eq_some_iff.1 hB).1
  obtain ⟨W, hW, hr, hwh, hg, hz⟩ := whole_start t w B0
  have HH : Hid (Gets t st l e) := h
  have HB : Hid (W.heap[B0]? = some (.cells #[.int .i64 0, .slice none 0 0] 47 (0, 0))) := by
    show _ = _
    rw [hW, Below.heap_alloc _ _ _ (by simp; omega), Below.heap_alloc _ _ _ hB0]; exact hB
  have HR : Hid (Rd W (w.heap.size + 1) t 0) := hr
  have HW : Hid (W.heap[w.heap.size]? = some (.cells #[.bool false] 4 (0, 0))) := hwh
  have HG : Hid (w.grownBy W (some B0)) := hg
  clear hr hwh hg h hB
  go_enter_defers Try.func50, Try.ntmps50
  go_wp2_with fail
  rw [← hW]
  refine (lit_gets hs W HR.out HH.out (by omega) HB.out).mono ?_
  rintro en w2 ⟨rfl, v, w1, hg1, hg2, hb2, hown, hr2⟩
  have hw2 := grown_keep (grown_keep HW.out hg1 (by omega)) hg2 (by omega)
  have HG2 : Hid (w.grownBy w2 (some B0)) := (HG.out.andThen hg1 (fun r e => Or.inl (by cases e; omega))).trans hg2
  have HB2 : Hid (_ = _) := hb2
  have HO2 : Hid (w2.ownsRow w.heap.size 53 3 v l.length (cellsChange l)) := own_mono hown (by omega)
  have HW2 : Hid (w2.heap[w.heap.size]? = some (.cells #[.bool false] 4 (0, 0))) := hw2
  have c0 := cell_of_row _ _ 0 _ _ _ hw2
  have f0 := frozen_of_row _ _ 0 _ _ hw2
  have q0 := hr2.c0
  have q1 := hr2.c1
  simp at c0
  clear hw2 hg1 hg2 hb2 hown hr2 hW
  go_wp2
  refine leaves_cons (f := 67) (args := #[.pointer (some ⟨w.heap.size, 0, none⟩)]) (by simp) (by simp [go_sem]) ?_
  refine (catch_idle ⟨w.heap.size, 0, none⟩ _).mono ?_
  rintro e u' w'' ⟨rfl, rfl, rfl⟩
  rw [← hR]
  have c1 : (w2.setCell ⟨w.heap.size, 0, none⟩ (.bool R)).cell? ⟨w.heap.size, 0, none⟩ = some (.bool R) := World.cell?_setCell_same _ _ _ c0
  simp [Leaves, settle, results, Try.results50, go_sem, c1]
  exact ⟨grown_new HG2.out (Nat.le_refl _) _ _, v, set_far HB2.out (by omega) _ _, own_set HO2.out _ _ _ (own_not HO2.out HW2.out (by decide))⟩
end Go.Proofs.Ytinhgonmdnbdiaa
