/- The calls of the closure that reads a manifest and of readWhole, walked: the deferred closure that recovers. -/
import Derived.Test.YtcmjidcdkooliaaRdMan
namespace Go.Proofs.Ytcmjidcdkooliaa
open Go.RowKit
set_option linter.unusedVariables false

theorem catch_panicking (p : Addr) (x : Bool) (u : TypeId) (pv : Value) (older : List PanicEntry) (w : World) (hc : w.cell? p = some (.bool x)) (hz : w.frozen? p = false) :
    CallsD Try.prog 57 #[.pointer (some p)] (.panicking ({ v := .iface u pv, recovered := false } :: older)) w fun e u' w' =>
      e = .returned (.tuple #[]) ∧ u' = .panicking ({ v := .iface u pv, recovered := true } :: older) ∧ w' = w.setCell p (.bool false) := by
  refine callsD_of_wpS Try.func57 rfl fun c₀ cs hu => ?_
  apply wpS_seq
  apply wpS_region
  simp [wpOpsS, go_sem, recoverD, hu, Try.ntmps57, Exit.thenS]
  refine wpS_cond (t := true) (by simp [Act.eval, Array.replicate]) ?_
  simp only [if_true]
  apply wpS_region
  simp [wpOpsS, go_sem, hc, hz, bodyPostS, results, Try.results57]

theorem catch_idle (p : Addr) (w : World) :
    CallsD Try.prog 57 #[.pointer (some p)] .returning w fun e u' w' => e = .returned (.tuple #[]) ∧ u' = .returning ∧ w' = w := by
  refine callsD_of_wpS Try.func57 rfl fun c₀ cs hu => ?_
  apply wpS_seq
  apply wpS_region
  simp [wpOpsS, go_sem, recoverD, hu, Try.ntmps57, Exit.thenS]
  refine wpS_cond (t := false) (by simp [Act.eval, Array.replicate]) ?_
  simp only [Bool.false_eq_true, if_false]
  refine wpS_of_wp (wp_skip ?_)
  cases c₀
  simp_all [bodyPostS, results, Try.results57]

set_option maxHeartbeats 400000 in
theorem lit_torn {rb B0 : Nat} {t : ByteArray} (hs : t.size ≤ 1048576) (w : World) (hr : Rd w rb t 0) (h : Mans.Torn t) :
    Calls Try.prog 34 #[.pointer (some ⟨rb, 0, none⟩), .pointer (some ⟨B0, 0, none⟩)] w fun en w' => en = .panicked thrown ∧ w.grownBy w' (some rb) := by
  have HR : Hid (Rd w rb t 0) := hr
  clear hr
  go_enter Try.func34, Try.ntmps34
  go_wp2_with (go_at_call 35; refine (man_torn hs _ HR.out h).mono ?_; rintro e w1 ⟨rfl, hg1⟩)
  exact ⟨rfl, rfl, hg1⟩
set_option maxHeartbeats 1000000 in
theorem lit_gets {rb B0 : Nat} {t : ByteArray} {l l' : List Int} {X Y Z e : Nat} (hs : t.size ≤ 1048576) (w : World) (hr : Rd w rb t 0) (h : GetsN t l l' X Y Z e) (hne : B0 ≠ rb) (hB : w.heap[B0]? = some (.cells #[.slice none 0 0, .int .i64 0, .int .i64 0, .int .i64 0, .slice none 0 0] 26 (0, 0))) :
    Calls Try.prog 34 #[.pointer (some ⟨rb, 0, none⟩), .pointer (some ⟨B0, 0, none⟩)] w fun en w' => en = .returned (.tuple #[]) ∧
      ∃ w1, w.grownBy w1 (some rb) ∧ w1.grownBy w' (some B0) ∧ Rd w' rb t e ∧ ∃ v1 v2, w'.heap[B0]? = some (.cells #[v1, .int .i64 (X : Int), .int .i64 (Y : Int), .int .i64 (Z : Int), v2] 26 (0, 0)) ∧ w'.ownsRow w.heap.size 3 1 v1 l.length (cellsI l) ∧ w'.ownsRow w.heap.size 3 1 v2 l'.length (cellsI l') ∧ Apart v1 v2 := by
  have HR : Hid (Rd w rb t 0) := hr
  have HB : Hid (_ = _) := hB
  clear hr hB
  go_enter Try.func34, Try.ntmps34
  go_wp2_with fail
  refine (man_gets hs _ HR.out h).mono ?_
  rintro en w1 ⟨v1, v2, rfl, ho1, ho2, hap, hr1, hg1⟩
  obtain ⟨va1, vc1, hv1⟩ := own_slice ho1
  obtain ⟨va2, vc2, hv2⟩ := own_slice ho2
  subst hv1 hv2
  have hb1 := grown_keep HB.out hg1 hne
  have HB1 : Hid (_ = _) := hb1
  have HO1 : Hid (w1.ownsRow w.heap.size 3 1 (.slice va1 l.length vc1) l.length (cellsI l)) := ho1
  have HO2 : Hid (w1.ownsRow w.heap.size 3 1 (.slice va2 l'.length vc2) l'.length (cellsI l')) := ho2
  have HR1 : Hid (Rd w1 rb t e) := hr1
  have HG1 : Hid (w.grownBy w1 (some rb)) := hg1
  have HAP : Hid (Apart (.slice va1 l.length vc1) (.slice va2 l'.length vc2)) := hap
  have c0 := cell_of_row _ _ 0 _ _ _ hb1
  have c1 := cell_of_row _ _ 1 _ _ _ hb1
  have c2 := cell_of_row _ _ 2 _ _ _ hb1
  have c3 := cell_of_row _ _ 3 _ _ _ hb1
  have c4 := cell_of_row _ _ 4 _ _ _ hb1
  have cf0 := frozen_of_row _ _ 0 _ _ hb1
  have cf1 := frozen_of_row _ _ 1 _ _ hb1
  have cf2 := frozen_of_row _ _ 2 _ _ hb1
  have cf3 := frozen_of_row _ _ 3 _ _ hb1
  have cf4 := frozen_of_row _ _ 4 _ _ hb1
  simp at c0 c1 c2 c3 c4
  clear ho1 ho2 hr1 hg1 hb1 hap
  go_wp2
  go_end0
  have n1 := own_not HO1.out HB1.out (by decide)
  have n2 := own_not HO2.out HB1.out (by decide)
  refine ⟨rfl, w1, HG1.out, ((((grown_set _ _ _ _).trans (grown_set _ _ _ _)).trans (grown_set _ _ _ _)).trans (grown_set _ _ _ _)).trans (grown_set _ _ _ _), ((((HR1.out.setNew hne.symm 0 _).setNew hne.symm 1 _).setNew hne.symm 2 _).setNew hne.symm 3 _).setNew hne.symm 4 _, .slice va1 l.length vc1, .slice va2 l'.length vc2, five_set HB1.out _ _ _ _ _, ?_, ?_, HAP.out⟩
  · exact own_set (own_set (own_set (own_set (own_set HO1.out _ _ _ n1) _ _ _ n1) _ _ _ n1) _ _ _ n1) _ _ _ n1
  · exact own_set (own_set (own_set (own_set (own_set HO2.out _ _ _ n2) _ _ _ n2) _ _ _ n2) _ _ _ n2) _ _ _ n2
/-- What readWhole lays ahead of the reading: the named result, the reader. -/
theorem whole_start (t : ByteArray) (w : World) (B0 : Nat) : ∃ W, W = ((w.alloc (Obj.cells #[Value.bool false] 4)).alloc (Obj.cells #[Value.string t, Value.int IntKind.i64 0] 77)) ∧ Rd W (w.heap.size + 1) t 0 ∧ W.heap[w.heap.size]? = some (.cells #[.bool false] 4 (0, 0)) ∧ w.grownBy W (some B0) ∧ w.heap.size + 2 ≤ W.heap.size := by
  refine ⟨_, rfl, ⟨?_, Nat.zero_le _⟩, ?_, (grown_alloc _ _).trans (grown_alloc _ _), by simp⟩
  · have := heap_alloc_new (w.alloc (Obj.cells #[Value.bool false] 4)) (Obj.cells #[Value.string t, Value.int IntKind.i64 0] 77)
    simpa using this
  · rw [Below.heap_alloc _ _ _ (by simp)]
    exact heap_alloc_new w _
set_option maxHeartbeats 400000 in
set_option maxRecDepth 100000 in
theorem whole_torn {B0 : Nat} {t : ByteArray} (hs : t.size ≤ 1048576) (w : World) (hB0 : B0 < w.heap.size) (h : Mans.Torn t) :
    Calls Try.prog 33 #[.string t, .func (.func 34) #[] #[.pointer (some ⟨B0, 0, none⟩)]] w fun en w' => en = .returned (.bool false) ∧ w.grownBy w' (some B0) := by
  have hmf : ∀ (fn : Fn) (first cap : Array Value) (w : World), (Instr.makeFunc fn first cap).run Try.prog w = .ok (.func fn first cap) w := fun _ _ _ _ => rfl
  have HH : Hid (Mans.Torn t) := h
  clear h
  obtain ⟨W, hW, hr, hwh, hg, hz⟩ := whole_start t w B0
  have HR : Hid (Rd W (w.heap.size + 1) t 0) := hr
  have HW : Hid (_ = _) := hwh
  have HG : Hid (w.grownBy W (some B0)) := hg
  clear hr hwh hg
  go_enter_defers Try.func33, Try.ntmps33
  go_wp2_with fail
  rw [← hW]
  refine (lit_torn hs W HR.out HH.out).mono ?_
  rintro en w1 ⟨rfl, hg1⟩
  have hw1 := grown_keep HW.out hg1 (by omega)
  have hg2 : w.grownBy w1 (some B0) := HG.out.andThen hg1 (fun r e => Or.inl (by cases e; omega))
  have c0 := cell_of_row _ _ 0 _ _ _ hw1
  have f0 := frozen_of_row _ _ 0 _ _ hw1
  simp at c0
  refine leaves_cons (f := 57) (args := #[.pointer (some ⟨w.heap.size, 0, none⟩)]) (by simp) (by simp [go_sem]) ?_
  refine (catch_panicking ⟨w.heap.size, 0, none⟩ false 95 (.agg #[]) [] w1 c0 f0).mono ?_
  rintro e u' w'' ⟨rfl, rfl, rfl⟩
  have c1 : (w1.setCell ⟨w.heap.size, 0, none⟩ (.bool false)).cell? ⟨w.heap.size, 0, none⟩ = some (.bool false) := World.cell?_setCell_same _ _ _ c0
  simp [Leaves, settle, results, Try.results33, go_sem, c1]
  exact grown_new hg2 (Nat.le_refl _) _ _
set_option maxHeartbeats 1000000 in
set_option maxRecDepth 100000 in
theorem whole_gets {B0 : Nat} {t : ByteArray} {l l' : List Int} {X Y Z e : Nat} (hs : t.size ≤ 1048576) (w : World) (hB : w.heap[B0]? = some (.cells #[.slice none 0 0, .int .i64 0, .int .i64 0, .int .i64 0, .slice none 0 0] 26 (0, 0))) (h : GetsN t l l' X Y Z e) (R : Bool) (hR : R = ((e : Int) == (t.size : Int))) :
    Calls Try.prog 33 #[.string t, .func (.func 34) #[] #[.pointer (some ⟨B0, 0, none⟩)]] w fun en w' => en = .returned (.bool R) ∧ w.grownBy w' (some B0) ∧ ∃ v1 v2, w'.heap[B0]? = some (.cells #[v1, .int .i64 (X : Int), .int .i64 (Y : Int), .int .i64 (Z : Int), v2] 26 (0, 0)) ∧ w'.ownsRow w.heap.size 3 1 v1 l.length (cellsI l) ∧ w'.ownsRow w.heap.size 3 1 v2 l'.length (cellsI l') ∧ Apart v1 v2 := by
  have hmf : ∀ (fn : Fn) (first cap : Array Value) (w : World), (Instr.makeFunc fn first cap).run Try.prog w = .ok (.func fn first cap) w := fun _ _ _ _ => rfl
  have hB0 : B0 < w.heap.size := (Array.getElem?_eq_some_iff.1 hB).1
  obtain ⟨W, hW, hr, hwh, hg, hz⟩ := whole_start t w B0
  have HH : Hid (GetsN t l l' X Y Z e) := h
  have HB : Hid (W.heap[B0]? = some (.cells #[.slice none 0 0, .int .i64 0, .int .i64 0, .int .i64 0, .slice none 0 0] 26 (0, 0))) := by
    show _ = _
    rw [hW, Below.heap_alloc _ _ _ (by simp; omega), Below.heap_alloc _ _ _ hB0]; exact hB
  have HR : Hid (Rd W (w.heap.size + 1) t 0) := hr
  have HW : Hid (W.heap[w.heap.size]? = some (.cells #[.bool false] 4 (0, 0))) := hwh
  have HG : Hid (w.grownBy W (some B0)) := hg
  clear hr hwh hg h hB
  go_enter_defers Try.func33, Try.ntmps33
  go_wp2_with fail
  rw [← hW]
  refine (lit_gets hs W HR.out HH.out (by omega) HB.out).mono ?_
  rintro en w2 ⟨rfl, w1, hg1, hg2, hr2, v1, v2, hb2, ho1, ho2, hap⟩
  have hw2 := grown_keep (grown_keep HW.out hg1 (by omega)) hg2 (by omega)
  have HG2 : Hid (w.grownBy w2 (some B0)) := (HG.out.andThen hg1 (fun r e => Or.inl (by cases e; omega))).trans hg2
  have HB2 : Hid (_ = _) := hb2
  have HO1 : Hid (w2.ownsRow w.heap.size 3 1 v1 l.length (cellsI l)) := own_mono ho1 (by omega)
  have HO2 : Hid (w2.ownsRow w.heap.size 3 1 v2 l'.length (cellsI l')) := own_mono ho2 (by omega)
  have HAP : Hid (Apart v1 v2) := hap
  have HW2 : Hid (w2.heap[w.heap.size]? = some (.cells #[.bool false] 4 (0, 0))) := hw2
  have c0 := cell_of_row _ _ 0 _ _ _ hw2
  have f0 := frozen_of_row _ _ 0 _ _ hw2
  have q0 := hr2.c0
  have q1 := hr2.c1
  simp at c0
  clear hw2 hg1 hg2 hb2 ho1 ho2 hr2 hW hap
  go_wp2
  refine leaves_cons (f := 57) (args := #[.pointer (some ⟨w.heap.size, 0, none⟩)]) (by simp) (by simp [go_sem]) ?_
  refine (catch_idle ⟨w.heap.size, 0, none⟩ _).mono ?_
  rintro e u' w'' ⟨rfl, rfl, rfl⟩
  rw [← hR]
  have c1 : (w2.setCell ⟨w.heap.size, 0, none⟩ (.bool R)).cell? ⟨w.heap.size, 0, none⟩ = some (.bool R) := World.cell?_setCell_same _ _ _ c0
  simp [Leaves, settle, results, Try.results33, go_sem, c1]
  exact ⟨grown_new HG2.out (Nat.le_refl _) _ _, v1, v2, set_far HB2.out (by omega) _ _, own_set HO1.out _ _ _ (own_not HO1.out HW2.out (by decide)), own_set HO2.out _ _ _ (own_not HO2.out HW2.out (by decide)), HAP.out⟩
end Go.Proofs.Ytcmjidcdkooliaa
