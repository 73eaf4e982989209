/- A struct loaded and stored whole: its cells as one array. -/
import Derived.Test.YtpedpdgkbmpfjaaDoorMathCmd
import Derived.Laws.CopyOwn
import Derived.Laws.Cells
namespace Go.Proofs.YtpedpdgkbmpfjaaDoor
open Go.RowKit
set_option linter.unusedVariables false

theorem cells_list {w : World} {g : Nat} {A : Array Value} {t : TypeId} (hg : w.heap[g]? = some (.cells A t (0, 0))) : ∀ j v, A.toList[j]? = some v → w.cell? ((⟨g, 0, none⟩ : Addr).add j) = some v := by
  intro j v hv
  rw [Addr.add_lit, Nat.zero_add]
  obtain ⟨hj, e⟩ := List.getElem?_eq_some_iff.1 hv
  subst e
  rw [cell_of_row _ _ j _ _ _ hg]
  simp
theorem run_load_agg {P : Program} {T : TypeId} {n : Nat} (ha : ∀ w, (isAgg T).run P w = .ok true w) (hz : ∀ w, (sizeOf T).run P w = .ok n w) {w : World} {g : Nat} {A : Array Value} {t : TypeId} (hg : w.heap[g]? = some (.cells A t (0, 0))) (hs : A.size = n) : (Instr.loadAt T (.pointer (some ⟨g, 0, none⟩))).run P w = .ok (.agg A) w := by
  have h1 := run_loadCells_list (P := P) w ⟨g, 0, none⟩ A.toList (cells_list hg)
  rw [Array.length_toList, hs] at h1
  simp [Instr.loadAt, Instr.sureAddr, loadVar, h1, ha, hz]
theorem run_store_agg {P : Program} {T : TypeId} {n : Nat} (hz : ∀ w, (sizeOf T).run P w = .ok n w) {w : World} {g : Nat} {A C : Array Value} {t : TypeId} (hg : w.heap[g]? = some (.cells C t (0, 0))) (hs : A.size = n) (hc : C.size = n) (h1 : ∀ v ∈ A.toList, v.oneCell' = true) : (Instr.storeAt T (.pointer (some ⟨g, 0, none⟩)) (.agg A)).run P w = .ok () (w.setRow g A) := by
  have h2 := run_storeCells_at (P := P) g 0 t A.toList 0 C w hg (by simp; omega) h1
  have h3 : (C.toList.take (0 + 0) ++ A.toList ++ C.toList.drop (0 + 0 + A.toList.length)).toArray = A := by
    rw [List.drop_of_length_le (by simp; omega)]; simp
  rw [h3] at h2
  simp [Instr.storeAt, Instr.sureAddr, storeVar, Value.cells, hs, h2, hz]
theorem wpList_loadA {T : TypeId} {n : Nat} (ha : ∀ w, (isAgg T).run Tryd.prog w = .ok true w) (hz : ∀ w, (sizeOf T).run Tryd.prog w = .ok n w) {w : World} {ops : Array Oper} {rest : List Oper} {o : Oper} {a : Act} {Q : Exit → Act → World → Prop} (hgd : o.guard = none) (x : Operand) (ho : o.op = .load T x) (g : Nat) (A : Array Value) (t : TypeId) (hx : a.eval x = .pointer (some ⟨g, 0, none⟩)) (hg : w.heap[g]? = some (.cells A t (0, 0))) (hs : A.size = n)
    (h : wpList Tryd.prog ops Q rest (a.put o.dst (.agg A)) w) : wpList Tryd.prog ops Q (o :: rest) a w := by
  refine wpList_plain hgd fun K hK => ?_
  have hrun := run_load_agg (P := Tryd.prog) ha hz hg hs
  unfold Oper.wp
  simp [execOp, ho, hx, hrun, Result.andThen]
  exact hK _ _ h
theorem wpList_storeA {T : TypeId} {n : Nat} (hz : ∀ w, (sizeOf T).run Tryd.prog w = .ok n w) {w : World} {ops : Array Oper} {rest : List Oper} {o : Oper} {a : Act} {Q : Exit → Act → World → Prop} (hgd : o.guard = none) (x y : Operand) (ho : o.op = .store T x y) (g : Nat) (A C : Array Value) (t : TypeId) (hx : a.eval x = .pointer (some ⟨g, 0, none⟩)) (hy : a.eval y = .agg A) (hg : w.heap[g]? = some (.cells C t (0, 0))) (hs : A.size = n) (hc : C.size = n) (h1 : ∀ v ∈ A.toList, v.oneCell' = true)
    (h : wpList Tryd.prog ops Q rest (a.put o.dst undef) (w.setRow g A)) : wpList Tryd.prog ops Q (o :: rest) a w := by
  refine wpList_plain hgd fun K hK => ?_
  have hrun := run_store_agg (P := Tryd.prog) hz hg hs hc h1
  unfold Oper.wp
  simp [execOp, ho, hx, hy, hrun, Result.andThen]
  exact hK _ _ h
theorem run_loadVar_agg {P : Program} {T : TypeId} {n : Nat} (ha : ∀ w, (isAgg T).run P w = .ok true w) (hz : ∀ w, (sizeOf T).run P w = .ok n w) {w : World} {g : Nat} {A : Array Value} {t : TypeId} (hg : w.heap[g]? = some (.cells A t (0, 0))) (hs : A.size = n) : (loadVar T ⟨g, 0, none⟩).run P w = .ok (.agg A) w := by
  have h1 := run_loadCells_list (P := P) w ⟨g, 0, none⟩ A.toList (cells_list hg)
  rw [Array.length_toList, hs] at h1
  simp [loadVar, h1, ha, hz]
theorem row_size {w : World} {g : Nat} {C A : Array Value} {t : TypeId} (hg : w.heap[g]? = some (.cells C t (0, 0))) : (w.setRow g A).heap[g]? = some (.cells A t (0, 0)) := setRow_heap w g _ _ t _ hg
theorem grown_setRow (w : World) (g : Nat) (A : Array Value) : w.grownBy (w.setRow g A) (some g) :=
  ⟨rfl, rfl, rfl, by simp, fun k _ hk => setRow_other w g k A (fun e => hk (by simp [e]))⟩
theorem row_far {w : World} {R Z : Nat} {o : Obj} (h : w.heap[Z]? = some o) (hne : Z ≠ R) (A : Array Value) : (w.setRow R A).heap[Z]? = some o := (setRow_other w R Z A hne).trans h
end Go.Proofs.YtpedpdgkbmpfjaaDoor
