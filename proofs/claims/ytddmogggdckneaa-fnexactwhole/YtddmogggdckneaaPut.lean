/- A value stored into the midst of a row, at the operation. -/
import Derived.Test.YtddmogggdckneaaSpecBehind
import Derived.Laws.CopyRow
namespace Go.Proofs.Ytddmogggdckneaa
open Go.RowKit
set_option linter.unusedVariables false
set_option linter.unusedSimpArgs false
theorem wpList_put {T : TypeId} {n : Nat} (hz : ∀ w, (sizeOf T).run Try.prog w = .ok n w) {w : World} {ops : Array Oper} {rest : List Oper} {o : Oper} {a : Act} {Q : Exit → Act → World → Prop} (hgd : o.guard = none) (x y : Operand) (ho : o.op = .store T x y) (g k : Nat) (V : Value) (vs : Array Value) (C D : Array Value) (t : TypeId) (hx : a.eval x = .pointer (some ⟨g, k, none⟩)) (hy : a.eval y = V) (hv : V.cells = vs) (hg : w.heap[g]? = some (.cells C t (0, 0))) (hs : vs.size = n) (hc : k + n ≤ C.size) (h1 : ∀ v ∈ vs.toList, v.oneCell' = true) (hD : (C.toList.take k ++ vs.toList ++ C.toList.drop (k + n)).toArray = D)
    (h : wpList Try.prog ops Q rest (a.put o.dst undef) (w.setRow g D)) : wpList Try.prog ops Q (o :: rest) a w := by
  refine wpList_plain hgd fun K hK => ?_
  have h2 := run_storeCells_at (P := Try.prog) g k t vs.toList 0 C w hg (by simp; omega) h1
  simp only [Nat.add_zero] at h2
  have hl : vs.toList.length = n := by simpa using hs
  rw [hl, hD] at h2
  have hrun : (Instr.storeAt T (.pointer (some ⟨g, k, none⟩)) V).run Try.prog w = .ok () (w.setRow g D) := by
    simp [Instr.storeAt, Instr.sureAddr, storeVar, hv, hs, h2, hz]
  unfold Oper.wp
  simp [execOp, ho, hx, hy, hrun, Result.andThen]
  exact hK _ _ h
end Go.Proofs.Ytddmogggdckneaa
