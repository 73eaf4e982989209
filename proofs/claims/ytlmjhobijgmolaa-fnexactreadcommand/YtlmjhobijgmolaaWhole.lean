/- The calls of the closure that reads a manifest and of readWhole, walked: the deferred closure that recovers. -/
import Derived.Test.YtlmjhobijgmolaaReader2
import Derived.Defers
import Derived.Recover
namespace Go.Proofs.Ytlmjhobijgmolaa
open Go.RowKit
set_option linter.unusedVariables false

theorem catch_panicking (p : Addr) (x : Bool) (u : TypeId) (pv : Value) (older : List PanicEntry) (w : World) (hc : w.cell? p = some (.bool x)) (hz : w.frozen? p = false) :
    CallsD Try.prog 37 #[.pointer (some p)] (.panicking ({ v := .iface u pv, recovered := false } :: older)) w fun e u' w' =>
      e = .returned (.tuple #[]) ∧ u' = .panicking ({ v := .iface u pv, recovered := true } :: older) ∧ w' = w.setCell p (.bool false) := by
  refine callsD_of_wpS Try.func37 rfl fun c₀ cs hu => ?_
  apply wpS_seq
  apply wpS_region
  simp [wpOpsS, go_sem, recoverD, hu, Try.ntmps37, Exit.thenS]
  refine wpS_cond (t := true) (by simp [Act.eval, Array.replicate]) ?_
  simp only [if_true]
  apply wpS_region
  simp [wpOpsS, go_sem, hc, hz, bodyPostS, results, Try.results37]

theorem catch_idle (p : Addr) (w : World) :
    CallsD Try.prog 37 #[.pointer (some p)] .returning w fun e u' w' => e = .returned (.tuple #[]) ∧ u' = .returning ∧ w' = w := by
  refine callsD_of_wpS Try.func37 rfl fun c₀ cs hu => ?_
  apply wpS_seq
  apply wpS_region
  simp [wpOpsS, go_sem, recoverD, hu, Try.ntmps37, Exit.thenS]
  refine wpS_cond (t := false) (by simp [Act.eval, Array.replicate]) ?_
  simp only [Bool.false_eq_true, if_false]
  refine wpS_of_wp (wp_skip ?_)
  cases c₀
  simp_all [bodyPostS, results, Try.results37]

/-- What readWhole lays ahead of the reading: the named result, the reader. -/
theorem whole_start (t : ByteArray) (w : World) (B0 : Nat) : ∃ W, W = ((w.alloc (Obj.cells #[Value.bool false] 4)).alloc (Obj.cells #[Value.string t, Value.int IntKind.i64 0] 60)) ∧ Rd W (w.heap.size + 1) t 0 ∧ W.heap[w.heap.size]? = some (.cells #[.bool false] 4 (0, 0)) ∧ w.grownBy W (some B0) ∧ w.heap.size + 2 ≤ W.heap.size := by
  refine ⟨_, rfl, ⟨?_, Nat.zero_le _⟩, ?_, (grown_alloc _ _).trans (grown_alloc _ _), by simp⟩
  · have := heap_alloc_new (w.alloc (Obj.cells #[Value.bool false] 4)) (Obj.cells #[Value.string t, Value.int IntKind.i64 0] 60)
    simpa using this
  · rw [Below.heap_alloc _ _ _ (by simp)]
    exact heap_alloc_new w _
end Go.Proofs.Ytlmjhobijgmolaa
