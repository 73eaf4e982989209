/- The calls of the program's reader, walked: need, number, count; each ends with its answer or with the panic that the reader throws. The calls of the specification's cursor over a text, walked: l05Var, l05Take, l05ReadShort. The specification's l05Take, walked. The calls of the program's reader, walked: one. The calls of the closure that reads a manifest and of readWhole, walked: the deferred closure that recovers. -/
import Derived.Test.YtahpoemmlpbgdaaTxtA
import Derived.Test.YtahpoemmlpbgdaaMathB
import Derived.Test.YtahpoemmlpbgdaaKit
import Derived.Deep.QuietTactic
import Derived.StillTailTactics
import Derived.Defers
import Derived.Recover
namespace Go.Proofs.Ytahpoemmlpbgdaa
section
open Go.RowKit
set_option linter.unusedVariables false

/-- A reader at rb, that far in its text. -/
def Rd (w : World) (rb : Nat) (t : ByteArray) (a : Nat) : Prop := w.heap[rb]? = some (.cells #[.string t, .int .i64 (a : Int)] 141 (0, 0)) ∧ a ≤ t.size
theorem Rd.c0 {w : World} {rb : Nat} {t : ByteArray} {a : Nat} (h : Rd w rb t a) : w.cell? ⟨rb, 0, none⟩ = some (.string t) := cell_of_row _ _ 0 _ _ _ h.1
theorem Rd.c1 {w : World} {rb : Nat} {t : ByteArray} {a : Nat} (h : Rd w rb t a) : w.cell? ⟨rb, 1, none⟩ = some (.int .i64 (a : Int)) := cell_of_row _ _ 1 _ _ _ h.1
theorem Rd.fz {w : World} {rb : Nat} {t : ByteArray} {a : Nat} (h : Rd w rb t a) (i : Nat) : w.frozen? ⟨rb, i, none⟩ = false := frozen_of_row _ _ _ _ _ h.1
theorem Rd.set {w : World} {rb : Nat} {t : ByteArray} {a : Nat} (h : Rd w rb t a) {b : Nat} (hb : b ≤ t.size) : Rd (w.setCell ⟨rb, 1, none⟩ (.int .i64 (b : Int))) rb t b := by
  refine ⟨?_, hb⟩
  have := heap_setCell_same w rb 1 _ 141 (.int .i64 (b : Int)) h.1
  simpa using this
theorem Rd.lt {w : World} {rb : Nat} {t : ByteArray} {a : Nat} (h : Rd w rb t a) : rb < w.heap.size := (Array.getElem?_eq_some_iff.1 h.1).1
theorem Rd.below {w w' : World} {rb : Nat} {t : ByteArray} {a : Nat} (h : Rd w rb t a) (hb : Below w.heap.size w w') : Rd w' rb t a := ⟨(hb.block _ h.lt).trans h.1, h.2⟩
theorem Rd.setNew {w : World} {rb : Nat} {t : ByteArray} {a : Nat} (h : Rd w rb t a) {k : Nat} (hk : rb ≠ k) (j : Nat) (v : Value) : Rd (w.setCell ⟨k, j, none⟩ v) rb t a := ⟨set_far h.1 hk j v, h.2⟩
theorem Rd.drew {w : World} {rb : Nat} {t : ByteArray} {a : Nat} (h : Rd w rb t a) : Rd w.drew rb t a := h
/-- What the reader throws. -/
def thrown : List PanicEntry := [{ v := .iface 160 (.agg #[]), recovered := false }]

theorem rdZ_at {t : ByteArray} {a : Nat} (h : a ≤ t.size) : rdZ t (a : Int) = Words.rd t.data.toList a := by
  rw [rdZ, if_pos ⟨by omega, by omega⟩, Int.toNat_natCast]

end
section
open Go.RowKit
set_option linter.unusedVariables false

/-- A cursor at cb, that far in its text, bad or not. -/
def C5 (w : World) (cb : Nat) (t : ByteArray) (a : Nat) (bad : Bool) : Prop := w.heap[cb]? = some (.cells #[.string t, .int .i64 (a : Int), .bool bad] 108 (0, 0)) ∧ a ≤ t.size
section
variable {w w' : World} {cb a : Nat} {t : ByteArray} {bad : Bool}
theorem C5.c0 (h : C5 w cb t a bad) : w.cell? ⟨cb, 0, none⟩ = some (.string t) := cell_of_row _ _ 0 _ _ _ h.1
theorem C5.c1 (h : C5 w cb t a bad) : w.cell? ⟨cb, 1, none⟩ = some (.int .i64 (a : Int)) := cell_of_row _ _ 1 _ _ _ h.1
theorem C5.c2 (h : C5 w cb t a bad) : w.cell? ⟨cb, 2, none⟩ = some (.bool bad) := cell_of_row _ _ 2 _ _ _ h.1
theorem C5.fz (h : C5 w cb t a bad) (i : Nat) : w.frozen? ⟨cb, i, none⟩ = false := frozen_of_row _ _ _ _ _ h.1
theorem C5.lt (h : C5 w cb t a bad) : cb < w.heap.size := (Array.getElem?_eq_some_iff.1 h.1).1
theorem C5.below (h : C5 w cb t a bad) (hb : Below w.heap.size w w') : C5 w' cb t a bad := ⟨(hb.block _ h.lt).trans h.1, h.2⟩
theorem C5.setAt (h : C5 w cb t a bad) {b : Nat} (hb : b ≤ t.size) : C5 (w.setCell ⟨cb, 1, none⟩ (.int .i64 (b : Int))) cb t b bad := by
  refine ⟨?_, hb⟩
  have := heap_setCell_same w cb 1 _ 108 (.int .i64 (b : Int)) h.1
  simpa using this
theorem C5.setBad (h : C5 w cb t a bad) : C5 (w.setCell ⟨cb, 2, none⟩ (.bool true)) cb t a true := by
  refine ⟨?_, h.2⟩
  have := heap_setCell_same w cb 2 _ 108 (.bool true) h.1
  simpa using this
theorem C5.far (h : C5 w cb t a bad) {k : Nat} (hk : cb ≠ k) (j : Nat) (v : Value) : C5 (w.setCell ⟨k, j, none⟩ v) cb t a bad := ⟨set_far h.1 hk j v, h.2⟩
end

/-- What a read leaves, whatever is read. -/
def Some5 (w w' : World) (cb : Nat) (t : ByteArray) (a : Nat) : Prop := ∃ a' bad, C5 w' cb t a' bad ∧ a ≤ a' ∧ (bad = true ∨ a < a') ∧ w.grownBy w' (some cb)
end
section
open Go.RowKit
set_option linter.unusedVariables false

end
section
open Go.RowKit
set_option linter.unusedVariables false

end
section
open Go.RowKit
set_option linter.unusedVariables false

/-- What readWhole lays ahead of the reading: the named result, the reader. -/
theorem whole_start (t : ByteArray) (w : World) (B0 : Nat) : ∃ W, W = ((w.alloc (Obj.cells #[Value.bool false] 4)).alloc (Obj.cells #[Value.string t, Value.int IntKind.i64 0] 141)) ∧ Rd W (w.heap.size + 1) t 0 ∧ W.heap[w.heap.size]? = some (.cells #[.bool false] 4 (0, 0)) ∧ w.grownBy W (some B0) ∧ w.heap.size + 2 ≤ W.heap.size := by
  refine ⟨_, rfl, ⟨?_, Nat.zero_le _⟩, ?_, (grown_alloc _ _).trans (grown_alloc _ _), by simp⟩
  · have := heap_alloc_new (w.alloc (Obj.cells #[Value.bool false] 4)) (Obj.cells #[Value.string t, Value.int IntKind.i64 0] 141)
    simpa using this
  · rw [Below.heap_alloc _ _ _ (by simp)]
    exact heap_alloc_new w _
end
end Go.Proofs.Ytahpoemmlpbgdaa
