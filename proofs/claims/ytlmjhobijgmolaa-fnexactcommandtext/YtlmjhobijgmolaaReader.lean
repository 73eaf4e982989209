/- The calls of the program's reader, walked: need, number, count; each ends with its answer or with the panic that the reader throws. -/
import Derived.Test.YtlmjhobijgmolaaReadSpec
import Derived.Test.YtlmjhobijgmolaaMathBatch
import Derived.Test.YtlmjhobijgmolaaKit
import Derived.Deep.QuietTactic
namespace Go.Proofs.Ytlmjhobijgmolaa
open Go.RowKit
set_option linter.unusedVariables false

/-- A reader at rb, that far in its text. -/
def Rd (w : World) (rb : Nat) (t : ByteArray) (a : Nat) : Prop := w.heap[rb]? = some (.cells #[.string t, .int .i64 (a : Int)] 60 (0, 0)) ∧ a ≤ t.size
theorem Rd.c0 {w : World} {rb : Nat} {t : ByteArray} {a : Nat} (h : Rd w rb t a) : w.cell? ⟨rb, 0, none⟩ = some (.string t) := cell_of_row _ _ 0 _ _ _ h.1
theorem Rd.c1 {w : World} {rb : Nat} {t : ByteArray} {a : Nat} (h : Rd w rb t a) : w.cell? ⟨rb, 1, none⟩ = some (.int .i64 (a : Int)) := cell_of_row _ _ 1 _ _ _ h.1
theorem Rd.lt {w : World} {rb : Nat} {t : ByteArray} {a : Nat} (h : Rd w rb t a) : rb < w.heap.size := (Array.getElem?_eq_some_iff.1 h.1).1
theorem Rd.drew {w : World} {rb : Nat} {t : ByteArray} {a : Nat} (h : Rd w rb t a) : Rd w.drew rb t a := h
end Go.Proofs.Ytlmjhobijgmolaa
