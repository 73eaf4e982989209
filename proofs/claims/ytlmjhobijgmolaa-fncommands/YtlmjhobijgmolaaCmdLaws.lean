/- The laws of CommandOk, CommandText and ReadCommand, walked. -/
import Derived.Test.YtlmjhobijgmolaaImplTxt
import Derived.Test.YtlmjhobijgmolaaSpecRC
namespace Go.Proofs.Ytlmjhobijgmolaa
open Go.RowKit
open Cmds (okC Got)
set_option linter.unusedVariables false
set_option linter.unusedSimpArgs false

theorem cmdV_kept {w w1 W : World} {c : CmdL} {t : TypeId} (hW : W = w.alloc (Obj.cells #[.int .i64 c.op, .int .i64 c.ses, .int .i64 c.seq, .string c.key, .string c.val, .string c.old] t)) (hb : Below W.heap.size W w1) :
    w1.cell? ⟨w.heap.size, 0, none⟩ = some (.int .i64 c.op) ∧ w1.cell? ⟨w.heap.size, 1, none⟩ = some (.int .i64 c.ses) ∧ w1.cell? ⟨w.heap.size, 2, none⟩ = some (.int .i64 c.seq) ∧ w1.cell? ⟨w.heap.size, 3, none⟩ = some (.string c.key) ∧ w1.cell? ⟨w.heap.size, 4, none⟩ = some (.string c.val) ∧ w1.cell? ⟨w.heap.size, 5, none⟩ = some (.string c.old) := by
  have p0 := heap_alloc_new w (Obj.cells #[.int .i64 c.op, .int .i64 c.ses, .int .i64 c.seq, .string c.key, .string c.val, .string c.old] t)
  rw [← hW] at p0
  have q := (hb.block _ (Array.getElem?_eq_some_iff.1 p0).1).trans p0
  exact ⟨cell_of_row _ _ 0 _ _ _ q, cell_of_row _ _ 1 _ _ _ q, cell_of_row _ _ 2 _ _ _ q, cell_of_row _ _ 3 _ _ _ q, cell_of_row _ _ 4 _ _ _ q, cell_of_row _ _ 5 _ _ _ q⟩
theorem read_one {w w' : World} {t : ByteArray} {en : Ending} (h : ReadPost w t en w') : Below w.heap.size w w' ∧ ∃ (c : CmdL) (R : Bool), en = .returned (.tuple #[.agg (cmdC c), .bool R]) ∧ (R = true → Got t c) ∧ (R = false → c = Cmds.noC ∧ ∀ u, ¬ Got t u) := by
  obtain ⟨hb, h | h⟩ := h
  · obtain ⟨c, hg, he⟩ := h
    exact ⟨hb, c, true, he, fun _ => hg, fun e => by cases e⟩
  · obtain ⟨hn, he⟩ := h
    exact ⟨hb, Cmds.noC, false, he, fun e => (by cases e), fun _ => ⟨rfl, hn⟩⟩
end Go.Proofs.Ytlmjhobijgmolaa
