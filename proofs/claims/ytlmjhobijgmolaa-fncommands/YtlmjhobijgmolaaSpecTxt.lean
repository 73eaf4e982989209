/- CommandText of the specification, walked. -/
import Derived.Test.YtlmjhobijgmolaaSpecCmd
namespace Go.Proofs.Ytlmjhobijgmolaa
open Go.RowKit
open Cmds (okC)
set_option linter.unusedVariables false
set_option linter.unusedSimpArgs false

/-- The cells of a command that lies at g. -/
def CmdAt (W : World) (g : Nat) (c : CmdL) : Prop := W.cell? ⟨g, 0, none⟩ = some (.int .i64 c.op) ∧ W.cell? ⟨g, 1, none⟩ = some (.int .i64 c.ses) ∧ W.cell? ⟨g, 2, none⟩ = some (.int .i64 c.seq) ∧ W.cell? ⟨g, 3, none⟩ = some (.string c.key) ∧ W.cell? ⟨g, 4, none⟩ = some (.string c.val) ∧ W.cell? ⟨g, 5, none⟩ = some (.string c.old)
theorem CmdAt.new (w : World) (c : CmdL) : CmdAt (w.alloc (Obj.cells #[.int .i64 c.op, .int .i64 c.ses, .int .i64 c.seq, .string c.key, .string c.val, .string c.old] 26)) w.heap.size c := by
  have p0 := heap_alloc_new w (Obj.cells #[.int .i64 c.op, .int .i64 c.ses, .int .i64 c.seq, .string c.key, .string c.val, .string c.old] 26)
  exact ⟨cell_of_row _ _ 0 _ _ _ p0, cell_of_row _ _ 1 _ _ _ p0, cell_of_row _ _ 2 _ _ _ p0, cell_of_row _ _ 3 _ _ _ p0, cell_of_row _ _ 4 _ _ _ p0, cell_of_row _ _ 5 _ _ _ p0⟩
theorem CmdAt.kept {W W' : World} {g : Nat} {c : CmdL} (h : CmdAt W g c) (hb : Below W.heap.size W W') : CmdAt W' g c := by
  have hl := World.block_lt_of_cell? W _ h.1
  obtain ⟨h0, h1, h2, h3, h4, h5⟩ := h
  exact ⟨(hb.cell (p := ⟨g, 0, none⟩) hl).trans h0, (hb.cell (p := ⟨g, 1, none⟩) hl).trans h1, (hb.cell (p := ⟨g, 2, none⟩) hl).trans h2, (hb.cell (p := ⟨g, 3, none⟩) hl).trans h3, (hb.cell (p := ⟨g, 4, none⟩) hl).trans h4, (hb.cell (p := ⟨g, 5, none⟩) hl).trans h5⟩
theorem wrap_op (k : Int) (h0 : 1 ≤ k) (h1 : k ≤ 5) : IntKind.u8.wrap k = ((UInt8.ofNat k.toNat).toNat : Int) := by
  have : k = 1 ∨ k = 2 ∨ k = 3 ∨ k = 4 ∨ k = 5 := by omega
  rcases this with rfl | rfl | rfl | rfl | rfl <;> decide
def textV (c : CmdL) : Value := if okC c = true then .tuple #[.string (Cmds.textS c), .bool true] else .tuple #[.string ⟨#[]⟩, .bool false]
theorem textS_is (c : CmdL) : ((⟨#[UInt8.ofNat c.op.toNat]⟩ : ByteArray) ++ varS c.ses ++ varS c.seq ++ shortS c.key ++ shortS c.val ++ shortS c.old) = Cmds.textS c := by
  have h := (((((Is.mk [Cmds.bt c.op]).app (varS_is c.ses)).app (varS_is c.seq)).app (shortS_is c.key)).app (shortS_is c.val)).app (shortS_is c.old)
  exact h.eq
end Go.Proofs.Ytlmjhobijgmolaa
