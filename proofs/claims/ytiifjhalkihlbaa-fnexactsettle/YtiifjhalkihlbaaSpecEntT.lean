/- The specification's EntryText, walked. -/
import Derived.Test.YtiifjhalkihlbaaConfA
import Derived.Test.YtiifjhalkihlbaaVar
import Derived.Test.YtiifjhalkihlbaaMathBatch
import Derived.Deep.RegionWith
import Derived.Deep.QuietTactic
import Derived.BigQuiet
import Derived.Deep.RegionHeld3
import Derived.Deep.RegionHeld
namespace Go.Proofs.Ytiifjhalkihlbaa
open Go.RowKit
open Ents (okB kindB)
set_option linter.unusedVariables false
set_option linter.unusedSimpArgs false

/-- The cells of an entry that lies at g. -/
def EntAt (W : World) (g : Nat) (e : EntL) : Prop := W.cell? ⟨g, 0, none⟩ = some (.int .i64 e.term) ∧ W.cell? ⟨g, 1, none⟩ = some (.int .i64 e.kind) ∧ W.cell? ⟨g, 2, none⟩ = some (.string e.data)
theorem EntAt.new (w : World) (e : EntL) : EntAt (w.alloc (Obj.cells #[.int .i64 e.term, .int .i64 e.kind, .string e.data] 74)) w.heap.size e := by
  have p0 := heap_alloc_new w (Obj.cells #[.int .i64 e.term, .int .i64 e.kind, .string e.data] 74)
  exact ⟨cell_of_row _ _ 0 _ _ _ p0, cell_of_row _ _ 1 _ _ _ p0, cell_of_row _ _ 2 _ _ _ p0⟩
end Go.Proofs.Ytiifjhalkihlbaa
