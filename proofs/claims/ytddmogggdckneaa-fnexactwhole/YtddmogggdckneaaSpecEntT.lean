/- The specification's EntryText, walked. -/
import Derived.Test.YtddmogggdckneaaConfA
import Derived.Test.YtddmogggdckneaaTxtA
import Derived.Deep.RegionHeld
namespace Go.Proofs.Ytddmogggdckneaa
open Go.RowKit
open Ents (okB kindB text textS right)
set_option linter.unusedVariables false
set_option linter.unusedSimpArgs false

/-- What EntryText answers. -/
def entTuple (i : Int) (e : EntL) : Value := if okB e = true ∧ 1 ≤ i ∧ i ≤ 100000 then .tuple #[.string (textS i.toNat e), .bool true] else .tuple #[.string ⟨#[]⟩, .bool false]
/-- A row of one byte that lies at g. -/
def RowAt (W : World) (g : Nat) (b : UInt8) : Prop := W.ownsRow 0 5 1 (.slice (some ⟨g, 0, none⟩) 1 1) 1 (cellsB [b])
theorem RowAt.new (W : World) (b : UInt8) : RowAt (W.alloc (Obj.cells #[.int .u8 (b.toNat : Int)] 5)) W.heap.size b := by
  have := World.ownsRow_lit (base := 0) (e := 5) (size := 1) W #[.int .u8 (b.toNat : Int)] 1 (Nat.zero_le _) (by unfold maxLen; omega) rfl
  exact this
theorem RowAt.kept {W W' : World} {g : Nat} {b : UInt8} (h : RowAt W g b) (hb : Below W.heap.size W W') : RowAt W' g b := own_kept h hb
theorem RowAt.cv {W : World} {g : Nat} {b : UInt8} (h : RowAt W g b) : (convert 148 9 (.slice (some ⟨g, 0, none⟩) 1 1)).run Try.prog W = .ok (.string ⟨#[b]⟩) W := string_own (l := [b]) h
/-- The cells of an entry that lies at g. -/
def EntAt (W : World) (g : Nat) (e : EntL) : Prop := W.cell? ⟨g, 0, none⟩ = some (.int .i64 e.term) ∧ W.cell? ⟨g, 1, none⟩ = some (.int .i64 e.kind) ∧ W.cell? ⟨g, 2, none⟩ = some (.string e.data)
theorem EntAt.new (w : World) (e : EntL) : EntAt (w.alloc (Obj.cells #[.int .i64 e.term, .int .i64 e.kind, .string e.data] 27)) w.heap.size e := by
  have p0 := heap_alloc_new w (Obj.cells #[.int .i64 e.term, .int .i64 e.kind, .string e.data] 27)
  exact ⟨cell_of_row _ _ 0 _ _ _ p0, cell_of_row _ _ 1 _ _ _ p0, cell_of_row _ _ 2 _ _ _ p0⟩
theorem EntAt.kept {W W' : World} {g : Nat} {e : EntL} (h : EntAt W g e) (hb : Below W.heap.size W W') : EntAt W' g e := by
  have hl := World.block_lt_of_cell? W _ h.1
  exact ⟨(hb.cell (p := ⟨g, 0, none⟩) hl).trans h.1, (hb.cell (p := ⟨g, 1, none⟩) hl).trans h.2.1, (hb.cell (p := ⟨g, 2, none⟩) hl).trans h.2.2⟩
theorem textS_is (n : Nat) (e : EntL) (T : ByteArray) (b : UInt8) (hb : b = UInt8.ofNat e.kind.toNat) : (⟨#[69]⟩ : ByteArray) ++ varS (n : Int) ++ varS e.term ++ ⟨#[b]⟩ ++ e.data = textS n e := by
  have h : Is ((⟨#[69]⟩ : ByteArray) ++ varS (n : Int) ++ varS e.term ++ ⟨#[b]⟩ ++ e.data) (text n e) := by
    have h1 : Is (⟨#[69]⟩ : ByteArray) [69] := rfl
    have h4 : Is (⟨#[b]⟩ : ByteArray) [b] := rfl
    have := (((h1.app (varS_is (n : Int))).app (varS_is e.term)).app h4).app (T := e.data) (m := Batches.by_ e.data) rfl
    unfold text
    rw [← hb]
    simpa using this
  exact h.eq
theorem wrap_kind (k : Int) (h0 : 1 ≤ k) (h1 : k ≤ 3) : IntKind.u8.wrap k = ((UInt8.ofNat k.toNat).toNat : Int) := by
  have : k = 1 ∨ k = 2 ∨ k = 3 := by omega
  rcases this with rfl | rfl | rfl <;> decide
end Go.Proofs.Ytddmogggdckneaa
