/- The laws of CommandOk, CommandText and ReadCommand, walked. -/
import Derived.Test.YtlmjhobijgmolaaSpecTxt
import Derived.Test.YtlmjhobijgmolaaImplCmd
import Derived.Test.YtlmjhobijgmolaaSpecRC
namespace Go.Proofs.Ytlmjhobijgmolaa
open Go.RowKit
open Cmds (okC Got)
set_option linter.unusedVariables false
set_option linter.unusedSimpArgs false

set_option maxHeartbeats 2000000 in
set_option maxRecDepth 100000 in
theorem eqCmd_same (c : CmdL) (w : World) : Calls Try.prog 15 #[cmdV c, cmdV c] w fun en w' => en = .returned (.bool true) ∧ Below w.heap.size w w' := by
  unfold cmdV
  go_enter Try.func15, Try.ntmps15
  go_wp2
  go_ret
  exact ⟨rfl, ((Below.refl _ _).alloc (Nat.le_refl _) _).alloc (by simp) _⟩
theorem cmdV_kept {w w1 W : World} {c : CmdL} {t : TypeId} (hW : W = w.alloc (Obj.cells #[.int .i64 c.op, .int .i64 c.ses, .int .i64 c.seq, .string c.key, .string c.val, .string c.old] t)) (hb : Below W.heap.size W w1) :
    w1.cell? ⟨w.heap.size, 0, none⟩ = some (.int .i64 c.op) ∧ w1.cell? ⟨w.heap.size, 1, none⟩ = some (.int .i64 c.ses) ∧ w1.cell? ⟨w.heap.size, 2, none⟩ = some (.int .i64 c.seq) ∧ w1.cell? ⟨w.heap.size, 3, none⟩ = some (.string c.key) ∧ w1.cell? ⟨w.heap.size, 4, none⟩ = some (.string c.val) ∧ w1.cell? ⟨w.heap.size, 5, none⟩ = some (.string c.old) := by
  have p0 := heap_alloc_new w (Obj.cells #[.int .i64 c.op, .int .i64 c.ses, .int .i64 c.seq, .string c.key, .string c.val, .string c.old] t)
  rw [← hW] at p0
  have q := (hb.block _ (Array.getElem?_eq_some_iff.1 p0).1).trans p0
  exact ⟨cell_of_row _ _ 0 _ _ _ q, cell_of_row _ _ 1 _ _ _ q, cell_of_row _ _ 2 _ _ _ q, cell_of_row _ _ 3 _ _ _ q, cell_of_row _ _ 4 _ _ _ q, cell_of_row _ _ 5 _ _ _ q⟩
theorem read_one {w w' : World} {t : ByteArray} {en : Ending} (h : ReadPost w t en w') : Below w.heap.size w w' ∧ ∃ (c : CmdL) (R : Bool), en = .returned (.tuple #[.agg (cmdC c), .bool R]) ∧ (R = true → Got t c) ∧ (R = false → c = Cmds.noC ∧ ∀ u, ¬ Got t u) := by
  obtain ⟨hb, h | h⟩ := h
  · obtain ⟨c, hg, he⟩ := h
    exact ⟨hb, c, true, he, fun _ => hg, fun e => by cases e⟩
  · obtain ⟨hn, he⟩ := h
    exact ⟨hb, Cmds.noC, false, he, fun e => (by cases e), fun _ => ⟨rfl, hn⟩⟩
theorem read_same {t : ByteArray} {c d : CmdL} {R Q : Bool} (h1 : R = true → Got t c) (h2 : R = false → c = Cmds.noC ∧ ∀ u, ¬ Got t u) (k1 : Q = true → Got t d) (k2 : Q = false → d = Cmds.noC ∧ ∀ u, ¬ Got t u) : c = d ∧ R = Q := by
  cases R with
  | true =>
    have hg := h1 rfl
    cases Q with
    | true => exact ⟨Cmds.text_inj (hg.1.symm.trans (k1 rfl).1) hg.2 (k1 rfl).2, rfl⟩
    | false => exact absurd hg ((k2 rfl).2 c)
  | false =>
    cases Q with
    | true => exact absurd (k1 rfl) ((h2 rfl).2 d)
    | false => exact ⟨(h2 rfl).1.trans (k2 rfl).1.symm, rfl⟩
set_option maxHeartbeats 4000000 in
set_option maxRecDepth 100000 in
theorem lawRead_any (t : ByteArray) (hs : t.size ≤ maxLen) (w : World) : Calls Try.prog 5 #[.string t] w fun en w' => en = .returned (.bool true) ∧ Below w.heap.size w w' := by
  unfold maxLen at hs
  by_cases h : t.size ≤ 1048576
  rotate_left
  · have h' : (1048576 : Int) < (t.size : Int) := by omega
    clear h
    go_enter Try.func5, Try.ntmps5
    go_wp2
    go_ret
    exact ⟨rfl, Below.refl _ _⟩
  have h' : ¬ (1048576 : Int) < (t.size : Int) := by omega
  have HH : Hid (t.size ≤ 1048576) := h
  clear h
  go_enter Try.func5, Try.ntmps5
  go_wp2_with fail
  refine Calls.mono (specRead_is HH.out _) ?_
  intro en w1 hp
  obtain ⟨hb1, c, R, rfl, p1, p2⟩ := read_one hp
  clear hp
  have HB1 : Hid (Below w.heap.size w w1) := hb1
  have HP1 : Hid (R = true → Got t c) := p1
  have HP2 : Hid (R = false → c = Cmds.noC ∧ ∀ u, ¬ Got t u) := p2
  clear hb1 p1 p2
  unfold cmdC
  go_wp2_with fail
  obtain ⟨W1, hW1⟩ : ∃ W1, W1 = w1.alloc (Obj.cells #[.int .i64 c.op, .int .i64 c.ses, .int .i64 c.seq, .string c.key, .string c.val, .string c.old] 26) := ⟨_, rfl⟩
  rw [← hW1]
  have hbW : Below w1.heap.size w1 W1 := by rw [hW1]; exact (Below.refl _ _).alloc (Nat.le_refl _) _
  have HBW : Hid (Below w.heap.size w W1) := HB1.out.trans (hbW.mono HB1.out.size)
  have HR1 : Hid (∀ w2, Below W1.heap.size W1 w2 → w2.cell? ⟨w1.heap.size, 0, none⟩ = some (.int .i64 c.op) ∧ w2.cell? ⟨w1.heap.size, 1, none⟩ = some (.int .i64 c.ses) ∧ w2.cell? ⟨w1.heap.size, 2, none⟩ = some (.int .i64 c.seq) ∧ w2.cell? ⟨w1.heap.size, 3, none⟩ = some (.string c.key) ∧ w2.cell? ⟨w1.heap.size, 4, none⟩ = some (.string c.val) ∧ w2.cell? ⟨w1.heap.size, 5, none⟩ = some (.string c.old)) := fun w2 hb => cmdV_kept hW1 hb
  clear hW1 hbW HB1
  refine Calls.mono (implRead_is HH.out _) ?_
  intro en w2 hp
  obtain ⟨hb2, d, Q, rfl, k1, k2⟩ := read_one hp
  clear hp
  obtain ⟨rfl, rfl⟩ := read_same HP1.out HP2.out k1 k2
  obtain ⟨c0, c1, c2, c3, c4, c5⟩ := HR1.out _ hb2
  have HB2 : Hid (Below w.heap.size w w2) := HBW.out.trans (hb2.mono HBW.out.size)
  have hl : w1.heap.size < w2.heap.size := World.block_lt_of_cell? w2 _ c0
  have hn : w1.heap.size ≠ w2.heap.size := by omega
  have HEQ : Hid (∀ W, Calls Try.prog 15 #[.agg #[.int .i64 c.op, .int .i64 c.ses, .int .i64 c.seq, .string c.key, .string c.val, .string c.old], .agg #[.int .i64 c.op, .int .i64 c.ses, .int .i64 c.seq, .string c.key, .string c.val, .string c.old]] W fun en w' => en = .returned (.bool true) ∧ Below W.heap.size W w') := fun W => eqCmd_same c W
  have hn2 : (!(R == R)) = false := by simp
  clear k1 k2 hb2 HR1 HBW HP1 HP2
  unfold cmdC
  go_wp2_with fail
  refine Calls.mono (HEQ.out _) ?_
  rintro en w3 ⟨rfl, hb3⟩
  have HB3 : Hid (Below w.heap.size w w3) := (HB2.out.alloc HB2.out.size _).trans (hb3.mono (by have := HB2.out.size; simp; omega))
  clear hb3 c0 c1 c2 c3 c4 c5 hl hn HB2
  go_wp2
  go_ret
  exact ⟨rfl, HB3.out⟩
end Go.Proofs.Ytlmjhobijgmolaa
