/- The laws of CommandOk, CommandText and ReadCommand, walked. -/
import Derived.Test.YtlmjhobijgmolaaSpecCmd
import Derived.Test.YtlmjhobijgmolaaImplCmd
import Derived.Test.YtlmjhobijgmolaaRdCmd
import Derived.Test.YtlmjhobijgmolaaSpecCur
import Derived.Deep.Cut
import Derived.Deep.CutBlock
namespace Go.Proofs.Ytlmjhobijgmolaa
open Go.RowKit
open Cmds (okC Got)
set_option linter.unusedVariables false
set_option linter.unusedSimpArgs false

def tot (c : CmdL) : Nat := c.key.size + c.val.size + c.old.size
theorem szCmd_is (c : CmdL) (R : Int) (hs : c.key.size ≤ maxLen ∧ c.val.size ≤ maxLen ∧ c.old.size ≤ maxLen) (hR : R = if tot c ≤ 1048576 then ((1048576 - tot c : Nat) : Int) else -1) (w : World) : Calls Try.prog 7 #[cmdV c, .int .i64 1048576] w fun en w' => en = .returned (.int .i64 R) ∧ Below w.heap.size w w' := by
  unfold maxLen at hs
  unfold tot at hR
  unfold cmdV
  obtain ⟨s1, s2, s3⟩ := hs
  have HB : Hid (Below w.heap.size w (w.alloc (Obj.cells #[.int .i64 c.op, .int .i64 c.ses, .int .i64 c.seq, .string c.key, .string c.val, .string c.old] 23))) := (Below.refl _ _).alloc (Nat.le_refl _) _
  by_cases h1 : c.key.size ≤ 1048576
  rotate_left
  · rw [if_neg (by omega)] at hR
    have l1 : (1048576 : Int) - (c.key.size : Int) < 0 := by omega
    have HR : Hid (R = -1) := hR
    clear hR h1
    go_enter Try.func7, Try.ntmps7
    go_wp2
    go_ret
    exact ⟨by rw [HR.out]; rfl, HB.out⟩
  have l1 : ¬ (1048576 : Int) - (c.key.size : Int) < 0 := by omega
  by_cases h2 : c.key.size + c.val.size ≤ 1048576
  rotate_left
  · rw [if_neg (by omega)] at hR
    have l2 : (1048576 : Int) - (c.key.size : Int) - (c.val.size : Int) < 0 := by omega
    have HR : Hid (R = -1) := hR
    clear hR h1 h2
    go_enter Try.func7, Try.ntmps7
    go_wp2
    go_ret
    exact ⟨by rw [HR.out]; rfl, HB.out⟩
  have l2 : ¬ (1048576 : Int) - (c.key.size : Int) - (c.val.size : Int) < 0 := by omega
  by_cases h3 : c.key.size + c.val.size + c.old.size ≤ 1048576
  rotate_left
  · rw [if_neg (by omega)] at hR
    have l3 : (1048576 : Int) - (c.key.size : Int) - (c.val.size : Int) - (c.old.size : Int) < 0 := by omega
    have HR : Hid (R = -1) := hR
    clear hR h1 h2 h3
    go_enter Try.func7, Try.ntmps7
    go_wp2
    go_ret
    exact ⟨by rw [HR.out]; rfl, HB.out⟩
  have l3 : ¬ (1048576 : Int) - (c.key.size : Int) - (c.val.size : Int) - (c.old.size : Int) < 0 := by omega
  rw [if_pos h3] at hR
  have HR : Hid (R = (1048576 : Int) - (c.key.size : Int) - (c.val.size : Int) - (c.old.size : Int)) := by show _ = _; rw [hR]; omega
  clear hR h1 h2 h3
  go_enter Try.func7, Try.ntmps7
  go_wp2
  go_ret
  exact ⟨by rw [HR.out]; rfl, HB.out⟩
set_option maxHeartbeats 2000000 in
set_option maxRecDepth 100000 in
theorem toCmd_is (c : CmdL) (w : World) : Calls Try.prog 9 #[cmdV c] w fun en w' => en = .returned (cmdV c) ∧ Below w.heap.size w w' := by
  unfold cmdV
  go_enter Try.func9, Try.ntmps9
  go_wp2
  refine bodyPost_ret (v := .agg #[.int .i64 c.op, .int .i64 c.ses, .int .i64 c.seq, .string c.key, .string c.val, .string c.old]) (by simp [results, Try.results9, go_sem]) rfl ⟨rfl, ?_⟩
  exact (((Below.refl _ _).alloc (Nat.le_refl _) _).alloc (by simp) _).alloc (by simp; omega) _
theorem cmdV_kept {w w1 W : World} {c : CmdL} {t : TypeId} (hW : W = w.alloc (Obj.cells #[.int .i64 c.op, .int .i64 c.ses, .int .i64 c.seq, .string c.key, .string c.val, .string c.old] t)) (hb : Below W.heap.size W w1) :
    w1.cell? ⟨w.heap.size, 0, none⟩ = some (.int .i64 c.op) ∧ w1.cell? ⟨w.heap.size, 1, none⟩ = some (.int .i64 c.ses) ∧ w1.cell? ⟨w.heap.size, 2, none⟩ = some (.int .i64 c.seq) ∧ w1.cell? ⟨w.heap.size, 3, none⟩ = some (.string c.key) ∧ w1.cell? ⟨w.heap.size, 4, none⟩ = some (.string c.val) ∧ w1.cell? ⟨w.heap.size, 5, none⟩ = some (.string c.old) := by
  have p0 := heap_alloc_new w (Obj.cells #[.int .i64 c.op, .int .i64 c.ses, .int .i64 c.seq, .string c.key, .string c.val, .string c.old] t)
  rw [← hW] at p0
  have q := (hb.block _ (Array.getElem?_eq_some_iff.1 p0).1).trans p0
  exact ⟨cell_of_row _ _ 0 _ _ _ q, cell_of_row _ _ 1 _ _ _ q, cell_of_row _ _ 2 _ _ _ q, cell_of_row _ _ 3 _ _ _ q, cell_of_row _ _ 4 _ _ _ q, cell_of_row _ _ 5 _ _ _ q⟩
set_option maxHeartbeats 4000000 in
set_option maxRecDepth 100000 in
theorem lawCmdOk_any (c : CmdL) (hs : c.key.size ≤ maxLen ∧ c.val.size ≤ maxLen ∧ c.old.size ≤ maxLen) (w : World) : Calls Try.prog 3 #[cmdV c] w fun en w' => en = .returned (.bool true) ∧ Below w.heap.size w w' := by
  obtain ⟨W, hW⟩ : ∃ W, W = w.alloc (Obj.cells #[.int .i64 c.op, .int .i64 c.ses, .int .i64 c.seq, .string c.key, .string c.val, .string c.old] 23) := ⟨_, rfl⟩
  obtain ⟨g, hg⟩ : ∃ g, g = w.heap.size := ⟨_, rfl⟩
  have HC : Hid (∀ w1, Below W.heap.size W w1 → w1.cell? ⟨g, 0, none⟩ = some (.int .i64 c.op) ∧ w1.cell? ⟨g, 1, none⟩ = some (.int .i64 c.ses) ∧ w1.cell? ⟨g, 2, none⟩ = some (.int .i64 c.seq) ∧ w1.cell? ⟨g, 3, none⟩ = some (.string c.key) ∧ w1.cell? ⟨g, 4, none⟩ = some (.string c.val) ∧ w1.cell? ⟨g, 5, none⟩ = some (.string c.old)) := fun w1 hb => by rw [hg]; exact cmdV_kept hW hb
  have HB : Hid (Below w.heap.size w W) := by show Below _ _ _; rw [hW]; exact (Below.refl _ _).alloc (Nat.le_refl _) _
  obtain ⟨R, hR⟩ : ∃ R : Int, R = if tot c ≤ 1048576 then ((1048576 - tot c : Nat) : Int) else -1 := ⟨_, rfl⟩
  have HSZ : Hid (∀ W, Calls Try.prog 7 #[cmdV c, .int .i64 1048576] W fun en w' => en = .returned (.int .i64 R) ∧ Below W.heap.size W w') := fun W => szCmd_is c R hs hR W
  have HTO : Hid (∀ W, Calls Try.prog 9 #[cmdV c] W fun en w' => en = .returned (cmdV c) ∧ Below W.heap.size W w') := fun W => toCmd_is c W
  unfold cmdV at HSZ HTO ⊢
  by_cases h : tot c ≤ 1048576
  · rw [if_pos h] at hR
    have hR0 : ¬ R < 0 := by rw [hR]; omega
    have hz : c.key.size ≤ 1048576 ∧ c.val.size ≤ 1048576 ∧ c.old.size ≤ 1048576 := by unfold tot at h; exact ⟨by omega, by omega, by omega⟩
    obtain ⟨O, hO⟩ : ∃ O, O = okC c := ⟨_, rfl⟩
    have HSP : Hid (∀ W, Calls Try.prog 8 #[.agg #[.int .i64 c.op, .int .i64 c.ses, .int .i64 c.seq, .string c.key, .string c.val, .string c.old]] W fun en w' => en = .returned (.bool O) ∧ Below W.heap.size W w') := fun W => by rw [hO]; exact specCmdOk_is c hz W
    have HIM : Hid (∀ W, Calls Try.prog 10 #[.agg #[.int .i64 c.op, .int .i64 c.ses, .int .i64 c.seq, .string c.key, .string c.val, .string c.old]] W fun en w' => en = .returned (.bool O) ∧ Below W.heap.size W w') := fun W => by rw [hO]; exact implCmdOk_is c hz W
    have hn2 : (!(O == O)) = false := by simp
    clear hR hO h hs hz
    go_enter Try.func3, Try.ntmps3
    go_wp2_with fail
    rw [← hW, ← hg]
    clear hW hg
    refine Calls.mono (HSZ.out _) ?_
    rintro en w1 ⟨rfl, hb1⟩
    obtain ⟨c0, c1, c2, c3, c4, c5⟩ := HC.out _ hb1
    have HB1 : Hid (Below W.heap.size W w1) := hb1
    clear hb1
    go_wp2_with fail
    refine Calls.mono (HTO.out _) ?_
    rintro en w2 ⟨rfl, hb2⟩
    clear c0 c1 c2 c3 c4 c5
    have HB2 : Hid (Below W.heap.size W w2) := HB1.out.trans (hb2.mono HB1.out.size)
    clear hb2
    go_wp2_with fail
    refine Calls.mono (HSP.out _) ?_
    rintro en w3 ⟨rfl, hb3⟩
    have HB3 : Hid (Below W.heap.size W w3) := HB2.out.trans (hb3.mono HB2.out.size)
    clear hb3
    obtain ⟨c0, c1, c2, c3, c4, c5⟩ := HC.out _ HB3.out
    go_wp2_with fail
    refine Calls.mono (HTO.out _) ?_
    rintro en w4 ⟨rfl, hb4⟩
    clear c0 c1 c2 c3 c4 c5
    have HB4 : Hid (Below W.heap.size W w4) := HB3.out.trans (hb4.mono HB3.out.size)
    clear hb4
    go_wp2_with fail
    refine Calls.mono (HIM.out _) ?_
    rintro en w5 ⟨rfl, hb5⟩
    have HB5 : Hid (Below W.heap.size W w5) := HB4.out.trans (hb5.mono HB4.out.size)
    clear hb5
    go_wp2
    go_ret
    exact ⟨rfl, HB.out.trans (HB5.out.mono HB.out.size)⟩
  · rw [if_neg h] at hR
    have hR0 : R < 0 := by rw [hR]; omega
    clear hR h hs
    go_enter Try.func3, Try.ntmps3
    go_wp2_with fail
    rw [← hW, ← hg]
    clear hW hg
    refine Calls.mono (HSZ.out _) ?_
    rintro en w1 ⟨rfl, hb1⟩
    have HB1 : Hid (Below W.heap.size W w1) := hb1
    clear hb1
    go_wp2
    go_ret
    exact ⟨rfl, HB.out.trans (HB1.out.mono HB.out.size)⟩
end Go.Proofs.Ytlmjhobijgmolaa
