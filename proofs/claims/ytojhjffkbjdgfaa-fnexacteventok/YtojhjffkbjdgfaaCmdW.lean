/- A command measured, turned and held against itself, walked. -/
import Derived.Test.YtojhjffkbjdgfaaImplCmd
namespace Go.Proofs.Ytojhjffkbjdgfaa
open Go.RowKit
set_option linter.unusedVariables false
set_option linter.unusedSimpArgs false

def tot (c : CmdL) : Nat := c.key.size + c.val.size + c.old.size
theorem szCmd_is (c : CmdL) (R : Int) (hs : c.key.size ≤ maxLen ∧ c.val.size ≤ maxLen ∧ c.old.size ≤ maxLen) (hR : R = if tot c ≤ 1048576 then ((1048576 - tot c : Nat) : Int) else -1) (w : World) : Calls Try.prog 9 #[cmdV c, .int .i64 1048576] w fun en w' => en = .returned (.int .i64 R) ∧ Below w.heap.size w w' := by
  unfold maxLen at hs
  unfold tot at hR
  unfold cmdV
  obtain ⟨s1, s2, s3⟩ := hs
  have HB : Hid (Below w.heap.size w (w.alloc (Obj.cells #[.int .i64 c.op, .int .i64 c.ses, .int .i64 c.seq, .string c.key, .string c.val, .string c.old] 23))) := (Below.refl _ _).alloc (Nat.le_refl _) _
  by_cases h1 : c.key.size ≤ 1048576
  rotate_left
  · rw [if_neg (by omega)] at hR
    have l1 : (1048576 : Int) - (c.key.size : Int) < 0 := by omega
    have HR : Hid (R = -1) := hR
    clear hR h1
    go_enter Try.func9, Try.ntmps9
    go_wp2
    go_ret
    exact ⟨by rw [HR.out]; rfl, HB.out⟩
  have l1 : ¬ (1048576 : Int) - (c.key.size : Int) < 0 := by omega
  by_cases h2 : c.key.size + c.val.size ≤ 1048576
  rotate_left
  · rw [if_neg (by omega)] at hR
    have l2 : (1048576 : Int) - (c.key.size : Int) - (c.val.size : Int) < 0 := by omega
    have HR : Hid (R = -1) := hR
    clear hR h1 h2
    go_enter Try.func9, Try.ntmps9
    go_wp2
    go_ret
    exact ⟨by rw [HR.out]; rfl, HB.out⟩
  have l2 : ¬ (1048576 : Int) - (c.key.size : Int) - (c.val.size : Int) < 0 := by omega
  by_cases h3 : c.key.size + c.val.size + c.old.size ≤ 1048576
  rotate_left
  · rw [if_neg (by omega)] at hR
    have l3 : (1048576 : Int) - (c.key.size : Int) - (c.val.size : Int) - (c.old.size : Int) < 0 := by omega
    have HR : Hid (R = -1) := hR
    clear hR h1 h2 h3
    go_enter Try.func9, Try.ntmps9
    go_wp2
    go_ret
    exact ⟨by rw [HR.out]; rfl, HB.out⟩
  have l3 : ¬ (1048576 : Int) - (c.key.size : Int) - (c.val.size : Int) - (c.old.size : Int) < 0 := by omega
  rw [if_pos h3] at hR
  have HR : Hid (R = (1048576 : Int) - (c.key.size : Int) - (c.val.size : Int) - (c.old.size : Int)) := by show _ = _; rw [hR]; omega
  clear hR h1 h2 h3
  go_enter Try.func9, Try.ntmps9
  go_wp2
  go_ret
  exact ⟨by rw [HR.out]; rfl, HB.out⟩
set_option maxHeartbeats 2000000 in
set_option maxRecDepth 100000 in
theorem toCmd_is (c : CmdL) (w : World) : Calls Try.prog 14 #[cmdV c] w fun en w' => en = .returned (cmdV c) ∧ Below w.heap.size w w' := by
  unfold cmdV
  go_enter Try.func14, Try.ntmps14
  go_wp2
  refine bodyPost_ret (v := .agg #[.int .i64 c.op, .int .i64 c.ses, .int .i64 c.seq, .string c.key, .string c.val, .string c.old]) (by simp [results, Try.results14, go_sem]) rfl ⟨rfl, ?_⟩
  exact (((Below.refl _ _).alloc (Nat.le_refl _) _).alloc (by simp) _).alloc (by simp; omega) _
set_option maxHeartbeats 2000000 in
set_option maxRecDepth 100000 in
theorem eqCmd_same (c : CmdL) (w : World) : Calls Try.prog 18 #[cmdV c, cmdV c] w fun en w' => en = .returned (.bool true) ∧ Below w.heap.size w w' := by
  unfold cmdV
  go_enter Try.func18, Try.ntmps18
  go_wp2
  go_ret
  exact ⟨rfl, ((Below.refl _ _).alloc (Nat.le_refl _) _).alloc (by simp) _⟩
theorem cmdV_kept {w w1 W : World} {c : CmdL} {t : TypeId} (hW : W = w.alloc (Obj.cells #[.int .i64 c.op, .int .i64 c.ses, .int .i64 c.seq, .string c.key, .string c.val, .string c.old] t)) (hb : Below W.heap.size W w1) :
    w1.cell? ⟨w.heap.size, 0, none⟩ = some (.int .i64 c.op) ∧ w1.cell? ⟨w.heap.size, 1, none⟩ = some (.int .i64 c.ses) ∧ w1.cell? ⟨w.heap.size, 2, none⟩ = some (.int .i64 c.seq) ∧ w1.cell? ⟨w.heap.size, 3, none⟩ = some (.string c.key) ∧ w1.cell? ⟨w.heap.size, 4, none⟩ = some (.string c.val) ∧ w1.cell? ⟨w.heap.size, 5, none⟩ = some (.string c.old) := by
  have p0 := heap_alloc_new w (Obj.cells #[.int .i64 c.op, .int .i64 c.ses, .int .i64 c.seq, .string c.key, .string c.val, .string c.old] t)
  rw [← hW] at p0
  have q := (hb.block _ (Array.getElem?_eq_some_iff.1 p0).1).trans p0
  exact ⟨cell_of_row _ _ 0 _ _ _ q, cell_of_row _ _ 1 _ _ _ q, cell_of_row _ _ 2 _ _ _ q, cell_of_row _ _ 3 _ _ _ q, cell_of_row _ _ 4 _ _ _ q, cell_of_row _ _ 5 _ _ _ q⟩
end Go.Proofs.Ytojhjffkbjdgfaa
