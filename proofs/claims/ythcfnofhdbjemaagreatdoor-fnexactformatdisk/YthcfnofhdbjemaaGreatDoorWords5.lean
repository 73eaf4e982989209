/- The calls of the program's wordsOf and wordsOk, walked. -/
import Derived.Test.YthcfnofhdbjemaaGreatDoorConfLaw
namespace Go.Proofs.YthcfnofhdbjemaaGreatDoor
open Go.RowKit
set_option linter.unusedVariables false

def five (n a b c m : Int) : Prop := (1 ≤ n ∧ n ≤ 8) ∧ (0 ≤ a ∧ a ≤ 1000) ∧ (0 ≤ b ∧ b ≤ 100000) ∧ (0 ≤ c ∧ c ≤ 100000) ∧ (1 ≤ m ∧ m ≤ 4)
set_option maxHeartbeats 4000000 in
set_option maxRecDepth 100000 in
theorem wordsOk_is (n a b c m : Int) (R : Bool) (hR : R = true ↔ five n a b c m) (w : World) : Calls Tryz.prog 82 #[.agg #[.int .i64 n, .int .i64 a, .int .i64 b, .int .i64 c, .int .i64 m]] w fun e w' => e = .returned (.bool R) ∧ Below w.heap.size w w' := by
  have i0 : ∀ wx, (Instr.index 87 (.agg #[.int .i64 n, .int .i64 a, .int .i64 b, .int .i64 c, .int .i64 m]) (.int .i64 0)).run Tryz.prog wx = .ok (.int .i64 n) wx := fun wx => by kernel_rfl
  have i1 : ∀ wx, (Instr.index 87 (.agg #[.int .i64 n, .int .i64 a, .int .i64 b, .int .i64 c, .int .i64 m]) (.int .i64 1)).run Tryz.prog wx = .ok (.int .i64 a) wx := fun wx => by kernel_rfl
  have i2 : ∀ wx, (Instr.index 87 (.agg #[.int .i64 n, .int .i64 a, .int .i64 b, .int .i64 c, .int .i64 m]) (.int .i64 2)).run Tryz.prog wx = .ok (.int .i64 b) wx := fun wx => by kernel_rfl
  have i3 : ∀ wx, (Instr.index 87 (.agg #[.int .i64 n, .int .i64 a, .int .i64 b, .int .i64 c, .int .i64 m]) (.int .i64 3)).run Tryz.prog wx = .ok (.int .i64 c) wx := fun wx => by kernel_rfl
  have i4 : ∀ wx, (Instr.index 87 (.agg #[.int .i64 n, .int .i64 a, .int .i64 b, .int .i64 c, .int .i64 m]) (.int .i64 4)).run Tryz.prog wx = .ok (.int .i64 m) wx := fun wx => by kernel_rfl
  have HR : Hid (R = true ↔ five n a b c m) := hR
  clear hR
  go_enter Tryz.func82, Tryz.ntmps82
  go_wp2
  refine wp_loop_rounds 6 ?_
  rw [rounds_succ]
  go_wp2
  iterate 6
    all_goals try (rw [rounds_succ]; go_wp2)
  all_goals
    go_ret
    first
    | exact ⟨by rw [show R = false from ans_no HR.out (by unfold five; omega)]; rfl, (((Below.refl _ _).alloc (Nat.le_refl _) _).alloc (by simp) _).alloc (by simp; omega) _⟩
    | exact ⟨by rw [show R = true from HR.out.2 (by unfold five; omega)]; rfl, (((Below.refl _ _).alloc (Nat.le_refl _) _).alloc (by simp) _).alloc (by simp; omega) _⟩
set_option maxHeartbeats 1000000 in
theorem wordsOf_is (n k : Nat) (a : Option Addr) (x y z : Int) (b : Option Addr) (c1 c2 : Nat) (w : World) : Calls Tryz.prog 81 #[.agg #[.slice a n c1, .int .i64 x, .int .i64 y, .int .i64 z, .slice b k c2]] w fun e w' => e = .returned (.agg #[.int .i64 n, .int .i64 x, .int .i64 y, .int .i64 z, .int .i64 k]) ∧ Below w.heap.size w w' := by
  go_enter Tryz.func81, Tryz.ntmps81
  go_wp2
  refine bodyPost_ret (v := .agg #[.int .i64 n, .int .i64 x, .int .i64 y, .int .i64 z, .int .i64 k]) (by simp [results, Tryz.results81, go_sem]) rfl ⟨rfl, ?_⟩
  exact ((Below.refl _ _).alloc (Nat.le_refl _) _).alloc (by simp) _
end Go.Proofs.YthcfnofhdbjemaaGreatDoor
