/- The calls of (*scan).full and math.NaN, walked: how full a segment is. -/
import Derived.Test.YtinhgonmdnbdiaaFloats
import Derived.Test.YtinhgonmdnbdiaaKit
import Derived.Laws.Externs
namespace Go.Proofs.Ytinhgonmdnbdiaa
open Go.RowKit
set_option linter.unusedVariables false

set_option maxRecDepth 100000 in
theorem frombits_is (w : World) : (callFunc 86 #[.int .u64 9221120237041090561]).run Try.prog w = .ok (.value (.float .f64 9221120237041090561)) w := by
  rw [run_callFunc_extern (fn := Try.f86) Try.func86 (by kernel_rfl) (by kernel_rfl) (by kernel_rfl) (e := Extern.MathFloatBits.float64frombits) (by rfl)]
  rfl
set_option maxHeartbeats 1000000 in
theorem nan_is (w : World) : Calls Try.prog 75 #[] w fun e w' => e = .returned (.float .f64 9221120237041090561) ∧ w' = w := by
  have hf := frombits_is
  go_enter Try.func75, Try.ntmps75
  go_wp2
  go_ret
  exact ⟨rfl, rfl⟩
theorem nan_order : Ieee.double.order 9221120237041090561 Flt.one = none := by decide
set_option maxHeartbeats 1000000 in
theorem full_nan (sb : Nat) (w : World) : Calls Try.prog 59 #[.pointer (some ⟨sb, 0, none⟩), .int .i64 0] w fun e w' => e = .returned (.float .f64 9221120237041090561) ∧ w' = w := by
  go_enter Try.func59, Try.ntmps59
  go_wp2_with (go_at_call 75; refine (nan_is _).mono ?_; rintro e w1 ⟨rfl, rfl⟩)
  go_ret
  exact ⟨rfl, rfl⟩
set_option maxHeartbeats 1000000 in
theorem full_part {sb e z : Nat} (hz : 0 < z) (hz2 : z ≤ 20000) (hez : e ≤ z) (w : World) (hc : w.cell? ⟨sb, 4, none⟩ = some (.int .i64 (e : Int))) :
    Calls Try.prog 59 #[.pointer (some ⟨sb, 0, none⟩), .int .i64 (z : Int)] w fun en w' => ∃ r : Nat, en = .returned (.float .f64 r) ∧ (Ieee.double.order r Flt.one = some .lt ↔ e < z) ∧ w' = w := by
  obtain ⟨r, h1, h2⟩ := Flt.part (a := e) (b := z) hz (by omega) hez
  have HR : Hid (Ieee.double.order r Flt.one = some .lt ↔ e < z) := h2
  have hq : ∀ w : World, (binOp .quo 87 (.float .f64 (floatOfInt .f64 (e : Int))) (.float .f64 (floatOfInt .f64 (z : Int)))).run Try.prog w = .ok (.float .f64 r) w := fun w => run_float_arith w .quo 87 .f64 _ _ r h1
  clear h1 h2
  have hz0 : ¬ (z : Int) = 0 := by omega
  go_enter Try.func59, Try.ntmps59
  go_wp2
  go_ret
  exact ⟨r, rfl, HR.out, rfl⟩
end Go.Proofs.Ytinhgonmdnbdiaa
