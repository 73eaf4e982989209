/- The call of l01Figure, walked: one figure. -/
import Derived.Test.YtcmjidcdkooliaaDoorVar
namespace Go.Proofs.YtcmjidcdkooliaaDoor
open Go.RowKit

theorem ret_byte {a b : Int} (h : a = b) : Ending.returned (.int .u8 a) = .returned (.int .u8 b) := by rw [h]

set_option maxHeartbeats 400000 in
theorem figure_any (x : Int) (h0 : 0 ≤ x) (h1 : x < 16) (w : World) :
    Calls Tryd.prog 9 #[.int .i64 x] w fun e w' => e = .returned (.int .u8 ((Words.fig x.toNat).toNat : Int)) ∧ w' = w := by
  by_cases h : x < 10
  · have hf := Words.fig_low x.toNat (by omega)
    have HF : Hid (_ = _) := hf
    clear hf
    go_enter Tryd.func9, Tryd.ntmps9
    go_wp2
    go_ret
    exact ⟨ret_byte (by rw [HF.out]; omega), rfl⟩
  · have hf := Words.fig_high x.toNat (by omega) (by omega)
    have HF : Hid (_ = _) := hf
    clear hf
    go_enter Tryd.func9, Tryd.ntmps9
    go_wp2
    go_ret
    exact ⟨ret_byte (by rw [HF.out]; omega), rfl⟩

theorem figure_nat (X : Nat) (h : X < 16) (w : World) :
    Calls Tryd.prog 9 #[.int .i64 (X : Int)] w fun e w' => e = .returned (.int .u8 ((Words.fig X).toNat : Int)) ∧ w' = w := by
  have := figure_any (X : Int) (by omega) (by omega) w
  rwa [Int.toNat_natCast] at this
end Go.Proofs.YtcmjidcdkooliaaDoor
