/- The call of the specification's BatchText, walked. -/
import Derived.Test.YtlmjhobijgmolaaTxt
import Derived.Test.YtlmjhobijgmolaaReadSpec
namespace Go.Proofs.Ytlmjhobijgmolaa
open Go.RowKit

theorem l01Var_q (x : Int) (h0 : 0 ≤ x) (h1 : x ≤ 1000000000) (w : World) : Calls Try.prog 21 #[.int .i64 x] w fun e w' => e = .returned (.string (varS x)) ∧ Below w.heap.size w w' := l01Var_int x h0 h1 w
set_option maxHeartbeats 400000 in
theorem l05Short_q (s : ByteArray) (h : s.size ≤ 1000000) (w : World) : Calls Try.prog 22 #[.string s] w fun e w' => e = .returned (.string (shortS s)) ∧ Below w.heap.size w w' := by
  have hi : Is (varS (s.size : Int) ++ s) (Batches.short s) := by have := (varS_is (s.size : Int)).app (T := s) rfl; simpa [Batches.short] using this
  have hz := varS_size (s.size : Int) 1000000 (by omega)
  have z3 : ¬ 9223372036854775807 < (varS (s.size : Int)).size + s.size := by omega
  have HS : Hid (Value.string (shortS s) = .string (varS (s.size : Int) ++ s)) := by show _ = _; rw [hi.eq]; rfl
  clear hi
  go_enter Try.func22, Try.ntmps22
  go_wp2_with (go_at_call 21; refine (l01Var_q (s.size : Int) (by omega) (by omega) _).mono ?_; rintro e w1 ⟨rfl, hb1⟩)
  go_ret
  exact ⟨by rw [HS.out]; rfl, hb1⟩
end Go.Proofs.Ytlmjhobijgmolaa
