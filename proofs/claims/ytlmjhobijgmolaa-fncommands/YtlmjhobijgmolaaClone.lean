/- The call of strings.Clone: the same text. -/
import Derived.Test.YtlmjhobijgmolaaVar
import Derived.Test.YtlmjhobijgmolaaShelf
namespace Go.Proofs.Ytlmjhobijgmolaa
open Go.RowKit

set_option maxHeartbeats 400000 in
theorem clone_any (s : ByteArray) (h : s.size ≤ 281474976710656) (w : World) :
    Calls Try.prog 50 #[.string s] w fun e w' => e = .returned (.string s) ∧ Below w.heap.size w w' := by
  go_enter Try.func50, Try.ntmps50
  go_wp2_with (go_at_call 51; refine (Try.stringslite_Clone s _ h).mono ?_; rintro e w1 ⟨rfl, hb1⟩)
  go_ret
  exact ⟨rfl, hb1⟩
end Go.Proofs.Ytlmjhobijgmolaa
