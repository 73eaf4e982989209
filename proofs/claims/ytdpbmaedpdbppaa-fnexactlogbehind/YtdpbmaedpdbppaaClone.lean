/- The call of strings.Clone: the same text. -/
import Derived.Test.YtdpbmaedpdbppaaVar
import Derived.Test.YtdpbmaedpdbppaaShelf
namespace Go.Proofs.Ytdpbmaedpdbppaa
open Go.RowKit

set_option maxHeartbeats 400000 in
theorem clone_any (s : ByteArray) (h : s.size ≤ 281474976710656) (w : World) :
    Calls Try.prog 73 #[.string s] w fun e w' => e = .returned (.string s) ∧ Below w.heap.size w w' := by
  go_enter Try.func73, Try.ntmps73
  go_wp2_with (go_at_call 102; refine (Try.stringslite_Clone s _ h).mono ?_; rintro e w1 ⟨rfl, hb1⟩)
  go_ret
  exact ⟨rfl, hb1⟩
end Go.Proofs.Ytdpbmaedpdbppaa
