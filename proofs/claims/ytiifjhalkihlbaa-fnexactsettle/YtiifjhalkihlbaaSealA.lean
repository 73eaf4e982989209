/- The calls of the specification's SumMore and SumOf, walked. The calls of the program's SumMore and SumOf, walked. The calls that seal a text, the specification's, walked. The calls of the program's Sealed and Unsealed, walked. The calls of both Frame: they answer with the bytes of the length, of the sum and of the text, and leave old memory as it was; for every text. The call of strings.Clone: the same text. -/
import Derived.Test.YtiifjhalkihlbaaVar
import Derived.Deep.RegionWith
import Derived.Deep.QuietTactic
import Derived.BigQuiet
import Derived.Deep.RegionHeld3
import Derived.Test.YtiifjhalkihlbaaShelf
import Derived.Test.YtiifjhalkihlbaaMathB
namespace Go.Proofs.Ytiifjhalkihlbaa
section
open Go.RowKit

end
section
open Go.RowKit

end
section
open Go.RowKit

end
section
open Go.RowKit

end
section
open Go.RowKit

end
section
open Go.RowKit

set_option maxHeartbeats 400000 in
theorem clone_any (s : ByteArray) (h : s.size ≤ 281474976710656) (w : World) :
    Calls Try.prog 85 #[.string s] w fun e w' => e = .returned (.string s) ∧ Below w.heap.size w w' := by
  go_enter Try.func85, Try.ntmps85
  go_wp2_with (go_at_call 93; refine (Try.stringslite_Clone s _ h).mono ?_; rintro e w1 ⟨rfl, hb1⟩)
  go_ret
  exact ⟨rfl, hb1⟩
end
end Go.Proofs.Ytiifjhalkihlbaa
