/- The calls of the program's Sealed and Unsealed, walked. -/
import Derived.Test.YtdpbmaedpdbppaaImplSum
import Derived.Test.YtdpbmaedpdbppaaSeal
import Derived.Test.YtdpbmaedpdbppaaShelf
namespace Go.Proofs.Ytdpbmaedpdbppaa
open Go.RowKit

set_option maxHeartbeats 1000000 in
set_option maxRecDepth 100000 in
theorem sealOf_any (s : ByteArray) (hs : s.size ≤ 1048580) (w : World) :
    Calls Try.prog 109 #[.string s] w fun e w' => e = .returned (.string ⟨(Sums.four (Sums.sumOf s.data.toList)).toArray⟩) ∧ Below w.heap.size w w' := by
  obtain ⟨x, hx⟩ : ∃ x, x = Sums.sumOf s.data.toList := ⟨_, rfl⟩
  have hxl : x ≤ 4294967295 := by rw [hx]; exact sum_le _
  have hso := fun w => implSumOf_any s hs w
  rw [← hx] at hso ⊢
  have HS : Hid (∀ w : World, Calls Try.prog 125 #[.string s] w fun e w' => e = .returned (.int .u32 (x : Int)) ∧ w = w') := hso
  clear hso hx
  have hcv := four_string x hxl w
  go_enter Try.func109, Try.ntmps109
  go_wp2_with (go_at_call 125; refine (HS.out _).mono ?_; rintro e w' ⟨rfl, rfl⟩)
  go_ret
  exact ⟨rfl, (Below.refl _ _).alloc (Nat.le_refl _) _⟩

end Go.Proofs.Ytdpbmaedpdbppaa
