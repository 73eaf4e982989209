/- The calls of the program's Sealed and Unsealed, walked. -/
import Derived.Test.YtjpokcjpogkafaaDoorImplSum
import Derived.Test.YtjpokcjpogkafaaDoorSeal
namespace Go.Proofs.YtjpokcjpogkafaaDoor
open Go.RowKit

set_option maxHeartbeats 1000000 in
set_option maxRecDepth 100000 in
theorem sealOf_any (s : ByteArray) (hs : s.size ≤ 1048580) (w : World) :
    Calls Tryd.prog 37 #[.string s] w fun e w' => e = .returned (.string ⟨(Sums.four (Sums.sumOf s.data.toList)).toArray⟩) ∧ Below w.heap.size w w' := by
  obtain ⟨x, hx⟩ : ∃ x, x = Sums.sumOf s.data.toList := ⟨_, rfl⟩
  have hxl : x ≤ 4294967295 := by rw [hx]; exact sum_le _
  have hso := fun w => implSumOf_any s hs w
  rw [← hx] at hso ⊢
  have HS : Hid (∀ w : World, Calls Tryd.prog 45 #[.string s] w fun e w' => e = .returned (.int .u32 (x : Int)) ∧ w = w') := hso
  clear hso hx
  have hcv := four_string x hxl w
  go_enter Tryd.func37, Tryd.ntmps37
  go_wp2_with (go_at_call 45; refine (HS.out _).mono ?_; rintro e w' ⟨rfl, rfl⟩)
  go_ret
  exact ⟨rfl, (Below.refl _ _).alloc (Nat.le_refl _) _⟩

set_option maxHeartbeats 400000 in
theorem implSealed_no (s : ByteArray) (h : ¬ s.size ≤ 20000) (w : World) :
    Calls Tryd.prog 25 #[.string s] w fun e w' => e = .returned (.tuple #[.string ⟨#[]⟩, .bool false]) ∧ Below w.heap.size w w' := by
  go_enter Tryd.func25, Tryd.ntmps25
  go_wp2
  go_ret2
  exact ⟨rfl, Below.refl _ _⟩
set_option maxHeartbeats 400000 in
theorem implSealed_yes (s : ByteArray) (h : s.size ≤ 20000) (w : World) :
    Calls Tryd.prog 25 #[.string s] w fun e w' => e = .returned (sealTuple s) ∧ Below w.heap.size w w' := by
  have hv := four_size (Sums.sumOf s.data.toList)
  go_enter Tryd.func25, Tryd.ntmps25
  go_wp2_with (go_at_call 37; refine (sealOf_any s (by omega) _).mono ?_; rintro e w' ⟨rfl, hb1⟩)
  go_ret2
  exact ⟨rfl, hb1⟩

end Go.Proofs.YtjpokcjpogkafaaDoor
