/- The calls of the program's Sealed and Unsealed, walked. -/
import Derived.Test.YteaioippomkliaaImplSum
import Derived.Test.YteaioippomkliaaSeal
import Derived.Test.YteaioippomkliaaShelf
namespace Go.Proofs.Yteaioippomkliaa
open Go.RowKit

set_option maxHeartbeats 400000 in
theorem clone_any (s : ByteArray) (h : s.size ≤ 281474976710656) (w : World) :
    Calls Try.prog 36 #[.string s] w fun e w' => e = .returned (.string s) ∧ Below w.heap.size w w' := by
  go_enter Try.func36, Try.ntmps36
  go_wp2_with (go_at_call 56; refine (Try.stringslite_Clone s _ h).mono ?_; rintro e w1 ⟨rfl, hb1⟩)
  go_ret
  exact ⟨rfl, hb1⟩

set_option maxHeartbeats 1000000 in
set_option maxRecDepth 100000 in
theorem sealOf_any (s : ByteArray) (hs : s.size ≤ 1048580) (w : World) :
    Calls Try.prog 32 #[.string s] w fun e w' => e = .returned (.string ⟨(Sums.four (Sums.sumOf s.data.toList)).toArray⟩) ∧ Below w.heap.size w w' := by
  obtain ⟨x, hx⟩ : ∃ x, x = Sums.sumOf s.data.toList := ⟨_, rfl⟩
  have hxl : x ≤ 4294967295 := by rw [hx]; exact sum_le _
  have hso := fun w => implSumOf_any s hs w
  rw [← hx] at hso ⊢
  have HS : Hid (∀ w : World, Calls Try.prog 54 #[.string s] w fun e w' => e = .returned (.int .u32 (x : Int)) ∧ w = w') := hso
  clear hso hx
  have hcv := four_string x hxl w
  go_enter Try.func32, Try.ntmps32
  go_wp2_with (go_at_call 54; refine (HS.out _).mono ?_; rintro e w' ⟨rfl, rfl⟩)
  go_ret
  exact ⟨rfl, (Below.refl _ _).alloc (Nat.le_refl _) _⟩

end Go.Proofs.Yteaioippomkliaa
