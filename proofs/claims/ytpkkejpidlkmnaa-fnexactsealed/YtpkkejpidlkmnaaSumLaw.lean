/- The exact laws of SumOf, Sealed and Unsealed, walked. -/
import Derived.Test.YtpkkejpidlkmnaaImplSeal
namespace Go.Proofs.Ytpkkejpidlkmnaa
open Go.RowKit

set_option maxHeartbeats 400000 in
theorem lawSumOf_any (s : ByteArray) (hs : s.size ≤ maxLen) (w : World) :
    Calls Try.prog 3 #[.string s] w fun e w' => e = .returned (.bool true) ∧ Below w.heap.size w w' := by
  unfold maxLen at hs
  by_cases hbig : 1048576 < s.size
  · go_enter Try.func3, Try.ntmps3
    go_wp2
    go_ret
    exact ⟨rfl, Below.refl _ _⟩
  · go_enter Try.func3, Try.ntmps3
    go_wp2_with (first | (go_at_call 13; refine (specSumOf_any s (by omega) _).mono ?_; rintro e w1 ⟨rfl, rfl⟩) | (go_at_call 14; refine (implSumOf_any s (by omega) _).mono ?_; rintro e w2 ⟨rfl, rfl⟩))
    go_ret
    exact ⟨rfl, Below.refl _ _⟩

set_option maxHeartbeats 400000 in
theorem lawSealed_any (s : ByteArray) (hs : s.size ≤ maxLen) (w : World) :
    Calls Try.prog 4 #[.string s] w fun e w' => e = .returned (.bool true) ∧ Below w.heap.size w w' := by
  unfold maxLen at hs
  by_cases hbig : 1048576 < s.size
  · go_enter Try.func4, Try.ntmps4
    go_wp2
    go_ret
    exact ⟨rfl, Below.refl _ _⟩
  · by_cases h : s.size ≤ 20000
    · go_enter Try.func4, Try.ntmps4
      go_wp2_with (first | (go_at_call 15; refine (specSealed_yes s h _).mono ?_; rintro e w1 ⟨rfl, hb1⟩; unfold sealTuple) | (go_at_call 16; refine (implSealed_yes s h _).mono ?_; rintro e w2 ⟨rfl, hb2⟩; unfold sealTuple))
      go_ret
      exact ⟨rfl, hb1.trans (hb2.mono hb1.size)⟩
    · go_enter Try.func4, Try.ntmps4
      go_wp2_with (first | (go_at_call 15; refine (specSealed_no s h _).mono ?_; rintro e w1 ⟨rfl, hb1⟩) | (go_at_call 16; refine (implSealed_no s h _).mono ?_; rintro e w2 ⟨rfl, hb2⟩))
      go_ret
      exact ⟨rfl, hb1.trans (hb2.mono hb1.size)⟩

theorem specUnsealed_none (s : ByteArray) (hs : s.size ≤ 1048576) (h : Sums.unsealed s.data.toList = none) (w : World) :
    Calls Try.prog 17 #[.string s] w fun e w' => e = .returned (.tuple #[.string ⟨#[]⟩, .bool false]) ∧ Below w.heap.size w w' := by
  by_cases hr : 4 ≤ s.size ∧ s.size ≤ 20004
  · have := specUnsealed_in s hr.1 hr.2 w
    rw [h] at this
    exact this
  · exact specUnsealed_out s hs (by omega) w
theorem implUnsealed_none (s : ByteArray) (hs : s.size ≤ 1048576) (h : Sums.unsealed s.data.toList = none) (w : World) :
    Calls Try.prog 18 #[.string s] w fun e w' => e = .returned (.tuple #[.string ⟨#[]⟩, .bool false]) ∧ Below w.heap.size w w' := by
  by_cases hr : 4 ≤ s.size ∧ s.size ≤ 20004
  · have := implUnsealed_in s hr.1 hr.2 w
    rw [h] at this
    exact this
  · exact implUnsealed_out s hs (by omega) w
theorem un_range {s : ByteArray} {l : List UInt8} (h : Sums.unsealed s.data.toList = some l) : 4 ≤ s.size ∧ s.size ≤ 20004 := by
  unfold Sums.unsealed at h
  split at h
  · rename_i hc
    rw [Words.size_list] at hc
    exact ⟨hc.1, hc.2.1⟩
  · cases h
theorem specUnsealed_some (s : ByteArray) (l : List UInt8) (h : Sums.unsealed s.data.toList = some l) (w : World) :
    Calls Try.prog 17 #[.string s] w fun e w' => e = .returned (.tuple #[.string ⟨l.toArray⟩, .bool true]) ∧ Below w.heap.size w w' := by
  have := specUnsealed_in s (un_range h).1 (un_range h).2 w
  rw [h] at this
  exact this
theorem implUnsealed_some (s : ByteArray) (l : List UInt8) (h : Sums.unsealed s.data.toList = some l) (w : World) :
    Calls Try.prog 18 #[.string s] w fun e w' => e = .returned (.tuple #[.string ⟨l.toArray⟩, .bool true]) ∧ Below w.heap.size w w' := by
  have := implUnsealed_in s (un_range h).1 (un_range h).2 w
  rw [h] at this
  exact this

set_option maxHeartbeats 400000 in
theorem lawUnsealed_any (s : ByteArray) (hs : s.size ≤ maxLen) (w : World) :
    Calls Try.prog 5 #[.string s] w fun e w' => e = .returned (.bool true) ∧ Below w.heap.size w w' := by
  unfold maxLen at hs
  by_cases hbig : 1048576 < s.size
  · go_enter Try.func5, Try.ntmps5
    go_wp2
    go_ret
    exact ⟨rfl, Below.refl _ _⟩
  · rcases hu : Sums.unsealed s.data.toList with _ | l
    · have HU : Hid (_ = _) := hu
      clear hu
      go_enter Try.func5, Try.ntmps5
      go_wp2_with (first | (go_at_call 17; refine (specUnsealed_none s (by omega) HU.out _).mono ?_; rintro e w1 ⟨rfl, hb1⟩) | (go_at_call 18; refine (implUnsealed_none s (by omega) HU.out _).mono ?_; rintro e w2 ⟨rfl, hb2⟩))
      go_ret
      exact ⟨rfl, hb1.trans (hb2.mono hb1.size)⟩
    · have HU : Hid (_ = _) := hu
      clear hu
      go_enter Try.func5, Try.ntmps5
      go_wp2_with (first | (go_at_call 17; refine (specUnsealed_some s l HU.out _).mono ?_; rintro e w1 ⟨rfl, hb1⟩) | (go_at_call 18; refine (implUnsealed_some s l HU.out _).mono ?_; rintro e w2 ⟨rfl, hb2⟩))
      go_ret
      exact ⟨rfl, hb1.trans (hb2.mono hb1.size)⟩
end Go.Proofs.Ytpkkejpidlkmnaa
