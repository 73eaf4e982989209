/- Both ReadVar at every text and every place, and the law over them, walked. -/
import Derived.Test.YtlmjhobijgmolaaRead
import Derived.Deep.RegionWith
import Derived.Deep.QuietTactic
import Derived.BigQuiet
import Derived.Deep.RegionHeld3
namespace Go.Proofs.Ytlmjhobijgmolaa
open Go.RowKit

def rdZ (s : ByteArray) (x : Int) : Option (Nat × Nat) := if 0 ≤ x ∧ x ≤ s.size then Words.rd s.data.toList x.toNat else none

theorem implRead_any (s : ByteArray) (hs : s.size ≤ 1048576) (x : Int) (w : World) :
    Calls Try.prog 47 #[.string s, .int .i64 x] w fun e w' => e = .returned (rdTuple (rdZ s x)) ∧ w' = w := by
  by_cases h : 0 ≤ x ∧ x ≤ s.size
  · obtain ⟨n, rfl⟩ := Int.eq_ofNat_of_zero_le h.1
    rw [rdZ, if_pos h, Int.toNat_natCast]
    exact implRead_yes s hs n (by omega) w
  · rw [rdZ, if_neg h]
    exact implRead_no s x h w

theorem implRead_none {s : ByteArray} {x : Int} (hs : s.size ≤ 1048576) (h : rdZ s x = none) (w : World) :
    Calls Try.prog 47 #[.string s, .int .i64 x] w fun e w' => e = .returned (.tuple #[.int .i64 0, .int .i64 0, .bool false]) ∧ w' = w := by
  have := implRead_any s hs x w
  rwa [h] at this
theorem implRead_some {s : ByteArray} {x : Int} {n k : Nat} (hs : s.size ≤ 1048576) (h : rdZ s x = some (n, k)) (w : World) :
    Calls Try.prog 47 #[.string s, .int .i64 x] w fun e w' => e = .returned (.tuple #[.int .i64 (n : Int), .int .i64 (k : Int), .bool true]) ∧ w' = w := by
  have := implRead_any s hs x w
  rwa [h] at this

end Go.Proofs.Ytlmjhobijgmolaa
