/- The calls of the specification's SumMore and SumOf, walked. -/
import Derived.Test.YthcfnofhdbjemaaGreatDoorKit
import Derived.Test.YthcfnofhdbjemaaGreatDoorSums
namespace Go.Proofs.YthcfnofhdbjemaaGreatDoor
open Go.RowKit

theorem xor_byte (s : Nat) (hs : s ≤ 4294967295) (b : UInt8) : bits .xor .u32 (s : Int) (b.toNat : Int) = ((s ^^^ b.toNat : Nat) : Int) :=
  u32_xor_nat s b.toNat (by omega) (by have := b.toNat_lt; omega)
theorem xor_byte_le {s : Nat} (hs : s ≤ 4294967295) (b : UInt8) : s ^^^ b.toNat ≤ 4294967295 := by have := Sums.xor_lt (s := s) (by omega) b; omega
theorem xor_poly {s : Nat} (hs : s ≤ 4294967295) : bits .xor .u32 ((s / 2 : Nat) : Int) 3558460437 = (((s / 2) ^^^ 3558460437 : Nat) : Int) :=
  u32_xor_nat (s / 2) 3558460437 (by omega) (by decide)
theorem half_le {s : Nat} (hs : s ≤ 4294967295) : Sums.half s ≤ 4294967295 := by have := Sums.half_lt (s := s) (by omega); omega

theorem half_is_odd {q : Nat} (h : q % 2 = 1) (hp : bits .xor .u32 ((q / 2 : Nat) : Int) 3558460437 = (((q / 2) ^^^ 3558460437 : Nat) : Int)) : Value.int .u32 (bits .xor .u32 ((q : Int) / 2) 3558460437) = .int .u32 ((Sums.half q : Nat) : Int) := by
  rw [Sums.half_odd h, ← hp]; rfl
theorem half_is_even {q : Nat} (h : ¬ q % 2 = 1) : Value.int .u32 ((q : Int) / 2) = .int .u32 ((Sums.half q : Nat) : Int) := by
  rw [Sums.half_even h]; rfl

set_option maxHeartbeats 1000000 in
set_option maxRecDepth 100000 in
theorem specMore_any (a : Nat) (ha : a ≤ 4294967295) (s : ByteArray) (hs : s.size ≤ 1048580) (w : World) :
    Calls Tryz.prog 80 #[.int .u32 (a : Int), .string s] w fun e w' => e = .returned (.int .u32 ((Sums.more a s.data.toList : Nat) : Int)) ∧ w = w' := by
  go_enter Tryz.func80, Tryz.ntmps80
  go_wp2
  go_loop [0, 5] (fun x i => ∃ m k : Nat, m ≤ 4294967295 ∧ k ≤ s.size ∧ x = .int .u32 (m : Int) ∧ i = .int .i64 (k : Int) ∧ Sums.more m (s.data.toList.drop k) = Sums.more a s.data.toList)
    (fun _ i => s.size - (intOf i).toNat)
  case atStart => exact ⟨a, 0, ha, Nat.zero_le _, rfl, rfl, rfl⟩
  case round =>
    obtain ⟨m, k, hm, hk, rfl, rfl, heq⟩ := hrel
    have HE : Hid (Sums.more m (s.data.toList.drop k) = Sums.more a s.data.toList) := heq
    clear heq
    by_cases hlt : k < s.size
    · have hbyte : (s[k].toNat : Int) < 256 := by have := s[k].toNat_lt; omega
      have hx := xor_byte m hm s[k]
      have hxl := xor_byte_le hm s[k]
      obtain ⟨X, hX⟩ : ∃ X : Nat, X = m ^^^ s[k].toNat := ⟨_, rfl⟩
      rw [← hX] at hx hxl
      go_wp2
      go_loop [0, 6] (fun x j => ∃ q t : Nat, q ≤ 4294967295 ∧ t ≤ 8 ∧ x = .int .u32 (q : Int) ∧ j = .int .i64 (t : Int) ∧ Sums.hn (8 - t) q = Sums.byte8 X)
        (fun _ j => 8 - (intOf j).toNat)
      case atStart => exact ⟨X, 0, hxl, Nat.zero_le _, by go_num, rfl, rfl⟩
      case round =>
        obtain ⟨q, t, hq, ht, rfl, rfl, heq2⟩ := hrel
        have HE2 : Hid (Sums.hn (8 - t) q = Sums.byte8 X) := heq2
        clear heq2
        by_cases ht8 : t < 8
        · by_cases hodd : q % 2 = 1
          · have ho : ((q : Int) % 2 == 1) = true := by simp; omega
            have hp := xor_poly hq
            go_wp2
            go_round
            case rel => exact ⟨Sums.half q, t + 1, half_le hq, by omega, half_is_odd hodd hp, by go_num, Sums.hn_step ht8 HE2.out⟩
            case measure => simp [intOf]; omega
          · have ho : ((q : Int) % 2 == 1) = false := by simp; omega
            go_wp2
            go_round
            case rel => exact ⟨Sums.half q, t + 1, half_le hq, by omega, half_is_even hodd, by go_num, Sums.hn_step ht8 HE2.out⟩
            case measure => simp [intOf]; omega
        · go_wp2
          go_round
          case rel => 
            have hq8 : q = Sums.byte8 X := by have h := HE2.out; rw [show 8 - t = 0 from by omega] at h; exact h
            exact ⟨q, k + 1, hq, by omega, rfl, by go_num, by rw [hq8, hX]; exact Sums.more_step (l := s.data.toList) hlt HE.out⟩
          case measure => simp [intOf]; omega
    · go_wp2
      go_ret
      exact ⟨by rw [Sums.more_end (l := s.data.toList) (Nat.le_of_not_lt hlt) HE.out]; rfl, rfl⟩

set_option maxHeartbeats 400000 in
theorem specSumOf_any (s : ByteArray) (hs : s.size ≤ 1048580) (w : World) :
    Calls Tryz.prog 64 #[.string s] w fun e w' => e = .returned (.int .u32 ((Sums.sumOf s.data.toList : Nat) : Int)) ∧ w = w' := by
  go_enter Tryz.func64, Tryz.ntmps64
  go_wp2_with (go_at_call 80; refine (specMore_any 4294967295 (Nat.le_refl _) s hs _).mono ?_; rintro e w' ⟨rfl, rfl⟩)
  go_ret
  exact ⟨rfl, rfl⟩
end Go.Proofs.YthcfnofhdbjemaaGreatDoor
