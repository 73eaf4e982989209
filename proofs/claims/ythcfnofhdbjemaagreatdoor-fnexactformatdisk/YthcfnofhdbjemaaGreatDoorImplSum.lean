/- The calls of the program's SumMore and SumOf, walked. -/
import Derived.Test.YthcfnofhdbjemaaGreatDoorSpecSum
namespace Go.Proofs.YthcfnofhdbjemaaGreatDoor
open Go.RowKit

set_option maxHeartbeats 400000 in
theorem halved_any (q : Nat) (hq : q ≤ 4294967295) (w : World) :
    Calls Tryz.prog 108 #[.int .u32 (q : Int)] w fun e w' => e = .returned (.int .u32 ((Sums.half q : Nat) : Int)) ∧ w = w' := by
  by_cases hodd : q % 2 = 1
  · have ho : ((q : Int) % 2 == 1) = true := by simp; omega
    have hp := xor_poly hq
    go_enter Tryz.func108, Tryz.ntmps108
    go_wp2
    go_ret
    exact ⟨congrArg Ending.returned (half_is_odd hodd hp), rfl⟩
  · have ho : ((q : Int) % 2 == 1) = false := by simp; omega
    go_enter Tryz.func108, Tryz.ntmps108
    go_wp2
    go_ret
    exact ⟨congrArg Ending.returned (half_is_even hodd), rfl⟩

set_option maxHeartbeats 1000000 in
set_option maxRecDepth 100000 in
theorem with_any (m : Nat) (hm : m ≤ 4294967295) (b : UInt8) (w : World) :
    Calls Tryz.prog 100 #[.int .u32 (m : Int), .int .u8 (b.toNat : Int)] w fun e w' => e = .returned (.int .u32 ((Sums.byte8 (m ^^^ b.toNat) : Nat) : Int)) ∧ w = w' := by
  have hbyte : (b.toNat : Int) < 256 := by have := b.toNat_lt; omega
  have hx := xor_byte m hm b
  have hxl := xor_byte_le hm b
  obtain ⟨X, hX⟩ : ∃ X : Nat, X = m ^^^ b.toNat := ⟨_, rfl⟩
  rw [← hX] at hx hxl ⊢
  clear hX
  go_enter Tryz.func100, Tryz.ntmps100
  go_wp2
  go_loop [0, 9] (fun x j => ∃ q t : Nat, q ≤ 4294967295 ∧ t ≤ 8 ∧ x = .int .u32 (q : Int) ∧ j = .int .i64 (t : Int) ∧ Sums.hn (8 - t) q = Sums.byte8 X)
    (fun _ j => 8 - (intOf j).toNat)
  case atStart => exact ⟨X, 0, hxl, Nat.zero_le _, by go_num, rfl, rfl⟩
  case round =>
    obtain ⟨q, t, hq, ht, rfl, rfl, heq2⟩ := hrel
    have HE2 : Hid (Sums.hn (8 - t) q = Sums.byte8 X) := heq2
    clear heq2
    by_cases ht8 : t < 8
    · go_wp2_with (go_at_call 108; refine (halved_any q hq _).mono ?_; rintro e w' ⟨rfl, rfl⟩)
      go_round
      case rel => exact ⟨Sums.half q, t + 1, half_le hq, by omega, rfl, by go_num, Sums.hn_step ht8 HE2.out⟩
      case measure => simp [intOf]; omega
    · have hq8 : q = Sums.byte8 X := by have h := HE2.out; rw [show 8 - t = 0 from by omega] at h; exact h
      have HQ : Hid (q = Sums.byte8 X) := hq8
      clear hq8
      go_wp2
      go_ret
      exact ⟨by rw [← HQ.out]; rfl, rfl⟩

theorem byte8_le {s : Nat} (hs : s ≤ 4294967295) : Sums.byte8 s ≤ 4294967295 := by have := Sums.byte8_lt (s := s) (by omega); omega

set_option maxHeartbeats 1000000 in
set_option maxRecDepth 100000 in
theorem implSumOf_any (s : ByteArray) (hs : s.size ≤ 1048580) (w : World) :
    Calls Tryz.prog 85 #[.string s] w fun e w' => e = .returned (.int .u32 ((Sums.sumOf s.data.toList : Nat) : Int)) ∧ w = w' := by
  go_enter Tryz.func85, Tryz.ntmps85
  go_wp2
  go_loop [3, 7] (fun x i => ∃ m k : Nat, m ≤ 4294967295 ∧ k ≤ s.size ∧ x = .int .u32 (m : Int) ∧ i = .int .i64 (k : Int) ∧ Sums.more m (s.data.toList.drop k) = Sums.more 4294967295 s.data.toList)
    (fun _ i => s.size - (intOf i).toNat)
  case atStart => exact ⟨4294967295, 0, Nat.le_refl _, Nat.zero_le _, rfl, rfl, rfl⟩
  case round =>
    obtain ⟨m, k, hm, hk, rfl, rfl, heq⟩ := hrel
    have HE : Hid (Sums.more m (s.data.toList.drop k) = Sums.more 4294967295 s.data.toList) := heq
    clear heq
    by_cases hlt : k < s.size
    · have hbyte : (s[k].toNat : Int) < 256 := by have := s[k].toNat_lt; omega
      go_wp2_with (go_at_call 100; refine (with_any m hm s[k] _).mono ?_; rintro e w' ⟨rfl, rfl⟩)
      go_round
      case rel => exact ⟨_, k + 1, byte8_le (xor_byte_le hm s[k]), by omega, rfl, by go_num, Sums.more_step (l := s.data.toList) hlt HE.out⟩
      case measure => simp [intOf]; omega
    · go_wp2
      go_ret
      exact ⟨by rw [Sums.more_end (l := s.data.toList) (Nat.le_of_not_lt hlt) HE.out]; rfl, rfl⟩
end Go.Proofs.YthcfnofhdbjemaaGreatDoor
