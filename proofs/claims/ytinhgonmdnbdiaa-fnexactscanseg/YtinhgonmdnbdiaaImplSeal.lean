/- The calls of the program's Sealed and Unsealed, walked. -/
import Derived.Test.YtinhgonmdnbdiaaImplSum
import Derived.Test.YtinhgonmdnbdiaaSeal
import Derived.Test.YtinhgonmdnbdiaaClone
namespace Go.Proofs.Ytinhgonmdnbdiaa
open Go.RowKit

set_option maxHeartbeats 1000000 in
set_option maxRecDepth 100000 in
theorem sealOf_any (s : ByteArray) (hs : s.size ≤ 1048580) (w : World) :
    Calls Try.prog 66 #[.string s] w fun e w' => e = .returned (.string ⟨(Sums.four (Sums.sumOf s.data.toList)).toArray⟩) ∧ Below w.heap.size w w' := by
  obtain ⟨x, hx⟩ : ∃ x, x = Sums.sumOf s.data.toList := ⟨_, rfl⟩
  have hxl : x ≤ 4294967295 := by rw [hx]; exact sum_le _
  have hso := fun w => implSumOf_any s hs w
  rw [← hx] at hso ⊢
  have HS : Hid (∀ w : World, Calls Try.prog 81 #[.string s] w fun e w' => e = .returned (.int .u32 (x : Int)) ∧ w = w') := hso
  clear hso hx
  have hcv := four_string x hxl w
  go_enter Try.func66, Try.ntmps66
  go_wp2_with (go_at_call 81; refine (HS.out _).mono ?_; rintro e w' ⟨rfl, rfl⟩)
  go_ret
  exact ⟨rfl, (Below.refl _ _).alloc (Nat.le_refl _) _⟩

set_option maxHeartbeats 400000 in
theorem implSealed_no (s : ByteArray) (h : ¬ s.size ≤ 20000) (w : World) :
    Calls Try.prog 45 #[.string s] w fun e w' => e = .returned (.tuple #[.string ⟨#[]⟩, .bool false]) ∧ Below w.heap.size w w' := by
  go_enter Try.func45, Try.ntmps45
  go_wp2
  go_ret2
  exact ⟨rfl, Below.refl _ _⟩
set_option maxHeartbeats 400000 in
theorem implSealed_yes (s : ByteArray) (h : s.size ≤ 20000) (w : World) :
    Calls Try.prog 45 #[.string s] w fun e w' => e = .returned (sealTuple s) ∧ Below w.heap.size w w' := by
  have hv := four_size (Sums.sumOf s.data.toList)
  go_enter Try.func45, Try.ntmps45
  go_wp2_with (go_at_call 66; refine (sealOf_any s (by omega) _).mono ?_; rintro e w' ⟨rfl, hb1⟩)
  go_ret2
  exact ⟨rfl, hb1⟩

set_option maxHeartbeats 1000000 in
theorem implUnsealed_out (s : ByteArray) (hs : s.size ≤ 1048576) (h : s.size < 4 ∨ 20004 < s.size) (w : World) :
    Calls Try.prog 49 #[.string s] w fun e w' => e = .returned (.tuple #[.string ⟨#[]⟩, .bool false]) ∧ Below w.heap.size w w' := by
  rcases h with h | h
  · have h1 : (s.size : Int) - 4 < 0 := by omega
    have h3 : decide ((s.size : Int) - 4 < 0) = true := decide_eq_true h1
    go_enter Try.func49, Try.ntmps49
    go_wp2
    go_quiet (fail)
    go_wp2
    go_ret2
    exact ⟨rfl, below_drewN (Below.refl _ _) _⟩
  · have h1 : ¬ (s.size : Int) - 4 < 0 := by omega
    have h2 : (20000 : Int) < (s.size : Int) - 4 := by omega
    have h3 : decide ((s.size : Int) - 4 < 0) = false := decide_eq_false h1
    have h4 : decide ((20000 : Int) < (s.size : Int) - 4) = true := decide_eq_true h2
    go_enter Try.func49, Try.ntmps49
    go_wp2
    go_quiet (fail)
    go_wp2
    go_ret2
    exact ⟨rfl, below_drewN (Below.refl _ _) _⟩

set_option maxHeartbeats 1000000 in
theorem implUnsealed_in (s : ByteArray) (h : 4 ≤ s.size) (h' : s.size ≤ 20004) (w : World) :
    Calls Try.prog 49 #[.string s] w fun e w' => e = .returned (unTuple (Sums.unsealed s.data.toList)) ∧ Below w.heap.size w w' := by
  have h1 : ¬ (s.size : Int) - 4 < 0 := by omega
  have h2 : ¬ (20000 : Int) < (s.size : Int) - 4 := by omega
  have h3 : decide ((s.size : Int) - 4 < 0) = false := decide_eq_false h1
  have h4 : decide ((20000 : Int) < (s.size : Int) - 4) = false := decide_eq_false h2
  obtain ⟨H, hH⟩ : ∃ H : ByteArray, H = s.extract 0 (s.size - 4) := ⟨_, rfl⟩
  obtain ⟨T, hT⟩ : ∃ T : ByteArray, T = s.extract (s.size - 4) s.size := ⟨_, rfl⟩
  have hHs : H.size ≤ 20000 := by rw [hH]; simp; omega
  have hsl : ∀ wx, (Instr.slice 9 (.string s) (some (.int .i64 ((s.size : Int) - 4))) none none).run Try.prog wx = .ok (.string T) wx := fun wx => by
    rw [run_slice_string_l wx 9 s Try.underlying9 .i64 _ (by omega) (by omega), hT, show ((s.size : Int) - 4).toNat = s.size - 4 from by omega]
  have hsh : ∀ wx, (Instr.slice 9 (.string s) none (some (.int .i64 ((s.size : Int) - 4))) none).run Try.prog wx = .ok (.string H) wx := fun wx => by
    rw [run_slice_string_h wx 9 s Try.underlying9 .i64 _ (by omega) (by omega), hH, show ((s.size : Int) - 4).toNat = s.size - 4 from by omega]
  have HH : Hid (H = s.extract 0 (s.size - 4)) := hH
  have HT : Hid (T = s.extract (s.size - 4) s.size) := hT
  clear hH hT
  go_enter Try.func49, Try.ntmps49
  go_wp2
  go_region_held3 (fun _ => True) (trivial) (first | (go_at_call 66; refine (sealOf_any H (by omega) _).mono ?_; rintro e w1 ⟨rfl, hb1⟩))
  go_wp2_with (go_at_call 63; refine (clone_any H (by omega) _).mono ?_; rintro e w2 ⟨rfl, hb2⟩)
  · have hn := un_no HH.out HT.out (by assumption)
    go_ret2
    exact ⟨congrArg Ending.returned (un_ret_no hn), ((Below.refl _ _).drew).trans hb1⟩
  · have hn := un_yes h h' HH.out HT.out (by assumption)
    go_ret2
    exact ⟨congrArg Ending.returned (un_ret_yes hn), (((Below.refl _ _).drew).trans hb1).trans (hb2.mono (((Below.refl _ _).drew).trans hb1).size)⟩
end Go.Proofs.Ytinhgonmdnbdiaa
