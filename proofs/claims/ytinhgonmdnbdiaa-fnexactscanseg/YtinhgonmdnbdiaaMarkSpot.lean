/- Spots are found marked: heldSpotS, walked. -/
import Derived.Test.YtinhgonmdnbdiaaLSpot
import Derived.Deep.RegionHeld3
namespace Go.Proofs.Ytinhgonmdnbdiaa
open Go.RowKit
set_option linter.unusedVariables false
set_option linter.unusedSimpArgs false

set_option maxHeartbeats 2000000 in
set_option maxRecDepth 100000 in
theorem heldSpotS_is {a : Option Addr} {g off cap : Nat} (n : Nat) (hlen : n ≤ 1048576) (k : Nat) (h0 : 0 < k) (hk : k ≤ 100000000) (w : World) (hf : SpotAt w a g off (marksSpot k n)) :
    Calls Try.prog 14 #[.slice a n cap, .int .i64 (k : Int)] w fun e w' => e = .returned (.int .i64 ((k + 4 * n : Nat) : Int)) ∧ Below w.heap.size w w' := by
  have HF : Hid (SpotAt w a g off (marksSpot k n)) := hf
  clear hf
  go_enter Try.func14, Try.ntmps14
  go_wp2
  go_loopw [1, 5] (fun x i wr => ∃ j : Nat, j ≤ n ∧ i = .int .i64 (j : Int) ∧ x = .int .i64 ((k + 4 * j : Nat) : Int) ∧ Below w.heap.size w wr) (fun _ i _ => n - (intOf i).toNat)
  case atStart => exact ⟨0, Nat.zero_le _, rfl, rfl, Below.refl _ _⟩
  case round =>
    obtain ⟨j, hj, rfl, rfl, hbel⟩ := hrel
    by_cases hlt : j < n
    · have hjl : j < (marksSpot k n).length := by rw [marksSpot_len]; exact hlt
      obtain ⟨c0, c1, c2, c3⟩ := (HF.out.kept hbel).2 j hjl
      have hgz := (HF.out.kept hbel).lt (by omega)
      rw [marksSpot_at] at c0 c1 c2 c3
      have ea := HF.out.1 (by omega)
      subst ea
      have hk0 : (0 : Int) ≤ (j : Int) := by omega
      have hk1 : (j : Int) < (n : Int) := by omega
      obtain ⟨M, hM⟩ : ∃ M : Nat, M = k + 4 * j := ⟨_, rfl⟩
      have hMb : 0 < M ∧ M ≤ 900000000 := by omega
      have HM : Hid (M = k + 4 * j) := hM
      rw [← hM] at c0 c1 c2 c3 ⊢
      clear hM hjl
      simp only [markSpot1] at c0 c1 c2 c3
      have e1 : ((M + 1 : Nat) : Int) = (M : Int) + 1 := by omega
      have e2 : ((M + 2 : Nat) : Int) = (M : Int) + 1 + 1 := by omega
      have e3 : ((M + 3 : Nat) : Int) = (M : Int) + 1 + 1 + 1 := by omega
      rw [e1] at c1
      rw [e2] at c2
      rw [e3] at c3
      clear e1 e2 e3
      go_wp2
      go_region_held3 (fun w' => w'.cell? ⟨g, off + j * 4, none⟩ = some (.string (mk M))) (first | go_keep | exact (hb1.cell (p := ⟨g, off + j * 4, none⟩) hgz).trans c0) (first | (go_at_call 33; refine (markText_is M hMb.1 (by omega) _).mono ?_; rintro e w1 ⟨rfl, hb1⟩))
      all_goals
        have d1 := (hb1.cell (p := ⟨g, off + j * 4 + 1, none⟩) hgz).trans c1
        have d2 := (hb1.cell (p := ⟨g, off + j * 4 + 2, none⟩) hgz).trans c2
        have d3 := (hb1.cell (p := ⟨g, off + j * 4 + 3, none⟩) hgz).trans c3
        have hB1 : Below w.heap.size w w1 := (hbel.drew).trans (hb1.mono hbel.size)
        clear hb1 c0 c1 c2 c3
        go_wp2
        go_roundw
        case rel =>
          refine ⟨j + 1, by omega, by go_num, ?_, hB1⟩
          refine congrArg (Value.int .i64) ?_
          have := HM.out
          omega
        case measure => simp [intOf]; omega
    · have hk1 : ¬ (j : Int) < (n : Int) := by omega
      have HE : Hid (j = n) := by show _ = _; omega
      go_wp2
      go_ret
      exact ⟨by rw [← HE.out]; rfl, hbel⟩
theorem marksSpot_row {w : World} {B n : Nat} {v : Value} (h : w.ownsRow B 56 4 v n (cellsSpot (marksSpot 1 n))) : ∃ a g cap, v = .slice a n cap ∧ SpotAt w a g 0 (marksSpot 1 n) := by
  have h2 : w.ownsRow B 56 4 v (marksSpot 1 n).length (cellsSpot (marksSpot 1 n)) := by rw [marksSpot_len]; exact h
  obtain ⟨a, g, cap, h3, h4⟩ := cellsSpot_slice h2
  rw [marksSpot_len] at h3
  exact ⟨a, g, cap, h3, h4⟩
end Go.Proofs.Ytinhgonmdnbdiaa
