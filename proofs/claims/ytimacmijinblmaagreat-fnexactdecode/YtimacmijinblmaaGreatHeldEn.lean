/- heldEntryS and szIntS of the laws, walked. -/
import Derived.Test.YtimacmijinblmaaGreatLEn
import Derived.Test.YtimacmijinblmaaGreatInts
import Derived.Deep.RegionHeld3
namespace Go.Proofs.YtimacmijinblmaaGreat
open Go.RowKit
set_option linter.unusedVariables false
set_option linter.unusedSimpArgs false

set_option maxHeartbeats 2000000 in
set_option maxRecDepth 100000 in
theorem heldEnS_is {a : Option Addr} {g off cap : Nat} (n : Nat) (hlen : n ≤ 1048576) (k : Nat) (h0 : 0 < k) (hk : k ≤ 100000000) (w : World) (hf : EnAt w a g off (marksEn k n)) :
    Calls Tryz.prog 31 #[.slice a n cap, .int .i64 (k : Int)] w fun e w' => e = .returned (.int .i64 ((k + 3 * n : Nat) : Int)) ∧ Below w.heap.size w w' := by
  have HF : Hid (EnAt w a g off (marksEn k n)) := hf
  clear hf
  go_enter Tryz.func31, Tryz.ntmps31
  go_wp2
  go_loopw [1, 5] (fun x i wr => ∃ j : Nat, j ≤ n ∧ i = .int .i64 (j : Int) ∧ x = .int .i64 ((k + 3 * j : Nat) : Int) ∧ Below w.heap.size w wr) (fun _ i _ => n - (intOf i).toNat)
  case atStart => exact ⟨0, Nat.zero_le _, rfl, rfl, Below.refl _ _⟩
  case round =>
    obtain ⟨j, hj, rfl, rfl, hbel⟩ := hrel
    by_cases hlt : j < n
    · have hjl : j < (marksEn k n).length := by rw [marksEn_len]; exact hlt
      obtain ⟨c0, c1, c2⟩ := (HF.out.kept hbel).2 j hjl
      have hgz := (HF.out.kept hbel).lt (by omega)
      rw [marksEn_at] at c0 c1 c2
      have ea := HF.out.1 (by omega)
      subst ea
      have hk0 : (0 : Int) ≤ (j : Int) := by omega
      have hk1 : (j : Int) < (n : Int) := by omega
      obtain ⟨M, hM⟩ : ∃ M : Nat, M = k + 3 * j := ⟨_, rfl⟩
      have hMb : 0 < M ∧ M ≤ 900000000 := by omega
      have HM : Hid (M = k + 3 * j) := hM
      rw [← hM] at c0 c1 c2 ⊢
      clear hM hjl
      simp only [markEn1] at c0 c1 c2
      have e1 : ((M + 1 : Nat) : Int) = (M : Int) + 1 := by omega
      rw [e1] at c1
      clear e1
      have HMT : Hid (∀ X : World, Calls Tryz.prog 88 #[.int .i64 ((M : Int) + 1 + 1)] X fun e w' => e = .returned (.string (mk (M + 2))) ∧ Below X.heap.size X w') := fun X => markText_at M 2 _ (by omega) hMb.1 (by omega) X
      have hnn : ((mk (M + 2)).toList == (mk (M + 2)).toList) = true := by simp
      go_wp2
      go_region_held3 (fun w' => w'.cell? ⟨g, off + j * 3 + 2, none⟩ = some (.string (mk (M + 2)))) (first | go_keep | exact (hb1.cell (p := ⟨g, off + j * 3 + 2, none⟩) hgz).trans c2) (first | (go_at_call 88; refine (HMT.out _).mono ?_; rintro e w1 ⟨rfl, hb1⟩))
      all_goals
        have hB1 : Below w.heap.size w w1 := (hbel.drew).trans (hb1.mono hbel.size)
        clear hb1 c0 c1 c2
        go_wp2
        go_roundw
        case rel =>
          refine ⟨j + 1, by omega, by go_num, ?_, hB1⟩
          refine congrArg (Value.int .i64) ?_
          have := HM.out
          omega
        case measure => simp [intOf]; omega
    · have hk1 : ¬ (j : Int) < (n : Int) := by omega
      have HE : Hid (j = n) := by show _ = _; omega
      go_wp2
      go_ret
      exact ⟨by rw [← HE.out]; rfl, hbel⟩
end Go.Proofs.YtimacmijinblmaaGreat
