/- Lists of ints in memory; measured, copied, held against each other, marked. -/
import Derived.Test.YtiifjhalkihlbaaConfA
import Derived.Test.YtiifjhalkihlbaaKit
import Derived.Laws.AppendOwnNone
import Derived.Deep.DeepCutAuto
namespace Go.Proofs.Ytiifjhalkihlbaa
open Go.RowKit
set_option linter.unusedVariables false
set_option linter.unusedSimpArgs false

set_option maxHeartbeats 2000000 in
set_option maxRecDepth 100000 in
theorem markIntS_is {B g cap : Nat} (l : List Int) (hlen : l.length ≤ 1048576) (k : Nat) (hk : k ≤ 100000000) (w : World) (hA : w.ownsRow B 3 1 (.slice (some ⟨g, 0, none⟩) l.length cap) l.length (cellsI l)) :
    Calls Try.prog 15 #[.slice (some ⟨g, 0, none⟩) l.length cap, .int .i64 (k : Int)] w fun e w' => e = .returned (.int .i64 ((k + l.length : Nat) : Int)) ∧ w'.ownsRow B 3 1 (.slice (some ⟨g, 0, none⟩) l.length cap) l.length (cellsI (marksI k l.length)) ∧ w.grownBy w' (some g) := by
  go_enter Try.func15, Try.ntmps15
  go_wp2
  go_loopw [1, 5] (fun x i wr => ∃ (j : Nat) (pre : List Int), j ≤ l.length ∧ i = .int .i64 (j : Int) ∧ x = .int .i64 ((k + j : Nat) : Int) ∧ pre.length = l.length ∧ pre.take j = (marksI k l.length).take j ∧
      wr.ownsRow B 3 1 (.slice (some ⟨g, 0, none⟩) l.length cap) l.length (cellsI pre) ∧ w.grownBy wr (some g)) (fun _ i _ => l.length - (intOf i).toNat)
  case atStart => exact ⟨0, l, Nat.zero_le _, rfl, rfl, rfl, by simp, hA, World.grownBy.refl _ _⟩
  case round =>
    obtain ⟨j, pre, hj, rfl, rfl, hpl, hpt, hown, hgr⟩ := hrel
    have HL : Hid (pre.length = l.length) := hpl
    have HT : Hid (pre.take j = (marksI k l.length).take j) := hpt
    clear hpl hpt hA
    by_cases hlt : j < l.length
    · have hk0 : (0 : Int) ≤ (j : Int) := by omega
      have hk1 : (j : Int) < (l.length : Int) := by omega
      obtain ⟨M, hM⟩ : ∃ M : Nat, M = k + j := ⟨_, rfl⟩
      have hMb : M ≤ 900000000 := by omega
      have HM : Hid (M = k + j) := hM
      rw [← hM]
      clear hM
      have hf0 := hown.frozenAt j
      obtain ⟨u0, hu0⟩ := own_cell_ex (q := j) hown (by omega) (by rw [cellsI_len, HL.out]; omega)
      have hst := hown.stored j (.int .i64 (M : Int))
      rw [← cellsI_set pre j (M : Int)] at hst
      have HST : Hid (_ ∧ _) := hst
      have HG : Hid (w.grownBy wr (some g)) := hgr
      clear hst hown hgr
      go_wp2
      go_roundw
      case rel =>
        refine ⟨j + 1, pre.set j (M : Int), by omega, by go_num, ?_, by rw [List.length_set]; exact HL.out, ?_, HST.out.1, HG.out.trans HST.out.2⟩
        · refine congrArg (Value.int .i64) ?_
          have := HM.out
          omega
        · refine take_set_step (by rw [marksI_len]; exact hlt) (by rw [marksI_len]; exact HL.out) HT.out ?_
          rw [marksI_at, ← HM.out]
      case measure => simp [intOf]; omega
    · have hk1 : ¬ (j : Int) < (l.length : Int) := by omega
      have HE : Hid (pre = marksI k l.length ∧ j = l.length) := by
        have h := HT.out
        rw [List.take_of_length_le (by rw [HL.out]; omega), List.take_of_length_le (by rw [marksI_len]; omega)] at h
        exact ⟨h, by omega⟩
      go_wp2
      go_ret
      refine ⟨by rw [← HE.out.2]; rfl, by rw [← HE.out.1]; exact hown, hgr⟩
set_option maxHeartbeats 2000000 in
set_option maxRecDepth 100000 in
theorem markIntS_nil (k : Nat) (w : World) : Calls Try.prog 15 #[.slice none 0 0, .int .i64 (k : Int)] w fun e w' => e = .returned (.int .i64 (k : Int)) ∧ w = w' := by
  go_enter Try.func15, Try.ntmps15
  go_wp2
  refine wp_loop_rounds 1 ?_
  rw [rounds_succ]
  go_wp2
  go_ret
  exact ⟨rfl, rfl⟩
theorem markIntS_own {B : Nat} {v : Value} (l : List Int) (hlen : l.length ≤ 1048576) (k : Nat) (hk : k ≤ 100000000) (w : World) (hA : w.ownsRow B 3 1 v l.length (cellsI l)) :
    Calls Try.prog 15 #[v, .int .i64 (k : Int)] w fun e w' => e = .returned (.int .i64 ((k + l.length : Nat) : Int)) ∧ w'.ownsRow B 3 1 v l.length (cellsI (marksI k l.length)) ∧ w.grownBy w' v.ownBlock := by
  rcases hA.2 with ⟨h1, h2⟩ | ⟨g, cap, cur, h1, _⟩
  · subst h1
    have hl : l = [] := List.length_eq_zero_iff.1 h2
    subst hl
    refine (markIntS_nil k w).mono ?_
    rintro e w' ⟨rfl, rfl⟩
    exact ⟨rfl, World.ownsRow_nil _ _ _ _, World.grownBy.refl _ _⟩
  · subst h1
    exact markIntS_is l hlen k hk w hA
set_option maxHeartbeats 2000000 in
set_option maxRecDepth 100000 in
theorem heldIntS_is {a : Option Addr} {g cap n : Nat} (hlen : n ≤ 1048576) (k : Nat) (hk : k ≤ 100000000) (w : World) (hf : IntAt w a g 0 (marksI k n)) :
    Calls Try.prog 42 #[.slice a n cap, .int .i64 (k : Int)] w fun e w' => e = .returned (.int .i64 ((k + n : Nat) : Int)) ∧ w = w' := by
  have HF : Hid (IntAt w a g 0 (marksI k n)) := hf
  clear hf
  go_enter Try.func42, Try.ntmps42
  go_wp2
  go_loopw [1, 5] (fun x i wr => ∃ j : Nat, j ≤ n ∧ i = .int .i64 (j : Int) ∧ x = .int .i64 ((k + j : Nat) : Int) ∧ w = wr) (fun _ i _ => n - (intOf i).toNat)
  case atStart => exact ⟨0, Nat.zero_le _, rfl, rfl, rfl⟩
  case round =>
    obtain ⟨j, hj, rfl, rfl, rfl⟩ := hrel
    by_cases hlt : j < n
    · have hq : j < (marksI k n).length := by rw [marksI_len]; exact hlt
      have c0 := HF.out.2 j hq
      have ea := HF.out.1 (by omega)
      subst ea
      rw [marksI_at, Nat.zero_add] at c0
      have hk0 : (0 : Int) ≤ (j : Int) := by omega
      have hk1 : (j : Int) < (n : Int) := by omega
      obtain ⟨M, hM⟩ : ∃ M : Nat, M = k + j := ⟨_, rfl⟩
      have hMb : M ≤ 900000000 := by omega
      have HM : Hid (M = k + j) := hM
      rw [← hM] at c0 ⊢
      clear hM
      go_wp2
      go_roundw
      case rel => exact ⟨j + 1, by omega, by go_num, by refine congrArg (Value.int .i64) ?_; have := HM.out; omega, trivial⟩
      case measure => simp [intOf]; omega
    · have hk1 : ¬ (j : Int) < (n : Int) := by omega
      have HE : Hid (j = n) := by show _ = _; omega
      go_wp2
      go_ret
      exact ⟨by rw [← HE.out]; rfl, rfl⟩
end Go.Proofs.Ytiifjhalkihlbaa
