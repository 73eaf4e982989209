/- Manifests as the laws mark them: markManifest, heldManifest, walked. Spots are found marked: heldSpotS, walked. -/
import Derived.Test.YtjpokcjpogkafaaGreatDoorRdList
import Derived.Test.YtjpokcjpogkafaaGreatDoorWholeM
import Derived.Test.YtjpokcjpogkafaaGreatDoorReadBatch
import Derived.Deep.RegionHeld3
namespace Go.Proofs.YtjpokcjpogkafaaGreatDoor
open Go.RowKit
set_option linter.unusedVariables false

theorem apart_ne {v1 v2 : Value} (h : Apart v1 v2) : v1.ownBlock = none ∨ v1.ownBlock ≠ v2.ownBlock := by
  cases e : v1.ownBlock with
  | none => exact Or.inl rfl
  | some g => exact Or.inr (fun e2 => h g e e2.symm)
theorem apart_ne' {v1 v2 : Value} (h : Apart v1 v2) : v2.ownBlock = none ∨ v2.ownBlock ≠ v1.ownBlock := by
  cases e : v2.ownBlock with
  | none => exact Or.inl rfl
  | some g => exact Or.inr (fun e2 => h g e2.symm e)
set_option maxHeartbeats 2000000 in
theorem heldMan_is {v1 v2 : Value} {B1 B2 : Nat} {x y z : Int} (n n' : Nat) (h1 : n ≤ 1000) (h2 : n' ≤ 1000) (w : World) (hA : w.ownsRow B1 3 1 v1 n (cellsI (marksI 1 n))) (hB : w.ownsRow B2 3 1 v2 n' (cellsI (marksI (1 + n) n'))) :
    Calls Tryz.prog 56 #[.agg #[v1, .int .i64 x, .int .i64 y, .int .i64 z, v2], .int .i64 1] w fun e w' => e = .returned (.int .i64 ((1 + n + n' : Nat) : Int)) ∧ Below w.heap.size w w' := by
  obtain ⟨va1, g1, vc1, e1, at1⟩ := cellsI_slice (l := marksI 1 n) (by rw [marksI_len]; exact hA)
  obtain ⟨va2, g2, vc2, e2, at2⟩ := cellsI_slice (l := marksI (1 + n) n') (by rw [marksI_len]; exact hB)
  rw [marksI_len] at e1 e2
  subst e1 e2
  obtain ⟨W, hW⟩ : ∃ W, W = w.alloc (.cells #[.slice va1 n vc1, .int .i64 x, .int .i64 y, .int .i64 z, .slice va2 n' vc2] 28) := ⟨_, rfl⟩
  have hb : Below w.heap.size w W := by rw [hW]; exact (Below.refl _ _).alloc (Nat.le_refl _) _
  have hp : W.heap[w.heap.size]? = some (.cells #[.slice va1 n vc1, .int .i64 x, .int .i64 y, .int .i64 z, .slice va2 n' vc2] 28 (0, 0)) := by rw [hW]; exact heap_alloc_new w _
  have HA : Hid (IntAt W va1 g1 0 (marksI 1 n)) := at1.kept hb
  have HB : Hid (IntAt W va2 g2 0 (marksI (1 + n) n')) := at2.kept hb
  have HG : Hid (Below w.heap.size w W) := hb
  have c4 := cell_of_row _ _ 4 _ _ _ hp
  simp at c4
  clear hA hB at1 at2 hp hb
  go_enter Tryz.func56, Tryz.ntmps56
  go_wp2_with fail
  rw [← hW]
  clear hW
  refine (heldIntS_is (by omega) 1 (by omega) W HA.out).mono ?_
  rintro e w1 ⟨rfl, rfl⟩
  go_wp2_with fail
  refine (heldIntS_is (by omega) (1 + n) (by omega) W HB.out).mono ?_
  rintro e w2 ⟨rfl, rfl⟩
  go_wp2
  go_ret
  exact ⟨rfl, HG.out⟩
end Go.Proofs.YtjpokcjpogkafaaGreatDoor
namespace Go.Proofs.YtjpokcjpogkafaaGreatDoor
open Go.RowKit
set_option linter.unusedVariables false
set_option linter.unusedSimpArgs false

set_option maxHeartbeats 2000000 in
set_option maxRecDepth 100000 in
theorem heldSpotS_is {a : Option Addr} {g off cap : Nat} (n : Nat) (hlen : n ≤ 1048576) (k : Nat) (h0 : 0 < k) (hk : k ≤ 100000000) (w : World) (hf : SpotAt w a g off (marksSpot k n)) :
    Calls Tryz.prog 57 #[.slice a n cap, .int .i64 (k : Int)] w fun e w' => e = .returned (.int .i64 ((k + 4 * n : Nat) : Int)) ∧ Below w.heap.size w w' := by
  have HF : Hid (SpotAt w a g off (marksSpot k n)) := hf
  clear hf
  go_enter Tryz.func57, Tryz.ntmps57
  go_wp2
  go_loopw [1, 5] (fun x i wr => ∃ j : Nat, j ≤ n ∧ i = .int .i64 (j : Int) ∧ x = .int .i64 ((k + 4 * j : Nat) : Int) ∧ Below w.heap.size w wr) (fun _ i _ => n - (intOf i).toNat)
  case atStart => exact ⟨0, Nat.zero_le _, rfl, rfl, Below.refl _ _⟩
  case round =>
    obtain ⟨j, hj, rfl, rfl, hbel⟩ := hrel
    by_cases hlt : j < n
    · have hjl : j < (marksSpot k n).length := by rw [marksSpot_len]; exact hlt
      obtain ⟨c0, c1, c2, c3⟩ := (HF.out.kept hbel).2 j hjl
      have hgz := (HF.out.kept hbel).lt (by omega)
      rw [marksSpot_at] at c0 c1 c2 c3
      have ea := HF.out.1 (by omega)
      subst ea
      have hk0 : (0 : Int) ≤ (j : Int) := by omega
      have hk1 : (j : Int) < (n : Int) := by omega
      obtain ⟨M, hM⟩ : ∃ M : Nat, M = k + 4 * j := ⟨_, rfl⟩
      have hMb : 0 < M ∧ M ≤ 900000000 := by omega
      have HM : Hid (M = k + 4 * j) := hM
      rw [← hM] at c0 c1 c2 c3 ⊢
      clear hM hjl
      simp only [markSpot1] at c0 c1 c2 c3
      have e1 : ((M + 1 : Nat) : Int) = (M : Int) + 1 := by omega
      have e2 : ((M + 2 : Nat) : Int) = (M : Int) + 1 + 1 := by omega
      have e3 : ((M + 3 : Nat) : Int) = (M : Int) + 1 + 1 + 1 := by omega
      rw [e1] at c1
      rw [e2] at c2
      rw [e3] at c3
      clear e1 e2 e3
      go_wp2
      go_region_held3 (fun w' => w'.cell? ⟨g, off + j * 4, none⟩ = some (.string (mk M))) (first | go_keep | exact (hb1.cell (p := ⟨g, off + j * 4, none⟩) hgz).trans c0) (first | (go_at_call 55; refine (markText_is M hMb.1 (by omega) _).mono ?_; rintro e w1 ⟨rfl, hb1⟩))
      all_goals
        have d1 := (hb1.cell (p := ⟨g, off + j * 4 + 1, none⟩) hgz).trans c1
        have d2 := (hb1.cell (p := ⟨g, off + j * 4 + 2, none⟩) hgz).trans c2
        have d3 := (hb1.cell (p := ⟨g, off + j * 4 + 3, none⟩) hgz).trans c3
        have hB1 : Below w.heap.size w w1 := (hbel.drew).trans (hb1.mono hbel.size)
        clear hb1 c0 c1 c2 c3
        go_wp2
        go_roundw
        case rel =>
          refine ⟨j + 1, by omega, by go_num, ?_, hB1⟩
          refine congrArg (Value.int .i64) ?_
          have := HM.out
          omega
        case measure => simp [intOf]; omega
    · have hk1 : ¬ (j : Int) < (n : Int) := by omega
      have HE : Hid (j = n) := by show _ = _; omega
      go_wp2
      go_ret
      exact ⟨by rw [← HE.out]; rfl, hbel⟩
end Go.Proofs.YtjpokcjpogkafaaGreatDoor
