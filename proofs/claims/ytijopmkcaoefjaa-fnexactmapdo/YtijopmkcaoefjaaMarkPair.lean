/- Pairs are found marked, batches are marked from any number on: heldPairS, markBatch, walked. -/
import Derived.Test.YtijopmkcaoefjaaLPair
import Derived.Test.YtijopmkcaoefjaaMarkChange
namespace Go.Proofs.Ytijopmkcaoefjaa
open Go.RowKit
set_option linter.unusedVariables false
set_option linter.unusedSimpArgs false

set_option maxHeartbeats 2000000 in
set_option maxRecDepth 100000 in
theorem heldPairS_is {a : Option Addr} {g off cap : Nat} (n : Nat) (hlen : n ≤ 1048576) (k : Nat) (h0 : 0 < k) (hk : k ≤ 100000000) (w : World) (hf : PairAt w a g off (marksPair k n)) :
    Calls Try.prog 28 #[.slice a n cap, .int .i64 (k : Int)] w fun e w' => e = .returned (.int .i64 ((k + 2 * n : Nat) : Int)) ∧ Below w.heap.size w w' := by
  have HF : Hid (PairAt w a g off (marksPair k n)) := hf
  clear hf
  go_enter Try.func28, Try.ntmps28
  go_wp2
  go_loopw [1, 5] (fun x i wr => ∃ j : Nat, j ≤ n ∧ i = .int .i64 (j : Int) ∧ x = .int .i64 ((k + 2 * j : Nat) : Int) ∧ Below w.heap.size w wr) (fun _ i _ => n - (intOf i).toNat)
  case atStart => exact ⟨0, Nat.zero_le _, rfl, rfl, Below.refl _ _⟩
  case round =>
    obtain ⟨j, hj, rfl, rfl, hbel⟩ := hrel
    by_cases hlt : j < n
    · have hjl : j < (marksPair k n).length := by rw [marksPair_len]; exact hlt
      obtain ⟨c0, c1⟩ := (HF.out.kept hbel).2 j hjl
      have hgz := (HF.out.kept hbel).lt (by omega)
      rw [marksPair_at] at c0 c1
      have ea := HF.out.1 (by omega)
      subst ea
      have hk0 : (0 : Int) ≤ (j : Int) := by omega
      have hk1 : (j : Int) < (n : Int) := by omega
      obtain ⟨M, hM⟩ : ∃ M : Nat, M = k + 2 * j := ⟨_, rfl⟩
      have hMb : 0 < M ∧ M ≤ 900000000 := by omega
      have HM : Hid (M = k + 2 * j) := hM
      rw [← hM] at c0 c1 ⊢
      clear hM hjl
      simp only [markPair1] at c0 c1
      go_wp2
      go_region_held3 (fun w' => w'.cell? ⟨g, off + j * 2, none⟩ = some (.string (mk M))) (first | go_keep | exact (hb1.cell (p := ⟨g, off + j * 2, none⟩) hgz).trans c0) (first | (go_at_call 59; refine (markText_is M hMb.1 (by omega) _).mono ?_; rintro e w1 ⟨rfl, hb1⟩))
      all_goals
        have d1 := (hb1.cell (p := ⟨g, off + j * 2 + 1, none⟩) hgz).trans c1
        have hB1 : Below w.heap.size w w1 := (hbel.drew).trans (hb1.mono hbel.size)
        have hgz1 : g < w1.heap.size := Nat.lt_of_lt_of_le hgz hb1.size
        clear hb1 c0 c1
        go_wp2
        go_region_held3 (fun w' => w'.cell? ⟨g, off + j * 2 + 1, none⟩ = some (.string (mk (M + 1)))) (first | go_keep | exact (hb2.cell (p := ⟨g, off + j * 2 + 1, none⟩) hgz1).trans d1) (first | (go_at_call 59; refine (markText_succ M (by omega) _).mono ?_; rintro e w2 ⟨rfl, hb2⟩))
        all_goals
          clear d1
          go_wp2
          go_roundw
          case rel =>
            refine ⟨j + 1, by omega, by go_num, ?_, (hB1.drew).trans (hb2.mono hB1.size)⟩
            refine congrArg (Value.int .i64) ?_
            have := HM.out
            omega
          case measure => simp [intOf]; omega
    · have hk1 : ¬ (j : Int) < (n : Int) := by omega
      have HE : Hid (j = n) := by show _ = _; omega
      go_wp2
      go_ret
      exact ⟨by rw [← HE.out]; rfl, hbel⟩
theorem marksP_at {w : World} {B n : Nat} {v : Value} (h : w.ownsRow B 40 2 v n (cellsPair (marksPair 1 n))) : ∃ a g cap, v = .slice a n cap ∧ PairAt w a g 0 (marksPair 1 n) := by
  have h2 : w.ownsRow B 40 2 v (marksPair 1 n).length (cellsPair (marksPair 1 n)) := by rw [marksPair_len]; exact h
  obtain ⟨a, g, cap, h3, h4⟩ := cellsPair_slice h2
  rw [marksPair_len] at h3
  exact ⟨a, g, cap, h3, h4⟩
set_option maxHeartbeats 1000000 in
theorem markBatch_from {B : Nat} {v : Value} (k : Nat) (h0 : 0 < k) (hk : k ≤ 100000000) (st : Int) (l : List ChangeL) (hlen : l.length ≤ 1048576) (w : World) (hA : w.ownsRow B 65 3 v l.length (cellsChange l)) :
    Calls Try.prog 27 #[.agg #[.int .i64 st, v], .int .i64 (k : Int)] w fun e w' => e = .returned (.int .i64 ((k + 3 * l.length : Nat) : Int)) ∧ w'.ownsRow B 65 3 v l.length (cellsChange (marksChange k l.length)) ∧ w.grownBy w' v.ownBlock := by
  obtain ⟨va, g, vc, rfl, _⟩ := cellsChange_slice (own_mono hA (Nat.zero_le _))
  have HA : Hid ((w.alloc (Obj.cells #[Value.int IntKind.i64 st, Value.slice va l.length vc] 33)).ownsRow B 65 3 (.slice va l.length vc) l.length (cellsChange l)) := hA.alloc _
  clear hA
  go_enter Try.func27, Try.ntmps27
  go_wp2_with fail
  refine (markChangeS_own l hlen k h0 hk _ HA.out).mono ?_
  rintro e w1 ⟨rfl, hown, hg⟩
  have HO : Hid (w1.ownsRow B 65 3 (.slice va l.length vc) l.length (cellsChange (marksChange k l.length))) := hown
  have HG : Hid (w.grownBy w1 (Value.slice va l.length vc).ownBlock) := (World.grownBy_alloc w _ _).trans hg
  clear hown hg
  go_wp2
  go_ret
  exact ⟨rfl, HO.out, HG.out⟩
end Go.Proofs.Ytijopmkcaoefjaa
