/- Changes are marked, and found marked: markChangeS, heldChangeS, markBatch, heldBatch, walked. -/
import Derived.Test.YtijopmkcaoefjaaLChange
import Derived.Deep.RegionHeld3
namespace Go.Proofs.Ytijopmkcaoefjaa
open Go.RowKit
set_option linter.unusedVariables false
set_option linter.unusedSimpArgs false

theorem mark_mod (M : Nat) : (((M : Int) + 1 + 1) % 3 == 0) = ((M + 2) % 3 == 0) := by
  have h1 : ((M : Int) + 1 + 1) % 3 = (((M + 2) % 3 : Nat) : Int) := by omega
  rw [h1]
  rcases (show (M + 2) % 3 = 0 ∨ (M + 2) % 3 = 1 ∨ (M + 2) % 3 = 2 by omega) with h | h | h <;> rw [h] <;> rfl
set_option maxHeartbeats 2000000 in
set_option maxRecDepth 100000 in
theorem markChangeS_is {B g cap : Nat} (l : List ChangeL) (hlen : l.length ≤ 1048576) (k : Nat) (h0 : 0 < k) (hk : k ≤ 100000000) (w : World) (hA : w.ownsRow B 65 3 (.slice (some ⟨g, 0, none⟩) l.length cap) l.length (cellsChange l)) :
    Calls Try.prog 33 #[.slice (some ⟨g, 0, none⟩) l.length cap, .int .i64 (k : Int)] w fun e w' => e = .returned (.int .i64 ((k + 3 * l.length : Nat) : Int)) ∧ w'.ownsRow B 65 3 (.slice (some ⟨g, 0, none⟩) l.length cap) l.length (cellsChange (marksChange k l.length)) ∧ w.grownBy w' (some g) := by
  go_enter Try.func33, Try.ntmps33
  go_wp2
  go_loopw [1, 5] (fun x i wr => ∃ (j : Nat) (pre : List ChangeL), j ≤ l.length ∧ i = .int .i64 (j : Int) ∧ x = .int .i64 ((k + 3 * j : Nat) : Int) ∧ pre.length = l.length ∧ pre.take j = (marksChange k l.length).take j ∧
      wr.ownsRow B 65 3 (.slice (some ⟨g, 0, none⟩) l.length cap) l.length (cellsChange pre) ∧ w.grownBy wr (some g)) (fun _ i _ => l.length - (intOf i).toNat)
  case atStart => exact ⟨0, l, Nat.zero_le _, rfl, rfl, rfl, by simp, hA, World.grownBy.refl _ _⟩
  case round =>
    obtain ⟨j, pre, hj, rfl, rfl, hpl, hpt, hown, hgr⟩ := hrel
    have HL : Hid (pre.length = l.length) := hpl
    have HT : Hid (pre.take j = (marksChange k l.length).take j) := hpt
    clear hpl hpt hA
    by_cases hlt : j < l.length
    · have hk0 : (0 : Int) ≤ (j : Int) := by omega
      have hk1 : (j : Int) < (l.length : Int) := by omega
      obtain ⟨M, hM⟩ : ∃ M : Nat, M = k + 3 * j := ⟨_, rfl⟩
      have hMb : 0 < M ∧ M ≤ 900000000 := by omega
      have HM : Hid (M = k + 3 * j) := hM
      rw [← hM]
      clear hM
      go_wp2_with fail
      refine (markText_at M 0 _ (by omega) (by omega) (by omega) _).mono ?_
      rintro e w0 ⟨rfl, hb0⟩
      have hw0 := own_kept hown hb0
      have hgw0 := hgr.trans (own_below' hb0)
      clear hb0
      have hf0 := hw0.frozenAt (j * 3)
      obtain ⟨u0, hu0⟩ := own_cell_ex (q := j * 3) hw0 (by omega) (by simp only [List.length_set, cellsChange_len, HL.out])
      have hs0 := (hw0.stored (j * 3) (.string (mk (M + 0))))
      have hgs0 := (hgw0.trans (hw0.stored (j * 3) (.string (mk (M + 0)))).2)
      have HS0 : Hid _ := hs0.1
      have HG0 : Hid _ := hgs0
      clear hown hgr
      clear hs0 hgs0 hw0 hgw0
      go_wp2_with fail
      refine (markText_at M 1 _ (by omega) (by omega) (by omega) _).mono ?_
      rintro e w1 ⟨rfl, hb1⟩
      have hw1 := own_kept HS0.out hb1
      have hgw1 := HG0.out.trans (own_below' hb1)
      clear hb1
      have hf1 := hw1.frozenAt (j * 3 + 1)
      obtain ⟨u1, hu1⟩ := own_cell_ex (q := j * 3 + 1) hw1 (by omega) (by simp only [List.length_set, cellsChange_len, HL.out])
      have hf2 := hw1.frozenAt (j * 3 + 2)
      obtain ⟨u2, hu2⟩ := own_cell_ex (q := j * 3 + 2) hw1 (by omega) (by simp only [List.length_set, cellsChange_len, HL.out])
      have hs1 := ((hw1.stored (j * 3 + 1) (.string (mk (M + 1)))).1.stored (j * 3 + 2) (.bool ((M + 2) % 3 == 0)))
      have hgs1 := ((hgw1.trans (hw1.stored (j * 3 + 1) (.string (mk (M + 1)))).2).trans ((hw1.stored (j * 3 + 1) (.string (mk (M + 1)))).1.stored (j * 3 + 2) (.bool ((M + 2) % 3 == 0))).2)
      have HS1 : Hid _ := hs1.1
      have HG1 : Hid _ := hgs1
      clear hs1 hgs1 hw1 hgw1
      go_wp2
      go_roundw
      case rel =>
        have e := cellsChange_set pre j (markChange1 M)
        rw [mark_mod]
        refine ⟨j + 1, pre.set j (markChange1 M), by omega, by go_num, ?_, by rw [List.length_set]; exact HL.out, ?_, ?_, HG1.out⟩
        · refine congrArg (Value.int .i64) ?_
          have := HM.out
          omega
        · refine take_set_step (by rw [marksChange_len]; exact hlt) (by rw [marksChange_len]; exact HL.out) HT.out ?_
          rw [marksChange_at, ← HM.out]
        · rw [e]; exact HS1.out
      case measure => simp [intOf]; omega
    · have hk1 : ¬ (j : Int) < (l.length : Int) := by omega
      have HE : Hid (pre = marksChange k l.length ∧ j = l.length) := by
        have h := HT.out
        rw [List.take_of_length_le (by rw [HL.out]; omega), List.take_of_length_le (by rw [marksChange_len]; omega)] at h
        exact ⟨h, by omega⟩
      go_wp2
      go_ret
      refine ⟨by rw [← HE.out.2]; rfl, by rw [← HE.out.1]; exact hown, hgr⟩
set_option maxHeartbeats 2000000 in
set_option maxRecDepth 100000 in
theorem markChangeS_nil (k : Nat) (w : World) : Calls Try.prog 33 #[.slice none 0 0, .int .i64 (k : Int)] w fun e w' => e = .returned (.int .i64 (k : Int)) ∧ w = w' := by
  go_enter Try.func33, Try.ntmps33
  go_wp2
  refine wp_loop_rounds 1 ?_
  rw [rounds_succ]
  go_wp2
  go_ret
  exact ⟨rfl, rfl⟩
theorem markChangeS_own {B : Nat} {v : Value} (l : List ChangeL) (hlen : l.length ≤ 1048576) (k : Nat) (h0 : 0 < k) (hk : k ≤ 100000000) (w : World) (hA : w.ownsRow B 65 3 v l.length (cellsChange l)) :
    Calls Try.prog 33 #[v, .int .i64 (k : Int)] w fun e w' => e = .returned (.int .i64 ((k + 3 * l.length : Nat) : Int)) ∧ w'.ownsRow B 65 3 v l.length (cellsChange (marksChange k l.length)) ∧ w.grownBy w' v.ownBlock := by
  rcases hA.2 with ⟨h1, h2⟩ | ⟨g, cap, cur, h1, _⟩
  · subst h1
    have hl : l = [] := List.length_eq_zero_iff.1 h2
    subst hl
    refine (markChangeS_nil k w).mono ?_
    rintro e w' ⟨rfl, rfl⟩
    exact ⟨rfl, World.ownsRow_nil _ _ _ _, World.grownBy.refl _ _⟩
  · subst h1
    exact markChangeS_is l hlen k h0 hk w hA

theorem markText_succ (M : Nat) (hk : M + 1 ≤ 1000000000) (w : World) : Calls Try.prog 59 #[.int .i64 ((M : Int) + 1)] w fun e w' => e = .returned (.string (mk (M + 1))) ∧ Below w.heap.size w w' := by
  have := markText_is (M + 1) (by omega) hk w
  simpa using this
set_option maxHeartbeats 2000000 in
set_option maxRecDepth 100000 in
theorem heldChangeS_is {a : Option Addr} {g off cap : Nat} (n : Nat) (hlen : n ≤ 1048576) (k : Nat) (h0 : 0 < k) (hk : k ≤ 100000000) (w : World) (hf : ChangeAt w a g off (marksChange k n)) :
    Calls Try.prog 34 #[.slice a n cap, .int .i64 (k : Int)] w fun e w' => e = .returned (.int .i64 ((k + 3 * n : Nat) : Int)) ∧ Below w.heap.size w w' := by
  have HF : Hid (ChangeAt w a g off (marksChange k n)) := hf
  clear hf
  go_enter Try.func34, Try.ntmps34
  go_wp2
  go_loopw [1, 5] (fun x i wr => ∃ j : Nat, j ≤ n ∧ i = .int .i64 (j : Int) ∧ x = .int .i64 ((k + 3 * j : Nat) : Int) ∧ Below w.heap.size w wr) (fun _ i _ => n - (intOf i).toNat)
  case atStart => exact ⟨0, Nat.zero_le _, rfl, rfl, Below.refl _ _⟩
  case round =>
    obtain ⟨j, hj, rfl, rfl, hbel⟩ := hrel
    by_cases hlt : j < n
    · have hjl : j < (marksChange k n).length := by rw [marksChange_len]; exact hlt
      obtain ⟨c0, c1, c2⟩ := (HF.out.kept hbel).2 j hjl
      have hgz := (HF.out.kept hbel).lt (by omega)
      rw [marksChange_at] at c0 c1 c2
      have ea := HF.out.1 (by omega)
      subst ea
      have hk0 : (0 : Int) ≤ (j : Int) := by omega
      have hk1 : (j : Int) < (n : Int) := by omega
      obtain ⟨M, hM⟩ : ∃ M : Nat, M = k + 3 * j := ⟨_, rfl⟩
      have hMb : 0 < M ∧ M ≤ 900000000 := by omega
      have HM : Hid (M = k + 3 * j) := hM
      rw [← hM] at c0 c1 c2 ⊢
      clear hM hjl
      simp only [markChange1] at c0 c1 c2
      obtain ⟨Bm, hBm⟩ : ∃ Bm : Bool, Bm = ((M + 2) % 3 == 0) := ⟨_, rfl⟩
      rw [← hBm] at c2
      have hmod : (((M : Int) + 1 + 1) % 3 == 0) = Bm := by rw [mark_mod, hBm]
      clear hBm
      go_wp2
      go_region_held3 (fun w' => w'.cell? ⟨g, off + j * 3, none⟩ = some (.string (mk M))) (first | go_keep | exact (hb1.cell (p := ⟨g, off + j * 3, none⟩) hgz).trans c0) (first | (go_at_call 59; refine (markText_is M hMb.1 (by omega) _).mono ?_; rintro e w1 ⟨rfl, hb1⟩))
      all_goals
        have d1 := (hb1.cell (p := ⟨g, off + j * 3 + 1, none⟩) hgz).trans c1
        have d2 := (hb1.cell (p := ⟨g, off + j * 3 + 2, none⟩) hgz).trans c2
        have hB1 : Below w.heap.size w w1 := (hbel.drew).trans (hb1.mono hbel.size)
        have hgz1 : g < w1.heap.size := Nat.lt_of_lt_of_le hgz hb1.size
        clear hb1 c0 c1 c2
        go_wp2
        go_region_held3 (fun w' => w'.cell? ⟨g, off + j * 3 + 1, none⟩ = some (.string (mk (M + 1)))) (first | go_keep | exact (hb2.cell (p := ⟨g, off + j * 3 + 1, none⟩) hgz1).trans d1) (first | (go_at_call 59; refine (markText_succ M (by omega) _).mono ?_; rintro e w2 ⟨rfl, hb2⟩))
        all_goals
          have e2 := (hb2.cell (p := ⟨g, off + j * 3 + 2, none⟩) hgz1).trans d2
          clear d1 d2
          go_wp2
          go_roundw
          case rel =>
            refine ⟨j + 1, by omega, by go_num, ?_, (hB1.drew).trans (hb2.mono hB1.size)⟩
            refine congrArg (Value.int .i64) ?_
            have := HM.out
            omega
          case measure => simp [intOf]; omega
    · have hk1 : ¬ (j : Int) < (n : Int) := by omega
      have HE : Hid (j = n) := by show _ = _; omega
      go_wp2
      go_ret
      exact ⟨by rw [← HE.out]; rfl, hbel⟩

set_option maxHeartbeats 1000000 in
theorem markBatch_is {B : Nat} {v : Value} (st : Int) (l : List ChangeL) (hlen : l.length ≤ 1048576) (w : World) (hA : w.ownsRow B 65 3 v l.length (cellsChange l)) :
    Calls Try.prog 27 #[.agg #[.int .i64 st, v], .int .i64 1] w fun e w' => e = .returned (.int .i64 ((1 + 3 * l.length : Nat) : Int)) ∧ w'.ownsRow B 65 3 v l.length (cellsChange (marksChange 1 l.length)) ∧ w.grownBy w' v.ownBlock := by
  obtain ⟨va, g, vc, rfl, _⟩ := cellsChange_slice (own_mono hA (Nat.zero_le _))
  have HA : Hid ((w.alloc (Obj.cells #[Value.int IntKind.i64 st, Value.slice va l.length vc] 33)).ownsRow B 65 3 (.slice va l.length vc) l.length (cellsChange l)) := hA.alloc _
  clear hA
  go_enter Try.func27, Try.ntmps27
  go_wp2_with fail
  refine (markChangeS_own l hlen 1 (by omega) (by omega) _ HA.out).mono ?_
  rintro e w1 ⟨rfl, hown, hg⟩
  have HO : Hid (w1.ownsRow B 65 3 (.slice va l.length vc) l.length (cellsChange (marksChange 1 l.length))) := hown
  have HG : Hid (w.grownBy w1 (Value.slice va l.length vc).ownBlock) := (World.grownBy_alloc w _ _).trans hg
  clear hown hg
  go_wp2
  go_ret
  exact ⟨rfl, HO.out, HG.out⟩
set_option maxHeartbeats 1000000 in
theorem heldBatch_is {a : Option Addr} {g off cap : Nat} (st : Int) (n : Nat) (hlen : n ≤ 1048576) (w : World) (hf : ChangeAt w a g off (marksChange 1 n)) :
    Calls Try.prog 30 #[.agg #[.int .i64 st, .slice a n cap], .int .i64 1] w fun e w' => e = .returned (.int .i64 ((1 + 3 * n : Nat) : Int)) ∧ Below w.heap.size w w' := by
  have HF : Hid (ChangeAt (w.alloc (Obj.cells #[Value.int IntKind.i64 st, Value.slice a n cap] 33)) a g off (marksChange 1 n)) := hf.kept ((Below.refl _ _).alloc (Nat.le_refl _) _)
  clear hf
  go_enter Try.func30, Try.ntmps30
  go_wp2_with fail
  refine (heldChangeS_is n hlen 1 (by omega) (by omega) _ HF.out).mono ?_
  rintro e w1 ⟨rfl, hb1⟩
  have hB : Below w.heap.size w w1 := ((Below.refl _ _).alloc (Nat.le_refl _) _).trans (hb1.mono (by simp))
  have hx : ¬ (((1 + 3 * n : Nat) : Int) < 0) := by omega
  go_wp2
  go_ret
  exact ⟨rfl, hB⟩
theorem marks_at {w : World} {B n : Nat} {v : Value} (h : w.ownsRow B 65 3 v n (cellsChange (marksChange 1 n))) : ∃ a g cap, v = .slice a n cap ∧ ChangeAt w a g 0 (marksChange 1 n) := by
  have h2 : w.ownsRow B 65 3 v (marksChange 1 n).length (cellsChange (marksChange 1 n)) := by rw [marksChange_len]; exact h
  obtain ⟨a, g, cap, h3, h4⟩ := cellsChange_slice h2
  rw [marksChange_len] at h3
  exact ⟨a, g, cap, h3, h4⟩
end Go.Proofs.Ytijopmkcaoefjaa
