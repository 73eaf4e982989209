/- Texts are marked from any number on, and found marked: markStringS, heldStringS, walked. -/
import Derived.Test.YtinhgonmdnbdiaaTexts
namespace Go.Proofs.Ytinhgonmdnbdiaa
open Go.RowKit
set_option linter.unusedVariables false

set_option maxHeartbeats 1000000 in
set_option maxRecDepth 100000 in
theorem mark_from (k : Nat) (h0k : 0 < k) (hkk : k ≤ 100000000) {ps : List (List UInt8)} {va : Value} {B n : Nat} (hn : ps.length = n) (hn2 : n ≤ 20000) (w : World) (hA : w.ownsRow B 9 1 va n (cellsS ps)) :
    Calls Try.prog 13 #[va, .int .i64 (k : Int)] w fun e w' => e = .returned (.int .i64 ((k + n : Nat) : Int)) ∧ w'.ownsRow B 9 1 va n (cellsS (marks k n)) ∧ w.grownBy w' va.ownBlock := by
  by_cases h0 : n = 0
  · subst h0
    obtain ⟨x, c, hva⟩ : ∃ x c, va = .slice x 0 c := by
      rcases hA.2 with ⟨rfl, _⟩ | ⟨g, cap, cur, rfl, _⟩
      · exact ⟨_, _, rfl⟩
      · exact ⟨_, _, rfl⟩
    have hps : ps = [] := List.length_eq_zero_iff.1 hn
    have HA : Hid (w.ownsRow B 9 1 va 0 (cellsS (marks k 0))) := by subst hps; exact hA
    clear hA hps hn
    subst hva
    go_enter Try.func13, Try.ntmps13
    go_wp2
    refine wp_loop_rounds 1 ?_
    rw [rounds_succ]
    go_wp2
    go_ret
    exact ⟨rfl, HA.out, World.grownBy.refl _ _⟩
  · rcases hA.2 with ⟨rfl, h⟩ | ⟨g, cap, cur, rfl, _⟩
    · exact absurd h h0
    have HN : Hid (ps.length = n) := hn
    clear hn
    go_enter Try.func13, Try.ntmps13
    go_wp2
    go_loopw [1, 5] (fun x i wr => ∃ j : Nat, j ≤ n ∧ i = .int .i64 (j : Int) ∧ x = .int .i64 ((k + j : Nat) : Int) ∧ wr.ownsRow B 9 1 (.slice (some ⟨g, 0, none⟩) n cap) n (cellsS (half k n j ps)) ∧ w.grownBy wr (some g)) (fun _ i _ => n - (intOf i).toNat)
    case atStart => exact ⟨0, by omega, rfl, rfl, by rw [half_zero]; exact hA, World.grownBy.refl _ _⟩
    case round =>
      obtain ⟨j, hj, rfl, rfl, hown, hgr⟩ := hrel
      by_cases hlt : j < n
      · have hk0 : (0 : Int) ≤ (j : Int) := by omega
        have hk1 : (j : Int) < (n : Int) := by omega
        obtain ⟨M, hM⟩ : ∃ M : Nat, M = k + j := ⟨_, rfl⟩
        have HM : Hid (M = k + j) := hM
        have hMb : 0 < M ∧ M ≤ 100020000 := by omega
        rw [← hM]
        clear hM
        go_wp2_with fail
        refine (markText_int (M : Int) (by omega) (by omega) _).mono ?_
        rintro e w1 ⟨rfl, hb1⟩
        have hown1 := hown.kept (grown_of hb1 none) (Classical.em _)
        have hgr1 := hgr.trans (grown_of hb1 (some g))
        have hfz := hown1.frozenAt j
        have hl1 := hown1.1
        obtain ⟨u0, hcl⟩ : ∃ u0, w1.cell? ⟨g, j, none⟩ = some u0 := by
          rw [hown1.cellAt j (by omega)]
          exact ⟨_, List.getElem?_eq_getElem (by omega)⟩
        have hst := hown1.stored j (.string ⟨(mark (k + j)).toArray⟩)
        rw [half_set HN.out hlt, ← HM.out] at hst
        have HS : Hid (_ ∧ _) := hst
        clear hst hl1
        go_wp2
        go_roundw
        case rel => exact ⟨j + 1, by omega, by go_num, congrArg (Value.int .i64) (by have := HM.out; omega), HS.out.1, hgr1.trans HS.out.2⟩
        case measure => simp [intOf]; omega
      · have hk1 : ¬ (j : Int) < (n : Int) := by omega
        have HJ : Hid (j = n) := by show _ = _; omega
        go_wp2
        go_ret
        refine ⟨?_, ?_, hgr⟩
        · rw [HJ.out]; rfl
        · have := hown
          rw [HJ.out, half_all HN.out] at this
          exact this

set_option maxHeartbeats 1000000 in
set_option maxRecDepth 100000 in
theorem held_from (k : Nat) (h0k : 0 < k) (hkk : k ≤ 100000000) {va : Value} {B n : Nat} (hn2 : n ≤ 20000) (w : World) (hA : w.ownsRow B 9 1 va n (cellsS (marks k n))) :
    Calls Try.prog 15 #[va, .int .i64 (k : Int)] w fun e w' => e = .returned (.int .i64 ((k + n : Nat) : Int)) ∧ Below w.heap.size w w' := by
  by_cases h0 : n = 0
  · subst h0
    obtain ⟨x, c, hva⟩ : ∃ x c, va = .slice x 0 c := by
      rcases hA.2 with ⟨rfl, _⟩ | ⟨g, cap, cur, rfl, _⟩
      · exact ⟨_, _, rfl⟩
      · exact ⟨_, _, rfl⟩
    clear hA
    subst hva
    go_enter Try.func15, Try.ntmps15
    go_wp2
    refine wp_loop_rounds 1 ?_
    rw [rounds_succ]
    go_wp2
    go_ret
    exact ⟨rfl, Below.refl _ _⟩
  · rcases hA.2 with ⟨rfl, h⟩ | ⟨g, cap, cur, rfl, _⟩
    · exact absurd h h0
    have hg := (hA.lt g rfl).2
    have HA : Hid (∀ j, j < n → w.cell? ⟨g, j, none⟩ = some (.string ⟨(mark (k + j)).toArray⟩)) := by
      intro j hj
      rw [hA.cellAt j (by omega)]
      have := marks_at k n j hj
      simp only [cellsS, List.getElem?_map]
      rw [List.getElem?_eq_getElem (by rw [marks_len]; exact hj), this]
      rfl
    clear hA
    go_enter Try.func15, Try.ntmps15
    go_wp2
    go_loopw [1, 5] (fun x i wr => ∃ j : Nat, j ≤ n ∧ i = .int .i64 (j : Int) ∧ x = .int .i64 ((k + j : Nat) : Int) ∧ Below w.heap.size w wr) (fun _ i _ => n - (intOf i).toNat)
    case atStart => exact ⟨0, by omega, rfl, rfl, Below.refl _ _⟩
    case round =>
      obtain ⟨j, hj, rfl, rfl, hbel⟩ := hrel
      by_cases hlt : j < n
      · have hk0 : (0 : Int) ≤ (j : Int) := by omega
        have hk1 : (j : Int) < (n : Int) := by omega
        obtain ⟨M, hM⟩ : ∃ M : Nat, M = k + j := ⟨_, rfl⟩
        have HM : Hid (M = k + j) := hM
        have hMb : 0 < M ∧ M ≤ 100020000 := by omega
        obtain ⟨q, HQ⟩ : ∃ q, Hid (q = mark M) := ⟨mark M, (rfl : mark M = mark M)⟩
        have hc : wr.cell? ⟨g, j, none⟩ = some (.string ⟨q.toArray⟩) := by
          rw [hbel.cell (p := ⟨g, j, none⟩) hg, HA.out j hlt, HQ.out, hM]
        have hgz : g < wr.heap.size := by have := hbel.size; omega
        have hmk : ∀ wx, Calls Try.prog 33 #[.int .i64 (M : Int)] wx fun e w' => e = .returned (.string ⟨q.toArray⟩) ∧ Below wx.heap.size wx w' := fun wx => by
          have := markText_int (M : Int) (by omega) (by omega) wx
          rw [show (M : Int).toNat = M from by omega, ← HQ.out] at this
          exact this
        have HMK : Hid (∀ wx, Calls Try.prog 33 #[.int .i64 (M : Int)] wx fun e w' => e = .returned (.string ⟨q.toArray⟩) ∧ Below wx.heap.size wx w') := hmk
        clear hmk
        rw [← hM]
        clear hM
        go_wp2
        go_region_held3 (fun w' => w'.cell? ⟨g, j, none⟩ = some (.string ⟨q.toArray⟩)) (first | go_keep | (rw [hb1.cell (p := ⟨g, j, none⟩) hgz]; assumption)) (first | (go_at_call 33; refine (HMK.out _).mono ?_; rintro e w1 ⟨rfl, hb1⟩))
        go_wp2
        go_roundw
        case rel => exact ⟨j + 1, by omega, by go_num, congrArg (Value.int .i64) (by have := HM.out; omega), (hbel.drew).trans (hb1.mono hbel.size)⟩
        case measure => simp [intOf]; omega
      · have hk1 : ¬ (j : Int) < (n : Int) := by omega
        have HJ : Hid (j = n) := by show _ = _; omega
        go_wp2
        go_ret
        exact ⟨by rw [HJ.out]; rfl, hbel⟩
end Go.Proofs.Ytinhgonmdnbdiaa
