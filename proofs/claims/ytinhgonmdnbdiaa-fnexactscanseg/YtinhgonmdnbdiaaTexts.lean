/- Lists of texts that a call owns; the law's own helpers over them, walked: they are compared, marked, and found marked. -/
import Derived.Test.YtinhgonmdnbdiaaImplSeal
import Derived.Test.YtinhgonmdnbdiaaMarkText
import Derived.Maps.AppendAt
namespace Go.Proofs.Ytinhgonmdnbdiaa
open Go.RowKit

theorem own_heap {w w' : World} {base : Nat} {v : Value} {n : Nat} {xs : List Value} (h : w.ownsRow base 9 1 v n xs) (e : w'.heap = w.heap) : w'.ownsRow base 9 1 v n xs := by
  unfold World.ownsRow at *
  rw [e]; exact h
theorem cell_at {w : World} {base g cap : Nat} {ps : List (List UInt8)} (h : w.ownsRow base 9 1 (.slice (some ⟨g, 0, none⟩) ps.length cap) ps.length (cellsS ps)) (k : Nat) (hk : k < ps.length) :
    w.cell? ⟨g, k, none⟩ = some (.string ⟨ps[k].toArray⟩) := by
  rw [h.cellAt k (by omega)]
  simp [cellsS, hk]

set_option maxHeartbeats 1000000 in
set_option maxRecDepth 100000 in
theorem eq_any {ps : List (List UInt8)} {va vb : Value} {B1 B2 : Nat} (hps : ps.length ≤ 20000) (w : World) (hA : w.ownsRow B1 9 1 va ps.length (cellsS ps)) (hB : w.ownsRow B2 9 1 vb ps.length (cellsS ps)) :
    Calls Try.prog 11 #[va, vb] w fun e w' => e = .returned (.bool true) ∧ w'.heap = w.heap ∧ Below w.heap.size w w' := by
  by_cases h0 : ps.length = 0
  · obtain ⟨x, c, rfl⟩ : ∃ x c, va = .slice x 0 c := by
      rcases hA.2 with ⟨rfl, _⟩ | ⟨g, cap, cur, rfl, _⟩
      · exact ⟨_, _, rfl⟩
      · exact ⟨_, _, by rw [h0]⟩
    obtain ⟨y, d, rfl⟩ : ∃ x c, vb = .slice x 0 c := by
      rcases hB.2 with ⟨rfl, _⟩ | ⟨g, cap, cur, rfl, _⟩
      · exact ⟨_, _, rfl⟩
      · exact ⟨_, _, by rw [h0]⟩
    clear hA hB h0
    go_enter Try.func11, Try.ntmps11
    go_wp2
    refine wp_loop_rounds 1 ?_
    rw [rounds_succ]
    go_wp2
    go_ret
    exact ⟨rfl, rfl, Below.refl _ _⟩
  · rcases hA.2 with ⟨rfl, h⟩ | ⟨ga, ca, cura, rfl, _⟩
    · exact absurd h h0
    rcases hB.2 with ⟨rfl, h⟩ | ⟨gb, cb, curb, rfl, _⟩
    · exact absurd h h0
    have HA : Hid (∀ k (hk : k < ps.length), w.cell? ⟨ga, k, none⟩ = some (.string ⟨ps[k].toArray⟩)) := fun k hk => cell_at hA k hk
    have HB : Hid (∀ k (hk : k < ps.length), w.cell? ⟨gb, k, none⟩ = some (.string ⟨ps[k].toArray⟩)) := fun k hk => cell_at hB k hk
    clear hA hB h0
    go_enter Try.func11, Try.ntmps11
    go_wp2
    go_loopw [5] (fun i wr => ∃ k : Nat, k ≤ ps.length ∧ i = .int .i64 (k : Int) ∧ wr.heap = w.heap ∧ Below w.heap.size w wr) (fun i _ => ps.length - (intOf i).toNat)
    case atStart => exact ⟨0, by omega, rfl, rfl, Below.refl _ _⟩
    case round =>
      obtain ⟨k, hk, rfl, hheap, hbel⟩ := hrel
      have HH : Hid (wr.heap = w.heap) := hheap
      clear hheap
      by_cases hlt : k < ps.length
      · have hk0 : (0 : Int) ≤ (k : Int) := by omega
        have hk1 : (k : Int) < (ps.length : Int) := by omega
        obtain ⟨q, HQ⟩ : ∃ q, Hid (q = ps[k]) := ⟨ps[k], (rfl : ps[k] = ps[k])⟩
        have ca1 : wr.cell? ⟨ga, k, none⟩ = some (.string ⟨q.toArray⟩) := by
          rw [World.cell?_of_block (w := w) (by rw [HH.out]), HA.out k hlt, HQ.out]
        have cb1 : wr.cell? ⟨gb, k, none⟩ = some (.string ⟨q.toArray⟩) := by
          rw [World.cell?_of_block (w := w) (by rw [HH.out]), HB.out k hlt, HQ.out]
        go_wp2
        go_quiet (fail)
        go_wp2
        go_roundw
        case rel => exact ⟨k + 1, by omega, by go_num, HH.out, below_drewN hbel _⟩
        case measure => simp [intOf]; omega
      · have hk1 : ¬ (k : Int) < (ps.length : Int) := by omega
        go_wp2
        go_ret
        exact ⟨rfl, HH.out, hbel⟩

/-- The row's content behind j marks. -/
def half (k n j : Nat) (ps : List (List UInt8)) : List (List UInt8) := (marks k n).take j ++ ps.drop j
theorem half_set {k n j : Nat} {ps : List (List UInt8)} (hn : ps.length = n) (hj : j < n) : (cellsS (half k n j ps)).set j (.string ⟨(mark (k + j)).toArray⟩) = cellsS (half k n (j + 1) ps) := by
  apply List.ext_getElem?
  intro i
  have hm := marks_len k n
  rw [List.getElem?_set]
  simp only [cellsS, half, List.length_map, List.length_append, List.length_take, List.length_drop, List.getElem?_map, List.getElem?_append, hm, hn]
  by_cases hij : j = i
  · subst hij
    have h1 : min (j + 1) n = j + 1 := by omega
    have h2 : min j n = j := by omega
    simp only [h1, h2, if_true]
    rw [if_pos (by omega), if_pos (by omega)]
    rw [List.getElem?_take_of_lt (by omega)]
    simp [marks, hj]
  · rw [if_neg hij]
    have h1 : min (j + 1) n = j + 1 := by omega
    have h2 : min j n = j := by omega
    simp only [h1, h2]
    by_cases hlt : i < j
    · rw [if_pos hlt, if_pos (by omega), List.getElem?_take_of_lt hlt, List.getElem?_take_of_lt (by omega)]
    · rw [if_neg hlt, if_neg (by omega), List.getElem?_drop, List.getElem?_drop]
      congr 2
      omega
theorem half_zero (k n : Nat) (ps : List (List UInt8)) : half k n 0 ps = ps := by simp [half]
theorem half_all {k n : Nat} {ps : List (List UInt8)} (hn : ps.length = n) : half k n n ps = marks k n := by
  have hm := marks_len k n
  simp only [half]
  rw [List.take_of_length_le (by omega), List.drop_eq_nil_of_le (by omega), List.append_nil]
theorem marks_at (k n j : Nat) (hj : j < n) : (marks k n)[j]'(by rw [marks_len]; exact hj) = mark (k + j) := by simp [marks]

set_option maxHeartbeats 1000000 in
set_option maxRecDepth 100000 in
theorem mark_any {ps : List (List UInt8)} {va : Value} {B n : Nat} (hn : ps.length = n) (hn2 : n ≤ 20000) (w : World) (hA : w.ownsRow B 9 1 va n (cellsS ps)) :
    Calls Try.prog 13 #[va, .int .i64 1] w fun e w' => e = .returned (.int .i64 ((n : Int) + 1)) ∧ w'.ownsRow B 9 1 va n (cellsS (marks 1 n)) ∧ w.grownBy w' va.ownBlock := by
  by_cases h0 : n = 0
  · subst h0
    obtain ⟨x, c, hva⟩ : ∃ x c, va = .slice x 0 c := by
      rcases hA.2 with ⟨rfl, _⟩ | ⟨g, cap, cur, rfl, _⟩
      · exact ⟨_, _, rfl⟩
      · exact ⟨_, _, rfl⟩
    have hps : ps = [] := List.length_eq_zero_iff.1 hn
    have HA : Hid (w.ownsRow B 9 1 va 0 (cellsS (marks 1 0))) := by subst hps; exact hA
    clear hA hps hn
    subst hva
    go_enter Try.func13, Try.ntmps13
    go_wp2
    refine wp_loop_rounds 1 ?_
    rw [rounds_succ]
    go_wp2
    go_ret
    exact ⟨rfl, HA.out, World.grownBy.refl _ _⟩
  · rcases hA.2 with ⟨rfl, h⟩ | ⟨g, cap, cur, rfl, _⟩
    · exact absurd h h0
    have HN : Hid (ps.length = n) := hn
    clear hn
    go_enter Try.func13, Try.ntmps13
    go_wp2
    go_loopw [1, 5] (fun x i wr => ∃ j : Nat, j ≤ n ∧ i = .int .i64 (j : Int) ∧ x = .int .i64 ((j : Int) + 1) ∧ wr.ownsRow B 9 1 (.slice (some ⟨g, 0, none⟩) n cap) n (cellsS (half 1 n j ps)) ∧ w.grownBy wr (some g)) (fun _ i _ => n - (intOf i).toNat)
    case atStart => exact ⟨0, by omega, rfl, rfl, by rw [half_zero]; exact hA, World.grownBy.refl _ _⟩
    case round =>
      obtain ⟨j, hj, rfl, rfl, hown, hgr⟩ := hrel
      by_cases hlt : j < n
      · have hk0 : (0 : Int) ≤ (j : Int) := by omega
        have hk1 : (j : Int) < (n : Int) := by omega
        go_wp2_with fail
        refine (markText_int ((j : Int) + 1) (by omega) (by omega) _).mono ?_
        rintro e w1 ⟨rfl, hb1⟩
        have hown1 := hown.kept (grown_of hb1 none) (Classical.em _)
        have hgr1 := hgr.trans (grown_of hb1 (some g))
        have hfz := hown1.frozenAt j
        have hl1 := hown1.1
        obtain ⟨u0, hcl⟩ : ∃ u0, w1.cell? ⟨g, j, none⟩ = some u0 := by
          rw [hown1.cellAt j (by omega)]
          exact ⟨_, List.getElem?_eq_getElem (by omega)⟩
        have hst := hown1.stored j (.string ⟨(mark (1 + j)).toArray⟩)
        rw [half_set HN.out hlt, Nat.add_comm 1 j] at hst
        have HS : Hid (_ ∧ _) := hst
        clear hst hl1
        go_wp2
        go_roundw
        case rel => exact ⟨j + 1, by omega, by go_num, by go_num, HS.out.1, hgr1.trans HS.out.2⟩
        case measure => simp [intOf]; omega
      · have hk1 : ¬ (j : Int) < (n : Int) := by omega
        have HJ : Hid (j = n) := by show _ = _; omega
        go_wp2
        go_ret
        refine ⟨?_, ?_, hgr⟩
        · rw [HJ.out]; rfl
        · have := hown
          rw [HJ.out, half_all HN.out] at this
          exact this

set_option maxHeartbeats 1000000 in
set_option maxRecDepth 100000 in
theorem held_any {va : Value} {B n : Nat} (hn2 : n ≤ 20000) (w : World) (hA : w.ownsRow B 9 1 va n (cellsS (marks 1 n))) :
    Calls Try.prog 15 #[va, .int .i64 1] w fun e w' => e = .returned (.int .i64 ((n : Int) + 1)) ∧ Below w.heap.size w w' := by
  by_cases h0 : n = 0
  · subst h0
    obtain ⟨x, c, hva⟩ : ∃ x c, va = .slice x 0 c := by
      rcases hA.2 with ⟨rfl, _⟩ | ⟨g, cap, cur, rfl, _⟩
      · exact ⟨_, _, rfl⟩
      · exact ⟨_, _, rfl⟩
    clear hA
    subst hva
    go_enter Try.func15, Try.ntmps15
    go_wp2
    refine wp_loop_rounds 1 ?_
    rw [rounds_succ]
    go_wp2
    go_ret
    exact ⟨rfl, Below.refl _ _⟩
  · rcases hA.2 with ⟨rfl, h⟩ | ⟨g, cap, cur, rfl, _⟩
    · exact absurd h h0
    have hg := (hA.lt g rfl).2
    have HA : Hid (∀ j, j < n → w.cell? ⟨g, j, none⟩ = some (.string ⟨(mark (j + 1)).toArray⟩)) := by
      intro j hj
      rw [hA.cellAt j (by omega)]
      have := marks_at 1 n j hj
      simp only [cellsS, List.getElem?_map]
      rw [List.getElem?_eq_getElem (by rw [marks_len]; exact hj), this, Nat.add_comm 1 j]
      rfl
    clear hA
    go_enter Try.func15, Try.ntmps15
    go_wp2
    go_loopw [1, 5] (fun x i wr => ∃ j : Nat, j ≤ n ∧ i = .int .i64 (j : Int) ∧ x = .int .i64 ((j : Int) + 1) ∧ Below w.heap.size w wr) (fun _ i _ => n - (intOf i).toNat)
    case atStart => exact ⟨0, by omega, rfl, rfl, Below.refl _ _⟩
    case round =>
      obtain ⟨j, hj, rfl, rfl, hbel⟩ := hrel
      by_cases hlt : j < n
      · have hk0 : (0 : Int) ≤ (j : Int) := by omega
        have hk1 : (j : Int) < (n : Int) := by omega
        obtain ⟨q, HQ⟩ : ∃ q, Hid (q = mark (j + 1)) := ⟨mark (j + 1), (rfl : mark (j + 1) = mark (j + 1))⟩
        have hc : wr.cell? ⟨g, j, none⟩ = some (.string ⟨q.toArray⟩) := by
          rw [hbel.cell (p := ⟨g, j, none⟩) hg, HA.out j hlt, HQ.out]
        have hgz : g < wr.heap.size := by have := hbel.size; omega
        have hmk : ∀ wx, Calls Try.prog 33 #[.int .i64 ((j : Int) + 1)] wx fun e w' => e = .returned (.string ⟨q.toArray⟩) ∧ Below wx.heap.size wx w' := fun wx => by
          have := markText_int ((j : Int) + 1) (by omega) (by omega) wx
          rw [show ((j : Int) + 1).toNat = j + 1 from by omega, ← HQ.out] at this
          exact this
        have HMK : Hid (∀ wx, Calls Try.prog 33 #[.int .i64 ((j : Int) + 1)] wx fun e w' => e = .returned (.string ⟨q.toArray⟩) ∧ Below wx.heap.size wx w') := hmk
        clear hmk
        go_wp2
        go_region_held3 (fun w' => w'.cell? ⟨g, j, none⟩ = some (.string ⟨q.toArray⟩)) (first | go_keep | (rw [hb1.cell (p := ⟨g, j, none⟩) hgz]; assumption)) (first | (go_at_call 33; refine (HMK.out _).mono ?_; rintro e w1 ⟨rfl, hb1⟩))
        go_wp2
        go_roundw
        case rel => exact ⟨j + 1, by omega, by go_num, by go_num, (hbel.drew).trans (hb1.mono hbel.size)⟩
        case measure => simp [intOf]; omega
      · have hk1 : ¬ (j : Int) < (n : Int) := by omega
        have HJ : Hid (j = n) := by show _ = _; omega
        go_wp2
        go_ret
        exact ⟨by rw [HJ.out]; rfl, hbel⟩
end Go.Proofs.Ytinhgonmdnbdiaa
