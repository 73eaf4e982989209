/- VoteText of the program, walked; the law of VoteText. -/
import Derived.Test.YtahpoemmlpbgdaaDoorVoteA
import Derived.Deep.RegionHeld
namespace Go.Proofs.YtahpoemmlpbgdaaDoor
open Go.RowKit
set_option linter.unusedVariables false
set_option linter.unusedSimpArgs false

theorem two_at {w : World} {q : Nat} {a0 a1 : Value} {t : TypeId} (h : w.heap[q]? = some (.cells #[a0, a1] t (0, 0))) : w.cell? ⟨q, 0, none⟩ = some a0 ∧ w.cell? ⟨q, 1, none⟩ = some a1 := by
  have c0 := cell_of_row _ _ 0 _ _ _ h
  have c1 := cell_of_row _ _ 1 _ _ _ h
  simp at c0 c1
  exact ⟨c0, c1⟩
set_option maxHeartbeats 2000000 in
set_option maxRecDepth 100000 in
theorem implVote_is (t n : Int) (w : World) (hN : NoB w) : Calls Tryd.prog 7 #[.int .i64 t, .int .i64 n] w fun en w' => en = .returned (voteTuple t n) ∧ Below w.heap.size w w' := by
  have HC : Hid (Calls Tryd.prog 15 #[.int .i64 t, .int .i64 n] w fun en w' => en = .returned (btV t n) ∧ Below w.heap.size w w') := ballotOf_is t n w hN
  have HN : Hid (NoB w) := hN
  clear hN
  by_cases hv : voteB t n = true
  · have hz := voteRec_size hv
    rw [btV_yes hv] at HC
    rw [voteTuple, if_pos hv]
    have hv2 := voteB_iff.1 hv
    have e0 : ((t : Int) == -1) = false := by simp; omega
    have sz1 := varS_len t hv2.1.1 hv2.1.2
    have sz2 := varS_len n hv2.2.1 (by omega)
    obtain ⟨T1, hT1⟩ : ∃ T, T = varS t := ⟨_, rfl⟩
    obtain ⟨T2, hT2⟩ : ∃ T, T = varS n := ⟨_, rfl⟩
    have hT : T1 ++ T2 = voteRec t n := by rw [hT1, hT2]; rfl
    have HV1 : Hid (∀ W, Calls Tryd.prog 17 #[.int .i64 t] W fun en w' => en = .returned (.string T1) ∧ Below W.heap.size W w') := fun W => by rw [hT1]; exact varOf_q t hv2.1.1 (by omega) W
    have HV2 : Hid (∀ W, Calls Tryd.prog 17 #[.int .i64 n] W fun en w' => en = .returned (.string T2) ∧ Below W.heap.size W w') := fun W => by rw [hT2]; exact varOf_q n hv2.2.1 (by omega) W
    have HF : Hid (∀ W, Calls Tryd.prog 16 #[.string (T1 ++ T2)] W fun en w' => en = .returned (frameTuple (voteRec t n)) ∧ Below W.heap.size W w') := fun W => by rw [hT]; exact implFrame_yes _ hz.1 (by omega) W
    rw [← hT1] at sz1
    rw [← hT2] at sz2
    clear hT hT1 hT2 hz hv hv2
    have z1 : ¬ 9223372036854775807 < T1.size + T2.size := by omega
    unfold frameTuple at HF ⊢
    go_enter Tryd.func7, Tryd.ntmps7
    go_wp2_with fail
    refine Calls.mono HC.out ?_
    rintro e w1 ⟨rfl, hb1⟩
    obtain ⟨q, hq⟩ : ∃ q, q = w1.heap.size := ⟨_, rfl⟩
    obtain ⟨W, hW⟩ : ∃ W, W = w1.alloc (Obj.cells #[.int .i64 t, .int .i64 n] 36) := ⟨_, rfl⟩
    have hbW : Below w1.heap.size w1 W := by rw [hW]; exact (Below.refl _ _).alloc (Nat.le_refl _) _
    have HB : Hid (Below w.heap.size w W) := hb1.trans (hbW.mono hb1.size)
    have hcell : ∀ W', Below W.heap.size W W' → W'.cell? ⟨q, 0, none⟩ = some (.int .i64 t) ∧ W'.cell? ⟨q, 1, none⟩ = some (.int .i64 n) := fun W' h => by
      have h0 : W.heap[q]? = some (.cells #[.int .i64 t, .int .i64 n] 36 (0, 0)) := by rw [hW, hq]; exact heap_alloc_new w1 _
      exact two_at ((h.block q (Array.getElem?_eq_some_iff.1 h0).1).trans h0)
    have HLA : Hid (∀ W', Below W.heap.size W W' → W'.cell? ⟨q, 0, none⟩ = some (.int .i64 t) ∧ W'.cell? ⟨q, 1, none⟩ = some (.int .i64 n)) := hcell
    obtain ⟨n0, n1, n2⟩ := (HN.out.up hb1).alloc (Obj.cells #[.int .i64 t, .int .i64 n] 36)
    have HK : Hid (∀ X X' : World, Below W.heap.size W X → Below X.heap.size X X' → Below W.heap.size W X') := fun X X' a b => a.trans (b.mono a.size)
    have HEND : Hid (∀ X, Below W.heap.size W X → Below w.heap.size w X) := fun X a => HB.out.trans (a.mono HB.out.size)
    have BD : Below W.heap.size W W.drew := (Below.refl _ _).drew
    clear hbW hcell hb1 HC HN
    go_wp2_with fail
    rw [← hW, ← hq]
    clear hW hq n0 n1 n2
    go_region_held (fun w' => (w'.cell? ⟨q, 0, none⟩ = some (.int .i64 t) ∧ w'.cell? ⟨q, 1, none⟩ = some (.int .i64 n)) ∧ Below W.heap.size W w')
      (first | assumption | exact ⟨HLA.out _ (by assumption), by assumption⟩ | fail)
      (first | (go_at_call 17; (first | (with_reducible refine Calls.mono (HV1.out _) ?_) | (with_reducible refine Calls.mono (HV2.out _) ?_) | fail); rintro en w5 ⟨rfl, hb5⟩; have hq5 := HK.out _ _ (And.right (by assumption)) hb5; clear hb5) | (go_at_call 16; refine Calls.mono (HF.out _) ?_; rintro en w5 ⟨rfl, hb5⟩; have hq5 := HK.out _ _ (And.right (by assumption)) hb5; clear hb5) | fail)
    all_goals (
      go_wp2
      go_ret2
      exact ⟨rfl, HEND.out _ (And.right (by assumption))⟩)
  · have hv' : voteB t n = false := by simpa using hv
    rw [btV_no hv'] at HC
    rw [voteTuple, if_neg hv]
    clear hv hv'
    go_enter Tryd.func7, Tryd.ntmps7
    go_wp2_with fail
    refine Calls.mono HC.out ?_
    rintro e w1 ⟨rfl, hb1⟩
    obtain ⟨n0, n1, n2⟩ := (HN.out.up hb1).alloc (Obj.cells #[.int .i64 (-1), .int .i64 0] 36)
    have HB : Hid (Below w.heap.size w (w1.alloc (Obj.cells #[.int .i64 (-1), .int .i64 0] 36))) := hb1.trans (((Below.refl _ _).alloc (Nat.le_refl _) _).mono hb1.size)
    clear hb1
    go_wp2
    go_ret2
    exact ⟨rfl, HB.out⟩
set_option maxHeartbeats 1000000 in
theorem lawVote_any (t n : Int) (w : World) (hN : NoB w) : Calls Tryd.prog 3 #[.int .i64 t, .int .i64 n] w fun en w' => en = .returned (.bool true) ∧ Below w.heap.size w w' := by
  obtain ⟨F, R, hF⟩ : ∃ F R, voteTuple t n = .tuple #[.string F, .bool R] := by
    unfold voteTuple frameTuple
    split
    · exact ⟨_, _, rfl⟩
    · exact ⟨_, _, rfl⟩
  have HS : Hid (∀ W, Calls Tryd.prog 6 #[.int .i64 t, .int .i64 n] W fun en w' => en = .returned (.tuple #[.string F, .bool R]) ∧ Below W.heap.size W w') := fun W => by rw [← hF]; exact specVote_is t n W
  have HI : Hid (∀ W, NoB W → Calls Tryd.prog 7 #[.int .i64 t, .int .i64 n] W fun en w' => en = .returned (.tuple #[.string F, .bool R]) ∧ Below W.heap.size W w') := fun W h => by rw [← hF]; exact implVote_is t n W h
  have HN : Hid (NoB w) := hN
  clear hF hN
  go_enter Tryd.func3, Tryd.ntmps3
  go_wp2_with (first | (go_at_call 6; refine (HS.out _).mono ?_; rintro e w1 ⟨rfl, hb1⟩) | (go_at_call 7; refine (HI.out _ (HN.out.up hb1)).mono ?_; rintro e w2 ⟨rfl, hb2⟩))
  go_ret
  exact ⟨rfl, hb1.trans (hb2.mono hb1.size)⟩
end Go.Proofs.YtahpoemmlpbgdaaDoor
