/- The draw of a vote, and the law of votes, walked. -/
import Derived.Test.YtahpoemmlpbgdaaDoorMathVote
import Derived.Test.YtahpoemmlpbgdaaDoorDrawA
namespace Go.Proofs.YtahpoemmlpbgdaaDoor
open Go.RowKit
set_option linter.unusedVariables false
set_option linter.unusedSimpArgs false

theorem ints3 (x0 x1 x2 : Int) (h0 : -9223372036854775808 ≤ x0 ∧ x0 ≤ 9223372036854775807) (h1 : -9223372036854775808 ≤ x1 ∧ x1 ≤ 9223372036854775807) (h2 : -9223372036854775808 ≤ x2 ∧ x2 ≤ 9223372036854775807) :
    ∀ j, j < 3 → ∃ v : Int, (#[.int .i64 x0, .int .i64 x1, .int .i64 x2] : Array Value)[j]? = some (.int .i64 v) ∧ -9223372036854775808 ≤ v ∧ v ≤ 9223372036854775807 := by
  intro j hj
  match j, hj with
  | 0, _ => exact ⟨x0, rfl, h0⟩
  | 1, _ => exact ⟨x1, rfl, h1⟩
  | 2, _ => exact ⟨x2, rfl, h2⟩
theorem ints5 (x0 x1 x2 x3 x4 : Int) (h0 : -9223372036854775808 ≤ x0 ∧ x0 ≤ 9223372036854775807) (h1 : -9223372036854775808 ≤ x1 ∧ x1 ≤ 9223372036854775807) (h2 : -9223372036854775808 ≤ x2 ∧ x2 ≤ 9223372036854775807) (h3 : -9223372036854775808 ≤ x3 ∧ x3 ≤ 9223372036854775807) (h4 : -9223372036854775808 ≤ x4 ∧ x4 ≤ 9223372036854775807) :
    ∀ j, j < 5 → ∃ v : Int, (#[.int .i64 x0, .int .i64 x1, .int .i64 x2, .int .i64 x3, .int .i64 x4] : Array Value)[j]? = some (.int .i64 v) ∧ -9223372036854775808 ≤ v ∧ v ≤ 9223372036854775807 := by
  intro j hj
  match j, hj with
  | 0, _ => exact ⟨x0, rfl, h0⟩
  | 1, _ => exact ⟨x1, rfl, h1⟩
  | 2, _ => exact ⟨x2, rfl, h2⟩
  | 3, _ => exact ⟨x3, rfl, h3⟩
  | 4, _ => exact ⟨x4, rfl, h4⟩
set_option maxHeartbeats 1000000 in
theorem place_any {B g len cap b off : Nat} {a : Option Addr} {z : Nat → Int} (w : World) (hc : Cur B w g a len cap b off z) :
    Calls Tryd.prog 26 #[.pointer (some ⟨g, 0, none⟩), .int .i64 5] w fun e w' => ∃ x : Int, e = .returned (.int .i64 x) ∧ Cur B w' g a len cap b off z ∧ w.grownBy w' (some g) := by
  have HC : Hid (Cur B w g a len cap b off z) := hc
  clear hc
  go_enter Tryd.func26, Tryd.ntmps26
  go_wp2_with fail
  refine (once_any 15 (by omega) _ HC.out).mono ?_
  rintro e w1 ⟨y, rfl, hc1, hg1⟩
  have HC1 : Hid (Cur B w1 g a len cap b off z) := hc1
  have HG1 : Hid (w.grownBy w1 (some g)) := hg1
  have HP : Hid (Calls Tryd.prog 25 #[.pointer (some ⟨g, 0, none⟩), .slice (some ⟨w1.heap.size, 0, none⟩) 5 5] (w1.alloc (.cells #[.int .i64 (-1), .int .i64 5, .int .i64 6, .int .i64 9223372036854775807, .int .i64 (-9223372036854775808)] 3)) fun e w' => ∃ x : Int, e = .returned (.int .i64 x) ∧ -9223372036854775808 ≤ x ∧ x ≤ 9223372036854775807 ∧ Cur B w' g a len cap b off z ∧ w1.grownBy w' (some g)) := pickInt_new w1 hc1 _ 5 (by omega) (by omega) (ints5 _ _ _ _ _ (by omega) (by omega) (by omega) (by omega) (by omega))
  clear hc1 hg1 HC
  cases hy : (y == 0) with
  | true =>
    go_wp2_with fail
    refine Calls.mono HP.out ?_
    rintro e w2 ⟨x, rfl, _, _, hc2, hg2⟩
    go_wp2
    go_ret
    exact ⟨x, rfl, hc2, HG1.out.trans hg2⟩
  | false =>
    go_wp2_with fail
    refine (below_any 5 (by omega) _ HC1.out).mono ?_
    rintro e w2 ⟨x, rfl, _, hc2, hg2⟩
    go_wp2
    go_ret
    exact ⟨x, rfl, hc2, HG1.out.trans hg2⟩
set_option maxHeartbeats 1000000 in
theorem drawVote_any {B cap len b off : Nat} {a : Option Addr} {z : Nat → Int} (w : World) (hB : B ≤ w.heap.size) (hc : Code B w a len b off z) :
    Calls Tryd.prog 11 #[.slice a len cap] w fun e w' => ∃ t n : Int, e = .returned (.tuple #[.int .i64 t, .int .i64 n]) ∧ Below w.heap.size w w' := by
  have HC : Hid (Code B w a len b off z) := hc
  clear hc
  obtain ⟨g, hg⟩ : ∃ g, g = w.heap.size := ⟨_, rfl⟩
  have HG : Hid (g = w.heap.size) := hg
  have HQ : Hid (Calls Tryd.prog 22 #[.slice a len cap] w fun e w' => e = .returned (.pointer (some ⟨g, 0, none⟩)) ∧ Cur B w' g a len cap b off z ∧ Below w.heap.size w w') := by rw [hg]; exact new_any w hB HC.out
  clear hg
  have HUP : Hid (∀ X Y : World, Below w.heap.size w X → X.grownBy Y (some g) → Below w.heap.size w Y) := fun X Y h1 h2 => h1.grown h2 h1.size (fun q e => by cases e; rw [HG.out]; exact Nat.le_refl _)
  go_enter Tryd.func11, Tryd.ntmps11
  go_wp2_with fail
  refine Calls.mono HQ.out ?_
  rintro e w1 ⟨rfl, hc1, hb1⟩
  have HC1 : Hid (Cur B w1 g a len cap b off z) := hc1
  have HB1 : Hid (Below w.heap.size w w1) := hb1
  clear hc1 hb1 HQ
  go_wp2_with fail
  refine (below_any 300 (by omega) _ HC1.out).mono ?_
  rintro e w2 ⟨x, rfl, _, hc2, hg2⟩
  have HC2 : Hid (Cur B w2 g a len cap b off z) := hc2
  have HB2 : Hid (Below w.heap.size w w2) := HUP.out _ _ HB1.out hg2
  clear hc2 hg2 HC1 HB1
  go_wp2_with fail
  refine (once_any 8 (by omega) _ HC2.out).mono ?_
  rintro e w3 ⟨y, rfl, hc3, hg3⟩
  have HC3 : Hid (Cur B w3 g a len cap b off z) := hc3
  have HB3 : Hid (Below w.heap.size w w3) := HUP.out _ _ HB2.out hg3
  have HP : Hid (Calls Tryd.prog 25 #[.pointer (some ⟨g, 0, none⟩), .slice (some ⟨w3.heap.size, 0, none⟩) 3 3] (w3.alloc (.cells #[.int .i64 (-1), .int .i64 100000, .int .i64 100001] 3)) fun e w' => ∃ x : Int, e = .returned (.int .i64 x) ∧ -9223372036854775808 ≤ x ∧ x ≤ 9223372036854775807 ∧ Cur B w' g a len cap b off z ∧ w3.grownBy w' (some g)) := pickInt_new w3 hc3 _ 3 (by omega) (by omega) (ints3 _ _ _ (by omega) (by omega) (by omega))
  clear hc3 hg3 HC2 HB2
  cases hy : (y == 0) with
  | true =>
    go_wp2_with fail
    refine Calls.mono HP.out ?_
    rintro e w4 ⟨x4, rfl, _, _, hc4, hg4⟩
    have HC4 : Hid (Cur B w4 g a len cap b off z) := hc4
    have HB4 : Hid (Below w.heap.size w w4) := HUP.out _ _ HB3.out hg4
    clear hc4 hg4
    go_wp2_with fail
    refine (place_any _ HC4.out).mono ?_
    rintro e w5 ⟨n, rfl, hc5, hg5⟩
    go_wp2
    go_ret2
    exact ⟨x4, n, rfl, HUP.out _ _ HB4.out hg5⟩
  | false =>
    go_wp2_with fail
    refine (place_any _ HC3.out).mono ?_
    rintro e w5 ⟨n, rfl, hc5, hg5⟩
    go_wp2
    go_ret2
    exact ⟨x, n, rfl, HUP.out _ _ HB3.out hg5⟩
theorem votes_read (s : ByteArray) (hs : s.size ≤ 20000) {ts : List (List UInt8)} {tl : List UInt8} (h : s.data.toList = [] ++ (Words.frames ts ++ tl)) (hr : ∀ t ∈ ts, Words.okRec t) (hl : ts.length ≤ 2) (h2 : 2 ≤ s.size) (ht : tl = [] ∨ tl = [5]) {T N : Int} {E : Nat} (hg : goV ts 0 0 0 = (T, N, E)) (w : World) (hN : NoB w) :
    Calls Tryd.prog 9 #[.string s] w fun en w' => en = .returned (.tuple #[.int .i64 T, .int .i64 N, .int .i64 (E : Int)]) ∧ Below w.heap.size w w' := by
  have hu : ∀ W : World, Calls Tryd.prog 20 #[.string s] W fun e w' => ∃ v, e = .returned (unT v (Words.stop (s.size + 1) s.data.toList 0)) ∧ w'.ownsRow W.heap.size 9 1 v ts.length (cellsS ts) ∧ Below W.heap.size W w' := fun W => by
    have := implUn_is s hs W
    rw [un_file s ts tl h hr (by omega) ht] at this
    exact this
  exact implRV_is s hu (by omega) hr hg w hN
theorem frame_vote_size {t n : Int} (h : voteB t n = true) : 6 ≤ (frameB (voteRec t n)).size ∧ (frameB (voteRec t n)).size ≤ 100 := by
  have hz := voteRec_size h
  have e : (frameB (voteRec t n)).size = (Words.var (voteRec t n).size).length + 4 + (voteRec t n).size := by
    have h1 : (frameB (voteRec t n)).size = (frameB (voteRec t n)).data.toList.length := Array.length_toList.symm
    rw [h1, frameB_list, Words.frame_len]
    have h2 : (voteRec t n).data.toList.length = (voteRec t n).size := Array.length_toList
    rw [h2]
  have h1 := Words.var_len (voteRec t n).size
  have h2 := Words.var_pos (voteRec t n).size
  omega
theorem app_nilB (F : ByteArray) : F ++ (⟨#[]⟩ : ByteArray) = F := by
  have h : (F ++ (⟨#[]⟩ : ByteArray)).data.toList = F.data.toList := by rw [app_list]; simp
  exact ByteArray.ext (Array.toList_inj.1 h)
theorem tl_size (tl : List UInt8) : (⟨tl.toArray⟩ : ByteArray).size = tl.length := by show tl.toArray.size = _; simp
theorem votes_two {t n : Int} (hv : voteB t n = true) (tl : List UInt8) (ht : tl = [] ∨ tl = [5]) (w : World) (hN : NoB w) :
    Calls Tryd.prog 9 #[.string (frameB (voteRec 1 1) ++ frameB (voteRec t n) ++ (⟨tl.toArray⟩ : ByteArray))] w fun en w' => en = .returned (.tuple #[.int .i64 t, .int .i64 n, .int .i64 (((frameB (voteRec 1 1)).size + (frameB (voteRec t n)).size : Nat) : Int)]) ∧ Below w.heap.size w w' := by
  have h11 : voteB 1 1 = true := by decide
  have z1 := frame_vote_size h11
  have z2 := frame_vote_size hv
  have z3 : tl.length ≤ 1 := by rcases ht with rfl | rfl <;> simp
  have hsz : (frameB (voteRec 1 1) ++ frameB (voteRec t n) ++ (⟨tl.toArray⟩ : ByteArray)).size = (frameB (voteRec 1 1)).size + (frameB (voteRec t n)).size + tl.length := by have h3 := tl_size tl; rw [ByteArray.size_append, ByteArray.size_append]; omega
  have hok : ∀ x ∈ [recL 1 1, recL t n], Words.okRec x := fun x hx => by
    simp at hx
    rcases hx with rfl | rfl
    · exact rec_ok h11
    · exact rec_ok hv
  exact votes_read _ (by omega) (file_two t n tl) hok (by simp) (by omega) ht (goV_two hv) w hN
theorem votes_one (tl : List UInt8) (ht : tl = [] ∨ tl = [5]) (w : World) (hN : NoB w) :
    Calls Tryd.prog 9 #[.string (frameB (voteRec 1 1) ++ (⟨tl.toArray⟩ : ByteArray))] w fun en w' => en = .returned (.tuple #[.int .i64 1, .int .i64 1, .int .i64 (((frameB (voteRec 1 1)).size : Nat) : Int)]) ∧ Below w.heap.size w w' := by
  have h11 : voteB 1 1 = true := by decide
  have z1 := frame_vote_size h11
  have z3 : tl.length ≤ 1 := by rcases ht with rfl | rfl <;> simp
  have hsz : (frameB (voteRec 1 1) ++ (⟨tl.toArray⟩ : ByteArray)).size = (frameB (voteRec 1 1)).size + tl.length := by have h3 := tl_size tl; rw [ByteArray.size_append]; omega
  have hok : ∀ x ∈ [recL 1 1], Words.okRec x := fun x hx => by
    simp at hx
    rw [hx]; exact rec_ok h11
  exact votes_read _ (by omega) (file_one tl) hok (by simp) (by omega) ht goV_one w hN
set_option maxHeartbeats 2000000 in
set_option maxRecDepth 100000 in
theorem lawVotes_any {cap len b off : Nat} {a : Option Addr} {z : Nat → Int} (w : World) (hc : len ≤ 1048576 → Code w.heap.size w a len b off z) (hN : NoB w) :
    Calls Tryd.prog 5 #[.slice a len cap] w fun en w' => en = .returned (.bool true) ∧ Below w.heap.size w w' := by
  by_cases hl : len ≤ 1048576
  · have HC : Hid (Calls Tryd.prog 11 #[.slice a len cap] w fun e w' => ∃ t n : Int, e = .returned (.tuple #[.int .i64 t, .int .i64 n]) ∧ Below w.heap.size w w') := drawVote_any w (Nat.le_refl _) (hc hl)
    have HN : Hid (NoB w) := hN
    have h11 : voteB 1 1 = true := by decide
    have HV1 : Hid (∀ W, NoB W → Calls Tryd.prog 7 #[.int .i64 1, .int .i64 1] W fun en w' => en = .returned (.tuple #[.string (frameB (voteRec 1 1)), .bool true]) ∧ Below W.heap.size W w') := fun W h => by
      have := implVote_is 1 1 W h
      rw [voteTuple, if_pos h11] at this
      exact this
    have hz1 := frame_vote_size h11
    clear hc hN
    go_enter Tryd.func5, Tryd.ntmps5
    go_wp2_with fail
    refine (big_no a len cap hl _).mono ?_
    rintro e w0 ⟨rfl, rfl⟩
    go_wp2_with fail
    refine Calls.mono HC.out ?_
    rintro e w1 ⟨t, n, rfl, hb1⟩
    have HN1 : Hid (NoB w1) := HN.out.up hb1
    have HB1 : Hid (Below w.heap.size w w1) := hb1
    clear hb1 HC
    by_cases hv : voteB t n = true
    · have hz2 := frame_vote_size hv
      obtain ⟨F1, hF1⟩ : ∃ F, F = frameB (voteRec 1 1) := ⟨_, rfl⟩
      obtain ⟨F2, hF2⟩ : ∃ F, F = frameB (voteRec t n) := ⟨_, rfl⟩
      have HI : Hid (∀ W, NoB W → Calls Tryd.prog 7 #[.int .i64 t, .int .i64 n] W fun en w' => en = .returned (.tuple #[.string F2, .bool true]) ∧ Below W.heap.size W w') := fun W h => by
        have := implVote_is t n W h
        rw [voteTuple, if_pos hv] at this
        rw [hF2]; exact this
      have HS : Hid (∀ W, Calls Tryd.prog 6 #[.int .i64 t, .int .i64 n] W fun en w' => en = .returned (.tuple #[.string F2, .bool true]) ∧ Below W.heap.size W w') := fun W => by
        have := specVote_is t n W
        rw [voteTuple, if_pos hv] at this
        rw [hF2]; exact this
      rw [← hF1] at HV1 hz1
      rw [← hF2] at hz2
      have HR1 : Hid (∀ W, NoB W → Calls Tryd.prog 9 #[.string (F1 ++ F2)] W fun en w' => en = .returned (.tuple #[.int .i64 t, .int .i64 n, .int .i64 ((F1.size + F2.size : Nat) : Int)]) ∧ Below W.heap.size W w') := fun W h => by
        have := votes_two hv [] (Or.inl rfl) W h
        rw [← hF1, ← hF2, app_nilB] at this
        exact this
      have HR2 : Hid (∀ W, NoB W → Calls Tryd.prog 9 #[.string (F1 ++ F2 ++ ⟨#[5]⟩)] W fun en w' => en = .returned (.tuple #[.int .i64 t, .int .i64 n, .int .i64 ((F1.size + F2.size : Nat) : Int)]) ∧ Below W.heap.size W w') := fun W h => by
        have := votes_two hv [5] (Or.inr rfl) W h
        rw [← hF1, ← hF2] at this
        exact this
      clear hF1 hF2 hv h11
      have s1 : ¬ 9223372036854775807 < F1.size + F2.size := by omega
      have s2 : ¬ 9223372036854775807 < F1.size + F2.size + 1 := by omega
      go_wp2_with fail
      refine Calls.mono (HI.out _ HN1.out) ?_
      rintro e w2 ⟨rfl, hb2⟩
      have HN2 : Hid (NoB w2) := HN1.out.up hb2
      have HB2 : Hid (Below w.heap.size w w2) := HB1.out.trans (hb2.mono HB1.out.size)
      clear hb2 HB1 HN1
      go_wp2_with fail
      refine Calls.mono (HS.out _) ?_
      rintro e w3 ⟨rfl, hb3⟩
      have HN3 : Hid (NoB w3) := HN2.out.up hb3
      have HB3 : Hid (Below w.heap.size w w3) := HB2.out.trans (hb3.mono HB2.out.size)
      clear hb3 HB2 HN2
      go_wp2_with fail
      refine Calls.mono (HV1.out _ HN3.out) ?_
      rintro e w4 ⟨rfl, hb4⟩
      have HN4 : Hid (NoB w4) := HN3.out.up hb4
      have HB4 : Hid (Below w.heap.size w w4) := HB3.out.trans (hb4.mono HB3.out.size)
      clear hb4 HB3 HN3
      go_wp2_with fail
      refine Calls.mono (HR1.out _ HN4.out) ?_
      rintro e w5 ⟨rfl, hb5⟩
      have HN5 : Hid (NoB w5) := HN4.out.up hb5
      have HB5 : Hid (Below w.heap.size w w5) := HB4.out.trans (hb5.mono HB4.out.size)
      clear hb5 HB4 HN4
      go_wp2_with fail
      refine Calls.mono (HR2.out _ HN5.out) ?_
      rintro e w6 ⟨rfl, hb6⟩
      have HB6 : Hid (Below w.heap.size w w6) := HB5.out.trans (hb6.mono HB5.out.size)
      clear hb6 HB5 HN5
      have q1 : (((F1.size + F2.size : Nat) : Int) == (F2.size : Int) + (F1.size : Int)) = true := by simp; omega
      go_wp2
      go_ret
      exact ⟨rfl, HB6.out⟩
    · obtain ⟨F1, hF1⟩ : ∃ F, F = frameB (voteRec 1 1) := ⟨_, rfl⟩
      have HI : Hid (∀ W, NoB W → Calls Tryd.prog 7 #[.int .i64 t, .int .i64 n] W fun en w' => en = .returned (.tuple #[.string ⟨#[]⟩, .bool false]) ∧ Below W.heap.size W w') := fun W h => by
        have := implVote_is t n W h
        rw [voteTuple, if_neg hv] at this
        exact this
      have HS : Hid (∀ W, Calls Tryd.prog 6 #[.int .i64 t, .int .i64 n] W fun en w' => en = .returned (.tuple #[.string ⟨#[]⟩, .bool false]) ∧ Below W.heap.size W w') := fun W => by
        have := specVote_is t n W
        rw [voteTuple, if_neg hv] at this
        exact this
      rw [← hF1] at HV1 hz1
      have HR1 : Hid (∀ W, NoB W → Calls Tryd.prog 9 #[.string (F1 ++ ⟨#[]⟩)] W fun en w' => en = .returned (.tuple #[.int .i64 1, .int .i64 1, .int .i64 (F1.size : Int)]) ∧ Below W.heap.size W w') := fun W h => by
        have := votes_one [] (Or.inl rfl) W h
        rw [← hF1] at this
        exact this
      have HR2 : Hid (∀ W, NoB W → ∃ (p q : Int) (r : Nat), Calls Tryd.prog 9 #[.string (F1 ++ ⟨#[]⟩ ++ ⟨#[5]⟩)] W fun en w' => en = .returned (.tuple #[.int .i64 p, .int .i64 q, .int .i64 (r : Int)]) ∧ Below W.heap.size W w') := fun W h => by
        have := votes_one [5] (Or.inr rfl) W h
        rw [← hF1] at this
        rw [app_nilB]
        exact ⟨1, 1, F1.size, this⟩
      clear hF1 hv h11
      have s1 : ¬ 9223372036854775807 < F1.size + 0 := by omega
      have s2 : ¬ 9223372036854775807 < F1.size + 0 + 1 := by omega
      have s3 : ¬ 9223372036854775807 < F1.size := by omega
      have s4 : ¬ 9223372036854775807 < F1.size + 1 := by omega
      go_wp2_with fail
      refine Calls.mono (HI.out _ HN1.out) ?_
      rintro e w2 ⟨rfl, hb2⟩
      have HN2 : Hid (NoB w2) := HN1.out.up hb2
      have HB2 : Hid (Below w.heap.size w w2) := HB1.out.trans (hb2.mono HB1.out.size)
      clear hb2 HB1 HN1
      go_wp2_with fail
      refine Calls.mono (HS.out _) ?_
      rintro e w3 ⟨rfl, hb3⟩
      have HN3 : Hid (NoB w3) := HN2.out.up hb3
      have HB3 : Hid (Below w.heap.size w w3) := HB2.out.trans (hb3.mono HB2.out.size)
      clear hb3 HB2 HN2
      go_wp2_with fail
      refine Calls.mono (HV1.out _ HN3.out) ?_
      rintro e w4 ⟨rfl, hb4⟩
      have HN4 : Hid (NoB w4) := HN3.out.up hb4
      have HB4 : Hid (Below w.heap.size w w4) := HB3.out.trans (hb4.mono HB3.out.size)
      clear hb4 HB3 HN3
      go_wp2_with fail
      refine Calls.mono (HR1.out _ HN4.out) ?_
      rintro e w5 ⟨rfl, hb5⟩
      have HN5 : Hid (NoB w5) := HN4.out.up hb5
      have HB5 : Hid (Below w.heap.size w w5) := HB4.out.trans (hb5.mono HB4.out.size)
      obtain ⟨p, q, r, hc6⟩ := HR2.out _ HN5.out
      have HC6 : Hid (Calls Tryd.prog 9 #[.string (F1 ++ ⟨#[]⟩ ++ ⟨#[5]⟩)] w5 fun en w' => en = .returned (.tuple #[.int .i64 p, .int .i64 q, .int .i64 (r : Int)]) ∧ Below w5.heap.size w5 w') := hc6
      clear hb5 HB4 HN4 hc6
      go_wp2_with fail
      refine Calls.mono HC6.out ?_
      rintro e w6 ⟨rfl, hb6⟩
      have HB6 : Hid (Below w.heap.size w w6) := HB5.out.trans (hb6.mono HB5.out.size)
      clear hb6 HB5 HN5
      go_wp2
      go_ret
      exact ⟨rfl, HB6.out⟩
  · have hl2 : 1048576 < len := by omega
    clear hc hN
    go_enter Tryd.func5, Tryd.ntmps5
    go_wp2_with fail
    refine (big_yes a len cap hl2 _).mono ?_
    rintro e w0 ⟨rfl, rfl⟩
    go_wp2
    go_ret
    exact ⟨rfl, Below.refl _ _⟩
end Go.Proofs.YtahpoemmlpbgdaaDoor
