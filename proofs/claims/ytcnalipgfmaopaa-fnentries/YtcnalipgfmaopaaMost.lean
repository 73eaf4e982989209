/- The program's Most and the law of Most, walked. -/
import Derived.Test.YtcnalipgfmaopaaSpecMost
import Derived.Test.YtcnalipgfmaopaaShelf
namespace Go.Proofs.Ytcnalipgfmaopaa
open Go.RowKit
open Ents (cnt mostB)
set_option linter.unusedVariables false
set_option linter.unusedSimpArgs false

theorem contains_is {a : Option Addr} {g off cap : Nat} (l : List Int) (hlen : l.length ≤ 1048576) (x : Int) (w : World) (hf : IntAt w a g off l) :
    Calls Try.prog 48 #[.slice a l.length cap, .int .i64 x] w fun e w' => e = .returned (.bool (l.contains x)) ∧ w' = w := by
  cases l with
  | nil => exact Try.slices_Contains_int_empty a cap x w
  | cons y r =>
    have ea := hf.1 (by simp)
    subst ea
    have h := Try.slices_Contains_int g off (y :: r).length cap (y :: r) x w (Nat.le_refl _) (by omega) (fun j hj => by rw [hf.2 j hj]; rw [List.getD_eq_getElem?_getD, List.getElem?_eq_getElem hj]; rfl)
    rw [List.take_length] at h
    exact h
set_option maxHeartbeats 2000000 in
set_option maxRecDepth 100000 in
theorem implMost_is {a b : Option Addr} {g off cap h off' cap' : Nat} (c l : List Int) (hc : c.length ≤ 1048576) (hl : l.length ≤ 1048576) (w : World) (hf : IntAt w a g off c) (hf' : IntAt w b h off' l) :
    Calls Try.prog 28 #[.slice a c.length cap, .slice b l.length cap'] w fun e w' => e = .returned (.bool (mostB c l)) ∧ w = w' := by
  have HF : Hid (IntAt w a g off c) := hf
  have HIN : Hid (∀ x, Calls Try.prog 48 #[.slice b l.length cap', .int .i64 x] w fun e w' => e = .returned (.bool (l.contains x)) ∧ w' = w) := fun x => contains_is l hl x w hf'
  obtain ⟨R, hR⟩ : ∃ R, R = Mans.confOk c := ⟨_, rfl⟩
  have HC : Hid (Calls Try.prog 34 #[.slice a c.length cap] w fun e w' => e = .returned (.bool R) ∧ w = w') := implConf_is c hc R hR.symm w hf
  obtain ⟨M, hM⟩ : ∃ M, M = mostB c l := ⟨_, rfl⟩
  rw [← hM]
  have HM : Hid (M = (R && decide (c.length < 2 * cnt c l))) := by show _ = _; rw [hM, hR]; rfl
  clear hf hf' hR hM
  go_enter Try.func28, Try.ntmps28
  go_wp2_with fail
  refine Calls.mono HC.out ?_
  rintro e w1 ⟨rfl, rfl⟩
  clear HC
  cases R with
  | false =>
    have hMf : M = false := HM.out
    subst hMf
    go_wp2
    go_ret
    exact ⟨rfl, rfl⟩
  | true =>
    go_wp2_with fail
    go_loop [5, 13] (fun n i => ∃ k : Nat, k ≤ c.length ∧ i = .int .i64 (k : Int) ∧ n = .int .i64 ((cnt (c.take k) l : Nat) : Int)) (fun _ i => c.length - (intOf i).toNat)
    case atStart => exact ⟨0, Nat.zero_le _, rfl, rfl⟩
    case round =>
      obtain ⟨k, hk, rfl, rfl⟩ := hrel
      obtain ⟨q, hq⟩ : ∃ q, q = cnt (c.take k) l := ⟨_, rfl⟩
      have hqk : q ≤ 1048576 := by rw [hq]; have := Ents.cnt_le (c.take k) l; rw [List.length_take] at this; omega
      have HQ : Hid (q = cnt (c.take k) l) := hq
      rw [← hq]
      clear hq
      by_cases hlt : k < c.length
      · have c0 := HF.out.2 k hlt
        have ea := HF.out.1 (by omega)
        subst ea
        have HNX : Hid (cnt (c.take (k + 1)) l = q + (if l.contains c[k] = true then 1 else 0)) := by show _ = _; rw [Ents.cnt_take hlt, HQ.out]
        obtain ⟨x, hx⟩ : ∃ x, x = c[k] := ⟨_, rfl⟩
        rw [← hx] at c0 HNX
        clear hx
        have hk0 : (0 : Int) ≤ (k : Int) := by omega
        have hk1 : (k : Int) < (c.length : Int) := by omega
        obtain ⟨B, hB⟩ : ∃ B, B = l.contains x := ⟨_, rfl⟩
        have HI : Hid (Calls Try.prog 48 #[.slice b l.length cap', .int .i64 x] w fun e w' => e = .returned (.bool B) ∧ w' = w) := by rw [hB]; exact HIN.out x
        rw [← hB] at HNX
        clear hB
        go_wp2_with fail
        refine Calls.mono HI.out ?_
        rintro e w1 ⟨rfl, hw⟩
        subst hw
        cases B with
        | true =>
          go_wp2
          go_round
          case rel => exact ⟨k + 1, by omega, by go_num, by rw [HNX.out]; go_num⟩
          case measure => simp [intOf]; omega
        | false =>
          go_wp2
          go_round
          case rel => exact ⟨k + 1, by omega, by go_num, by rw [HNX.out]; go_num⟩
          case measure => simp [intOf]; omega
      · have hk1 : ¬ (k : Int) < (c.length : Int) := by omega
        have hqe : q = cnt c l := by rw [HQ.out, List.take_of_length_le (by omega)]
        rw [← hqe] at HM
        clear hqe hlt HQ
        by_cases hm : c.length < 2 * q
        · have hMt : M = true := by rw [HM.out]; simp [hm]
          subst hMt
          have hg : (c.length : Int) < 2 * (q : Int) := by omega
          go_wp2
          go_ret
          exact ⟨by first | rfl | (simp; omega), rfl⟩
        · have hMf : M = false := by rw [HM.out]; simp [hm]
          subst hMf
          have hg : ¬ (c.length : Int) < 2 * (q : Int) := by omega
          go_wp2
          go_ret
          exact ⟨by first | rfl | (simp; omega), rfl⟩
set_option maxHeartbeats 2000000 in
set_option maxRecDepth 100000 in
theorem lawMost_any {a b : Option Addr} {g off cap g' off' cap' : Nat} (c l : List Int) (hc : c.length ≤ maxLen) (hl : l.length ≤ maxLen) (w : World) (hf : IntAt w a g off c) (hf' : IntAt w b g' off' l) :
    Calls Try.prog 8 #[.slice a c.length cap, .slice b l.length cap'] w fun e w' => e = .returned (.bool true) ∧ Below w.heap.size w w' := by
  unfold maxLen at hc hl
  have HF : Hid (IntAt w a g off c) := hf
  have HG : Hid (IntAt w b g' off' l) := hf'
  clear hf hf'
  by_cases hb1 : 1048576 < c.length
  · have h1 : (1048576 : Int) < (c.length : Int) := by omega
    go_enter Try.func8, Try.ntmps8
    go_wp2
    go_ret
    exact ⟨rfl, Below.refl _ _⟩
  have h1 : ¬ (1048576 : Int) < (c.length : Int) := by omega
  by_cases hb2 : 1048576 < l.length
  · have h2 : (1048576 : Int) < (l.length : Int) := by omega
    go_enter Try.func8, Try.ntmps8
    go_wp2
    go_ret
    exact ⟨rfl, Below.refl _ _⟩
  have h2 : ¬ (1048576 : Int) < (l.length : Int) := by omega
  obtain ⟨M, hM⟩ : ∃ M, M = mostB c l := ⟨_, rfl⟩
  have HSP : Hid (∀ (W : World) (A B : Nat) (x y : Nat), IntAt W (some ⟨A, 0, none⟩) A 0 c → IntAt W (some ⟨B, 0, none⟩) B 0 l → Calls Try.prog 27 #[.slice (some ⟨A, 0, none⟩) c.length x, .slice (some ⟨B, 0, none⟩) l.length y] W fun e w' => e = .returned (.bool M) ∧ Below W.heap.size W w') := fun W A B x y h k => by
    rw [hM]
    exact specMost_is c l (by omega) (by omega) W h k
  have HIM : Hid (∀ (W : World) (A B : Nat) (x y : Nat), IntAt W (some ⟨A, 0, none⟩) A 0 c → IntAt W (some ⟨B, 0, none⟩) B 0 l → Calls Try.prog 28 #[.slice (some ⟨A, 0, none⟩) c.length x, .slice (some ⟨B, 0, none⟩) l.length y] W fun e w' => e = .returned (.bool M) ∧ W = w') := fun W A B x y h k => by
    rw [hM]
    exact implMost_is c l (by omega) (by omega) W h k
  clear hM
  have hn2 : (!(M == M)) = false := by simp
  go_enter Try.func8, Try.ntmps8
  go_wp2_with fail
  refine (toIntS_is c (by omega) _ HF.out).mono ?_
  rintro e w1 ⟨rfl, ho1, hb1⟩
  have HB1 : Hid (Below w.heap.size w w1) := hb1
  have HI1 : Hid (IntAt w1 (some ⟨w.heap.size, 0, none⟩) w.heap.size 0 c) := cellsI_own rfl ho1
  clear hb1 ho1
  go_wp2_with fail
  refine (toIntS_is l (by omega) _ (HG.out.kept HB1.out)).mono ?_
  rintro e w2 ⟨rfl, ho2, hb2⟩
  have HB2 : Hid (Below w.heap.size w w2) := HB1.out.trans (hb2.mono HB1.out.size)
  have HI2 : Hid (IntAt w2 (some ⟨w.heap.size, 0, none⟩) w.heap.size 0 c) := HI1.out.kept hb2
  have HJ2 : Hid (IntAt w2 (some ⟨w1.heap.size, 0, none⟩) w1.heap.size 0 l) := cellsI_own rfl ho2
  clear hb2 ho2 HI1
  go_wp2_with fail
  refine Calls.mono (HSP.out _ _ _ _ _ HI2.out HJ2.out) ?_
  rintro e w3 ⟨rfl, hb3⟩
  have HB3 : Hid (Below w.heap.size w w3) := HB2.out.trans (hb3.mono HB2.out.size)
  clear hb3 HI2 HJ2
  go_wp2_with fail
  refine (toIntS_is c (by omega) _ (HF.out.kept HB3.out)).mono ?_
  rintro e w4 ⟨rfl, ho4, hb4⟩
  have HB4 : Hid (Below w.heap.size w w4) := HB3.out.trans (hb4.mono HB3.out.size)
  obtain ⟨g4, hg4⟩ : ∃ g4, g4 = w3.heap.size := ⟨_, rfl⟩
  rw [← hg4] at ho4 ⊢
  have HI4 : Hid (IntAt w4 (some ⟨g4, 0, none⟩) g4 0 c) := cellsI_own rfl ho4
  clear hb4 ho4 hg4
  go_wp2_with fail
  refine (toIntS_is l (by omega) _ (HG.out.kept HB4.out)).mono ?_
  rintro e w5 ⟨rfl, ho5, hb5⟩
  have HB5 : Hid (Below w.heap.size w w5) := HB4.out.trans (hb5.mono HB4.out.size)
  obtain ⟨g5, hg5⟩ : ∃ g5, g5 = w4.heap.size := ⟨_, rfl⟩
  rw [← hg5] at ho5 ⊢
  have HI5 : Hid (IntAt w5 (some ⟨g4, 0, none⟩) g4 0 c) := HI4.out.kept hb5
  have HJ5 : Hid (IntAt w5 (some ⟨g5, 0, none⟩) g5 0 l) := cellsI_own rfl ho5
  clear hb5 ho5 hg5 HI4
  go_wp2_with fail
  refine Calls.mono (HIM.out _ _ _ _ _ HI5.out HJ5.out) ?_
  rintro e w6 ⟨rfl, rfl⟩
  go_wp2_with fail
  refine (toIntS_is c (by omega) _ (HF.out.kept HB5.out)).mono ?_
  rintro e w7 ⟨rfl, ho7, hb7⟩
  have HB7 : Hid (Below w.heap.size w w7) := HB5.out.trans (hb7.mono HB5.out.size)
  have HI7 : Hid (IntAt w7 (some ⟨g4, 0, none⟩) g4 0 c) := HI5.out.kept hb7
  have HJ7 : Hid (IntAt w7 (some ⟨g5, 0, none⟩) g5 0 l) := HJ5.out.kept hb7
  have HK7 : Hid (IntAt w7 (some ⟨w5.heap.size, 0, none⟩) w5.heap.size 0 c) := cellsI_own rfl ho7
  clear hb7 ho7 HI5 HJ5
  go_wp2_with fail
  refine (eqIntS_same c (by omega) _ HI7.out HK7.out).mono ?_
  rintro e w8 ⟨rfl, hb8⟩
  have HB8 : Hid (Below w.heap.size w w8) := HB7.out.trans (hb8.mono HB7.out.size)
  have HJ8 : Hid (IntAt w8 (some ⟨g5, 0, none⟩) g5 0 l) := HJ7.out.kept hb8
  clear hb8 HI7 HJ7 HK7
  go_wp2_with fail
  refine (toIntS_is l (by omega) _ (HG.out.kept HB8.out)).mono ?_
  rintro e w9 ⟨rfl, ho9, hb9⟩
  have HB9 : Hid (Below w.heap.size w w9) := HB8.out.trans (hb9.mono HB8.out.size)
  have HJ9 : Hid (IntAt w9 (some ⟨g5, 0, none⟩) g5 0 l) := HJ8.out.kept hb9
  have HK9 : Hid (IntAt w9 (some ⟨w8.heap.size, 0, none⟩) w8.heap.size 0 l) := cellsI_own rfl ho9
  clear hb9 ho9 HJ8
  go_wp2_with fail
  refine (eqIntS_same l (by omega) _ HJ9.out HK9.out).mono ?_
  rintro e w10 ⟨rfl, hb10⟩
  have HB10 : Hid (Below w.heap.size w w10) := HB9.out.trans (hb10.mono HB9.out.size)
  clear hb10
  go_wp2
  go_ret
  exact ⟨rfl, HB10.out⟩
end Go.Proofs.Ytcnalipgfmaopaa
