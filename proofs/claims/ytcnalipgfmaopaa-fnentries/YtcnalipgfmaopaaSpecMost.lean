/- The specification's Most, walked. -/
import Derived.Test.YtcnalipgfmaopaaIn9
import Derived.Test.YtcnalipgfmaopaaSpecConf
namespace Go.Proofs.Ytcnalipgfmaopaa
open Go.RowKit
set_option linter.unusedVariables false
set_option linter.unusedSimpArgs false

namespace Ents
/-- How many of these are in the list. -/
def cnt (c l : List Int) : Nat := (c.filter (fun n => l.contains n)).length
theorem cnt_le (c l : List Int) : cnt c l ≤ c.length := List.length_filter_le _ _
theorem cnt_take {c l : List Int} {k : Nat} (h : k < c.length) : cnt (c.take (k + 1)) l = cnt (c.take k) l + (if l.contains c[k] = true then 1 else 0) := by
  unfold cnt
  rw [List.take_succ_eq_append_getElem h, List.filter_append, List.length_append]
  congr 1
  cases hc : l.contains c[k] with
  | true => rw [List.filter_cons_of_pos hc]; rfl
  | false => rw [List.filter_cons_of_neg (by rw [hc]; decide)]; rfl
def mostB (c l : List Int) : Bool := Mans.confOk c && decide (c.length < 2 * cnt c l)
end Ents
open Ents (cnt mostB)
set_option maxHeartbeats 2000000 in
set_option maxRecDepth 100000 in
theorem specMost_is {a b : Option Addr} {g off cap h off' cap' : Nat} (c l : List Int) (hc : c.length ≤ 1048576) (hl : l.length ≤ 1048576) (w : World) (hf : IntAt w a g off c) (hf' : IntAt w b h off' l) :
    Calls Try.prog 27 #[.slice a c.length cap, .slice b l.length cap'] w fun e w' => e = .returned (.bool (mostB c l)) ∧ Below w.heap.size w w' := by
  have HF : Hid (IntAt w a g off c) := hf
  have HIN : Hid (∀ x, Calls Try.prog 47 #[.slice b l.length cap', .int .i64 x] w fun e w' => e = .returned (.bool (l.contains x)) ∧ w' = w) := fun x => in9_is l hl x w hf'
  obtain ⟨R, hR⟩ : ∃ R, R = Mans.confOk c := ⟨_, rfl⟩
  have HC : Hid (Calls Try.prog 32 #[.slice a c.length cap] w fun e w' => e = .returned (.bool R) ∧ Below w.heap.size w w') := specConf_is c hc R hR.symm w hf
  obtain ⟨M, hM⟩ : ∃ M, M = mostB c l := ⟨_, rfl⟩
  rw [← hM]
  have HM : Hid (M = (R && decide (c.length < 2 * cnt c l))) := by show _ = _; rw [hM, hR]; rfl
  clear hf hf' hR hM
  go_enter Try.func27, Try.ntmps27
  go_wp2_with fail
  go_loop [5, 6] (fun n i => ∃ k : Nat, k ≤ c.length ∧ i = .int .i64 (k : Int) ∧ n = .int .i64 ((cnt (c.take k) l : Nat) : Int)) (fun _ i => c.length - (intOf i).toNat)
  case atStart => exact ⟨0, Nat.zero_le _, rfl, rfl⟩
  case round =>
    obtain ⟨k, hk, rfl, rfl⟩ := hrel
    obtain ⟨q, hq⟩ : ∃ q, q = cnt (c.take k) l := ⟨_, rfl⟩
    have hqk : q ≤ 1048576 := by rw [hq]; have := Ents.cnt_le (c.take k) l; rw [List.length_take] at this; omega
    have HQ : Hid (q = cnt (c.take k) l) := hq
    rw [← hq]
    clear hq
    by_cases hlt : k < c.length
    · have c0 := HF.out.2 k hlt
      have ea := HF.out.1 (by omega)
      subst ea
      have HNX : Hid (cnt (c.take (k + 1)) l = q + (if l.contains c[k] = true then 1 else 0)) := by show _ = _; rw [Ents.cnt_take hlt, HQ.out]
      obtain ⟨x, hx⟩ : ∃ x, x = c[k] := ⟨_, rfl⟩
      rw [← hx] at c0 HNX
      clear hx
      have hk0 : (0 : Int) ≤ (k : Int) := by omega
      have hk1 : (k : Int) < (c.length : Int) := by omega
      obtain ⟨B, hB⟩ : ∃ B, B = l.contains x := ⟨_, rfl⟩
      have HI : Hid (Calls Try.prog 47 #[.slice b l.length cap', .int .i64 x] w fun e w' => e = .returned (.bool B) ∧ w' = w) := by rw [hB]; exact HIN.out x
      rw [← hB] at HNX
      clear hB
      go_wp2_with fail
      refine Calls.mono HI.out ?_
      rintro e w1 ⟨rfl, hw⟩
      subst hw
      cases B with
      | true =>
        go_wp2
        go_round
        case rel => exact ⟨k + 1, by omega, by go_num, by rw [HNX.out]; go_num⟩
        case measure => simp [intOf]; omega
      | false =>
        go_wp2
        go_round
        case rel => exact ⟨k + 1, by omega, by go_num, by rw [HNX.out]; go_num⟩
        case measure => simp [intOf]; omega
    · have hk1 : ¬ (k : Int) < (c.length : Int) := by omega
      have hqe : q = cnt c l := by rw [HQ.out, List.take_of_length_le (by omega)]
      rw [← hqe] at HM
      clear hqe hlt HQ
      go_wp2_with fail
      refine Calls.mono HC.out ?_
      rintro e w1 ⟨rfl, hb1⟩
      have HB1 : Hid (Below w.heap.size w w1) := hb1
      clear hb1
      cases R with
      | false =>
        have hMf : M = false := HM.out
        subst hMf
        go_wp2
        go_ret
        exact ⟨rfl, HB1.out⟩
      | true =>
        by_cases hm : c.length < 2 * q
        · have hMt : M = true := by rw [HM.out]; simp [hm]
          subst hMt
          have hg : (c.length : Int) < 2 * (q : Int) := by omega
          go_wp2
          go_ret
          exact ⟨rfl, HB1.out⟩
        · have hMf : M = false := by rw [HM.out]; simp [hm]
          subst hMf
          have hg : ¬ (c.length : Int) < 2 * (q : Int) := by omega
          go_wp2
          go_ret
          exact ⟨by first | rfl | (simp; omega), HB1.out⟩
end Go.Proofs.Ytcnalipgfmaopaa
