/- The calls of the specification's l09In, walked. -/
import Derived.Test.YtcnalipgfmaopaaInts
namespace Go.Proofs.Ytcnalipgfmaopaa
open Go.RowKit
set_option linter.unusedVariables false

set_option maxHeartbeats 1000000 in
theorem in9_is {a : Option Addr} {g off cap : Nat} (l : List Int) (hlen : l.length ≤ 1048576) (x : Int) (w : World) (hf : IntAt w a g off l) :
    Calls Try.prog 47 #[.slice a l.length cap, .int .i64 x] w fun e w' => e = .returned (.bool (l.contains x)) ∧ w' = w := by
  have HF : Hid (IntAt w a g off l) := hf
  clear hf
  obtain ⟨R, hR⟩ : ∃ R, R = l.contains x := ⟨_, rfl⟩
  rw [← hR]
  have HR : Hid (R = l.contains x) := hR
  clear hR
  go_enter Try.func47, Try.ntmps47
  go_wp2
  go_loop [5] (fun i => ∃ k : Nat, k ≤ l.length ∧ i = .int .i64 (k : Int) ∧ ∀ j (h : j < l.length), j < k → l[j] ≠ x) (fun i => l.length - (intOf i).toNat)
  case atStart => exact ⟨0, Nat.zero_le _, rfl, fun j h q => absurd q (Nat.not_lt_zero _)⟩
  case round =>
    obtain ⟨k, hk, rfl, hno⟩ := hrel
    have HN : Hid (∀ j (h : j < l.length), j < k → l[j] ≠ x) := hno
    clear hno
    by_cases hlt : k < l.length
    · have c0 := HF.out.2 k hlt
      have ea := HF.out.1 (by omega)
      subst ea
      obtain ⟨X, hX⟩ : ∃ X, X = l[k] := ⟨_, rfl⟩
      rw [← hX] at c0
      have HX : Hid (X = l[k]) := hX
      clear hX
      have hk0 : (0 : Int) ≤ (k : Int) := by omega
      have hk1 : (k : Int) < (l.length : Int) := by omega
      by_cases hx : X = x
      · have hRt : R = true := by
          rw [HR.out, List.contains_eq_mem, decide_eq_true_eq, ← hx, HX.out]
          exact List.getElem_mem _
        have HT : Hid (R = true) := hRt
        clear hRt
        have hc : (X == x) = true := by simp [hx]
        go_wp2
        go_ret
        exact ⟨by rw [HT.out]; rfl, rfl⟩
      · have hc : (X == x) = false := by simp [hx]
        have HE : Hid (X ≠ x) := hx
        clear hx
        go_wp2
        go_round
        case rel =>
          refine ⟨k + 1, by omega, by go_num, fun j h q => ?_⟩
          by_cases e : j = k
          · subst e; rw [← HX.out]; exact HE.out
          · exact HN.out j h (by omega)
        case measure => simp [intOf]; omega
    · have hRf : R = false := by
        rw [HR.out, List.contains_eq_mem, decide_eq_false_iff_not]
        intro hm
        obtain ⟨j, hj, e⟩ := List.getElem_of_mem hm
        exact HN.out j hj (by omega) e
      have HT : Hid (R = false) := hRf
      clear hRf
      go_wp2
      go_ret
      exact ⟨by rw [HT.out]; rfl, rfl⟩
end Go.Proofs.Ytcnalipgfmaopaa
