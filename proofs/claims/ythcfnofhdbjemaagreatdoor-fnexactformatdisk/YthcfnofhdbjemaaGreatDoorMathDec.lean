/- Plain facts on decimal figures; no program is named here. -/
import Derived.Test.YthcfnofhdbjemaaGreatDoorMath
namespace Go.Proofs.YthcfnofhdbjemaaGreatDoor.Words
def digF : Nat → Nat → List UInt8
  | 0, _ => []
  | f + 1, m => if m = 0 then [] else digF f (m / 10) ++ [fig (m % 10)]
def dig (m : Nat) : List UInt8 := digF m m
theorem digF_zero (f : Nat) : digF f 0 = [] := by cases f <;> simp [digF]
theorem digF_fuel : ∀ (f g m : Nat), m ≤ f → m ≤ g → digF f m = digF g m
  | 0, g, m, h, _ => by
    obtain rfl : m = 0 := by omega
    rw [digF_zero, digF_zero]
  | f + 1, g, m, h, k => by
    by_cases hm : m = 0
    · subst hm; rw [digF_zero, digF_zero]
    · obtain ⟨g, rfl⟩ : ∃ g', g = g' + 1 := ⟨g - 1, by omega⟩
      rw [digF, digF, if_neg hm, if_neg hm, digF_fuel f g (m / 10) (by omega) (by omega)]
theorem dig_zero : dig 0 = [] := rfl
theorem dig_step (m : Nat) (h : m ≠ 0) : dig m = dig (m / 10) ++ [fig (m % 10)] := by
  unfold dig
  obtain ⟨f, hf⟩ : ∃ f, m = f + 1 := ⟨m - 1, by omega⟩
  have h1 : digF m m = digF (f + 1) m := by rw [← hf]
  rw [h1, digF, if_neg h, digF_fuel f (m / 10) (m / 10) (by omega) (by omega)]
theorem dig_len : ∀ (k m : Nat), m < 10 ^ k → (dig m).length ≤ k
  | 0, m, h => by
    obtain rfl : m = 0 := by simpa using h
    simp [dig_zero]
  | k + 1, m, h => by
    by_cases hm : m = 0
    · subst hm; simp [dig_zero]
    · rw [dig_step m hm, List.length_append]
      have := dig_len k (m / 10) (by rw [Nat.pow_succ] at h; omega)
      simp; omega
end Go.Proofs.YthcfnofhdbjemaaGreatDoor.Words
