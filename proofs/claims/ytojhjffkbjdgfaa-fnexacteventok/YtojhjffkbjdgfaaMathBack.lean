/- Plain facts: what is read of a text is just what would be written; what is written is read again; no program is named here. -/
import Derived.Test.YtojhjffkbjdgfaaMath
namespace Go.Proofs.Ytojhjffkbjdgfaa.Words

theorem rdF_front : ∀ (f : Nat) (r : List UInt8) (k acc N e : Nat), rdF f r k acc = some (N, e) →
    ∃ m, N = acc + m * 128 ^ k ∧ (0 < k → 0 < m) ∧ k < e ∧ e ≤ k + f ∧ e - k ≤ r.length ∧ var m = r.take (e - k) ∧ N ≤ 1000000000
  | 0, _, _, _, _, _, h => by simp [rdF] at h
  | _ + 1, [], _, _, _, _, h => by simp [rdF] at h
  | f + 1, b :: r, k, acc, N, e, h => by
    rw [rdF] at h
    have hb2 := b.toNat_lt
    by_cases hb : b.toNat < 128
    · rw [if_pos hb] at h
      split at h
      · cases h
      · rename_i hc
        simp only [Option.some.injEq, Prod.mk.injEq] at h
        obtain ⟨rfl, rfl⟩ := h
        refine ⟨b.toNat % 128, rfl, fun hk => ?_, by omega, by omega, by simp, ?_, by omega⟩
        · have : ¬ b.toNat = 0 := fun h0 => hc (Or.inr ⟨hk, h0⟩)
          omega
        · rw [var_small _ (by omega)]
          have : UInt8.ofNat (b.toNat % 128) = b := byte_ext (by rw [ofNat_toNat _ (by omega)]; omega)
          rw [this]
          have : k + 1 - k = 1 := by omega
          rw [this]; rfl
    · rw [if_neg hb] at h
      obtain ⟨m, h1, h2, h3, h4, h5, h6, h7⟩ := rdF_front f r (k + 1) _ N e h
      have hm := h2 (by omega)
      refine ⟨b.toNat % 128 + 128 * m, ?_, fun _ => by omega, by omega, by omega, by simp; omega, ?_, h7⟩
      · rw [h1, Nat.add_mul, Nat.pow_succ, Nat.mul_comm 128 m, Nat.mul_assoc, Nat.mul_comm 128 (128 ^ k), Nat.add_assoc]
      · rw [var_big _ (by omega)]
        have e1 : (b.toNat % 128 + 128 * m) / 128 = m := by omega
        have e2 : UInt8.ofNat ((b.toNat % 128 + 128 * m) % 128 + 128) = b := byte_ext (by rw [ofNat_toNat _ (by omega)]; omega)
        rw [e1, e2, h6]
        obtain ⟨j, hj⟩ : ∃ j, e - k = j + 1 := ⟨e - k - 1, by omega⟩
        have : e - (k + 1) = j := by omega
        rw [hj, this]; rfl
theorem rd_front {l : List UInt8} {a n b : Nat} (h : rd l a = some (n, b)) : a < b ∧ b ≤ a + 5 ∧ b ≤ l.length ∧ a < l.length ∧ var n = (l.drop a).take (b - a) ∧ n ≤ 1000000000 := by
  unfold rd at h
  cases hr : rdF 5 (l.drop a) 0 0 with
  | none => rw [hr] at h; cases h
  | some p =>
    obtain ⟨N, e⟩ := p
    rw [hr] at h
    simp only [Option.map_some, Option.some.injEq, Prod.mk.injEq] at h
    obtain ⟨rfl, rfl⟩ := h
    obtain ⟨m, h1, _, h3, h4, h5, h6, h7⟩ := rdF_front 5 _ 0 0 _ _ hr
    rw [List.length_drop] at h5
    have hm : N = m := by rw [h1]; simp
    subst hm
    refine ⟨by omega, by omega, by omega, by omega, ?_, h7⟩
    rw [h6]; congr 1; omega
theorem var_back : ∀ (f n k acc : Nat) (r : List UInt8), n < 128 ^ (f + 1) → acc + n * 128 ^ k ≤ 1000000000 → (k = 0 ∨ 0 < n) →
    rdF (f + 1) (var n ++ r) k acc = some (acc + n * 128 ^ k, k + (var n).length)
  | f, n, k, acc, r, h, hm, hk => by
    by_cases hn : n ≤ 127
    · rw [var_small n hn]
      have e : (UInt8.ofNat n).toNat = n := ofNat_toNat n (by omega)
      simp only [List.cons_append, List.nil_append, rdF, e]
      have e2 : n % 128 = n := by omega
      rw [e2, if_pos (by omega), if_neg (by omega)]
      rfl
    · rw [var_big n (by omega)]
      have e : (UInt8.ofNat (n % 128 + 128)).toNat = n % 128 + 128 := ofNat_toNat _ (by omega)
      simp only [List.cons_append, rdF, e]
      rw [if_neg (by omega)]
      have e2 : (n % 128 + 128) % 128 = n % 128 := by omega
      rw [e2]
      have es : acc + n % 128 * 128 ^ k + n / 128 * 128 ^ (k + 1) = acc + n * 128 ^ k := by
        rw [Nat.pow_succ, Nat.mul_comm (128 ^ k) 128, ← Nat.mul_assoc, Nat.add_assoc, ← Nat.add_mul]
        have : n % 128 + n / 128 * 128 = n := by omega
        rw [this]
      obtain ⟨f', rfl⟩ : ∃ f', f = f' + 1 := ⟨f - 1, by
        cases f with
        | zero => simp at h; omega
        | succ f => simp⟩
      have := var_back f' (n / 128) (k + 1) (acc + n % 128 * 128 ^ k) r (by rw [Nat.pow_succ] at h; omega) (by rw [es]; exact hm) (Or.inr (by omega))
      rw [this, es, List.length_cons]
      congr 2
      omega
theorem rd_back (n : Nat) (h : n ≤ 1000000000) (p r : List UInt8) : rd (p ++ (var n ++ r)) p.length = some (n, p.length + (var n).length) := by
  have e : (p ++ (var n ++ r)).drop p.length = var n ++ r := by simp
  unfold rd
  rw [e, var_back 4 n 0 0 r (by omega) (by omega) (Or.inl rfl)]
  simp
end Go.Proofs.Ytojhjffkbjdgfaa.Words
