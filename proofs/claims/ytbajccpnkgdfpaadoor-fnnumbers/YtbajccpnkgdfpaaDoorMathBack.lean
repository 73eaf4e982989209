/- Plain facts: what is written is read back; no program is named here. -/
import Derived.Test.YtbajccpnkgdfpaaDoorMath
import Derived.Test.YtbajccpnkgdfpaaDoorMathDec
import Derived.Test.YtbajccpnkgdfpaaDoorMathHex
namespace Go.Proofs.YtbajccpnkgdfpaaDoor.Words

theorem var_back : ∀ (f n k acc : Nat) (r : List UInt8), n < 128 ^ (f + 1) → acc + n * 128 ^ k ≤ 1000000000 → (k = 0 ∨ 0 < n) →
    rdF (f + 1) (var n ++ r) k acc = some (acc + n * 128 ^ k, k + (var n).length)
  | f, n, k, acc, r, h, hm, hk => by
    by_cases hn : n ≤ 127
    · rw [var_small n hn]
      have e : (UInt8.ofNat n).toNat = n := ofNat_toNat n (by omega)
      simp only [List.cons_append, List.nil_append, rdF, e]
      have e2 : n % 128 = n := by omega
      rw [e2, if_pos (by omega), if_neg (by omega)]
      rfl
    · rw [var_big n (by omega)]
      have e : (UInt8.ofNat (n % 128 + 128)).toNat = n % 128 + 128 := ofNat_toNat _ (by omega)
      simp only [List.cons_append, rdF, e]
      rw [if_neg (by omega)]
      have e2 : (n % 128 + 128) % 128 = n % 128 := by omega
      rw [e2]
      have es : acc + n % 128 * 128 ^ k + n / 128 * 128 ^ (k + 1) = acc + n * 128 ^ k := by
        rw [Nat.pow_succ, Nat.mul_comm (128 ^ k) 128, ← Nat.mul_assoc, Nat.add_assoc, ← Nat.add_mul]
        have : n % 128 + n / 128 * 128 = n := by omega
        rw [this]
      obtain ⟨f', rfl⟩ : ∃ f', f = f' + 1 := ⟨f - 1, by
        cases f with
        | zero => simp at h; omega
        | succ f => simp⟩
      have := var_back f' (n / 128) (k + 1) (acc + n % 128 * 128 ^ k) r (by rw [Nat.pow_succ] at h; omega) (by rw [es]; exact hm) (Or.inr (by omega))
      rw [this, es, List.length_cons]
      congr 2
      omega
theorem rd_back (n : Nat) (h : n ≤ 1000000000) (p r : List UInt8) : rd (p ++ (var n ++ r)) p.length = some (n, p.length + (var n).length) := by
  have e : (p ++ (var n ++ r)).drop p.length = var n ++ r := by simp
  unfold rd
  rw [e, var_back 4 n 0 0 r (by omega) (by omega) (Or.inl rfl)]
  simp
theorem dec_back (n : Nat) (h : n ≤ 1000000000) : rdD (dec n) 0 true = some n := (rdD_iff _ _).2 ⟨h, rfl⟩
theorem uval_fig (n : Nat) (h : n < 16) : uval (fig n) = (n : Int) := by
  unfold uval
  by_cases h10 : n < 10
  · rw [fig_low n h10, if_pos (by omega)]; omega
  · rw [fig_high n h10 h, if_neg (by omega), if_pos (by omega)]; omega
theorem hex_back : ∀ l : List UInt8, unhex (hex l) = some l
  | [] => rfl
  | b :: l => by
    have hb := b.toNat_lt
    have e : hex (b :: l) = fig (b.toNat / 16) :: fig (b.toNat % 16) :: hex l := rfl
    rw [e, unhex, uval_fig _ (by omega), uval_fig _ (by omega), if_neg (by omega), hex_back l]
    have e2 : UInt8.ofNat (16 * ((b.toNat / 16 : Nat) : Int) + ((b.toNat % 16 : Nat) : Int)).toNat = b := byte_ext (by rw [ofNat_toNat _ (by omega)]; omega)
    rw [e2]; rfl
end Go.Proofs.YtbajccpnkgdfpaaDoor.Words
