/- Plain facts on decimal figures; no program is named here. -/
import Derived.Test.YtpedpdgkbmpfjaaDoorMathBatch
namespace Go.Proofs.YtpedpdgkbmpfjaaDoor.Words
def digF : Nat → Nat → List UInt8
  | 0, _ => []
  | f + 1, m => if m = 0 then [] else digF f (m / 10) ++ [fig (m % 10)]
def dig (m : Nat) : List UInt8 := digF m m
def dec (m : Nat) : List UInt8 := if m = 0 then [48] else dig m
theorem digF_zero (f : Nat) : digF f 0 = [] := by cases f <;> simp [digF]
theorem digF_fuel : ∀ (f g m : Nat), m ≤ f → m ≤ g → digF f m = digF g m
  | 0, g, m, h, _ => by
    obtain rfl : m = 0 := by omega
    rw [digF_zero, digF_zero]
  | f + 1, g, m, h, k => by
    by_cases hm : m = 0
    · subst hm; rw [digF_zero, digF_zero]
    · obtain ⟨g, rfl⟩ : ∃ g', g = g' + 1 := ⟨g - 1, by omega⟩
      rw [digF, digF, if_neg hm, if_neg hm, digF_fuel f g (m / 10) (by omega) (by omega)]
theorem dig_zero : dig 0 = [] := rfl
theorem dig_step (m : Nat) (h : m ≠ 0) : dig m = dig (m / 10) ++ [fig (m % 10)] := by
  unfold dig
  obtain ⟨f, hf⟩ : ∃ f, m = f + 1 := ⟨m - 1, by omega⟩
  have h1 : digF m m = digF (f + 1) m := by rw [← hf]
  rw [h1, digF, if_neg h, digF_fuel f (m / 10) (m / 10) (by omega) (by omega)]
theorem dig_len : ∀ (k m : Nat), m < 10 ^ k → (dig m).length ≤ k
  | 0, m, h => by
    obtain rfl : m = 0 := by simpa using h
    simp [dig_zero]
  | k + 1, m, h => by
    by_cases hm : m = 0
    · subst hm; simp [dig_zero]
    · rw [dig_step m hm, List.length_append]
      have := dig_len k (m / 10) (by rw [Nat.pow_succ] at h; omega)
      simp; omega
/-- The value of figures. -/
def numF : List UInt8 → Nat → Nat
  | [], n => n
  | b :: r, n => numF r (10 * n + (b.toNat - 48))
def isFig (b : UInt8) : Prop := 48 ≤ b.toNat ∧ b.toNat ≤ 57
/-- What ReadDecimal reads: n so far of the figures ahead, 'first' where there were none. -/
def rdD : List UInt8 → Nat → Bool → Option Nat
  | [], n, first => if first then none else some n
  | b :: r, n, first => if b.toNat < 48 ∨ 57 < b.toNat then none else if first = false ∧ n = 0 then none else if 1000000000 < 10 * n + (b.toNat - 48) then none else rdD r (10 * n + (b.toNat - 48)) false
theorem numF_snoc : ∀ (p : List UInt8) (b : UInt8) (n : Nat), numF (p ++ [b]) n = 10 * numF p n + (b.toNat - 48)
  | [], _, _ => rfl
  | c :: p, b, n => by simp only [List.cons_append, numF]; exact numF_snoc p b _
theorem numF_app : ∀ (p r : List UInt8) (n : Nat), numF (p ++ r) n = numF r (numF p n)
  | [], _, _ => rfl
  | c :: p, r, n => by simp only [List.cons_append, numF]; exact numF_app p r _
theorem numF_le : ∀ (r : List UInt8) (n : Nat), n ≤ numF r n
  | [], _ => Nat.le_refl _
  | b :: r, n => by
    have := numF_le r (10 * n + (b.toNat - 48))
    rw [numF]; omega
theorem dig_num : ∀ (f m : Nat), m ≤ f → numF (dig m) 0 = m
  | 0, m, h => by
    obtain rfl : m = 0 := by omega
    rfl
  | f + 1, m, h => by
    by_cases hm : m = 0
    · subst hm; rfl
    · rw [dig_step m hm, numF_snoc, dig_num f (m / 10) (by omega), fig_low _ (by omega)]
      omega
theorem dig_fig : ∀ (f m : Nat), m ≤ f → ∀ b ∈ dig m, isFig b
  | 0, m, h => by
    obtain rfl : m = 0 := by omega
    simp [dig_zero]
  | f + 1, m, h => by
    by_cases hm : m = 0
    · subst hm; simp [dig_zero]
    · rw [dig_step m hm]
      intro b hb
      rcases List.mem_append.1 hb with hb | hb
      · exact dig_fig f (m / 10) (by omega) b hb
      · rw [List.mem_singleton.1 hb]
        unfold isFig
        rw [fig_low _ (by omega)]; omega
theorem dig_head : ∀ (f m : Nat), m ≤ f → m ≠ 0 → ∃ h t, dig m = h :: t ∧ h.toNat ≠ 48
  | 0, m, h, hm => by omega
  | f + 1, m, h, hm => by
    rw [dig_step m hm]
    by_cases h10 : m / 10 = 0
    · rw [h10, dig_zero]
      exact ⟨_, [], rfl, by rw [fig_low _ (by omega)]; omega⟩
    · obtain ⟨a, t, e, ha⟩ := dig_head f (m / 10) (by omega) h10
      exact ⟨a, t ++ [fig (m % 10)], by rw [e]; rfl, ha⟩
theorem dec_num (m : Nat) : numF (dec m) 0 = m := by
  unfold dec
  split
  · rename_i h; subst h; rfl
  · exact dig_num m m (Nat.le_refl _)
theorem dec_fig (m : Nat) : ∀ b ∈ dec m, isFig b := by
  unfold dec
  split
  · intro b hb; rw [List.mem_singleton.1 hb]; exact ⟨by decide, by decide⟩
  · exact dig_fig m m (Nat.le_refl _)
theorem dec_ne (m : Nat) : dec m ≠ [] := by
  unfold dec
  split
  · simp
  · rename_i h
    rw [dig_step m h]; simp
theorem dec_len (m : Nat) (h : m ≤ 1000000000) : (dec m).length ≤ 10 := by
  unfold dec
  split
  · simp
  · exact dig_len 10 m (by omega)
theorem dec_more (n : Nat) (b : UInt8) (h : n ≠ 0) (hb : isFig b) : dec (10 * n + (b.toNat - 48)) = dec n ++ [b] := by
  unfold isFig at hb
  have e1 : (10 * n + (b.toNat - 48)) / 10 = n := by omega
  have e2 : (10 * n + (b.toNat - 48)) % 10 = b.toNat - 48 := by omega
  have e3 : fig (b.toNat - 48) = b := byte_ext (by rw [fig_low _ (by omega)]; omega)
  rw [dec, if_neg (by omega), dec, if_neg h, dig_step _ (by omega), e1, e2, e3]
theorem dec_one (b : UInt8) (hb : isFig b) : dec (b.toNat - 48) = [b] := by
  unfold isFig at hb
  have e3 : fig (b.toNat - 48) = b := byte_ext (by rw [fig_low _ (by omega)]; omega)
  unfold dec
  split
  · rename_i h
    have : b = 48 := byte_ext (by show b.toNat = 48; omega)
    rw [this]
  · rename_i h
    have e1 : (b.toNat - 48) / 10 = 0 := by omega
    have e2 : (b.toNat - 48) % 10 = b.toNat - 48 := by omega
    rw [dig_step _ h, e1, e2, e3, dig_zero]; rfl
theorem dec_zero_only {m : Nat} {r : List UInt8} (h : dec m = 48 :: r) : r = [] := by
  unfold dec at h
  split at h
  · simpa using h.symm
  · rename_i hm
    obtain ⟨a, t, e, ha⟩ := dig_head m m (Nat.le_refl _) hm
    rw [e] at h
    simp only [List.cons.injEq] at h
    rw [h.1] at ha
    exact absurd rfl ha
/-- Behind some figures: what is read on. -/
theorem rdD_on : ∀ (r : List UInt8) (n N : Nat), n ≤ 1000000000 → (rdD r n false = some N ↔ N ≤ 1000000000 ∧ dec N = dec n ++ r)
  | [], n, N, hn => by
    simp only [rdD, List.append_nil]
    constructor
    · intro h
      simp only [Bool.false_eq_true, if_false, Option.some.injEq] at h
      subst h; exact ⟨hn, rfl⟩
    · rintro ⟨_, h⟩
      have := congrArg (fun l => numF l 0) h
      simp only [dec_num] at this
      simp [this]
  | b :: r, n, N, hn => by
    rw [rdD]
    by_cases hb : b.toNat < 48 ∨ 57 < b.toNat
    · rw [if_pos hb]
      constructor
      · intro h; simp at h
      · rintro ⟨_, h⟩
        have := dec_fig N b (by rw [h]; simp)
        unfold isFig at this
        omega
    · rw [if_neg hb]
      have hf : isFig b := by unfold isFig; omega
      by_cases h0 : n = 0
      · subst h0
        rw [if_pos ⟨rfl, rfl⟩]
        constructor
        · intro h; simp at h
        · rintro ⟨_, h⟩
          have e : dec 0 = [48] := rfl
          rw [e] at h
          have := dec_zero_only h
          simp at this
      · rw [if_neg (by rintro ⟨_, h⟩; exact h0 h)]
        by_cases hM : 1000000000 < 10 * n + (b.toNat - 48)
        · rw [if_pos hM]
          constructor
          · intro h; simp at h
          · rintro ⟨hN, h⟩
            have e := congrArg (fun l => numF l 0) h
            simp only [dec_num, numF_app, numF] at e
            have := numF_le r (10 * n + (b.toNat - 48))
            omega
        · rw [if_neg hM, rdD_on r _ N (by omega), dec_more n b h0 hf]
          simp
theorem rdD_iff (l : List UInt8) (N : Nat) : rdD l 0 true = some N ↔ N ≤ 1000000000 ∧ dec N = l := by
  cases l with
  | nil =>
    simp only [rdD, if_true]
    constructor
    · intro h; simp at h
    · rintro ⟨_, h⟩; exact absurd h (dec_ne N)
  | cons b r =>
    rw [rdD]
    by_cases hb : b.toNat < 48 ∨ 57 < b.toNat
    · rw [if_pos hb]
      constructor
      · intro h; simp at h
      · rintro ⟨_, h⟩
        have := dec_fig N b (by rw [h]; simp)
        unfold isFig at this
        omega
    · have hf : isFig b := by unfold isFig; omega
      rw [if_neg hb, if_neg (by simp), if_neg (by omega), rdD_on r _ N (by omega)]
      rw [show 10 * 0 + (b.toNat - 48) = b.toNat - 48 from by omega, dec_one b hf]
      rfl
theorem rdD_long {l : List UInt8} (h : 10 < l.length) : rdD l 0 true = none := by
  cases e : rdD l 0 true with
  | none => rfl
  | some N =>
    have := (rdD_iff l N).1 e
    have := dec_len N this.1
    rw [(rdD_iff l N).1 e |>.2] at this
    omega
theorem rdD_nofig {l : List UInt8} {b : UInt8} (hb : b ∈ l) (h : ¬ isFig b) : rdD l 0 true = none := by
  cases e : rdD l 0 true with
  | none => rfl
  | some N => exact absurd (dec_fig N b (by rw [((rdD_iff l N).1 e).2]; exact hb)) h
theorem rdD_great {l : List UInt8} (h : 1000000000 < numF l 0) : rdD l 0 true = none := by
  cases e : rdD l 0 true with
  | none => rfl
  | some N =>
    have := (rdD_iff l N).1 e
    rw [← this.2, dec_num] at h
    omega
theorem rdD_other {l : List UInt8} (h : dec (numF l 0) ≠ l) : rdD l 0 true = none := by
  cases e : rdD l 0 true with
  | none => rfl
  | some N =>
    have := (rdD_iff l N).1 e
    rw [← this.2, dec_num] at h
    exact absurd rfl h
theorem rdD_yes {l : List UInt8} (h1 : numF l 0 ≤ 1000000000) (h : dec (numF l 0) = l) : rdD l 0 true = some (numF l 0) := (rdD_iff l _).2 ⟨h1, h⟩
end Go.Proofs.YtpedpdgkbmpfjaaDoor.Words
