/- Plain facts on check sums of 32 bits: a text with one byte turned has another sum; no program is named here. -/
namespace Go.Proofs.Ytddmogggdckneaa.Sums
def poly : Nat := 3558460437
def half (s : Nat) : Nat := if s % 2 = 1 then (s / 2) ^^^ poly else s / 2
def byte8 (s : Nat) : Nat := half (half (half (half (half (half (half (half s)))))))
def more : Nat → List UInt8 → Nat
  | s, [] => s
  | s, b :: r => more (byte8 (s ^^^ b.toNat)) r
def sumOf (l : List UInt8) : Nat := more 4294967295 l

theorem half_lt {s : Nat} (h : s < 2 ^ 32) : half s < 2 ^ 32 := by
  unfold half
  split
  · exact Nat.xor_lt_two_pow (by omega) (by decide)
  · omega
theorem half_inj {s t : Nat} (hs : s < 2 ^ 32) (ht : t < 2 ^ 32) (h : half s = half t) : s = t := by
  have e31 : ∀ x : Nat, x < 2 ^ 32 → (x / 2).testBit 31 = false := fun x hx => Nat.testBit_lt_two_pow (by omega)
  have p31 : poly.testBit 31 = true := by decide
  unfold half at h
  by_cases h1 : s % 2 = 1
  · by_cases h2 : t % 2 = 1
    · rw [if_pos h1, if_pos h2] at h
      have := congrArg (fun z => z ^^^ poly) h
      simp only [Nat.xor_assoc, Nat.xor_self, Nat.xor_zero] at this
      omega
    · rw [if_pos h1, if_neg h2] at h
      have := congrArg (fun z => z.testBit 31) h
      simp only [Nat.testBit_xor, e31 s hs, e31 t ht, p31] at this
      simp at this
  · by_cases h2 : t % 2 = 1
    · rw [if_neg h1, if_pos h2] at h
      have := congrArg (fun z => z.testBit 31) h
      simp only [Nat.testBit_xor, e31 s hs, e31 t ht, p31] at this
      simp at this
    · rw [if_neg h1, if_neg h2] at h
      omega
theorem byte8_lt {s : Nat} (h : s < 2 ^ 32) : byte8 s < 2 ^ 32 := by
  unfold byte8
  exact half_lt (half_lt (half_lt (half_lt (half_lt (half_lt (half_lt (half_lt h)))))))
theorem byte8_inj {s t : Nat} (hs : s < 2 ^ 32) (ht : t < 2 ^ 32) (h : byte8 s = byte8 t) : s = t := by
  unfold byte8 at h
  have s1 := half_lt hs; have s2 := half_lt s1; have s3 := half_lt s2; have s4 := half_lt s3; have s5 := half_lt s4; have s6 := half_lt s5; have s7 := half_lt s6
  have t1 := half_lt ht; have t2 := half_lt t1; have t3 := half_lt t2; have t4 := half_lt t3; have t5 := half_lt t4; have t6 := half_lt t5; have t7 := half_lt t6
  exact half_inj hs ht (half_inj s1 t1 (half_inj s2 t2 (half_inj s3 t3 (half_inj s4 t4 (half_inj s5 t5 (half_inj s6 t6 (half_inj s7 t7 h)))))))
theorem xor_lt {s : Nat} (h : s < 2 ^ 32) (b : UInt8) : s ^^^ b.toNat < 2 ^ 32 := Nat.xor_lt_two_pow h (by have := b.toNat_lt; omega)
theorem xor_inj_left {s t : Nat} (b : Nat) (h : s ^^^ b = t ^^^ b) : s = t := by
  have := congrArg (fun z => z ^^^ b) h
  simpa only [Nat.xor_assoc, Nat.xor_self, Nat.xor_zero] using this
theorem xor_inj_right {b c : Nat} (s : Nat) (h : s ^^^ b = s ^^^ c) : b = c := by
  rw [Nat.xor_comm s b, Nat.xor_comm s c] at h
  exact xor_inj_left s h
theorem more_lt : ∀ (l : List UInt8) {s : Nat}, s < 2 ^ 32 → more s l < 2 ^ 32
  | [], _, h => h
  | b :: r, _, h => more_lt r (byte8_lt (xor_lt h b))
theorem more_inj : ∀ (l : List UInt8) {s t : Nat}, s < 2 ^ 32 → t < 2 ^ 32 → more s l = more t l → s = t
  | [], _, _, _, _, h => h
  | b :: r, _, _, hs, ht, h => xor_inj_left b.toNat (byte8_inj (xor_lt hs b) (xor_lt ht b) (more_inj r (byte8_lt (xor_lt hs b)) (byte8_lt (xor_lt ht b)) h))
theorem more_app : ∀ (l m : List UInt8) (s : Nat), more s (l ++ m) = more (more s l) m
  | [], _, _ => rfl
  | _ :: l, m, _ => more_app l m _
/-- One byte turned: another sum. -/
theorem more_turned (l r : List UInt8) {b c : UInt8} (hbc : b ≠ c) {s : Nat} (hs : s < 2 ^ 32) : more s (l ++ b :: r) ≠ more s (l ++ c :: r) := by
  intro h
  have hl := more_lt l hs
  rw [more_app l (b :: r) s, more_app l (c :: r) s] at h
  generalize more s l = m at h hl
  have h1 : byte8 (m ^^^ b.toNat) = byte8 (m ^^^ c.toNat) := more_inj r (byte8_lt (xor_lt hl b)) (byte8_lt (xor_lt hl c)) h
  exact hbc (UInt8.toNat_inj.1 (xor_inj_right m (byte8_inj (xor_lt hl b) (xor_lt hl c) h1)))
theorem sumOf_lt (l : List UInt8) : sumOf l < 2 ^ 32 := more_lt l (by decide)

/-- A sum in four bytes, the highest first. -/
def four (x : Nat) : List UInt8 := [UInt8.ofNat (x / 16777216), UInt8.ofNat (x / 65536), UInt8.ofNat (x / 256), UInt8.ofNat x]
theorem four_inj {x y : Nat} (hx : x < 2 ^ 32) (hy : y < 2 ^ 32) (h : four x = four y) : x = y := by
  unfold four at h
  simp only [List.cons.injEq, and_true] at h
  obtain ⟨h1, h2, h3, h4⟩ := h
  have e := fun a b (h : UInt8.ofNat a = UInt8.ofNat b) => (show a % 256 = b % 256 by have := congrArg UInt8.toNat h; simpa using this)
  have a1 := e _ _ h1
  have a2 := e _ _ h2
  have a3 := e _ _ h3
  have a4 := e _ _ h4
  omega
theorem four_len (x : Nat) : (four x).length = 4 := rfl
def unsealed (l : List UInt8) : Option (List UInt8) := if 4 ≤ l.length ∧ l.length ≤ 20004 ∧ l.drop (l.length - 4) = four (sumOf (l.take (l.length - 4))) then some (l.take (l.length - 4)) else none
theorem unsealed_back (l : List UInt8) (h : l.length ≤ 20000) : unsealed (l ++ four (sumOf l)) = some l := by
  have hl : (l ++ four (sumOf l)).length = l.length + 4 := by rw [List.length_append, four_len]
  unfold unsealed
  rw [hl, Nat.add_sub_cancel, List.take_left, List.drop_left, if_pos ⟨by omega, by omega, rfl⟩]
/-- Of a sealed text one byte is turned: it is none. -/
theorem unsealed_turned (l : List UInt8) (i : Nat) (c : UInt8) (hi : i < l.length + 4) (hc : (l ++ four (sumOf l))[i]? ≠ some c) : unsealed ((l ++ four (sumOf l)).set i c) = none := by
  have hl : ((l ++ four (sumOf l)).set i c).length = l.length + 4 := by rw [List.length_set, List.length_append, four_len]
  unfold unsealed
  rw [hl, Nat.add_sub_cancel]
  refine if_neg ?_
  rintro ⟨_, _, h⟩
  by_cases hlt : i < l.length
  · rw [List.set_append_left _ _ hlt] at h
    have e1 : (l.set i c ++ four (sumOf l)).drop l.length = four (sumOf l) := by
      rw [List.drop_append_of_le_length (by rw [List.length_set]; omega), List.drop_eq_nil_of_le (by rw [List.length_set]; omega)]; rfl
    have e2 : (l.set i c ++ four (sumOf l)).take l.length = l.set i c := by
      rw [List.take_append_of_le_length (by rw [List.length_set]; omega), List.take_of_length_le (by rw [List.length_set]; omega)]
    rw [e1, e2] at h
    have hs := four_inj (sumOf_lt _) (sumOf_lt _) h
    have hb : l[i] ≠ c := by
      intro e
      apply hc
      rw [List.getElem?_append_left hlt, List.getElem?_eq_getElem hlt, e]
    have e3 : l = l.take i ++ l[i] :: l.drop (i + 1) := by rw [← List.drop_eq_getElem_cons hlt, List.take_append_drop]
    have e4 : l.set i c = l.take i ++ c :: l.drop (i + 1) := by rw [List.set_eq_take_append_cons_drop, if_pos hlt]
    refine more_turned (l.take i) (l.drop (i + 1)) hb (s := 4294967295) (by decide) ?_
    rw [← e3, ← e4]
    exact hs
  · rw [List.set_append_right _ _ (by omega)] at h
    rw [List.drop_left, List.take_left] at h
    have hk : i - l.length < 4 := by omega
    have := congrArg (fun z => z[i - l.length]?) h
    rw [List.getElem?_set_self (by rw [four_len]; exact hk)] at this
    apply hc
    rw [List.getElem?_append_right (by omega)]
    exact this.symm
/-- Halved k times. -/
def hn : Nat → Nat → Nat
  | 0, s => s
  | k + 1, s => hn k (half s)
theorem hn8 (s : Nat) : hn 8 s = byte8 s := rfl
theorem hn_step {k s T : Nat} (hk : k < 8) (h : hn (8 - k) s = T) : hn (8 - (k + 1)) (half s) = T := by
  obtain ⟨j, hj⟩ : ∃ j, 8 - k = j + 1 := ⟨7 - k, by omega⟩
  rw [hj] at h
  rw [show 8 - (k + 1) = j from by omega]
  exact h
theorem half_odd {s : Nat} (h : s % 2 = 1) : half s = (s / 2) ^^^ 3558460437 := by unfold half; rw [if_pos h]; rfl
theorem half_even {s : Nat} (h : ¬ s % 2 = 1) : half s = s / 2 := by unfold half; rw [if_neg h]
theorem more_step {s : Nat} {l : List UInt8} {i : Nat} {R : Nat} (hi : i < l.length) (h : more s (l.drop i) = R) : more (byte8 (s ^^^ l[i].toNat)) (l.drop (i + 1)) = R := by
  rw [List.drop_eq_getElem_cons hi] at h
  exact h
theorem more_end {s : Nat} {l : List UInt8} {i : Nat} {R : Nat} (hi : l.length ≤ i) (h : more s (l.drop i) = R) : s = R := by
  rw [List.drop_eq_nil_of_le hi] at h
  exact h
end Go.Proofs.Ytddmogggdckneaa.Sums
