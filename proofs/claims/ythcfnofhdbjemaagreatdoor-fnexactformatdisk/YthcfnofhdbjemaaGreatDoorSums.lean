/- Plain facts on check sums of 32 bits: a text with one byte turned has another sum; no program is named here. -/
namespace Go.Proofs.YthcfnofhdbjemaaGreatDoor.Sums
def poly : Nat := 3558460437
def half (s : Nat) : Nat := if s % 2 = 1 then (s / 2) ^^^ poly else s / 2
def byte8 (s : Nat) : Nat := half (half (half (half (half (half (half (half s)))))))
def more : Nat → List UInt8 → Nat
  | s, [] => s
  | s, b :: r => more (byte8 (s ^^^ b.toNat)) r
def sumOf (l : List UInt8) : Nat := more 4294967295 l

theorem half_lt {s : Nat} (h : s < 2 ^ 32) : half s < 2 ^ 32 := by
  unfold half
  split
  · exact Nat.xor_lt_two_pow (by omega) (by decide)
  · omega
theorem byte8_lt {s : Nat} (h : s < 2 ^ 32) : byte8 s < 2 ^ 32 := by
  unfold byte8
  exact half_lt (half_lt (half_lt (half_lt (half_lt (half_lt (half_lt (half_lt h)))))))
theorem xor_lt {s : Nat} (h : s < 2 ^ 32) (b : UInt8) : s ^^^ b.toNat < 2 ^ 32 := Nat.xor_lt_two_pow h (by have := b.toNat_lt; omega)
theorem more_lt : ∀ (l : List UInt8) {s : Nat}, s < 2 ^ 32 → more s l < 2 ^ 32
  | [], _, h => h
  | b :: r, _, h => more_lt r (byte8_lt (xor_lt h b))
theorem sumOf_lt (l : List UInt8) : sumOf l < 2 ^ 32 := more_lt l (by decide)

/-- A sum in four bytes, the highest first. -/
def four (x : Nat) : List UInt8 := [UInt8.ofNat (x / 16777216), UInt8.ofNat (x / 65536), UInt8.ofNat (x / 256), UInt8.ofNat x]
/-- Halved k times. -/
def hn : Nat → Nat → Nat
  | 0, s => s
  | k + 1, s => hn k (half s)
theorem hn_step {k s T : Nat} (hk : k < 8) (h : hn (8 - k) s = T) : hn (8 - (k + 1)) (half s) = T := by
  obtain ⟨j, hj⟩ : ∃ j, 8 - k = j + 1 := ⟨7 - k, by omega⟩
  rw [hj] at h
  rw [show 8 - (k + 1) = j from by omega]
  exact h
theorem half_odd {s : Nat} (h : s % 2 = 1) : half s = (s / 2) ^^^ 3558460437 := by unfold half; rw [if_pos h]; rfl
theorem half_even {s : Nat} (h : ¬ s % 2 = 1) : half s = s / 2 := by unfold half; rw [if_neg h]
theorem more_step {s : Nat} {l : List UInt8} {i : Nat} {R : Nat} (hi : i < l.length) (h : more s (l.drop i) = R) : more (byte8 (s ^^^ l[i].toNat)) (l.drop (i + 1)) = R := by
  rw [List.drop_eq_getElem_cons hi] at h
  exact h
theorem more_end {s : Nat} {l : List UInt8} {i : Nat} {R : Nat} (hi : l.length ≤ i) (h : more s (l.drop i) = R) : s = R := by
  rw [List.drop_eq_nil_of_le hi] at h
  exact h
end Go.Proofs.YthcfnofhdbjemaaGreatDoor.Sums
