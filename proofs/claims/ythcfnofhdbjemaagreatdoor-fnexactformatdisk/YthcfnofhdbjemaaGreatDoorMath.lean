/- Plain facts on lists of bytes and numbers: the bytes of a number, their value, what is read from them; no program is named here. -/
namespace Go.Proofs.YthcfnofhdbjemaaGreatDoor.Words
def varF : Nat → Nat → List UInt8
  | 0, n => [UInt8.ofNat n]
  | f + 1, n => if 127 < n then UInt8.ofNat (n % 128 + 128) :: varF f (n / 128) else [UInt8.ofNat n]
def var (n : Nat) : List UInt8 := varF n n

theorem varF_small (f n : Nat) (h : n ≤ 127) : varF f n = [UInt8.ofNat n] := by
  cases f with
  | zero => rfl
  | succ f => simp [varF]; omega
theorem varF_big (f n : Nat) (h : 127 < n) : varF (f + 1) n = UInt8.ofNat (n % 128 + 128) :: varF f (n / 128) := by
  simp [varF, h]
theorem varF_fuel : ∀ (f g n : Nat), n ≤ f → n ≤ g → varF f n = varF g n
  | 0, g, n, h, _ => by rw [varF_small 0 n (by omega), varF_small g n (by omega)]
  | f + 1, g, n, h, k => by
    by_cases hn : 127 < n
    · obtain ⟨g, rfl⟩ : ∃ g', g = g' + 1 := ⟨g - 1, by omega⟩
      rw [varF_big f n hn, varF_big g n hn, varF_fuel f g (n / 128) (by omega) (by omega)]
    · rw [varF_small _ n (by omega), varF_small g n (by omega)]
theorem var_small (n : Nat) (h : n ≤ 127) : var n = [UInt8.ofNat n] := varF_small n n h
theorem var_big (n : Nat) (h : 127 < n) : var n = UInt8.ofNat (n % 128 + 128) :: var (n / 128) := by
  unfold var
  obtain ⟨f, hf⟩ : ∃ f, n = f + 1 := ⟨n - 1, by omega⟩
  have h1 : varF n n = varF (f + 1) n := by rw [← hf]
  rw [h1, varF_big f n h, varF_fuel f (n / 128) (n / 128) (by omega) (by omega)]
theorem varF_len : ∀ (f n : Nat), (varF f n).length ≤ f + 1
  | 0, n => by simp [varF]
  | f + 1, n => by
    by_cases hn : 127 < n
    · rw [varF_big f n hn]; have := varF_len f (n / 128); simp; omega
    · rw [varF_small _ n (by omega)]; simp
theorem var_len (n : Nat) : (var n).length ≤ n + 1 := varF_len n n
theorem ofNat_toNat (n : Nat) (h : n < 256) : (UInt8.ofNat n).toNat = n := by
  simp; omega
theorem byte_ext {a b : UInt8} (h : a.toNat = b.toNat) : a = b := UInt8.toNat_inj.1 h
/-- What ReadVar reads from the rest of a text, k bytes in, n so far. -/
def rdF : Nat → List UInt8 → Nat → Nat → Option (Nat × Nat)
  | 0, _, _, _ => none
  | _ + 1, [], _, _ => none
  | f + 1, b :: r, k, n =>
    if b.toNat < 128 then (if 1000000000 < n + b.toNat % 128 * 128 ^ k ∨ (0 < k ∧ b.toNat = 0) then none else some (n + b.toNat % 128 * 128 ^ k, k + 1))
    else rdF f r (k + 1) (n + b.toNat % 128 * 128 ^ k)
def rd (l : List UInt8) (a : Nat) : Option (Nat × Nat) := (rdF 5 (l.drop a) 0 0).map fun p => (p.1, a + p.2)

theorem size_list (s : ByteArray) : s.data.toList.length = s.size := rfl
def fig (n : Nat) : UInt8 := if n < 10 then UInt8.ofNat (48 + n) else UInt8.ofNat (87 + n)
theorem fig_low (n : Nat) (h : n < 10) : (fig n).toNat = 48 + n := by rw [fig, if_pos h, ofNat_toNat _ (by omega)]
end Go.Proofs.YthcfnofhdbjemaaGreatDoor.Words
