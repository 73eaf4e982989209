/- Plain facts on lists of bytes and numbers: the bytes of a number, their value, what is read from them; no program is named here. Plain facts: what is read of a text is just what would be written; what is written is read again; no program is named here. -/
namespace Go.Proofs.Ytddmogggdckneaa
section
namespace Words
def varF : Nat → Nat → List UInt8
  | 0, n => [UInt8.ofNat n]
  | f + 1, n => if 127 < n then UInt8.ofNat (n % 128 + 128) :: varF f (n / 128) else [UInt8.ofNat n]
def var (n : Nat) : List UInt8 := varF n n

theorem varF_small (f n : Nat) (h : n ≤ 127) : varF f n = [UInt8.ofNat n] := by
  cases f with
  | zero => rfl
  | succ f => simp [varF]; omega
theorem varF_big (f n : Nat) (h : 127 < n) : varF (f + 1) n = UInt8.ofNat (n % 128 + 128) :: varF f (n / 128) := by
  simp [varF, h]
theorem varF_fuel : ∀ (f g n : Nat), n ≤ f → n ≤ g → varF f n = varF g n
  | 0, g, n, h, _ => by rw [varF_small 0 n (by omega), varF_small g n (by omega)]
  | f + 1, g, n, h, k => by
    by_cases hn : 127 < n
    · obtain ⟨g, rfl⟩ : ∃ g', g = g' + 1 := ⟨g - 1, by omega⟩
      rw [varF_big f n hn, varF_big g n hn, varF_fuel f g (n / 128) (by omega) (by omega)]
    · rw [varF_small _ n (by omega), varF_small g n (by omega)]
theorem var_small (n : Nat) (h : n ≤ 127) : var n = [UInt8.ofNat n] := varF_small n n h
theorem var_big (n : Nat) (h : 127 < n) : var n = UInt8.ofNat (n % 128 + 128) :: var (n / 128) := by
  unfold var
  obtain ⟨f, hf⟩ : ∃ f, n = f + 1 := ⟨n - 1, by omega⟩
  have h1 : varF n n = varF (f + 1) n := by rw [← hf]
  rw [h1, varF_big f n h, varF_fuel f (n / 128) (n / 128) (by omega) (by omega)]
theorem varF_len : ∀ (f n : Nat), (varF f n).length ≤ f + 1
  | 0, n => by simp [varF]
  | f + 1, n => by
    by_cases hn : 127 < n
    · rw [varF_big f n hn]; have := varF_len f (n / 128); simp; omega
    · rw [varF_small _ n (by omega)]; simp
theorem var_len (n : Nat) : (var n).length ≤ n + 1 := varF_len n n
theorem var_pos (n : Nat) : 0 < (var n).length := by
  by_cases h : 127 < n
  · rw [var_big n h]; simp
  · rw [var_small n (by omega)]; simp

def val : List UInt8 → Nat
  | [] => 0
  | b :: r => b.toNat % 128 + 128 * val r
theorem val_snoc : ∀ (l : List UInt8) (b : UInt8), val (l ++ [b]) = val l + b.toNat % 128 * 128 ^ l.length
  | [], b => by simp [val]
  | c :: l, b => by
    simp only [List.cons_append, val, val_snoc l b, List.length_cons, Nat.pow_succ]
    rw [Nat.mul_add, ← Nat.mul_assoc, Nat.mul_comm 128 (b.toNat % 128), Nat.mul_assoc, Nat.mul_comm 128 (128 ^ l.length)]
    omega
theorem val_lt : ∀ l : List UInt8, val l < 128 ^ l.length
  | [] => by simp [val]
  | b :: l => by
    have := val_lt l
    simp only [val, List.length_cons, Nat.pow_succ]
    omega
theorem ofNat_toNat (n : Nat) (h : n < 256) : (UInt8.ofNat n).toNat = n := by
  simp; omega
theorem byte_ext {a b : UInt8} (h : a.toNat = b.toNat) : a = b := UInt8.toNat_inj.1 h
/-- A number's bytes are its VarText just where they are no longer form. -/
theorem var_val : ∀ (l : List UInt8) (b : UInt8), (∀ c ∈ l, 128 ≤ c.toNat) → b.toNat < 128 →
    (var (val (l ++ [b])) = l ++ [b] ↔ ¬ (l ≠ [] ∧ b.toNat = 0))
  | [], b, _, hb => by
    simp only [List.nil_append, val]
    rw [var_small _ (by omega)]
    have : UInt8.ofNat (b.toNat % 128 + 128 * 0) = b := byte_ext (by rw [ofNat_toNat _ (by omega)]; omega)
    rw [this]; simp
  | c :: l, b, hl, hb => by
    have ih := var_val l b (fun x hx => hl x (List.mem_cons_of_mem _ hx)) hb
    have hc : 128 ≤ c.toNat := hl c List.mem_cons_self
    have hc2 : c.toNat < 256 := c.toNat_lt
    have hs := val_snoc l b
    simp only [List.cons_append, val]
    by_cases hv : val (l ++ [b]) = 0
    · have hb0 : b.toNat = 0 := by
        have hp : 0 < 128 ^ l.length := Nat.pow_pos (by omega)
        have : b.toNat % 128 * 128 ^ l.length = 0 := by omega
        rcases Nat.mul_eq_zero.1 this with h | h <;> omega
      rw [hv, var_small _ (by omega)]
      simp [hb0]
    · rw [var_big _ (by omega)]
      have e1 : (c.toNat % 128 + 128 * val (l ++ [b])) / 128 = val (l ++ [b]) := by omega
      have e2 : UInt8.ofNat ((c.toNat % 128 + 128 * val (l ++ [b])) % 128 + 128) = c := byte_ext (by rw [ofNat_toNat _ (by omega)]; omega)
      rw [e1, e2]
      simp only [List.cons.injEq, true_and]
      rw [ih]
      constructor
      · rintro h ⟨_, hb0⟩
        apply h
        refine ⟨?_, hb0⟩
        intro hn
        subst hn
        simp [val, hb0] at hv
      · rintro h ⟨_, hb0⟩
        exact h ⟨by simp, hb0⟩

/-- What ReadVar reads from the rest of a text, k bytes in, n so far. -/
def rdF : Nat → List UInt8 → Nat → Nat → Option (Nat × Nat)
  | 0, _, _, _ => none
  | _ + 1, [], _, _ => none
  | f + 1, b :: r, k, n =>
    if b.toNat < 128 then (if 1000000000 < n + b.toNat % 128 * 128 ^ k ∨ (0 < k ∧ b.toNat = 0) then none else some (n + b.toNat % 128 * 128 ^ k, k + 1))
    else rdF f r (k + 1) (n + b.toNat % 128 * 128 ^ k)
def rd (l : List UInt8) (a : Nat) : Option (Nat × Nat) := (rdF 5 (l.drop a) 0 0).map fun p => (p.1, a + p.2)

theorem drop_cons {l : List UInt8} {i : Nat} (h : i < l.length) : l.drop i = l[i] :: l.drop (i + 1) := by
  rw [List.drop_eq_getElem_cons h]
/-- One round that goes on. -/
theorem rdF_more {l : List UInt8} {a k n : Nat} (hk : k < 5) (h : a + k < l.length) (hb : ¬ l[a + k].toNat < 128) :
    rdF (5 - k) (l.drop (a + k)) k n = rdF (5 - (k + 1)) (l.drop (a + (k + 1))) (k + 1) (n + l[a + k].toNat % 128 * 128 ^ k) := by
  obtain ⟨f, hf⟩ : ∃ f, 5 - k = f + 1 := ⟨4 - k, by omega⟩
  rw [hf, drop_cons h, rdF, if_neg hb]
  have : 5 - (k + 1) = f := by omega
  rw [this]; rfl
theorem rdF_end {l : List UInt8} {a k n : Nat} (hk : k < 5) (h : a + k < l.length) (hb : l[a + k].toNat < 128) :
    rdF (5 - k) (l.drop (a + k)) k n = (if 1000000000 < n + l[a + k].toNat % 128 * 128 ^ k ∨ (0 < k ∧ l[a + k].toNat = 0) then none else some (n + l[a + k].toNat % 128 * 128 ^ k, k + 1)) := by
  obtain ⟨f, hf⟩ : ∃ f, 5 - k = f + 1 := ⟨4 - k, by omega⟩
  rw [hf, drop_cons h, rdF, if_pos hb]
theorem rdF_none {l : List UInt8} {a k n : Nat} (h : ¬ (k < 5 ∧ a + k < l.length)) : rdF (5 - k) (l.drop (a + k)) k n = none := by
  by_cases hk : k < 5
  · have : l.drop (a + k) = [] := List.drop_eq_nil_of_le (by omega)
    obtain ⟨f, hf⟩ : ∃ f, 5 - k = f + 1 := ⟨4 - k, by omega⟩
    rw [this, hf, rdF]
  · have : 5 - k = 0 := by omega
    rw [this, rdF]
theorem size_list (s : ByteArray) : s.data.toList.length = s.size := rfl
theorem rdB_more {s : ByteArray} {a k n : Nat} (hk : k < 5) (h : a + k < s.size) (hb : ¬ s[a + k].toNat < 128) :
    rdF (5 - k) (s.data.toList.drop (a + k)) k n = rdF (5 - (k + 1)) (s.data.toList.drop (a + (k + 1))) (k + 1) (n + s[a + k].toNat % 128 * 128 ^ k) :=
  rdF_more (l := s.data.toList) hk (by rw [size_list]; exact h) hb
theorem rdB_end {s : ByteArray} {a k n : Nat} (hk : k < 5) (h : a + k < s.size) (hb : s[a + k].toNat < 128) :
    rdF (5 - k) (s.data.toList.drop (a + k)) k n = (if 1000000000 < n + s[a + k].toNat % 128 * 128 ^ k ∨ (0 < k ∧ s[a + k].toNat = 0) then none else some (n + s[a + k].toNat % 128 * 128 ^ k, k + 1)) :=
  rdF_end (l := s.data.toList) hk (by rw [size_list]; exact h) hb
theorem rdB_none {s : ByteArray} {a k n : Nat} (h : ¬ (k < 5 ∧ a + k < s.size)) : rdF (5 - k) (s.data.toList.drop (a + k)) k n = none :=
  rdF_none (l := s.data.toList) (by rw [size_list]; exact h)
theorem rd_none {l : List UInt8} {a : Nat} (h : rdF 5 (l.drop a) 0 0 = none) : rd l a = none := by simp [rd, h]
theorem rd_some {l : List UInt8} {a n k : Nat} (h : rdF 5 (l.drop a) 0 0 = some (n, k)) : rd l a = some (n, a + k) := by simp [rd, h]
/-- The k-th byte's part of the number. -/
theorem part (b n k : Nat) (hk : k < 5) (hn : n < 128 ^ k) :
    n ≤ 268435455 ∧ 0 ≤ (b : Int) % 128 * 2 ^ (7 * k) ∧ (b : Int) % 128 * 2 ^ (7 * k) ≤ 34091302912 ∧
    (n : Int) + (b : Int) % 128 * 2 ^ (7 * k) = ((n + b % 128 * 128 ^ k : Nat) : Int) ∧ n + b % 128 * 128 ^ k < 128 ^ (k + 1) := by
  have h4 : 128 ^ k ≤ 128 ^ 4 := Nat.pow_le_pow_right (by omega) (by omega)
  have h5 : (128 : Nat) ^ 4 = 268435456 := rfl
  have hp : (2 : Int) ^ (7 * k) = ((128 ^ k : Nat) : Int) := by rw [Int.pow_mul]; simp
  have hq : b % 128 * 128 ^ k ≤ 127 * 128 ^ k := Nat.mul_le_mul_right _ (by omega)
  have hc : (b : Int) % 128 * ((128 ^ k : Nat) : Int) = ((b % 128 * 128 ^ k : Nat) : Int) := by simp
  rw [hp, hc, Nat.pow_succ]
  rw [h5] at h4
  generalize b % 128 * 128 ^ k = Q at *
  generalize 128 ^ k = P at *
  refine ⟨?_, ?_, ?_, ?_, ?_⟩ <;> omega
/-- The same, where the scale is a number of its own. -/
theorem partP (b n k : Nat) (hk : k < 5) (hn : n < 128 ^ k) (P : Nat) (hP : P = 128 ^ k) :
    n ≤ 268435455 ∧ P ≤ 268435456 ∧ 0 ≤ (b : Int) % 128 * (P : Int) ∧ (b : Int) % 128 * (P : Int) ≤ 34091302912 ∧
    (n : Int) + (b : Int) % 128 * (P : Int) = ((n + b % 128 * 128 ^ k : Nat) : Int) ∧ n + b % 128 * 128 ^ k < 128 ^ (k + 1) ∧ P * 128 = 128 ^ (k + 1) := by
  subst hP
  have h := part b n k hk hn
  have hp : (2 : Int) ^ (7 * k) = ((128 ^ k : Nat) : Int) := by rw [Int.pow_mul]; simp
  rw [hp] at h
  have h4 : 128 ^ k ≤ 128 ^ 4 := Nat.pow_le_pow_right (by omega) (by omega)
  exact ⟨h.1, h4, h.2.1, h.2.2.1, h.2.2.2.1, h.2.2.2.2, (Nat.pow_succ ..).symm⟩
/-- The bytes that were met: k of them, each with more behind it. -/
theorem met_more {s : ByteArray} {a k : Nat} (h : a + k < s.size) :
    (s.data.toList.drop a).take (k + 1) = (s.data.toList.drop a).take k ++ [s[a + k]] := by
  have hl : k < (s.data.toList.drop a).length := by rw [List.length_drop, size_list]; omega
  rw [List.take_succ_eq_append_getElem hl]
  congr 2
  rw [List.getElem_drop]
  rfl
theorem extract_list (s : ByteArray) (a b : Nat) : (s.extract a b).data.toList = (s.data.toList.drop a).take (b - a) := by
  simp [ByteArray.data_extract]
theorem met_val {s : ByteArray} {a k n : Nat} (hm : ∀ c ∈ (s.data.toList.drop a).take k, 128 ≤ c.toNat) (hv : n = val ((s.data.toList.drop a).take k)) (hk : (s.data.toList.drop a).length ≥ k)
    (h : a + k < s.size) (hb : s[a + k].toNat < 128) :
    (var (n + s[a + k].toNat % 128 * 128 ^ k) = (s.data.toList.drop a).take (k + 1) ↔ ¬ (0 < k ∧ s[a + k].toNat = 0)) := by
  have hl : ((s.data.toList.drop a).take k).length = k := by rw [List.length_take]; omega
  have hs := val_snoc ((s.data.toList.drop a).take k) s[a + k]
  rw [hl, ← hv] at hs
  rw [met_more h, ← hs, var_val _ _ hm hb]
  have : (s.data.toList.drop a).take k ≠ [] ↔ 0 < k := by
    rw [ne_eq, ← List.length_eq_zero_iff, hl]; omega
  rw [this]
def fig (n : Nat) : UInt8 := if n < 10 then UInt8.ofNat (48 + n) else UInt8.ofNat (87 + n)
def hexF (b : UInt8) : List UInt8 := [fig (b.toNat / 16), fig (b.toNat % 16)]
def hex (l : List UInt8) : List UInt8 := l.flatMap hexF
theorem hex_len (l : List UInt8) : (hex l).length = 2 * l.length := by
  induction l with
  | nil => rfl
  | cons a l ih => simp only [hex, List.flatMap_cons, List.length_append, List.length_cons] at *; rw [ih]; simp [hexF]; omega
theorem hex_snoc (l : List UInt8) (b : UInt8) : hex (l ++ [b]) = hex l ++ [fig (b.toNat / 16), fig (b.toNat % 16)] := by
  simp [hex, hexF]
theorem take_snoc (s : ByteArray) (k : Nat) (h : k < s.size) : s.data.toList.take (k + 1) = s.data.toList.take k ++ [s[k]] := by
  rw [List.take_succ_eq_append_getElem (by simpa using h)]; rfl
theorem fig_low (n : Nat) (h : n < 10) : (fig n).toNat = 48 + n := by rw [fig, if_pos h, ofNat_toNat _ (by omega)]
theorem fig_high (n : Nat) (h : ¬ n < 10) (h2 : n < 16) : (fig n).toNat = 87 + n := by rw [fig, if_neg h, ofNat_toNat _ (by omega)]
end Words
end
section
namespace Words

theorem rdF_front : ∀ (f : Nat) (r : List UInt8) (k acc N e : Nat), rdF f r k acc = some (N, e) →
    ∃ m, N = acc + m * 128 ^ k ∧ (0 < k → 0 < m) ∧ k < e ∧ e ≤ k + f ∧ e - k ≤ r.length ∧ var m = r.take (e - k) ∧ N ≤ 1000000000
  | 0, _, _, _, _, _, h => by simp [rdF] at h
  | _ + 1, [], _, _, _, _, h => by simp [rdF] at h
  | f + 1, b :: r, k, acc, N, e, h => by
    rw [rdF] at h
    have hb2 := b.toNat_lt
    by_cases hb : b.toNat < 128
    · rw [if_pos hb] at h
      split at h
      · cases h
      · rename_i hc
        simp only [Option.some.injEq, Prod.mk.injEq] at h
        obtain ⟨rfl, rfl⟩ := h
        refine ⟨b.toNat % 128, rfl, fun hk => ?_, by omega, by omega, by simp, ?_, by omega⟩
        · have : ¬ b.toNat = 0 := fun h0 => hc (Or.inr ⟨hk, h0⟩)
          omega
        · rw [var_small _ (by omega)]
          have : UInt8.ofNat (b.toNat % 128) = b := byte_ext (by rw [ofNat_toNat _ (by omega)]; omega)
          rw [this]
          have : k + 1 - k = 1 := by omega
          rw [this]; rfl
    · rw [if_neg hb] at h
      obtain ⟨m, h1, h2, h3, h4, h5, h6, h7⟩ := rdF_front f r (k + 1) _ N e h
      have hm := h2 (by omega)
      refine ⟨b.toNat % 128 + 128 * m, ?_, fun _ => by omega, by omega, by omega, by simp; omega, ?_, h7⟩
      · rw [h1, Nat.add_mul, Nat.pow_succ, Nat.mul_comm 128 m, Nat.mul_assoc, Nat.mul_comm 128 (128 ^ k), Nat.add_assoc]
      · rw [var_big _ (by omega)]
        have e1 : (b.toNat % 128 + 128 * m) / 128 = m := by omega
        have e2 : UInt8.ofNat ((b.toNat % 128 + 128 * m) % 128 + 128) = b := byte_ext (by rw [ofNat_toNat _ (by omega)]; omega)
        rw [e1, e2, h6]
        obtain ⟨j, hj⟩ : ∃ j, e - k = j + 1 := ⟨e - k - 1, by omega⟩
        have : e - (k + 1) = j := by omega
        rw [hj, this]; rfl
theorem rd_front {l : List UInt8} {a n b : Nat} (h : rd l a = some (n, b)) : a < b ∧ b ≤ a + 5 ∧ b ≤ l.length ∧ a < l.length ∧ var n = (l.drop a).take (b - a) ∧ n ≤ 1000000000 := by
  unfold rd at h
  cases hr : rdF 5 (l.drop a) 0 0 with
  | none => rw [hr] at h; cases h
  | some p =>
    obtain ⟨N, e⟩ := p
    rw [hr] at h
    simp only [Option.map_some, Option.some.injEq, Prod.mk.injEq] at h
    obtain ⟨rfl, rfl⟩ := h
    obtain ⟨m, h1, _, h3, h4, h5, h6, h7⟩ := rdF_front 5 _ 0 0 _ _ hr
    rw [List.length_drop] at h5
    have hm : N = m := by rw [h1]; simp
    subst hm
    refine ⟨by omega, by omega, by omega, by omega, ?_, h7⟩
    rw [h6]; congr 1; omega
theorem var_back : ∀ (f n k acc : Nat) (r : List UInt8), n < 128 ^ (f + 1) → acc + n * 128 ^ k ≤ 1000000000 → (k = 0 ∨ 0 < n) →
    rdF (f + 1) (var n ++ r) k acc = some (acc + n * 128 ^ k, k + (var n).length)
  | f, n, k, acc, r, h, hm, hk => by
    by_cases hn : n ≤ 127
    · rw [var_small n hn]
      have e : (UInt8.ofNat n).toNat = n := ofNat_toNat n (by omega)
      simp only [List.cons_append, List.nil_append, rdF, e]
      have e2 : n % 128 = n := by omega
      rw [e2, if_pos (by omega), if_neg (by omega)]
      rfl
    · rw [var_big n (by omega)]
      have e : (UInt8.ofNat (n % 128 + 128)).toNat = n % 128 + 128 := ofNat_toNat _ (by omega)
      simp only [List.cons_append, rdF, e]
      rw [if_neg (by omega)]
      have e2 : (n % 128 + 128) % 128 = n % 128 := by omega
      rw [e2]
      have es : acc + n % 128 * 128 ^ k + n / 128 * 128 ^ (k + 1) = acc + n * 128 ^ k := by
        rw [Nat.pow_succ, Nat.mul_comm (128 ^ k) 128, ← Nat.mul_assoc, Nat.add_assoc, ← Nat.add_mul]
        have : n % 128 + n / 128 * 128 = n := by omega
        rw [this]
      obtain ⟨f', rfl⟩ : ∃ f', f = f' + 1 := ⟨f - 1, by
        cases f with
        | zero => simp at h; omega
        | succ f => simp⟩
      have := var_back f' (n / 128) (k + 1) (acc + n % 128 * 128 ^ k) r (by rw [Nat.pow_succ] at h; omega) (by rw [es]; exact hm) (Or.inr (by omega))
      rw [this, es, List.length_cons]
      congr 2
      omega
theorem rd_back (n : Nat) (h : n ≤ 1000000000) (p r : List UInt8) : rd (p ++ (var n ++ r)) p.length = some (n, p.length + (var n).length) := by
  have e : (p ++ (var n ++ r)).drop p.length = var n ++ r := by simp
  unfold rd
  rw [e, var_back 4 n 0 0 r (by omega) (by omega) (Or.inl rfl)]
  simp
end Words
end
end Go.Proofs.Ytddmogggdckneaa
