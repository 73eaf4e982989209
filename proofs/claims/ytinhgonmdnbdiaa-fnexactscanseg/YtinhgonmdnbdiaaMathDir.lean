/- Plain facts on directories: which are right, their texts, what is read of a text; no program is named here. -/
import Derived.Test.YtinhgonmdnbdiaaMathBatch
import Derived.Test.YtinhgonmdnbdiaaSums
namespace Go.Proofs.Ytinhgonmdnbdiaa
structure SpotL where
  key : ByteArray
  seg : Int
  pos : Int
  size : Int
namespace Dirs
open Go
open Batches (by_ cut cut_app cut_self cut_all rd_cut rd_at lt short rdShort rdShort_cut rdShort_at short_len)
def inB (x lo hi : Int) : Bool := decide (lo ≤ x) && decide (x ≤ hi)
theorem inB_iff {x lo hi : Int} : inB x lo hi = true ↔ lo ≤ x ∧ x ≤ hi := by simp [inB, Bool.and_eq_true]
theorem inB_no {x lo hi : Int} (h : inB x lo hi = false) : ¬ (lo ≤ x ∧ x ≤ hi) := fun q => by rw [inB_iff.2 q] at h; cases h
def spotOk (c : SpotL) : Prop := (1 ≤ c.key.size ∧ c.key.size ≤ 10) ∧ (0 ≤ c.seg ∧ c.seg ≤ 999) ∧ (0 ≤ c.pos ∧ c.pos ≤ 20000) ∧ (0 ≤ c.size ∧ c.size ≤ 40)
/-- Is the spot at j right, and behind the one ahead of it? -/
def okAt (l : List SpotL) (j : Nat) : Prop := ∃ hj : j < l.length, spotOk l[j] ∧ (0 < j → ∃ hi : j - 1 < l.length, lt l[j - 1].key l[j].key = true)
def ok (l : List SpotL) : Prop := l.length ≤ 60 ∧ ∀ j, j < l.length → okAt l j
theorem ok_step {l : List SpotL} {k : Nat} (h : ∀ j, j < k → okAt l j) (hk : okAt l k) : ∀ j, j < k + 1 → okAt l j := fun j hj => by
  rcases Nat.lt_succ_iff_lt_or_eq.1 hj with h1 | h1
  · exact h j h1
  · rw [h1]; exact hk
theorem not_ok {l : List SpotL} {j : Nat} (hj : j < l.length) (h : ¬ okAt l j) : ¬ ok l := fun h2 => h (h2.2 j hj)
theorem ok_mem {l : List SpotL} (h : ok l) : ∀ c ∈ l, spotOk c := by
  intro c hc
  obtain ⟨j, hj, rfl⟩ := List.getElem_of_mem hc
  obtain ⟨_, q, _⟩ := h.2 j hj
  exact q

def one (c : SpotL) : List UInt8 := short c.key ++ (Words.var c.seg.toNat ++ (Words.var c.pos.toNat ++ Words.var c.size.toNat))
def many : List SpotL → List UInt8
  | [] => []
  | c :: l => one c ++ many l
def text (l : List SpotL) : List UInt8 := Words.var l.length ++ many l
theorem many_app : ∀ (l m : List SpotL), many (l ++ m) = many l ++ many m
  | [], m => rfl
  | c :: l, m => by rw [List.cons_append, many, many, many_app l m, List.append_assoc]
theorem many_take {l : List SpotL} {k : Nat} (hk : k < l.length) : many (l.take (k + 1)) = many (l.take k) ++ one l[k] := by
  rw [List.take_succ_eq_append_getElem hk, many_app]; simp [many]
/-- A spot whose numbers can be written and read. -/
def small (c : SpotL) : Prop := c.key.size ≤ 20000 ∧ (0 ≤ c.seg ∧ c.seg ≤ 1000000000) ∧ (0 ≤ c.pos ∧ c.pos ≤ 1000000000) ∧ (0 ≤ c.size ∧ c.size ≤ 1000000000)
theorem spotOk_small {c : SpotL} (h : spotOk c) : small c := by
  obtain ⟨h1, h2, h3, h4⟩ := h
  exact ⟨by omega, by omega, by omega, by omega⟩
def rdSpot (s : ByteArray) (a : Nat) : Option (SpotL × Nat) :=
  match rdShort s a with
  | none => none
  | some (k, a1) => match Words.rd (by_ s) a1 with
    | none => none
    | some (g, a2) => match Words.rd (by_ s) a2 with
      | none => none
      | some (p, a3) => match Words.rd (by_ s) a3 with
        | none => none
        | some (z, a4) => some (⟨k, g, p, z⟩, a4)
theorem rdSpot_parts {s : ByteArray} {a b : Nat} {c : SpotL} (h : rdSpot s a = some (c, b)) :
    ∃ a1 a2 a3 g p z, rdShort s a = some (c.key, a1) ∧ Words.rd (by_ s) a1 = some (g, a2) ∧ Words.rd (by_ s) a2 = some (p, a3) ∧ Words.rd (by_ s) a3 = some (z, b) ∧ c.seg = (g : Int) ∧ c.pos = (p : Int) ∧ c.size = (z : Int) := by
  unfold rdSpot at h
  split at h
  · cases h
  · rename_i k a1 h1
    split at h
    · cases h
    · rename_i g a2 h2
      split at h
      · cases h
      · rename_i p a3 h3
        split at h
        · cases h
        · rename_i z a4 h4
          simp only [Option.some.injEq, Prod.mk.injEq] at h
          obtain ⟨rfl, rfl⟩ := h
          exact ⟨a1, a2, a3, g, p, z, h1, h2, h3, h4, rfl, rfl, rfl⟩
theorem rdSpot_not {s : ByteArray} {a : Nat} (h : rdSpot s a = none) :
    rdShort s a = none ∨ ∃ k a1, rdShort s a = some (k, a1) ∧ (Words.rd (by_ s) a1 = none ∨ ∃ g a2, Words.rd (by_ s) a1 = some (g, a2) ∧ (Words.rd (by_ s) a2 = none ∨ ∃ p a3, Words.rd (by_ s) a2 = some (p, a3) ∧ Words.rd (by_ s) a3 = none)) := by
  unfold rdSpot at h
  split at h
  · rename_i h1; exact Or.inl h1
  · rename_i k a1 h1
    refine Or.inr ⟨k, a1, h1, ?_⟩
    split at h
    · rename_i h2; exact Or.inl h2
    · rename_i g a2 h2
      refine Or.inr ⟨g, a2, h2, ?_⟩
      split at h
      · rename_i h3; exact Or.inl h3
      · rename_i p a3 h3
        refine Or.inr ⟨p, a3, h3, ?_⟩
        split at h
        · rename_i h4; exact h4
        · cases h
theorem rdSpot_cut {s : ByteArray} {a b : Nat} {c : SpotL} (h : rdSpot s a = some (c, b)) : a + 4 ≤ b ∧ b ≤ s.size ∧ cut s a b = one c ∧ small c := by
  obtain ⟨a1, a2, a3, g, p, z, h1, h2, h3, h4, e1, e2, e3⟩ := rdSpot_parts h
  obtain ⟨p1, p2, p3, p4⟩ := rdShort_cut h1
  obtain ⟨q1, q2, q3, q4⟩ := rd_cut h2
  obtain ⟨r1, r2, r3, r4⟩ := rd_cut h3
  obtain ⟨s1, s2, s3, s4⟩ := rd_cut h4
  refine ⟨by omega, s2, ?_, p4, by omega, by omega, by omega⟩
  rw [cut_app s (b := a1) (by omega) (by omega), cut_app s (a := a1) (b := a2) (by omega) (by omega), cut_app s (a := a2) (b := a3) (by omega) (by omega), p3, q3, r3, s3, one, e1, e2, e3]
  simp
theorem rdSpot_at {s : ByteArray} {c : SpotL} {p r : List UInt8} (hc : small c) (h : by_ s = p ++ (one c ++ r)) : rdSpot s p.length = some (c, (p ++ one c).length) := by
  obtain ⟨h1, h2, h3, h4⟩ := hc
  obtain ⟨k, g, q, z⟩ := c
  simp only at h1 h2 h3 h4
  obtain ⟨g, rfl⟩ := Int.eq_ofNat_of_zero_le h2.1
  obtain ⟨q, rfl⟩ := Int.eq_ofNat_of_zero_le h3.1
  obtain ⟨z, rfl⟩ := Int.eq_ofNat_of_zero_le h4.1
  have e0 : by_ s = p ++ (short k ++ (Words.var g ++ (Words.var q ++ (Words.var z ++ r)))) := by rw [h]; simp [one]
  have e1 : by_ s = (p ++ short k) ++ (Words.var g ++ (Words.var q ++ (Words.var z ++ r))) := by rw [e0]; simp
  have e2 : by_ s = ((p ++ short k) ++ Words.var g) ++ (Words.var q ++ (Words.var z ++ r)) := by rw [e0]; simp
  have e3 : by_ s = (((p ++ short k) ++ Words.var g) ++ Words.var q) ++ (Words.var z ++ r) := by rw [e0]; simp
  unfold rdSpot
  rw [rdShort_at h1 e0]
  simp only
  rw [rd_at (by omega) e1]
  simp only
  rw [rd_at (by omega) e2]
  simp only
  rw [rd_at (by omega) e3]
  simp [one]
def rdMany (s : ByteArray) : Nat → Nat → Option (List SpotL × Nat)
  | 0, a => some ([], a)
  | n + 1, a => match rdSpot s a with
    | none => none
    | some (c, a1) => match rdMany s n a1 with
      | none => none
      | some (l, a2) => some (c :: l, a2)
theorem rdMany_next {t : ByteArray} {m a e : Nat} {l : List SpotL} (h : rdMany t (m + 1) a = some (l, e)) : ∃ c a1 r, rdSpot t a = some (c, a1) ∧ rdMany t m a1 = some (r, e) ∧ l = c :: r := by
  rw [rdMany] at h
  split at h
  · cases h
  · rename_i c a1 h1
    split at h
    · cases h
    · rename_i r a2 h2
      simp only [Option.some.injEq, Prod.mk.injEq] at h
      obtain ⟨rfl, rfl⟩ := h
      exact ⟨c, a1, r, h1, h2, rfl⟩
theorem rdMany_torn {t : ByteArray} {m a : Nat} (h : rdMany t (m + 1) a = none) : rdSpot t a = none ∨ ∃ c a1, rdSpot t a = some (c, a1) ∧ rdMany t m a1 = none := by
  rw [rdMany] at h
  split at h
  · rename_i h1; exact Or.inl h1
  · rename_i c a1 h1
    split at h
    · rename_i h2; exact Or.inr ⟨c, a1, h1, h2⟩
    · cases h
theorem rdMany_cut {s : ByteArray} : ∀ (n a b : Nat) (l : List SpotL), a ≤ s.size → rdMany s n a = some (l, b) → a + 4 * n ≤ b ∧ b ≤ s.size ∧ cut s a b = many l ∧ l.length = n ∧ ∀ x ∈ l, small x
  | 0, a, b, l, ha, h => by
    simp only [rdMany, Option.some.injEq, Prod.mk.injEq] at h
    obtain ⟨rfl, rfl⟩ := h
    exact ⟨by omega, ha, by rw [cut_self]; rfl, rfl, fun x hx => (List.not_mem_nil hx).elim⟩
  | n + 1, a, b, l, ha, h => by
    obtain ⟨c, a1, r, h1, h2, rfl⟩ := rdMany_next h
    obtain ⟨p1, p2, p3, p4⟩ := rdSpot_cut h1
    obtain ⟨q1, q2, q3, q4, q5⟩ := rdMany_cut n a1 b r p2 h2
    refine ⟨by omega, q2, ?_, by simp [q4], fun x hx => ?_⟩
    · rw [cut_app s (b := a1) (by omega) (by omega), p3, q3]; simp [many]
    · rcases List.mem_cons.1 hx with rfl | hx
      · exact p4
      · exact q5 x hx
theorem rdMany_at {s : ByteArray} : ∀ (l : List SpotL) (p r : List UInt8), (∀ x ∈ l, small x) → by_ s = p ++ (many l ++ r) → rdMany s l.length p.length = some (l, (p ++ many l).length)
  | [], p, r, _, h => by simp [rdMany, many]
  | c :: l, p, r, hs, h => by
    have e1 : by_ s = p ++ (one c ++ (many l ++ r)) := by rw [h, many]; simp
    have e2 : by_ s = (p ++ one c) ++ (many l ++ r) := by rw [e1]; simp
    rw [List.length_cons, rdMany, rdSpot_at (hs c List.mem_cons_self) e1]
    simp only
    rw [rdMany_at l (p ++ one c) r (fun x hx => hs x (List.mem_cons_of_mem _ hx)) e2]
    simp [many]
/-- What is read of a text, up to e. -/
def Gets (u : ByteArray) (l : List SpotL) (a0 e : Nat) : Prop := l.length ≤ 60 ∧ Words.rd (by_ u) 0 = some (l.length, a0) ∧ rdMany u l.length a0 = some (l, e)
def Torn (u : ByteArray) : Prop := Words.rd (by_ u) 0 = none ∨ (∃ n a0, Words.rd (by_ u) 0 = some (n, a0) ∧ ¬ n ≤ 60) ∨ (∃ n a0, Words.rd (by_ u) 0 = some (n, a0) ∧ n ≤ 60 ∧ rdMany u n a0 = none)
theorem torn_or (u : ByteArray) : Torn u ∨ ∃ l a0 e, Gets u l a0 e := by
  rcases h0 : Words.rd (by_ u) 0 with _ | ⟨n, a0⟩
  · exact Or.inl (Or.inl h0)
  by_cases hn : n ≤ 60
  · rcases h1 : rdMany u n a0 with _ | ⟨l, e⟩
    · exact Or.inl (Or.inr (Or.inr ⟨n, a0, h0, hn, h1⟩))
    · have q1 := (rdMany_cut _ _ _ _ (rd_cut h0).2.1 h1).2.2.2.1
      subst q1
      exact Or.inr ⟨l, a0, e, hn, h0, h1⟩
  · exact Or.inl (Or.inr (Or.inl ⟨n, a0, h0, hn⟩))
def sealed (t : List UInt8) : List UInt8 := t ++ Sums.four (Sums.sumOf t)
def Got (t : ByteArray) (l : List SpotL) : Prop := by_ t = sealed (text l) ∧ ok l
theorem var_lenF : ∀ (f n : Nat), n < 128 ^ (f + 1) → (Words.var n).length ≤ f + 1
  | 0, n, h => by rw [Words.var_small n (by omega)]; simp
  | f + 1, n, h => by
    by_cases hn : n ≤ 127
    · rw [Words.var_small n hn]; simp
    · rw [Words.var_big n (by omega), List.length_cons]
      have := var_lenF f (n / 128) (by rw [Nat.div_lt_iff_lt_mul (by omega), ← Nat.pow_succ]; exact h)
      omega
theorem var_len5 {n : Nat} (h : n ≤ 1000000000) : (Words.var n).length ≤ 5 := var_lenF 4 n (by omega)
theorem one_len {c : SpotL} (h : spotOk c) : (one c).length ≤ 40 := by
  obtain ⟨h1, h2, h3, h4⟩ := h
  have e0 := short_len c.key
  have e1 := var_len5 (n := c.seg.toNat) (by omega)
  have e2 := var_len5 (n := c.pos.toNat) (by omega)
  have e3 := var_len5 (n := c.size.toNat) (by omega)
  simp only [one, List.length_append]
  omega
theorem many_len : ∀ (l : List SpotL), (∀ c ∈ l, spotOk c) → (many l).length ≤ 40 * l.length
  | [], _ => by simp [many]
  | c :: l, h => by
    have h1 := one_len (h c List.mem_cons_self)
    have h2 := many_len l (fun x hx => h x (List.mem_cons_of_mem _ hx))
    simp only [many, List.length_append, List.length_cons]
    omega
theorem text_len {l : List SpotL} (h : ok l) : (text l).length ≤ 3000 := by
  have h1 := many_len l (ok_mem h)
  have h2 := h.1
  have h3 := var_len5 (n := l.length) (by omega)
  simp only [text, List.length_append]
  omega
theorem text_gets {u : ByteArray} {l : List SpotL} (h1 : by_ u = text l) (h2 : ok l) : ∃ a0, Gets u l a0 u.size := by
  have hl : (by_ u).length = u.size := Words.size_list u
  have e0 : by_ u = [] ++ (Words.var l.length ++ (many l ++ [])) := by rw [h1]; simp [text]
  have e1 : by_ u = ([] ++ Words.var l.length) ++ (many l ++ []) := by rw [e0]; simp
  have q := rdMany_at l _ [] (fun c hc => spotOk_small (ok_mem h2 c hc)) e1
  have hq : (([] ++ Words.var l.length) ++ many l).length = u.size := by rw [← hl, e1]; simp
  rw [hq] at q
  exact ⟨_, h2.1, rd_at (by have := h2.1; omega) e0, q⟩
theorem gets_text {u : ByteArray} {l : List SpotL} {a0 : Nat} (h : Gets u l a0 u.size) : by_ u = text l := by
  obtain ⟨h0, h1, h2⟩ := h
  obtain ⟨p1, p2, p3, _⟩ := rd_cut h1
  obtain ⟨q1, q2, q3, _⟩ := rdMany_cut _ _ _ _ p2 h2
  rw [← cut_all u, cut_app u (b := a0) (by omega) (by omega), p3, q3]
  rfl
theorem gets_small {u : ByteArray} {l : List SpotL} {a0 e : Nat} (h : Gets u l a0 e) : ∀ x ∈ l, small x := (rdMany_cut _ _ _ _ (rd_cut h.2.1).2.1 h.2.2).2.2.2.2
theorem unsealed_iff {t u : List UInt8} : Sums.unsealed t = some u ↔ t = sealed u ∧ u.length ≤ 20000 := by
  unfold sealed
  constructor
  · intro h
    unfold Sums.unsealed at h
    split at h
    · rename_i hc
      simp only [Option.some.injEq] at h
      subst h
      obtain ⟨h1, h2, h3⟩ := hc
      rw [← h3]
      exact ⟨(List.take_append_drop _ _).symm, by rw [List.length_take]; omega⟩
    · cases h
  · rintro ⟨rfl, h⟩
    exact Sums.unsealed_back u h
theorem got_unsealed {t : ByteArray} {l : List SpotL} (h : Got t l) : Sums.unsealed (by_ t) = some (text l) := unsealed_iff.2 ⟨h.1, by have := text_len h.2; omega⟩
theorem unsealed_got {t : ByteArray} {l : List SpotL} (h : Sums.unsealed (by_ t) = some (text l)) (ho : ok l) : Got t l := ⟨(unsealed_iff.1 h).1, ho⟩
end Dirs
end Go.Proofs.Ytinhgonmdnbdiaa
