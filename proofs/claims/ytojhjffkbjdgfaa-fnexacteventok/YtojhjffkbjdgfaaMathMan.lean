/- Plain facts on manifests: which are right, their texts, what is read of a text; no program is named here. -/
import Derived.Test.YtojhjffkbjdgfaaMathBatch
import Derived.Test.YtojhjffkbjdgfaaSums
namespace Go.Proofs.Ytojhjffkbjdgfaa
structure ManL where
  segs : List Int
  next : Int
  base : Int
  term : Int
  conf : List Int
namespace Mans
open Go
open Batches (by_ cut cut_app cut_self cut_all rd_cut rd_at)
/-- Ascending, in lo .. hi. -/
def asc : Int → Int → List Int → Bool
  | _, _, [] => true
  | lo, hi, n :: r => (decide (lo ≤ n) && decide (n ≤ hi)) && asc (n + 1) hi r
theorem asc_step {lo hi : Int} {l : List Int} {k : Nat} {R : Bool} (hk : k < l.length) (h : asc lo hi (l.drop k) = R) (h1 : lo ≤ l[k]) (h2 : l[k] ≤ hi) : asc (l[k] + 1) hi (l.drop (k + 1)) = R := by
  rw [List.drop_eq_getElem_cons hk, asc] at h
  simpa [h1, h2] using h
theorem asc_bad {lo hi : Int} {l : List Int} {k : Nat} {R : Bool} (hk : k < l.length) (h : asc lo hi (l.drop k) = R) (h1 : ¬ (lo ≤ l[k] ∧ l[k] ≤ hi)) : R = false := by
  rw [List.drop_eq_getElem_cons hk, asc] at h
  rw [← h]
  have : (decide (lo ≤ l[k]) && decide (l[k] ≤ hi)) = false := by
    by_cases q1 : lo ≤ l[k] <;> by_cases q2 : l[k] ≤ hi <;> simp_all
  rw [this]; rfl
theorem asc_end {lo hi : Int} {l : List Int} {k : Nat} {R : Bool} (hk : l.length ≤ k) (h : asc lo hi (l.drop k) = R) : R = true := by
  rw [List.drop_of_length_le hk, asc] at h; exact h.symm
theorem asc_in : ∀ (l : List Int) (lo hi : Int), asc lo hi l = true → ∀ x ∈ l, lo ≤ x ∧ x ≤ hi
  | [], _, _, _, x, hx => (List.not_mem_nil hx).elim
  | n :: r, lo, hi, h, x, hx => by
    simp only [asc, Bool.and_eq_true, decide_eq_true_eq] at h
    rcases List.mem_cons.1 hx with rfl | hx
    · exact h.1
    · have := asc_in r _ _ h.2 x hx; omega
def confOk (l : List Int) : Bool := (decide (1 ≤ l.length) && decide (l.length ≤ 4)) && asc 1 4 l
def ok (m : ManL) : Prop := (1 ≤ m.segs.length ∧ m.segs.length ≤ 8) ∧ (0 ≤ m.next ∧ m.next ≤ 1000) ∧ asc 0 (m.next - 1) m.segs = true ∧ (0 ≤ m.base ∧ m.base ≤ 100000) ∧ (0 ≤ m.term ∧ m.term ≤ 100000) ∧ confOk m.conf = true
theorem confOk_iff {l : List Int} : confOk l = true ↔ (1 ≤ l.length ∧ l.length ≤ 4) ∧ asc 1 4 l = true := by
  unfold confOk
  simp [Bool.and_eq_true]

def many : List Int → List UInt8
  | [] => []
  | x :: l => Words.var x.toNat ++ many l
theorem many_app : ∀ (l m : List Int), many (l ++ m) = many l ++ many m
  | [], m => rfl
  | c :: l, m => by simp [many, many_app l m]
theorem many_take {l : List Int} {k : Nat} (hk : k < l.length) : many (l.take (k + 1)) = many (l.take k) ++ Words.var l[k].toNat := by
  rw [List.take_succ_eq_append_getElem hk, many_app]; simp [many]
def list (l : List Int) : List UInt8 := Words.var l.length ++ many l
def text (m : ManL) : List UInt8 := list m.segs ++ (Words.var m.next.toNat ++ (Words.var m.base.toNat ++ (Words.var m.term.toNat ++ list m.conf)))
def sealed (l : List UInt8) : List UInt8 := l ++ Sums.four (Sums.sumOf l)
theorem var_five (n : Nat) (h : n ≤ 1000000000) : (Words.var n).length ≤ 5 := by
  have h1 := Words.rd_back n h [] []
  have h2 := (Words.rd_front h1).2.1
  simp at h2
  exact h2
theorem many_len : ∀ l : List Int, (∀ x ∈ l, x ≤ 1000000000) → (many l).length ≤ 5 * l.length
  | [], _ => by simp [many]
  | x :: l, h => by
    have h1 := var_five x.toNat (by have := h x List.mem_cons_self; omega)
    have h2 := many_len l (fun y hy => h y (List.mem_cons_of_mem _ hy))
    simp [many]; omega
def smallM (m : ManL) : Prop := m.segs.length ≤ 100 ∧ m.conf.length ≤ 100 ∧ (∀ x ∈ m.segs, x ≤ 1000000000) ∧ (∀ x ∈ m.conf, x ≤ 1000000000) ∧ m.next ≤ 1000000000 ∧ m.base ≤ 1000000000 ∧ m.term ≤ 1000000000
theorem ok_small {m : ManL} (h : ok m) : smallM m := by
  obtain ⟨h1, h2, h3, h4, h5, h6⟩ := h
  obtain ⟨g1, g2⟩ := confOk_iff.1 h6
  exact ⟨by omega, by omega, fun x hx => by have := asc_in _ _ _ h3 x hx; omega, fun x hx => by have := asc_in _ _ _ g2 x hx; omega, by omega, by omega, by omega⟩
theorem ok_nonneg {m : ManL} (h : ok m) : (∀ x ∈ m.segs, 0 ≤ x) ∧ (∀ x ∈ m.conf, 0 ≤ x) := by
  obtain ⟨h1, h2, h3, h4, h5, h6⟩ := h
  obtain ⟨g1, g2⟩ := confOk_iff.1 h6
  exact ⟨fun x hx => (asc_in _ _ _ h3 x hx).1, fun x hx => by have := (asc_in _ _ _ g2 x hx).1; omega⟩
theorem text_len {m : ManL} (h : smallM m) : (text m).length ≤ 1100 := by
  obtain ⟨h1, h2, h3, h4, h5, h6, h7⟩ := h
  have a1 := many_len _ h3
  have a2 := many_len _ h4
  have b1 := var_five m.segs.length (by omega)
  have b2 := var_five m.conf.length (by omega)
  have b3 := var_five m.next.toNat (by omega)
  have b4 := var_five m.base.toNat (by omega)
  have b5 := var_five m.term.toNat (by omega)
  simp only [text, list, List.length_append]
  omega

def rdMany (s : ByteArray) : Nat → Nat → Option (List Int × Nat)
  | 0, a => some ([], a)
  | n + 1, a => match Words.rd (by_ s) a with
    | none => none
    | some (c, a1) => match rdMany s n a1 with
      | none => none
      | some (l, a2) => some ((c : Int) :: l, a2)
theorem rdMany_next {t : ByteArray} {m a e : Nat} {l : List Int} (h : rdMany t (m + 1) a = some (l, e)) : ∃ c a1 r, Words.rd (by_ t) a = some (c, a1) ∧ rdMany t m a1 = some (r, e) ∧ l = (c : Int) :: r := by
  rw [rdMany] at h
  split at h
  · cases h
  · rename_i c a1 h1
    split at h
    · cases h
    · rename_i r a2 h2
      simp only [Option.some.injEq, Prod.mk.injEq] at h
      obtain ⟨rfl, rfl⟩ := h
      exact ⟨c, a1, r, h1, h2, rfl⟩
theorem rdMany_torn {t : ByteArray} {m a : Nat} (h : rdMany t (m + 1) a = none) : Words.rd (by_ t) a = none ∨ ∃ c a1, Words.rd (by_ t) a = some (c, a1) ∧ rdMany t m a1 = none := by
  rw [rdMany] at h
  split at h
  · rename_i h1; exact Or.inl h1
  · rename_i c a1 h1
    split at h
    · rename_i h2; exact Or.inr ⟨c, a1, h1, h2⟩
    · cases h
theorem rdMany_cut {s : ByteArray} : ∀ (n a b : Nat) (l : List Int), a ≤ s.size → rdMany s n a = some (l, b) → a + n ≤ b ∧ b ≤ s.size ∧ cut s a b = many l ∧ l.length = n ∧ ∀ x ∈ l, 0 ≤ x ∧ x ≤ 1000000000
  | 0, a, b, l, ha, h => by
    simp only [rdMany, Option.some.injEq, Prod.mk.injEq] at h
    obtain ⟨rfl, rfl⟩ := h
    exact ⟨by omega, ha, by rw [cut_self]; rfl, rfl, fun x hx => (List.not_mem_nil hx).elim⟩
  | n + 1, a, b, l, ha, h => by
    obtain ⟨c, a1, r, h1, h2, rfl⟩ := rdMany_next h
    obtain ⟨p1, p2, p3, p4⟩ := rd_cut h1
    obtain ⟨q1, q2, q3, q4, q5⟩ := rdMany_cut n a1 b r p2 h2
    refine ⟨by omega, q2, ?_, by simp [q4], fun x hx => ?_⟩
    · rw [cut_app s (b := a1) (by omega) (by omega), p3, q3]; simp [many]
    · rcases List.mem_cons.1 hx with rfl | hx
      · omega
      · exact q5 x hx
theorem rdMany_at {s : ByteArray} : ∀ (l : List Int) (p r : List UInt8), (∀ x ∈ l, 0 ≤ x ∧ x ≤ 1000000000) → by_ s = p ++ (many l ++ r) → rdMany s l.length p.length = some (l, (p ++ many l).length)
  | [], p, r, _, h => by simp [rdMany, many]
  | c :: l, p, r, hs, h => by
    have hc := hs c List.mem_cons_self
    obtain ⟨n, rfl⟩ := Int.eq_ofNat_of_zero_le hc.1
    have e1 : by_ s = p ++ (Words.var n ++ (many l ++ r)) := by rw [h, many]; simp
    have e2 : by_ s = (p ++ Words.var n) ++ (many l ++ r) := by rw [e1]; simp
    rw [List.length_cons, rdMany, rd_at (by omega) e1]
    simp only
    rw [rdMany_at l (p ++ Words.var n) r (fun x hx => hs x (List.mem_cons_of_mem _ hx)) e2]
    simp [many]
/-- What is read of a text, up to e. -/
structure Gets (u : ByteArray) (m : ManL) (a0 a1 a2 a3 a4 a5 e : Nat) : Prop where
  n0 : m.segs.length ≤ 8
  r0 : Words.rd (by_ u) 0 = some (m.segs.length, a0)
  r1 : rdMany u m.segs.length a0 = some (m.segs, a1)
  r2 : Words.rd (by_ u) a1 = some (m.next.toNat, a2)
  r3 : Words.rd (by_ u) a2 = some (m.base.toNat, a3)
  r4 : Words.rd (by_ u) a3 = some (m.term.toNat, a4)
  n5 : m.conf.length ≤ 4
  r5 : Words.rd (by_ u) a4 = some (m.conf.length, a5)
  r6 : rdMany u m.conf.length a5 = some (m.conf, e)
  i2 : 0 ≤ m.next
  i3 : 0 ≤ m.base
  i4 : 0 ≤ m.term
def Got (t : ByteArray) (m : ManL) : Prop := by_ t = sealed (text m) ∧ ok m
theorem text_gets {u : ByteArray} {m : ManL} (h1 : by_ u = text m) (h2 : ok m) : ∃ a0 a1 a2 a3 a4 a5, Gets u m a0 a1 a2 a3 a4 a5 u.size := by
  have hl : (by_ u).length = u.size := Words.size_list u
  have hs := ok_small h2
  have hn := ok_nonneg h2
  obtain ⟨o1, o2, o3, o4, o5, o6⟩ := h2
  obtain ⟨g1, g2⟩ := confOk_iff.1 o6
  have e0 : by_ u = [] ++ (Words.var m.segs.length ++ (many m.segs ++ (Words.var m.next.toNat ++ (Words.var m.base.toNat ++ (Words.var m.term.toNat ++ (Words.var m.conf.length ++ (many m.conf ++ []))))))) := by rw [h1]; simp [text, list]
  have e1 : by_ u = (([] ++ Words.var m.segs.length)) ++ (many m.segs ++ (Words.var m.next.toNat ++ (Words.var m.base.toNat ++ (Words.var m.term.toNat ++ (Words.var m.conf.length ++ (many m.conf ++ [])))))) := by rw [e0]; simp
  have e2 : by_ u = ((([] ++ Words.var m.segs.length)) ++ many m.segs) ++ (Words.var m.next.toNat ++ (Words.var m.base.toNat ++ (Words.var m.term.toNat ++ (Words.var m.conf.length ++ (many m.conf ++ []))))) := by rw [e0]; simp
  have e3 : by_ u = (((([] ++ Words.var m.segs.length)) ++ many m.segs) ++ Words.var m.next.toNat) ++ (Words.var m.base.toNat ++ (Words.var m.term.toNat ++ (Words.var m.conf.length ++ (many m.conf ++ [])))) := by rw [e0]; simp
  have e4 : by_ u = ((((([] ++ Words.var m.segs.length)) ++ many m.segs) ++ Words.var m.next.toNat) ++ Words.var m.base.toNat) ++ (Words.var m.term.toNat ++ (Words.var m.conf.length ++ (many m.conf ++ []))) := by rw [e0]; simp
  have e5 : by_ u = (((((([] ++ Words.var m.segs.length)) ++ many m.segs) ++ Words.var m.next.toNat) ++ Words.var m.base.toNat) ++ Words.var m.term.toNat) ++ (Words.var m.conf.length ++ (many m.conf ++ [])) := by rw [e0]; simp
  have e6 : by_ u = ((((((([] ++ Words.var m.segs.length)) ++ many m.segs) ++ Words.var m.next.toNat) ++ Words.var m.base.toNat) ++ Words.var m.term.toNat) ++ Words.var m.conf.length) ++ (many m.conf ++ []) := by rw [e0]; simp
  have s1 : ∀ x ∈ m.segs, 0 ≤ x ∧ x ≤ 1000000000 := fun x hx => ⟨hn.1 x hx, hs.2.2.1 x hx⟩
  have s2 : ∀ x ∈ m.conf, 0 ≤ x ∧ x ≤ 1000000000 := fun x hx => ⟨hn.2 x hx, hs.2.2.2.1 x hx⟩
  have q := rdMany_at m.conf _ [] s2 e6
  have hq : (((((((([] ++ Words.var m.segs.length)) ++ many m.segs) ++ Words.var m.next.toNat) ++ Words.var m.base.toNat) ++ Words.var m.term.toNat) ++ Words.var m.conf.length) ++ many m.conf).length = u.size := by rw [← hl, e6]; simp
  rw [hq] at q
  exact ⟨_, _, _, _, _, _, ⟨o1.2, rd_at (by omega) e0, rdMany_at m.segs _ _ s1 e1, rd_at (by omega) e2, rd_at (by omega) e3, rd_at (by omega) e4, g1.2, rd_at (by omega) e5, q, o2.1, o4.1, o5.1⟩⟩
theorem gets_text {u : ByteArray} {m : ManL} {a0 a1 a2 a3 a4 a5 : Nat} (h : Gets u m a0 a1 a2 a3 a4 a5 u.size) : by_ u = text m := by
  obtain ⟨p1, p2, p3, _⟩ := rd_cut h.r0
  obtain ⟨q1, q2, q3, _⟩ := rdMany_cut _ _ _ _ p2 h.r1
  obtain ⟨b1, b2, b3, _⟩ := rd_cut h.r2
  obtain ⟨c1, c2, c3, _⟩ := rd_cut h.r3
  obtain ⟨d1, d2, d3, _⟩ := rd_cut h.r4
  obtain ⟨f1, f2, f3, _⟩ := rd_cut h.r5
  obtain ⟨g1, g2, g3, _⟩ := rdMany_cut _ _ _ _ f2 h.r6
  rw [← cut_all u, cut_app u (b := a0) (by omega) (by omega), cut_app u (a := a0) (b := a1) (by omega) (by omega), cut_app u (a := a1) (b := a2) (by omega) (by omega), cut_app u (a := a2) (b := a3) (by omega) (by omega), cut_app u (a := a3) (b := a4) (by omega) (by omega), cut_app u (a := a4) (b := a5) (by omega) (by omega), p3, q3, b3, c3, d3, f3, g3]
  simp [text, list]
theorem gets_small {u : ByteArray} {m : ManL} {a0 a1 a2 a3 a4 a5 e : Nat} (h : Gets u m a0 a1 a2 a3 a4 a5 e) : smallM m := by
  obtain ⟨p1, p2, p3, _⟩ := rd_cut h.r0
  obtain ⟨q1, q2, q3, _, q5⟩ := rdMany_cut _ _ _ _ p2 h.r1
  obtain ⟨b1, b2, b3, b4⟩ := rd_cut h.r2
  obtain ⟨c1, c2, c3, c4⟩ := rd_cut h.r3
  obtain ⟨d1, d2, d3, d4⟩ := rd_cut h.r4
  obtain ⟨f1, f2, f3, _⟩ := rd_cut h.r5
  obtain ⟨g1, g2, g3, _, g5⟩ := rdMany_cut _ _ _ _ f2 h.r6
  have := h.n0; have := h.n5; have := h.i2; have := h.i3; have := h.i4
  exact ⟨by omega, by omega, fun x hx => (q5 x hx).2, fun x hx => (g5 x hx).2, by omega, by omega, by omega⟩
/-- How the reading of a list breaks off. -/
def TornL (u : ByteArray) (a M : Nat) : Prop := Words.rd (by_ u) a = none ∨ (∃ n a0, Words.rd (by_ u) a = some (n, a0) ∧ ¬ n ≤ M) ∨ (∃ n a0, Words.rd (by_ u) a = some (n, a0) ∧ n ≤ M ∧ rdMany u n a0 = none)
/-- How the reading of a text breaks off. -/
def Torn (u : ByteArray) : Prop := TornL u 0 8 ∨ ∃ n a0 a1 l, Words.rd (by_ u) 0 = some (n, a0) ∧ n ≤ 8 ∧ rdMany u n a0 = some (l, a1) ∧
    (Words.rd (by_ u) a1 = none ∨ ∃ x a2, Words.rd (by_ u) a1 = some (x, a2) ∧ (Words.rd (by_ u) a2 = none ∨ ∃ y a3, Words.rd (by_ u) a2 = some (y, a3) ∧ (Words.rd (by_ u) a3 = none ∨ ∃ z a4, Words.rd (by_ u) a3 = some (z, a4) ∧ TornL u a4 4)))
theorem torn_or (u : ByteArray) : Torn u ∨ ∃ m a0 a1 a2 a3 a4 a5 e, Gets u m a0 a1 a2 a3 a4 a5 e := by
  rcases h0 : Words.rd (by_ u) 0 with _ | ⟨n, a0⟩
  · exact Or.inl (Or.inl (Or.inl h0))
  by_cases hn : n ≤ 8
  · rcases h1 : rdMany u n a0 with _ | ⟨l, a1⟩
    · exact Or.inl (Or.inl (Or.inr (Or.inr ⟨n, a0, h0, hn, h1⟩)))
    rcases h2 : Words.rd (by_ u) a1 with _ | ⟨x, a2⟩
    · exact Or.inl (Or.inr ⟨n, a0, a1, l, h0, hn, h1, Or.inl h2⟩)
    rcases h3 : Words.rd (by_ u) a2 with _ | ⟨y, a3⟩
    · exact Or.inl (Or.inr ⟨n, a0, a1, l, h0, hn, h1, Or.inr ⟨x, a2, h2, Or.inl h3⟩⟩)
    rcases h4 : Words.rd (by_ u) a3 with _ | ⟨z, a4⟩
    · exact Or.inl (Or.inr ⟨n, a0, a1, l, h0, hn, h1, Or.inr ⟨x, a2, h2, Or.inr ⟨y, a3, h3, Or.inl h4⟩⟩⟩)
    have deep : TornL u a4 4 → Torn u := fun h => Or.inr ⟨n, a0, a1, l, h0, hn, h1, Or.inr ⟨x, a2, h2, Or.inr ⟨y, a3, h3, Or.inr ⟨z, a4, h4, h⟩⟩⟩⟩
    rcases h5 : Words.rd (by_ u) a4 with _ | ⟨k, a5⟩
    · exact Or.inl (deep (Or.inl h5))
    by_cases hk : k ≤ 4
    · rcases h6 : rdMany u k a5 with _ | ⟨c, e⟩
      · exact Or.inl (deep (Or.inr (Or.inr ⟨k, a5, h5, hk, h6⟩)))
      · have q1 := (rdMany_cut _ _ _ _ (rd_cut h0).2.1 h1).2.2.2.1
        have q2 := (rdMany_cut _ _ _ _ (rd_cut h5).2.1 h6).2.2.2.1
        subst q1 q2
        exact Or.inr ⟨⟨l, x, y, z, c⟩, a0, a1, a2, a3, a4, a5, e, ⟨hn, h0, h1, h2, h3, h4, hk, h5, h6, by simp, by simp, by simp⟩⟩
    · exact Or.inl (deep (Or.inr (Or.inl ⟨k, a5, h5, hk⟩)))
  · exact Or.inl (Or.inl (Or.inr (Or.inl ⟨n, a0, h0, hn⟩)))
theorem unsealed_iff {t u : List UInt8} : Sums.unsealed t = some u ↔ t = sealed u ∧ u.length ≤ 20000 := by
  unfold sealed
  constructor
  · intro h
    unfold Sums.unsealed at h
    split at h
    · rename_i hc
      simp only [Option.some.injEq] at h
      subst h
      obtain ⟨h1, h2, h3⟩ := hc
      rw [← h3]
      exact ⟨(List.take_append_drop _ _).symm, by rw [List.length_take]; omega⟩
    · cases h
  · rintro ⟨rfl, h⟩
    exact Sums.unsealed_back u h
theorem got_unsealed {t : ByteArray} {m : ManL} (h : Got t m) : Sums.unsealed (by_ t) = some (text m) := unsealed_iff.2 ⟨h.1, by have := text_len (ok_small h.2); omega⟩
theorem unsealed_got {t : ByteArray} {m : ManL} (h : Sums.unsealed (by_ t) = some (text m)) (ho : ok m) : Got t m := ⟨(unsealed_iff.1 h).1, ho⟩
end Mans
end Go.Proofs.Ytojhjffkbjdgfaa
