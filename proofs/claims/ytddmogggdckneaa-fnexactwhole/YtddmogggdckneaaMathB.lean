/- Plain facts on manifests: which are right, their texts, what is read of a text; no program is named here. Plain facts on the specification's cursor: what it reads of a text, number by number, list by list, as functions; no program is named here. Plain facts on confs and entries: their texts, and reading; no program is named here. Plain facts on reading an entry; no program is named here. Plain facts on frames in lists of bytes: what stands whole at a place, and what is told from there on; no program is named here. Plain facts on logs; no program is named here. -/
import Derived.Test.YtddmogggdckneaaMathBatch
import Derived.Test.YtddmogggdckneaaSums
import Derived.Test.YtddmogggdckneaaMathA
namespace Go.Proofs.Ytddmogggdckneaa
section
structure ManL where
  segs : List Int
  next : Int
  base : Int
  term : Int
  conf : List Int
namespace Mans
open Go
open Batches (by_ cut cut_app cut_self cut_all rd_cut rd_at)
/-- Ascending, in lo .. hi. -/
def asc : Int → Int → List Int → Bool
  | _, _, [] => true
  | lo, hi, n :: r => (decide (lo ≤ n) && decide (n ≤ hi)) && asc (n + 1) hi r
theorem asc_step {lo hi : Int} {l : List Int} {k : Nat} {R : Bool} (hk : k < l.length) (h : asc lo hi (l.drop k) = R) (h1 : lo ≤ l[k]) (h2 : l[k] ≤ hi) : asc (l[k] + 1) hi (l.drop (k + 1)) = R := by
  rw [List.drop_eq_getElem_cons hk, asc] at h
  simpa [h1, h2] using h
theorem asc_bad {lo hi : Int} {l : List Int} {k : Nat} {R : Bool} (hk : k < l.length) (h : asc lo hi (l.drop k) = R) (h1 : ¬ (lo ≤ l[k] ∧ l[k] ≤ hi)) : R = false := by
  rw [List.drop_eq_getElem_cons hk, asc] at h
  rw [← h]
  have : (decide (lo ≤ l[k]) && decide (l[k] ≤ hi)) = false := by
    by_cases q1 : lo ≤ l[k] <;> by_cases q2 : l[k] ≤ hi <;> simp_all
  rw [this]; rfl
theorem asc_end {lo hi : Int} {l : List Int} {k : Nat} {R : Bool} (hk : l.length ≤ k) (h : asc lo hi (l.drop k) = R) : R = true := by
  rw [List.drop_of_length_le hk, asc] at h; exact h.symm
theorem asc_in : ∀ (l : List Int) (lo hi : Int), asc lo hi l = true → ∀ x ∈ l, lo ≤ x ∧ x ≤ hi
  | [], _, _, _, x, hx => (List.not_mem_nil hx).elim
  | n :: r, lo, hi, h, x, hx => by
    simp only [asc, Bool.and_eq_true, decide_eq_true_eq] at h
    rcases List.mem_cons.1 hx with rfl | hx
    · exact h.1
    · have := asc_in r _ _ h.2 x hx; omega
def confOk (l : List Int) : Bool := (decide (1 ≤ l.length) && decide (l.length ≤ 4)) && asc 1 4 l
def ok (m : ManL) : Prop := (1 ≤ m.segs.length ∧ m.segs.length ≤ 8) ∧ (0 ≤ m.next ∧ m.next ≤ 1000) ∧ asc 0 (m.next - 1) m.segs = true ∧ (0 ≤ m.base ∧ m.base ≤ 100000) ∧ (0 ≤ m.term ∧ m.term ≤ 100000) ∧ confOk m.conf = true
theorem confOk_iff {l : List Int} : confOk l = true ↔ (1 ≤ l.length ∧ l.length ≤ 4) ∧ asc 1 4 l = true := by
  unfold confOk
  simp [Bool.and_eq_true]

def many : List Int → List UInt8
  | [] => []
  | x :: l => Words.var x.toNat ++ many l
theorem many_app : ∀ (l m : List Int), many (l ++ m) = many l ++ many m
  | [], m => rfl
  | c :: l, m => by simp [many, many_app l m]
theorem many_take {l : List Int} {k : Nat} (hk : k < l.length) : many (l.take (k + 1)) = many (l.take k) ++ Words.var l[k].toNat := by
  rw [List.take_succ_eq_append_getElem hk, many_app]; simp [many]
def list (l : List Int) : List UInt8 := Words.var l.length ++ many l
def text (m : ManL) : List UInt8 := list m.segs ++ (Words.var m.next.toNat ++ (Words.var m.base.toNat ++ (Words.var m.term.toNat ++ list m.conf)))
def sealed (l : List UInt8) : List UInt8 := l ++ Sums.four (Sums.sumOf l)
theorem var_five (n : Nat) (h : n ≤ 1000000000) : (Words.var n).length ≤ 5 := by
  have h1 := Words.rd_back n h [] []
  have h2 := (Words.rd_front h1).2.1
  simp at h2
  exact h2
theorem many_len : ∀ l : List Int, (∀ x ∈ l, x ≤ 1000000000) → (many l).length ≤ 5 * l.length
  | [], _ => by simp [many]
  | x :: l, h => by
    have h1 := var_five x.toNat (by have := h x List.mem_cons_self; omega)
    have h2 := many_len l (fun y hy => h y (List.mem_cons_of_mem _ hy))
    simp [many]; omega
def smallM (m : ManL) : Prop := m.segs.length ≤ 100 ∧ m.conf.length ≤ 100 ∧ (∀ x ∈ m.segs, x ≤ 1000000000) ∧ (∀ x ∈ m.conf, x ≤ 1000000000) ∧ m.next ≤ 1000000000 ∧ m.base ≤ 1000000000 ∧ m.term ≤ 1000000000
theorem ok_small {m : ManL} (h : ok m) : smallM m := by
  obtain ⟨h1, h2, h3, h4, h5, h6⟩ := h
  obtain ⟨g1, g2⟩ := confOk_iff.1 h6
  exact ⟨by omega, by omega, fun x hx => by have := asc_in _ _ _ h3 x hx; omega, fun x hx => by have := asc_in _ _ _ g2 x hx; omega, by omega, by omega, by omega⟩
theorem ok_nonneg {m : ManL} (h : ok m) : (∀ x ∈ m.segs, 0 ≤ x) ∧ (∀ x ∈ m.conf, 0 ≤ x) := by
  obtain ⟨h1, h2, h3, h4, h5, h6⟩ := h
  obtain ⟨g1, g2⟩ := confOk_iff.1 h6
  exact ⟨fun x hx => (asc_in _ _ _ h3 x hx).1, fun x hx => by have := (asc_in _ _ _ g2 x hx).1; omega⟩
theorem text_len {m : ManL} (h : smallM m) : (text m).length ≤ 1100 := by
  obtain ⟨h1, h2, h3, h4, h5, h6, h7⟩ := h
  have a1 := many_len _ h3
  have a2 := many_len _ h4
  have b1 := var_five m.segs.length (by omega)
  have b2 := var_five m.conf.length (by omega)
  have b3 := var_five m.next.toNat (by omega)
  have b4 := var_five m.base.toNat (by omega)
  have b5 := var_five m.term.toNat (by omega)
  simp only [text, list, List.length_append]
  omega

def rdMany (s : ByteArray) : Nat → Nat → Option (List Int × Nat)
  | 0, a => some ([], a)
  | n + 1, a => match Words.rd (by_ s) a with
    | none => none
    | some (c, a1) => match rdMany s n a1 with
      | none => none
      | some (l, a2) => some ((c : Int) :: l, a2)
theorem rdMany_next {t : ByteArray} {m a e : Nat} {l : List Int} (h : rdMany t (m + 1) a = some (l, e)) : ∃ c a1 r, Words.rd (by_ t) a = some (c, a1) ∧ rdMany t m a1 = some (r, e) ∧ l = (c : Int) :: r := by
  rw [rdMany] at h
  split at h
  · cases h
  · rename_i c a1 h1
    split at h
    · cases h
    · rename_i r a2 h2
      simp only [Option.some.injEq, Prod.mk.injEq] at h
      obtain ⟨rfl, rfl⟩ := h
      exact ⟨c, a1, r, h1, h2, rfl⟩
theorem rdMany_torn {t : ByteArray} {m a : Nat} (h : rdMany t (m + 1) a = none) : Words.rd (by_ t) a = none ∨ ∃ c a1, Words.rd (by_ t) a = some (c, a1) ∧ rdMany t m a1 = none := by
  rw [rdMany] at h
  split at h
  · rename_i h1; exact Or.inl h1
  · rename_i c a1 h1
    split at h
    · rename_i h2; exact Or.inr ⟨c, a1, h1, h2⟩
    · cases h
theorem rdMany_cut {s : ByteArray} : ∀ (n a b : Nat) (l : List Int), a ≤ s.size → rdMany s n a = some (l, b) → a + n ≤ b ∧ b ≤ s.size ∧ cut s a b = many l ∧ l.length = n ∧ ∀ x ∈ l, 0 ≤ x ∧ x ≤ 1000000000
  | 0, a, b, l, ha, h => by
    simp only [rdMany, Option.some.injEq, Prod.mk.injEq] at h
    obtain ⟨rfl, rfl⟩ := h
    exact ⟨by omega, ha, by rw [cut_self]; rfl, rfl, fun x hx => (List.not_mem_nil hx).elim⟩
  | n + 1, a, b, l, ha, h => by
    obtain ⟨c, a1, r, h1, h2, rfl⟩ := rdMany_next h
    obtain ⟨p1, p2, p3, p4⟩ := rd_cut h1
    obtain ⟨q1, q2, q3, q4, q5⟩ := rdMany_cut n a1 b r p2 h2
    refine ⟨by omega, q2, ?_, by simp [q4], fun x hx => ?_⟩
    · rw [cut_app s (b := a1) (by omega) (by omega), p3, q3]; simp [many]
    · rcases List.mem_cons.1 hx with rfl | hx
      · omega
      · exact q5 x hx
theorem rdMany_at {s : ByteArray} : ∀ (l : List Int) (p r : List UInt8), (∀ x ∈ l, 0 ≤ x ∧ x ≤ 1000000000) → by_ s = p ++ (many l ++ r) → rdMany s l.length p.length = some (l, (p ++ many l).length)
  | [], p, r, _, h => by simp [rdMany, many]
  | c :: l, p, r, hs, h => by
    have hc := hs c List.mem_cons_self
    obtain ⟨n, rfl⟩ := Int.eq_ofNat_of_zero_le hc.1
    have e1 : by_ s = p ++ (Words.var n ++ (many l ++ r)) := by rw [h, many]; simp
    have e2 : by_ s = (p ++ Words.var n) ++ (many l ++ r) := by rw [e1]; simp
    rw [List.length_cons, rdMany, rd_at (by omega) e1]
    simp only
    rw [rdMany_at l (p ++ Words.var n) r (fun x hx => hs x (List.mem_cons_of_mem _ hx)) e2]
    simp [many]
/-- What is read of a text, up to e. -/
structure Gets (u : ByteArray) (m : ManL) (a0 a1 a2 a3 a4 a5 e : Nat) : Prop where
  n0 : m.segs.length ≤ 8
  r0 : Words.rd (by_ u) 0 = some (m.segs.length, a0)
  r1 : rdMany u m.segs.length a0 = some (m.segs, a1)
  r2 : Words.rd (by_ u) a1 = some (m.next.toNat, a2)
  r3 : Words.rd (by_ u) a2 = some (m.base.toNat, a3)
  r4 : Words.rd (by_ u) a3 = some (m.term.toNat, a4)
  n5 : m.conf.length ≤ 4
  r5 : Words.rd (by_ u) a4 = some (m.conf.length, a5)
  r6 : rdMany u m.conf.length a5 = some (m.conf, e)
  i2 : 0 ≤ m.next
  i3 : 0 ≤ m.base
  i4 : 0 ≤ m.term
def Got (t : ByteArray) (m : ManL) : Prop := by_ t = sealed (text m) ∧ ok m
theorem text_gets {u : ByteArray} {m : ManL} (h1 : by_ u = text m) (h2 : ok m) : ∃ a0 a1 a2 a3 a4 a5, Gets u m a0 a1 a2 a3 a4 a5 u.size := by
  have hl : (by_ u).length = u.size := Words.size_list u
  have hs := ok_small h2
  have hn := ok_nonneg h2
  obtain ⟨o1, o2, o3, o4, o5, o6⟩ := h2
  obtain ⟨g1, g2⟩ := confOk_iff.1 o6
  have e0 : by_ u = [] ++ (Words.var m.segs.length ++ (many m.segs ++ (Words.var m.next.toNat ++ (Words.var m.base.toNat ++ (Words.var m.term.toNat ++ (Words.var m.conf.length ++ (many m.conf ++ []))))))) := by rw [h1]; simp [text, list]
  have e1 : by_ u = (([] ++ Words.var m.segs.length)) ++ (many m.segs ++ (Words.var m.next.toNat ++ (Words.var m.base.toNat ++ (Words.var m.term.toNat ++ (Words.var m.conf.length ++ (many m.conf ++ [])))))) := by rw [e0]; simp
  have e2 : by_ u = ((([] ++ Words.var m.segs.length)) ++ many m.segs) ++ (Words.var m.next.toNat ++ (Words.var m.base.toNat ++ (Words.var m.term.toNat ++ (Words.var m.conf.length ++ (many m.conf ++ []))))) := by rw [e0]; simp
  have e3 : by_ u = (((([] ++ Words.var m.segs.length)) ++ many m.segs) ++ Words.var m.next.toNat) ++ (Words.var m.base.toNat ++ (Words.var m.term.toNat ++ (Words.var m.conf.length ++ (many m.conf ++ [])))) := by rw [e0]; simp
  have e4 : by_ u = ((((([] ++ Words.var m.segs.length)) ++ many m.segs) ++ Words.var m.next.toNat) ++ Words.var m.base.toNat) ++ (Words.var m.term.toNat ++ (Words.var m.conf.length ++ (many m.conf ++ []))) := by rw [e0]; simp
  have e5 : by_ u = (((((([] ++ Words.var m.segs.length)) ++ many m.segs) ++ Words.var m.next.toNat) ++ Words.var m.base.toNat) ++ Words.var m.term.toNat) ++ (Words.var m.conf.length ++ (many m.conf ++ [])) := by rw [e0]; simp
  have e6 : by_ u = ((((((([] ++ Words.var m.segs.length)) ++ many m.segs) ++ Words.var m.next.toNat) ++ Words.var m.base.toNat) ++ Words.var m.term.toNat) ++ Words.var m.conf.length) ++ (many m.conf ++ []) := by rw [e0]; simp
  have s1 : ∀ x ∈ m.segs, 0 ≤ x ∧ x ≤ 1000000000 := fun x hx => ⟨hn.1 x hx, hs.2.2.1 x hx⟩
  have s2 : ∀ x ∈ m.conf, 0 ≤ x ∧ x ≤ 1000000000 := fun x hx => ⟨hn.2 x hx, hs.2.2.2.1 x hx⟩
  have q := rdMany_at m.conf _ [] s2 e6
  have hq : (((((((([] ++ Words.var m.segs.length)) ++ many m.segs) ++ Words.var m.next.toNat) ++ Words.var m.base.toNat) ++ Words.var m.term.toNat) ++ Words.var m.conf.length) ++ many m.conf).length = u.size := by rw [← hl, e6]; simp
  rw [hq] at q
  exact ⟨_, _, _, _, _, _, ⟨o1.2, rd_at (by omega) e0, rdMany_at m.segs _ _ s1 e1, rd_at (by omega) e2, rd_at (by omega) e3, rd_at (by omega) e4, g1.2, rd_at (by omega) e5, q, o2.1, o4.1, o5.1⟩⟩
theorem gets_text {u : ByteArray} {m : ManL} {a0 a1 a2 a3 a4 a5 : Nat} (h : Gets u m a0 a1 a2 a3 a4 a5 u.size) : by_ u = text m := by
  obtain ⟨p1, p2, p3, _⟩ := rd_cut h.r0
  obtain ⟨q1, q2, q3, _⟩ := rdMany_cut _ _ _ _ p2 h.r1
  obtain ⟨b1, b2, b3, _⟩ := rd_cut h.r2
  obtain ⟨c1, c2, c3, _⟩ := rd_cut h.r3
  obtain ⟨d1, d2, d3, _⟩ := rd_cut h.r4
  obtain ⟨f1, f2, f3, _⟩ := rd_cut h.r5
  obtain ⟨g1, g2, g3, _⟩ := rdMany_cut _ _ _ _ f2 h.r6
  rw [← cut_all u, cut_app u (b := a0) (by omega) (by omega), cut_app u (a := a0) (b := a1) (by omega) (by omega), cut_app u (a := a1) (b := a2) (by omega) (by omega), cut_app u (a := a2) (b := a3) (by omega) (by omega), cut_app u (a := a3) (b := a4) (by omega) (by omega), cut_app u (a := a4) (b := a5) (by omega) (by omega), p3, q3, b3, c3, d3, f3, g3]
  simp [text, list]
theorem gets_small {u : ByteArray} {m : ManL} {a0 a1 a2 a3 a4 a5 e : Nat} (h : Gets u m a0 a1 a2 a3 a4 a5 e) : smallM m := by
  obtain ⟨p1, p2, p3, _⟩ := rd_cut h.r0
  obtain ⟨q1, q2, q3, _, q5⟩ := rdMany_cut _ _ _ _ p2 h.r1
  obtain ⟨b1, b2, b3, b4⟩ := rd_cut h.r2
  obtain ⟨c1, c2, c3, c4⟩ := rd_cut h.r3
  obtain ⟨d1, d2, d3, d4⟩ := rd_cut h.r4
  obtain ⟨f1, f2, f3, _⟩ := rd_cut h.r5
  obtain ⟨g1, g2, g3, _, g5⟩ := rdMany_cut _ _ _ _ f2 h.r6
  have := h.n0; have := h.n5; have := h.i2; have := h.i3; have := h.i4
  exact ⟨by omega, by omega, fun x hx => (q5 x hx).2, fun x hx => (g5 x hx).2, by omega, by omega, by omega⟩
/-- How the reading of a list breaks off. -/
def TornL (u : ByteArray) (a M : Nat) : Prop := Words.rd (by_ u) a = none ∨ (∃ n a0, Words.rd (by_ u) a = some (n, a0) ∧ ¬ n ≤ M) ∨ (∃ n a0, Words.rd (by_ u) a = some (n, a0) ∧ n ≤ M ∧ rdMany u n a0 = none)
/-- How the reading of a text breaks off. -/
def Torn (u : ByteArray) : Prop := TornL u 0 8 ∨ ∃ n a0 a1 l, Words.rd (by_ u) 0 = some (n, a0) ∧ n ≤ 8 ∧ rdMany u n a0 = some (l, a1) ∧
    (Words.rd (by_ u) a1 = none ∨ ∃ x a2, Words.rd (by_ u) a1 = some (x, a2) ∧ (Words.rd (by_ u) a2 = none ∨ ∃ y a3, Words.rd (by_ u) a2 = some (y, a3) ∧ (Words.rd (by_ u) a3 = none ∨ ∃ z a4, Words.rd (by_ u) a3 = some (z, a4) ∧ TornL u a4 4)))
theorem torn_or (u : ByteArray) : Torn u ∨ ∃ m a0 a1 a2 a3 a4 a5 e, Gets u m a0 a1 a2 a3 a4 a5 e := by
  rcases h0 : Words.rd (by_ u) 0 with _ | ⟨n, a0⟩
  · exact Or.inl (Or.inl (Or.inl h0))
  by_cases hn : n ≤ 8
  · rcases h1 : rdMany u n a0 with _ | ⟨l, a1⟩
    · exact Or.inl (Or.inl (Or.inr (Or.inr ⟨n, a0, h0, hn, h1⟩)))
    rcases h2 : Words.rd (by_ u) a1 with _ | ⟨x, a2⟩
    · exact Or.inl (Or.inr ⟨n, a0, a1, l, h0, hn, h1, Or.inl h2⟩)
    rcases h3 : Words.rd (by_ u) a2 with _ | ⟨y, a3⟩
    · exact Or.inl (Or.inr ⟨n, a0, a1, l, h0, hn, h1, Or.inr ⟨x, a2, h2, Or.inl h3⟩⟩)
    rcases h4 : Words.rd (by_ u) a3 with _ | ⟨z, a4⟩
    · exact Or.inl (Or.inr ⟨n, a0, a1, l, h0, hn, h1, Or.inr ⟨x, a2, h2, Or.inr ⟨y, a3, h3, Or.inl h4⟩⟩⟩)
    have deep : TornL u a4 4 → Torn u := fun h => Or.inr ⟨n, a0, a1, l, h0, hn, h1, Or.inr ⟨x, a2, h2, Or.inr ⟨y, a3, h3, Or.inr ⟨z, a4, h4, h⟩⟩⟩⟩
    rcases h5 : Words.rd (by_ u) a4 with _ | ⟨k, a5⟩
    · exact Or.inl (deep (Or.inl h5))
    by_cases hk : k ≤ 4
    · rcases h6 : rdMany u k a5 with _ | ⟨c, e⟩
      · exact Or.inl (deep (Or.inr (Or.inr ⟨k, a5, h5, hk, h6⟩)))
      · have q1 := (rdMany_cut _ _ _ _ (rd_cut h0).2.1 h1).2.2.2.1
        have q2 := (rdMany_cut _ _ _ _ (rd_cut h5).2.1 h6).2.2.2.1
        subst q1 q2
        exact Or.inr ⟨⟨l, x, y, z, c⟩, a0, a1, a2, a3, a4, a5, e, ⟨hn, h0, h1, h2, h3, h4, hk, h5, h6, by simp, by simp, by simp⟩⟩
    · exact Or.inl (deep (Or.inr (Or.inl ⟨k, a5, h5, hk⟩)))
  · exact Or.inl (Or.inl (Or.inr (Or.inl ⟨n, a0, h0, hn⟩)))
theorem unsealed_iff {t u : List UInt8} : Sums.unsealed t = some u ↔ t = sealed u ∧ u.length ≤ 20000 := by
  unfold sealed
  constructor
  · intro h
    unfold Sums.unsealed at h
    split at h
    · rename_i hc
      simp only [Option.some.injEq] at h
      subst h
      obtain ⟨h1, h2, h3⟩ := hc
      rw [← h3]
      exact ⟨(List.take_append_drop _ _).symm, by rw [List.length_take]; omega⟩
    · cases h
  · rintro ⟨rfl, h⟩
    exact Sums.unsealed_back u h
theorem got_unsealed {t : ByteArray} {m : ManL} (h : Got t m) : Sums.unsealed (by_ t) = some (text m) := unsealed_iff.2 ⟨h.1, by have := text_len (ok_small h.2); omega⟩
theorem unsealed_got {t : ByteArray} {m : ManL} (h : Sums.unsealed (by_ t) = some (text m)) (ho : ok m) : Got t m := ⟨(unsealed_iff.1 h).1, ho⟩
end Mans
end
section
namespace Mans
open Batches (by_)
/-- One number: what is read, and the place and whether it went bad. -/
def cv (u : ByteArray) (s : Nat × Bool) : Nat × (Nat × Bool) :=
  if s.2 = true then (0, (s.1, true)) else match Words.rd (by_ u) s.1 with
    | none => (0, (s.1, true))
    | some (n, b) => (n, (b, false))
theorem cv_bad (u : ByteArray) (a : Nat) : cv u (a, true) = (0, (a, true)) := by simp [cv]
theorem cv_none {u : ByteArray} {a : Nat} (h : Words.rd (by_ u) a = none) : cv u (a, false) = (0, (a, true)) := by simp [cv, h]
theorem cv_some {u : ByteArray} {a n b : Nat} (h : Words.rd (by_ u) a = some (n, b)) : cv u (a, false) = (n, (b, false)) := by simp [cv, h]
/-- A list of n numbers, at most M + 1 of them, from the k-th on. -/
def cl (u : ByteArray) (n M : Nat) : Nat → Nat → Nat × Bool → List Int × (Nat × Bool)
  | 0, _, s => ([], s)
  | f + 1, k, s => if k < n ∧ s.2 = false ∧ k ≤ M then ((((cv u s).1 : Nat) : Int) :: (cl u n M f (k + 1) (cv u s).2).1, (cl u n M f (k + 1) (cv u s).2).2) else ([], s)
theorem cl_go {u : ByteArray} {n M k : Nat} {s : Nat × Bool} (h1 : k < n) (h2 : s.2 = false) (h3 : k ≤ M) : cl u n M (M + 1 - k) k s = ((((cv u s).1 : Nat) : Int) :: (cl u n M (M + 1 - (k + 1)) (k + 1) (cv u s).2).1, (cl u n M (M + 1 - (k + 1)) (k + 1) (cv u s).2).2) := by
  rw [show M + 1 - k = (M + 1 - (k + 1)) + 1 by omega, cl, if_pos ⟨h1, h2, h3⟩]
theorem cl_stop {u : ByteArray} {n M k : Nat} {s : Nat × Bool} (h : ¬ (k < n ∧ s.2 = false ∧ k ≤ M)) : cl u n M (M + 1 - k) k s = ([], s) := by
  cases hf : M + 1 - k with
  | zero => rfl
  | succ f => rw [cl, if_neg h]
theorem cl_len {u : ByteArray} {n M : Nat} : ∀ (f k : Nat) (s : Nat × Bool), (cl u n M f k s).1.length ≤ f
  | 0, _, _ => by simp [cl]
  | f + 1, k, s => by
    rw [cl]
    split
    · have := cl_len (u := u) (n := n) (M := M) f (k + 1) (cv u s).2
      simp; omega
    · simp
theorem cl_many {u : ByteArray} {N M : Nat} (hN : N ≤ M) : ∀ (j k a e : Nat) (l : List Int), k + j = N → rdMany u j a = some (l, e) → cl u N M (M + 1 - k) k (a, false) = (l, (e, false))
  | 0, k, a, e, l, hk, h => by
    simp only [rdMany, Option.some.injEq, Prod.mk.injEq] at h
    obtain ⟨rfl, rfl⟩ := h
    exact cl_stop (by omega)
  | j + 1, k, a, e, l, hk, h => by
    obtain ⟨c, a1, r, h1, h2, rfl⟩ := rdMany_next h
    rw [cl_go (by omega) rfl (by omega), cv_some h1]
    simp only
    rw [cl_many hN j (k + 1) a1 e r (by omega) h2]
/-- What the specification reads of a manifest's text. -/
structure Read (u : ByteArray) (b0 : Bool) (m : ManL) (bad : Bool) : Prop where
  of : ∃ (n k X Y Z : Nat) (s0 s1 s2 s3 s4 s5 s6 : Nat × Bool), cv u (0, b0) = (n, s0) ∧ cl u n 8 9 0 s0 = (m.segs, s1) ∧ cv u s1 = (X, s2) ∧ m.next = X ∧ cv u s2 = (Y, s3) ∧ m.base = Y ∧ cv u s3 = (Z, s4) ∧ m.term = Z ∧ cv u s4 = (k, s5) ∧ cl u k 4 5 0 s5 = (m.conf, s6) ∧ s6.2 = bad
theorem read_gets {u : ByteArray} {m m' : ManL} {bad : Bool} {a0 a1 a2 a3 a4 a5 e : Nat} (h : Gets u m a0 a1 a2 a3 a4 a5 e) (hr : Read u false m' bad) : m' = m ∧ bad = false := by
  obtain ⟨n, k, X, Y, Z, s0, s1, s2, s3, s4, s5, s6, q0, q1, q2, e2, q3, e3, q4, e4, q5, q6, q7⟩ := hr.of
  rw [cv_some h.r0] at q0
  simp only [Prod.mk.injEq] at q0
  obtain ⟨rfl, rfl⟩ := q0
  rw [show (9 : Nat) = 8 + 1 - 0 from rfl, cl_many h.n0 _ 0 _ _ _ (by omega) h.r1] at q1
  simp only [Prod.mk.injEq] at q1
  obtain ⟨f1, rfl⟩ := q1
  rw [cv_some h.r2] at q2
  simp only [Prod.mk.injEq] at q2
  obtain ⟨rfl, rfl⟩ := q2
  rw [cv_some h.r3] at q3
  simp only [Prod.mk.injEq] at q3
  obtain ⟨rfl, rfl⟩ := q3
  rw [cv_some h.r4] at q4
  simp only [Prod.mk.injEq] at q4
  obtain ⟨rfl, rfl⟩ := q4
  rw [cv_some h.r5] at q5
  simp only [Prod.mk.injEq] at q5
  obtain ⟨rfl, rfl⟩ := q5
  rw [show (5 : Nat) = 4 + 1 - 0 from rfl, cl_many h.n5 _ 0 _ _ _ (by omega) h.r6] at q6
  simp only [Prod.mk.injEq] at q6
  obtain ⟨f6, rfl⟩ := q6
  refine ⟨?_, q7.symm⟩
  have i2 := h.i2; have i3 := h.i3; have i4 := h.i4
  obtain ⟨l, x, y, z, l'⟩ := m
  obtain ⟨l2, x2, y2, z2, l2'⟩ := m'
  simp only at f1 f6 e2 e3 e4 i2 i3 i4
  subst f1 f6
  rw [e2, e3, e4, Int.toNat_of_nonneg i2, Int.toNat_of_nonneg i3, Int.toNat_of_nonneg i4]
theorem read_len {u : ByteArray} {b0 bad : Bool} {m : ManL} (h : Read u b0 m bad) : m.segs.length ≤ 9 ∧ m.conf.length ≤ 5 := by
  obtain ⟨n, k, X, Y, Z, s0, s1, s2, s3, s4, s5, s6, q0, q1, q2, e2, q3, e3, q4, e4, q5, q6, q7⟩ := h.of
  have h1 := cl_len (u := u) (n := n) (M := 8) 9 0 s0
  have h2 := cl_len (u := u) (n := k) (M := 4) 5 0 s5
  rw [q1] at h1
  rw [q6] at h2
  exact ⟨h1, h2⟩
end Mans
end
section
set_option linter.unusedVariables false
/-- An entry. -/
structure EntL where
  term : Int
  kind : Int
  data : ByteArray
namespace Ents
open Batches (by_ by_inj)
def confB (l : List Int) : List UInt8 := l.map fun n => UInt8.ofNat n.toNat
def confS (l : List Int) : ByteArray := ⟨(confB l).toArray⟩
def confOf (t : ByteArray) : List Int := (by_ t).map fun b => (b.toNat : Int)
theorem by_confS (l : List Int) : by_ (confS l) = confB l := rfl
theorem confOf_len (t : ByteArray) : (confOf t).length = t.size := by
  unfold confOf
  rw [List.length_map]
  exact Words.size_list t
theorem asc_mem : ∀ (l : List Int) (lo hi : Int), Mans.asc lo hi l = true → ∀ n ∈ l, lo ≤ n ∧ n ≤ hi
  | [], _, _, _, n, hn => (List.not_mem_nil hn).elim
  | x :: r, lo, hi, h, n, hn => by
    simp only [Mans.asc, Bool.and_eq_true, decide_eq_true_eq] at h
    rcases List.mem_cons.1 hn with rfl | hn
    · exact h.1
    · have := asc_mem r _ _ h.2 n hn
      omega
theorem conf_in {l : List Int} (h : Mans.confOk l = true) : (1 ≤ l.length ∧ l.length ≤ 4) ∧ ∀ n ∈ l, 1 ≤ n ∧ n ≤ 4 := by
  obtain ⟨h1, h2⟩ := Mans.confOk_iff.1 h
  exact ⟨h1, asc_mem l 1 4 h2⟩
theorem confOf_confS {l : List Int} (h : ∀ n ∈ l, 0 ≤ n ∧ n ≤ 255) : confOf (confS l) = l := by
  unfold confOf
  rw [by_confS]
  unfold confB
  rw [List.map_map]
  conv => rhs; rw [← List.map_id l]
  refine List.map_congr_left fun n hn => ?_
  have := h n hn
  simp only [Function.comp, id]
  rw [UInt8.toNat_ofNat']
  omega
theorem confS_confOf (t : ByteArray) : confS (confOf t) = t := by
  apply by_inj
  rw [by_confS]
  unfold confB confOf
  rw [List.map_map]
  conv => rhs; rw [← List.map_id (by_ t)]
  refine List.map_congr_left fun b _ => ?_
  simp
/-- The conf whose text this is. -/
def readC (t : ByteArray) : Option (List Int) := if Mans.confOk (confOf t) = true then some (confOf t) else none
theorem readC_iff {t : ByteArray} {l : List Int} : readC t = some l ↔ Mans.confOk l = true ∧ t = confS l := by
  unfold readC
  constructor
  · intro h
    split at h
    · rename_i hc
      cases h
      exact ⟨hc, (confS_confOf t).symm⟩
    · cases h
  · rintro ⟨h, rfl⟩
    have e := confOf_confS (l := l) fun n hn => by have := (conf_in h).2 n hn; omega
    rw [e, if_pos h]
def kindB (e : EntL) : Bool := if e.kind = 1 then decide (e.data.size = 0) else if e.kind = 2 then Mans.confOk (confOf e.data) else if e.kind = 3 then decide (e.data.size ≤ 120) else false
def okB (e : EntL) : Bool := decide (0 ≤ e.term ∧ e.term ≤ 100000) && kindB e
theorem okB_iff {e : EntL} : okB e = true ↔ (0 ≤ e.term ∧ e.term ≤ 100000) ∧ kindB e = true := by
  unfold okB
  simp [Bool.and_eq_true]
theorem kind_in {e : EntL} (h : kindB e = true) : (1 ≤ e.kind ∧ e.kind ≤ 3) ∧ e.data.size ≤ 120 := by
  unfold kindB at h
  split at h
  · have := of_decide_eq_true h
    exact ⟨by omega, by omega⟩
  · split at h
    · have := (conf_in h).1.2
      rw [confOf_len] at this
      exact ⟨by omega, by omega⟩
    · split at h
      · have := of_decide_eq_true h
        exact ⟨by omega, by omega⟩
      · cases h
/-- The text of an entry. -/
def text (i : Nat) (e : EntL) : List UInt8 := 69 :: (Words.var i ++ (Words.var e.term.toNat ++ (UInt8.ofNat e.kind.toNat :: by_ e.data)))
def textS (i : Nat) (e : EntL) : ByteArray := ⟨(text i e).toArray⟩
def right (i : Int) (e : EntL) : Prop := okB e = true ∧ 1 ≤ i ∧ i ≤ 100000
def Got (t : ByteArray) (i : Nat) (e : EntL) : Prop := by_ t = text i e ∧ right (i : Int) e
end Ents
end
section
set_option linter.unusedVariables false
namespace Ents
open Batches (by_ by_inj cut cut_app cut_all rd_cut rd_at)
/-- What stands behind place a. -/
def rest (u : ByteArray) (a : Nat) : ByteArray := u.extract a u.size
theorem by_rest (u : ByteArray) (a : Nat) : by_ (rest u a) = (by_ u).drop a := by
  unfold rest by_
  rw [Words.extract_list, List.take_of_length_le]
  rw [List.length_drop, Words.size_list]; exact Nat.le_refl _
theorem rest_size (u : ByteArray) (a : Nat) : (rest u a).size = u.size - a := by
  have : (by_ (rest u a)).length = u.size - a := by rw [by_rest, List.length_drop]; rfl
  exact this
/-- What is read of a text, by its places. -/
structure Gets (u : ByteArray) (i j : Nat) (k : UInt8) (a b : Nat) : Prop where
  h0 : (by_ u)[0]? = some 69
  r1 : Words.rd (by_ u) 1 = some (i, a)
  r2 : Words.rd (by_ u) a = some (j, b)
  hk : (by_ u)[b]? = some k
def ent (u : ByteArray) (j : Nat) (k : UInt8) (b : Nat) : EntL := ⟨(j : Int), (k.toNat : Int), rest u (b + 1)⟩
theorem cut_one {u : ByteArray} {a : Nat} {k : UInt8} (h : (by_ u)[a]? = some k) : a < u.size ∧ cut u a (a + 1) = [k] := by
  obtain ⟨h1, h2⟩ := List.getElem?_eq_some_iff.1 h
  refine ⟨h1, ?_⟩
  unfold cut
  rw [Nat.add_sub_cancel_left, Words.drop_cons h1, h2]
  rfl
theorem cut_rest (u : ByteArray) (a : Nat) : cut u a u.size = by_ (rest u a) := by
  rw [by_rest]
  unfold cut
  rw [List.take_of_length_le]
  rw [List.length_drop]; exact Nat.le_refl _
theorem gets_text {u : ByteArray} {i j : Nat} {k : UInt8} {a b : Nat} (h : Gets u i j k a b) : by_ u = text i (ent u j k b) := by
  obtain ⟨z1, z2⟩ := cut_one h.h0
  obtain ⟨p1, p2, p3, _⟩ := rd_cut h.r1
  obtain ⟨q1, q2, q3, _⟩ := rd_cut h.r2
  obtain ⟨y1, y2⟩ := cut_one h.hk
  rw [← cut_all u, cut_app u (b := 1) (by omega) (by omega), cut_app u (a := 1) (b := a) (by omega) (by omega), cut_app u (a := a) (b := b) (by omega) (by omega), cut_app u (a := b) (b := b + 1) (by omega) (by omega), z2, p3, q3, y2, cut_rest]
  simp [text, ent]
theorem kind_byte {k : Int} (h0 : 1 ≤ k) (h1 : k ≤ 3) : ((UInt8.ofNat k.toNat).toNat : Int) = k := by
  rw [Words.ofNat_toNat _ (by omega)]; omega
theorem text_gets {u : ByteArray} {i : Nat} {e : EntL} (h1 : by_ u = text i e) (h2 : right (i : Int) e) : ∃ j k a b, Gets u i j k a b ∧ e = ent u j k b := by
  obtain ⟨o1, o2, o3⟩ := h2
  obtain ⟨⟨t0, t1⟩, hk⟩ := okB_iff.1 o1
  obtain ⟨⟨k0, k1⟩, hd⟩ := kind_in hk
  have e0 : by_ u = [69] ++ (Words.var i ++ (Words.var e.term.toNat ++ (UInt8.ofNat e.kind.toNat :: by_ e.data))) := h1
  have e1 : by_ u = ([69] ++ Words.var i) ++ (Words.var e.term.toNat ++ (UInt8.ofNat e.kind.toNat :: by_ e.data)) := by rw [e0]; simp
  have e2 : by_ u = (([69] ++ Words.var i) ++ Words.var e.term.toNat) ++ (UInt8.ofNat e.kind.toNat :: by_ e.data) := by rw [e0]; simp
  have r1 := rd_at (by omega) e0
  have r2 := rd_at (by omega) e1
  refine ⟨e.term.toNat, UInt8.ofNat e.kind.toNat, _, _, ⟨by rw [e0]; rfl, r1, r2, ?_⟩, ?_⟩
  · rw [e2, List.getElem?_append_right (Nat.le_refl _), Nat.sub_self]; rfl
  · obtain ⟨t, k, d⟩ := e
    simp only at k0 k1 t0
    have hd : d = rest u ((([69] ++ Words.var i) ++ Words.var t.toNat).length + 1) := by
      apply by_inj
      rw [by_rest, e2]
      rw [List.drop_append]
      simp
    unfold ent
    simp only
    rw [kind_byte k0 k1, ← hd, Int.toNat_of_nonneg t0]
theorem gets_uniq {u : ByteArray} {i j i' j' : Nat} {k k' : UInt8} {a b a' b' : Nat} (h : Gets u i j k a b) (h' : Gets u i' j' k' a' b') : i = i' ∧ j = j' ∧ k = k' ∧ a = a' ∧ b = b' := by
  have q1 := h.r1.symm.trans h'.r1
  simp only [Option.some.injEq, Prod.mk.injEq] at q1
  obtain ⟨rfl, rfl⟩ := q1
  have q2 := h.r2.symm.trans h'.r2
  simp only [Option.some.injEq, Prod.mk.injEq] at q2
  obtain ⟨rfl, rfl⟩ := q2
  have q3 := h.hk.symm.trans h'.hk
  simp only [Option.some.injEq] at q3
  exact ⟨rfl, rfl, q3, rfl, rfl⟩
theorem gets_got {u : ByteArray} {i j : Nat} {k : UInt8} {a b : Nat} (h : Gets u i j k a b) : Got u i (ent u j k b) ↔ right (i : Int) (ent u j k b) := ⟨fun x => x.2, fun x => ⟨gets_text h, x⟩⟩
theorem got_of {u : ByteArray} {i j : Nat} {k : UInt8} {a b : Nat} (h : Gets u i j k a b) {i' : Nat} {e : EntL} (hg : Got u i' e) : i' = i ∧ e = ent u j k b := by
  obtain ⟨j', k', a', b', h', he⟩ := text_gets hg.1 hg.2
  obtain ⟨rfl, rfl, rfl, rfl, rfl⟩ := gets_uniq h h'
  exact ⟨rfl, he⟩
/-- Where reading ends ahead of its end. -/
def Torn (u : ByteArray) : Prop := (by_ u)[0]? = none ∨ (∃ c, (by_ u)[0]? = some c ∧ c ≠ 69) ∨ ((by_ u)[0]? = some 69 ∧ Words.rd (by_ u) 1 = none) ∨
  (∃ i a, (by_ u)[0]? = some 69 ∧ Words.rd (by_ u) 1 = some (i, a) ∧ Words.rd (by_ u) a = none) ∨
  (∃ i a j b, (by_ u)[0]? = some 69 ∧ Words.rd (by_ u) 1 = some (i, a) ∧ Words.rd (by_ u) a = some (j, b) ∧ (by_ u)[b]? = none)
theorem torn_or (u : ByteArray) : Torn u ∨ ∃ i j k a b, Gets u i j k a b := by
  unfold Torn
  cases h0 : (by_ u)[0]? with
  | none => exact Or.inl (Or.inl rfl)
  | some c =>
    by_cases hc : c = 69
    · subst hc
      cases h1 : Words.rd (by_ u) 1 with
      | none => exact Or.inl (Or.inr (Or.inr (Or.inl ⟨rfl, rfl⟩)))
      | some p =>
        obtain ⟨i, a⟩ := p
        cases h2 : Words.rd (by_ u) a with
        | none => exact Or.inl (Or.inr (Or.inr (Or.inr (Or.inl ⟨i, a, rfl, rfl, h2⟩))))
        | some q =>
          obtain ⟨j, b⟩ := q
          cases h3 : (by_ u)[b]? with
          | none => exact Or.inl (Or.inr (Or.inr (Or.inr (Or.inr ⟨i, a, j, b, rfl, rfl, h2, h3⟩))))
          | some k => exact Or.inr ⟨i, j, k, a, b, h0, h1, h2, h3⟩
    · exact Or.inl (Or.inr (Or.inl ⟨c, rfl, hc⟩))
theorem torn_not {u : ByteArray} (h : Torn u) (i : Nat) (e : EntL) : ¬ Got u i e := fun hg => by
  obtain ⟨j, k, a, b, g, _⟩ := text_gets hg.1 hg.2
  have g0 := g.h0
  have g1 := g.r1
  have g2 := g.r2
  have g3 := g.hk
  rcases h with h | ⟨c, h, hc⟩ | ⟨_, h⟩ | ⟨i', a', _, h, h'⟩ | ⟨i', a', j', b', _, h, h', h''⟩
  · rw [h] at g0; cases g0
  · rw [h] at g0; cases g0; exact hc rfl
  · rw [h] at g1; cases g1
  · rw [h] at g1; cases g1; rw [h'] at g2; cases g2
  · rw [h] at g1; cases g1; rw [h'] at g2; cases g2; rw [h''] at g3; cases g3
end Ents
end
section
namespace Words

/-- The length that stands at a place, and the place behind it, where what follows can be a frame. -/
def fit (l : List UInt8) (a : Nat) : Option (Nat × Nat) :=
  match rd l a with
  | none => none
  | some (n, b) => if 1 ≤ n ∧ n ≤ 9000 ∧ b + 4 + n ≤ l.length then some (n, b) else none
/-- The record of the whole frame at a place, and the place behind it. -/
def fr (l : List UInt8) (a : Nat) : Option (List UInt8 × Nat) :=
  match fit l a with
  | none => none
  | some (n, b) => if (l.drop b).take 4 = Sums.four (Sums.sumOf ((l.drop (b + 4)).take n)) then some ((l.drop (b + 4)).take n, b + 4 + n) else none
/-- The records from a place on, and the place behind the last. -/
def un : Nat → List UInt8 → Nat → List (List UInt8)
  | 0, _, _ => []
  | f + 1, l, a => match fr l a with
    | none => []
    | some (r, e) => r :: un f l e
def stop : Nat → List UInt8 → Nat → Nat
  | 0, _, a => a
  | f + 1, l, a => match fr l a with
    | none => a
    | some (_, e) => stop f l e
theorem fit_some {l : List UInt8} {a n b : Nat} (h : fit l a = some (n, b)) : rd l a = some (n, b) ∧ 1 ≤ n ∧ n ≤ 9000 ∧ b + 4 + n ≤ l.length := by
  unfold fit at h
  split at h
  · cases h
  · rename_i x n' b' hr
    split at h
    · rename_i hc
      cases h
      exact ⟨hr, hc⟩
    · cases h
theorem fit_none {l : List UInt8} {a : Nat} (h : fit l a = none) : rd l a = none ∨ ∃ n b, rd l a = some (n, b) ∧ ¬ (1 ≤ n ∧ n ≤ 9000 ∧ b + 4 + n ≤ l.length) := by
  unfold fit at h
  split at h
  · rename_i hr; exact Or.inl hr
  · rename_i x n' b' hr
    split at h
    · cases h
    · rename_i hc
      exact Or.inr ⟨n', b', hr, hc⟩
theorem fr_none {l : List UInt8} {a : Nat} (h : fit l a = none) : fr l a = none := by unfold fr; rw [h]
theorem fr_torn {l : List UInt8} {a n b : Nat} (h : fit l a = some (n, b)) (hs : ¬ (l.drop b).take 4 = Sums.four (Sums.sumOf ((l.drop (b + 4)).take n))) : fr l a = none := by
  unfold fr; rw [h]; exact if_neg hs
theorem fr_whole {l : List UInt8} {a n b : Nat} (h : fit l a = some (n, b)) (hs : (l.drop b).take 4 = Sums.four (Sums.sumOf ((l.drop (b + 4)).take n))) : fr l a = some ((l.drop (b + 4)).take n, b + 4 + n) := by
  unfold fr; rw [h]; exact if_pos hs
theorem un_end {l : List UInt8} {a : Nat} (f : Nat) (h : fr l a = none) : un f l a = [] ∧ stop f l a = a := by
  cases f with
  | zero => exact ⟨rfl, rfl⟩
  | succ f => unfold un stop; rw [h]; exact ⟨rfl, rfl⟩
theorem un_more {l : List UInt8} {a e : Nat} {r : List UInt8} (f : Nat) (h : fr l a = some (r, e)) : un (f + 1) l a = r :: un f l e ∧ stop (f + 1) l a = stop f l e := by
  rw [un, stop, h]; exact ⟨rfl, rfl⟩
theorem fr_some {l : List UInt8} {a e : Nat} {r : List UInt8} (h : fr l a = some (r, e)) : a < e ∧ e ≤ l.length := by
  unfold fr at h
  split at h
  · cases h
  · rename_i x n b hf
    obtain ⟨hr, h1, h2, h3⟩ := fit_some hf
    obtain ⟨g1, g2, g3, g4, g5, g6⟩ := rd_front hr
    split at h
    · simp only [Option.some.injEq, Prod.mk.injEq] at h
      omega
    · cases h
theorem un_len : ∀ (f : Nat) (l : List UInt8) (a : Nat), (un f l a).length ≤ l.length - a
  | 0, _, _ => by simp [un]
  | f + 1, l, a => by
    cases h : fr l a with
    | none => rw [(un_end (f + 1) h).1]; simp
    | some p =>
      obtain ⟨r, e⟩ := p
      have := un_len f l e
      have := fr_some h
      rw [(un_more f h).1, List.length_cons]
      omega
/-- The frame of a record. -/
def frame (t : List UInt8) : List UInt8 := var t.length ++ Sums.four (Sums.sumOf t) ++ t
theorem cut3 (l : List UInt8) {a b n : Nat} (hab : a ≤ b) : (l.drop a).take (b + 4 + n - a) = (l.drop a).take (b - a) ++ (l.drop b).take 4 ++ (l.drop (b + 4)).take n := by
  have e1 : b + 4 + n - a = (b - a) + (4 + n) := by omega
  rw [e1, List.take_add, List.drop_drop, List.take_add, List.drop_drop, List.append_assoc]
  have e2 : a + (b - a) = b := by omega
  rw [e2]
/-- A frame stands there just where its sum does. -/
theorem frame_iff {l : List UInt8} {a n b : Nat} (h : fit l a = some (n, b)) :
    frame ((l.drop (b + 4)).take n) = (l.drop a).take (b + 4 + n - a) ↔ (l.drop b).take 4 = Sums.four (Sums.sumOf ((l.drop (b + 4)).take n)) := by
  obtain ⟨hr, h1, h2, h3⟩ := fit_some h
  obtain ⟨g1, g2, g3, g4, g5, g6⟩ := rd_front hr
  have hl : ((l.drop (b + 4)).take n).length = n := by rw [List.length_take, List.length_drop]; omega
  rw [cut3 l (by omega), frame, hl, g5]
  constructor
  · intro e
    have e2 := List.append_cancel_right e
    exact (List.append_cancel_left e2).symm
  · intro e; rw [e]
end Words
end
section
set_option linter.unusedVariables false
/-- A log. -/
structure LogL where
  start : Int
  sterm : Int
  ents : List EntL
namespace Logs
open Ents (okB)
open Batches (by_)
/-- Right entries whose terms never fall, from t on. -/
def rises : Int → List EntL → Bool
  | _, [] => true
  | t, e :: r => (okB e && decide (t ≤ e.term)) && rises e.term r
theorem rises_step {t : Int} {l : List EntL} {k : Nat} {R : Bool} (hk : k < l.length) (h : rises t (l.drop k) = R) (h1 : okB l[k] = true) (h2 : t ≤ l[k].term) : rises l[k].term (l.drop (k + 1)) = R := by
  rw [List.drop_eq_getElem_cons hk] at h
  simpa [rises, h1, h2] using h
theorem rises_bad {t : Int} {l : List EntL} {k : Nat} {R : Bool} (hk : k < l.length) (h : rises t (l.drop k) = R) (h1 : okB l[k] = false ∨ ¬ t ≤ l[k].term) : R = false := by
  rw [List.drop_eq_getElem_cons hk] at h
  rw [← h]
  rcases h1 with h1 | h1
  · simp [rises, h1]
  · simp [rises, h1]
theorem rises_end {t : Int} {l : List EntL} {k : Nat} {R : Bool} (hk : l.length ≤ k) (h : rises t (l.drop k) = R) : R = true := by
  rw [List.drop_of_length_le hk] at h
  exact h.symm
def inB (lo hi x : Int) : Bool := decide (lo ≤ x) && decide (x ≤ hi)
/-- A right log. -/
def okL (l : LogL) : Bool := (inB 0 100000 l.start && inB 0 100000 l.sterm) && (decide (l.ents.length ≤ 120) && decide (l.start + (l.ents.length : Int) ≤ 100000)) && rises l.sterm l.ents
structure Fits (l : LogL) : Prop where
  s0 : 0 ≤ l.start
  s1 : l.start ≤ 100000
  t0 : 0 ≤ l.sterm
  t1 : l.sterm ≤ 100000
  n : l.ents.length ≤ 120
  m : l.start + (l.ents.length : Int) ≤ 100000
theorem okL_iff {l : LogL} : okL l = true ↔ Fits l ∧ rises l.sterm l.ents = true := by
  unfold okL inB
  simp only [Bool.and_eq_true, decide_eq_true_eq]
  constructor
  · rintro ⟨⟨⟨⟨a, b⟩, c, d⟩, e, f⟩, g⟩
    exact ⟨⟨a, b, c, d, e, f⟩, g⟩
  · rintro ⟨⟨a, b, c, d, e, f⟩, g⟩
    exact ⟨⟨⟨⟨a, b⟩, c, d⟩, e, f⟩, g⟩
theorem rises_mem : ∀ (l : List EntL) (t : Int), rises t l = true → ∀ e ∈ l, okB e = true ∧ t ≤ e.term
  | [], _, _, e, he => (List.not_mem_nil he).elim
  | x :: r, t, h, e, he => by
    simp only [rises, Bool.and_eq_true, decide_eq_true_eq] at h
    rcases List.mem_cons.1 he with rfl | he
    · exact h.1
    · have := rises_mem r _ h.2 e he
      exact ⟨this.1, by omega⟩
theorem rises_drop : ∀ (l : List EntL) (k : Nat) (t : Int), rises t l = true → ∀ u, (∀ h : k < l.length, u ≤ l[k].term) → rises u (l.drop k) = true
  | [], k, t, _, u, _ => by simp [rises]
  | x :: r, 0, t, h, u, hu => by
    have h0 := hu (by simp)
    simp only [List.getElem_cons_zero] at h0
    simp only [rises, Bool.and_eq_true, decide_eq_true_eq] at h
    simp [rises, h.1.1, h.2, h0]
  | x :: r, k + 1, t, h, u, hu => by
    simp only [rises, Bool.and_eq_true, decide_eq_true_eq] at h
    simp only [List.drop_succ_cons]
    refine rises_drop r k x.term h.2 u (fun hk => ?_)
    have := hu (by simpa using hk)
    simpa using this
/-- The term of the last entry. -/
def lastT (l : LogL) : Int := (l.ents.getLast?.map (·.term)).getD l.sterm
theorem lastT_nil {l : LogL} (h : l.ents.length = 0) : lastT l = l.sterm := by
  have : l.ents = [] := List.length_eq_zero_iff.1 h
  simp [lastT, this]
theorem lastT_some {l : LogL} {n : Nat} (h : l.ents.length = n + 1) (hn : n < l.ents.length) : lastT l = l.ents[n].term := by
  unfold lastT
  rw [List.getLast?_eq_getElem?, h, Nat.add_sub_cancel, List.getElem?_eq_getElem hn]
  rfl
/-- The record of a start; the text of entries from place k on; the file. -/
def startT (l : LogL) : List UInt8 := 83 :: (Words.var l.start.toNat ++ Words.var l.sterm.toNat)
def recs (s : Nat) : Nat → List EntL → List (List UInt8)
  | _, [] => []
  | k, e :: r => Ents.text (s + 1 + k) e :: recs s (k + 1) r
def frames (l : List (List UInt8)) : List UInt8 := l.flatMap Words.frame
def file (l : LogL) : List UInt8 := Words.frame (startT l) ++ frames (recs l.start.toNat 0 l.ents)
theorem recs_drop : ∀ (l : List EntL) (s j k : Nat) (hk : k < l.length), recs s (j + k) (l.drop k) = Ents.text (s + 1 + (j + k)) l[k] :: recs s (j + (k + 1)) (l.drop (k + 1))
  | l, s, j, k, hk => by
    rw [List.drop_eq_getElem_cons hk]
    rfl
theorem frames_cons (x : List UInt8) (r : List (List UInt8)) : frames (x :: r) = Words.frame x ++ frames r := by simp [frames]
theorem frames_app (x y : List (List UInt8)) : frames (x ++ y) = frames x ++ frames y := by simp [frames]
end Logs
end
end Go.Proofs.Ytddmogggdckneaa
