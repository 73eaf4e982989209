/- The state of sessions as plain lists: its keys and values, what is read of them, what a command makes of them; no program is named here. -/
import Derived.Test.YtpedpdgkbmpfjaaDoorMathMap
import Derived.Test.YtpedpdgkbmpfjaaDoorMathDec
import Derived.Test.YtpedpdgkbmpfjaaDoorMathCmd
namespace Go.Proofs.YtpedpdgkbmpfjaaDoor
set_option linter.unusedVariables false
set_option linter.unusedSimpArgs false

/-- A session: its number, its last seq, the index at which it was last heard of, its last reply. -/
structure Ses where
  id : Nat
  seq : Nat
  at_ : Nat
  rep : ByteArray

namespace Acts
open Go.Proofs.YtpedpdgkbmpfjaaDoor.Batches (by_ lt by_inj lt_iff lt_irrefl lt_trans lt_total lt_asymm)
open Go.Proofs.YtpedpdgkbmpfjaaDoor.Maps (putK cutK stepC same same_iff Asc)

theorem by_app (a b : ByteArray) : by_ (a ++ b) = by_ a ++ by_ b := by simp [by_]
def decS (n : Nat) : ByteArray := ⟨(Words.dec n).toArray⟩
theorem by_dec (n : Nat) : by_ (decS n) = Words.dec n := rfl
def skey (n : Nat) : ByteArray := ⟨#[115]⟩ ++ decS n
def sval (s : Ses) : ByteArray := decS s.seq ++ ⟨#[32]⟩ ++ decS s.at_ ++ ⟨#[32]⟩ ++ s.rep
def nkey : ByteArray := ⟨#[110]⟩
def kkey (k : ByteArray) : ByteArray := ⟨#[107]⟩ ++ k
theorem by_skey (n : Nat) : by_ (skey n) = 115 :: Words.dec n := by unfold skey; rw [by_app]; rfl
theorem by_kkey (k : ByteArray) : by_ (kkey k) = 107 :: by_ k := by unfold kkey; rw [by_app]; rfl
theorem by_nkey : by_ nkey = [110] := rfl
theorem by_sval (s : Ses) : by_ (sval s) = Words.dec s.seq ++ (32 :: (Words.dec s.at_ ++ (32 :: by_ s.rep))) := by
  unfold sval
  rw [by_app, by_app, by_app, by_app]
  simp [by_dec, by_]
theorem dec_inj {a b : Nat} (h : Words.dec a = Words.dec b) : a = b := by rw [← Words.dec_num a, ← Words.dec_num b, h]
theorem skey_inj {a b : Nat} (h : skey a = skey b) : a = b := by
  have := congrArg by_ h
  rw [by_skey, by_skey] at this
  exact dec_inj (List.cons.inj this).2
theorem k_ne_s (k : ByteArray) (n : Nat) : kkey k ≠ skey n := fun h => by
  have := congrArg by_ h
  rw [by_kkey, by_skey] at this
  exact absurd (List.cons.inj this).1 (by decide)
theorem n_ne_s (n : Nat) : nkey ≠ skey n := fun h => by
  have := congrArg by_ h
  rw [by_nkey, by_skey] at this
  exact absurd (List.cons.inj this).1 (by decide)
theorem k_ne_n (k : ByteArray) : kkey k ≠ nkey := fun h => by
  have := congrArg by_ h
  rw [by_nkey, by_kkey] at this
  exact absurd (List.cons.inj this).1 (by decide)
theorem k_lt_s (k : ByteArray) (n : Nat) : lt (kkey k) (skey n) = true := by
  rw [lt_iff, by_kkey, by_skey]
  exact List.cons_lt_cons_iff.2 (Or.inl (by decide))
theorem n_lt_s (n : Nat) : lt nkey (skey n) = true := by
  rw [lt_iff, by_nkey, by_skey]
  exact List.cons_lt_cons_iff.2 (Or.inl (by decide))

/-- A list up to its first blank, and what stands behind that. -/
def upto (l : List UInt8) : List UInt8 := l.takeWhile fun x => x != 32
def behind (l : List UInt8) : List UInt8 := (l.dropWhile fun x => x != 32).drop 1
theorem fig_not {b : UInt8} (h : Words.isFig b) : (b != 32) = true := by
  have := h.1
  refine bne_iff_ne.2 fun e => ?_
  subst e
  exact absurd this (by decide)
theorem upto_dec {l r : List UInt8} (h : ∀ b ∈ l, Words.isFig b) : upto (l ++ (32 :: r)) = l := by
  unfold upto
  rw [List.takeWhile_append_of_pos (fun b hb => fig_not (h b hb))]
  simp
theorem behind_dec {l r : List UInt8} (h : ∀ b ∈ l, Words.isFig b) : behind (l ++ (32 :: r)) = r := by
  unfold behind
  rw [List.dropWhile_append_of_pos (fun b hb => fig_not (h b hb))]
  simp
/-- The session that a pair of the state is, if it is one. -/
def parse (p : PairL) : Option Ses :=
  if (by_ p.key).head? = some 115 then
    match Words.rdD ((by_ p.key).drop 1) 0 true, Words.rdD (upto (by_ p.value)) 0 true, Words.rdD (upto (behind (by_ p.value))) 0 true with
    | some i, some x, some y => some ⟨i, x, y, ⟨(behind (behind (by_ p.value))).toArray⟩⟩
    | _, _, _ => none
  else none
def Small (s : Ses) : Prop := s.id ≤ 1000000000 ∧ s.seq ≤ 1000000000 ∧ s.at_ ≤ 1000000000
theorem rd_dec {n : Nat} (h : n ≤ 1000000000) : Words.rdD (Words.dec n) 0 true = some n := (Words.rdD_iff _ _).2 ⟨h, rfl⟩
theorem parse_enc {p : PairL} {s : Ses} (hs : Small s) (h1 : p.key = skey s.id) (h2 : p.value = sval s) : parse p = some s := by
  obtain ⟨a, b, c⟩ := hs
  unfold parse
  rw [h1, h2, by_skey, by_sval, List.head?_cons, if_pos rfl, upto_dec (Words.dec_fig _), behind_dec (Words.dec_fig _), upto_dec (Words.dec_fig _), behind_dec (Words.dec_fig _)]
  rw [List.drop_one, List.tail_cons, rd_dec a, rd_dec b, rd_dec c]
theorem parse_not {p : PairL} (h : (by_ p.key).head? ≠ some 115) : parse p = none := by unfold parse; rw [if_neg h]
theorem parse_k {k v : ByteArray} : parse ⟨kkey k, v⟩ = none := parse_not (by show (by_ (kkey k)).head? ≠ _; rw [by_kkey, List.head?_cons]; decide)
theorem parse_n {v : ByteArray} : parse ⟨nkey, v⟩ = none := parse_not (by show (by_ nkey).head? ≠ _; rw [by_nkey]; decide)

/-- What the pairs of a state are, T commands behind the empty one. -/
def Enc (T : Nat) (p : PairL) : Prop :=
  (∃ k : ByteArray, p.key = kkey k ∧ k.size ≤ 9 ∧ p.value.size ≤ 5) ∨ (∃ n : Nat, p.key = nkey ∧ p.value = decS n ∧ 1 ≤ n ∧ n ≤ T + 1) ∨
  ∃ s : Ses, p.key = skey s.id ∧ p.value = sval s ∧ s.id ≤ T ∧ s.seq ≤ T + 3 ∧ s.at_ ≤ 99 ∧ s.rep.size ≤ 9
theorem Enc.mono {T T' : Nat} {p : PairL} (h : Enc T p) (hT : T ≤ T') : Enc T' p := by
  rcases h with h | ⟨n, h1, h2, h3, h4⟩ | ⟨s, h1, h2, h3, h4, h5⟩
  · exact Or.inl h
  · exact Or.inr (Or.inl ⟨n, h1, h2, h3, by omega⟩)
  · exact Or.inr (Or.inr ⟨s, h1, h2, by omega, by omega, h5⟩)
def sess (m : List PairL) : List Ses := m.filterMap parse
structure Good (T : Nat) (m : List PairL) : Prop where
  ok : ∀ p ∈ m, Maps.pairOk p
  asc : Asc m
  len : m.length ≤ 2 * T
  enc : ∀ p ∈ m, Enc T p
  few : (sess m).length ≤ 3
theorem Good.right {T : Nat} {m : List PairL} (h : Good T m) (hT : T ≤ 30) : Maps.ok m := (Maps.ok_iff m).2 ⟨by have := h.len; omega, h.ok, h.asc⟩
theorem Good.nil : Good 0 [] := ⟨fun p h => (by cases h), List.Pairwise.nil, Nat.le_refl _, fun p h => (by cases h), Nat.zero_le _⟩
/-- A session of the state is just a pair of it. -/
theorem enc_parse {T : Nat} {p : PairL} (hT : T ≤ 90) (h : Enc T p) : (parse p = none ∧ (by_ p.key).head? ≠ some 115) ∨ ∃ s, parse p = some s ∧ p = ⟨skey s.id, sval s⟩ ∧ s.id ≤ T ∧ s.seq ≤ T + 3 ∧ s.at_ ≤ 99 ∧ s.rep.size ≤ 9 := by
  obtain ⟨pk, pv⟩ := p
  rcases h with ⟨k, h1, h2⟩ | ⟨n, h1, h2, h3⟩ | ⟨s, h1, h2, h3, h4, h5, h6⟩
  · simp only at h1; subst h1; exact Or.inl ⟨parse_k, by show (by_ (kkey k)).head? ≠ _; rw [by_kkey, List.head?_cons]; decide⟩
  · simp only at h1; subst h1; exact Or.inl ⟨parse_n, by show (by_ nkey).head? ≠ _; rw [by_nkey]; decide⟩
  · simp only at h1 h2
    subst h1 h2
    exact Or.inr ⟨s, parse_enc ⟨by omega, by omega, by omega⟩ rfl rfl, rfl, h3, h4, h5, h6⟩
theorem mem_sess {T : Nat} {m : List PairL} (hT : T ≤ 90) (h : ∀ p ∈ m, Enc T p) {s : Ses} (hs : s ∈ sess m) : (⟨skey s.id, sval s⟩ : PairL) ∈ m ∧ s.id ≤ T ∧ s.seq ≤ T + 3 ∧ s.at_ ≤ 99 ∧ s.rep.size ≤ 9 := by
  obtain ⟨p, hp, he⟩ := List.mem_filterMap.1 hs
  rcases enc_parse hT (h p hp) with ⟨h1, _⟩ | ⟨t, h1, h2, h3⟩
  · rw [h1] at he; cases he
  · rw [h1] at he
    obtain rfl := Option.some.inj he
    rw [← h2]
    exact ⟨hp, h3⟩
theorem sess_mem {m : List PairL} {s : Ses} (hs : Small s) (h : (⟨skey s.id, sval s⟩ : PairL) ∈ m) : s ∈ sess m := List.mem_filterMap.2 ⟨_, h, parse_enc hs rfl rfl⟩
theorem asc_one {m : List PairL} (h : Asc m) {p q : PairL} (hp : p ∈ m) (hq : q ∈ m) (e : p.key = q.key) : p = q := by
  obtain ⟨i, hi, rfl⟩ := List.mem_iff_getElem.1 hp
  obtain ⟨j, hj, rfl⟩ := List.mem_iff_getElem.1 hq
  rcases Nat.lt_trichotomy i j with x | x | x
  · have := Maps.asc_at PairL.key h hj x; rw [e, lt_irrefl] at this; cases this
  · subst x; rfl
  · have := Maps.asc_at PairL.key h hi x; rw [e, lt_irrefl] at this; cases this
theorem sval_inj {s t : Ses} (hs : Small s) (ht : Small t) (hi : s.id = t.id) (h : sval s = sval t) : s = t := by
  have h1 := parse_enc (p := ⟨skey s.id, sval s⟩) hs rfl rfl
  have h2 := parse_enc (p := ⟨skey t.id, sval t⟩) ht rfl rfl
  rw [hi, h, h2] at h1
  exact (Option.some.inj h1).symm
theorem sess_one {T : Nat} {m : List PairL} (hT : T ≤ 90) (h : Asc m) (he : ∀ p ∈ m, Enc T p) {s t : Ses} (hs : s ∈ sess m) (ht : t ∈ sess m) (e : s.id = t.id) : s = t := by
  obtain ⟨a1, a2, a3, a4, a5⟩ := mem_sess hT he hs
  obtain ⟨b1, b2, b3, b4, b5⟩ := mem_sess hT he ht
  have := asc_one h a1 b1 (by show skey s.id = skey t.id; rw [e])
  exact sval_inj ⟨by omega, by omega, by omega⟩ ⟨by omega, by omega, by omega⟩ e (PairL.mk.inj this).2
def findS (m : List PairL) (id : Int) : Option Ses := (sess m).find? fun s => (s.id : Int) == id
theorem find_mem {m : List PairL} {id : Int} {s : Ses} (h : findS m id = some s) : s ∈ sess m ∧ (s.id : Int) = id := ⟨List.mem_of_find?_eq_some h, by have := List.find?_some h; simpa using this⟩
theorem find_is {T : Nat} {m : List PairL} (hT : T ≤ 90) (h : Asc m) (he : ∀ p ∈ m, Enc T p) {s : Ses} (hs : s ∈ sess m) : findS m (s.id : Int) = some s := by
  unfold findS
  cases hf : (sess m).find? fun t => (t.id : Int) == (s.id : Int) with
  | none =>
    have := List.find?_eq_none.1 hf s hs
    simp at this
  | some t =>
    have h1 := List.mem_of_find?_eq_some hf
    have h2 := List.find?_some hf
    have h3 : t.id = s.id := by simp at h2; omega
    rw [sess_one hT h he h1 hs h3]
theorem find_none {m : List PairL} {id : Int} (h : findS m id = none) : ∀ s ∈ sess m, (s.id : Int) ≠ id := fun s hs e => by
  have := List.find?_eq_none.1 h s hs
  simp [e] at this
/-- The value of a key. -/
def get (m : List PairL) (k : ByteArray) : Option ByteArray := (m.find? fun p => same p.key k).map PairL.value
theorem get_mem {m : List PairL} {k v : ByteArray} (h : get m k = some v) : (⟨k, v⟩ : PairL) ∈ m := by
  unfold get at h
  obtain ⟨p, hp, rfl⟩ := Option.map_eq_some_iff.1 h
  have h1 := List.mem_of_find?_eq_some hp
  have h2' : same p.key k = true := List.find?_some (p := fun p : PairL => same p.key k) hp
  have h2 := (same_iff _ _).1 h2'
  rw [← h2]
  exact h1
theorem get_is {m : List PairL} (ha : Asc m) {k v : ByteArray} (h : (⟨k, v⟩ : PairL) ∈ m) : get m k = some v := by
  cases hg : get m k with
  | none =>
    unfold get at hg
    have := List.find?_eq_none.1 (Option.map_eq_none_iff.1 hg) _ h
    exact absurd ((same_iff _ _).2 rfl) this
  | some u =>
    have := asc_one ha (get_mem hg) h rfl
    rw [(PairL.mk.inj this).2]
theorem get_none {m : List PairL} {k : ByteArray} (h : get m k = none) : ∀ p ∈ m, p.key ≠ k := fun p hp e => by
  unfold get at h
  have := List.find?_eq_none.1 (Option.map_eq_none_iff.1 h) p hp
  exact this ((same_iff _ _).2 e)
theorem get_no {m : List PairL} {k : ByteArray} (h : ∀ p ∈ m, p.key ≠ k) : get m k = none := by
  cases hg : get m k with
  | none => rfl
  | some u => exact absurd rfl (h _ (get_mem hg))
theorem mem_cut {m : List PairL} {k : ByteArray} {p : PairL} : p ∈ cutK m k ↔ p ∈ m ∧ p.key ≠ k := by
  unfold cutK
  rw [List.mem_filter]
  constructor
  · rintro ⟨h1, h2⟩
    exact ⟨h1, fun e => by rw [(same_iff _ _).2 e] at h2; cases h2⟩
  · rintro ⟨h1, h2⟩
    refine ⟨h1, ?_⟩
    cases hs : same p.key k with
    | false => rfl
    | true => exact absurd ((same_iff _ _).1 hs) h2
theorem mem_put {m : List PairL} {k v : ByteArray} {p : PairL} : p ∈ putK m k v ↔ (p ∈ m ∧ p.key ≠ k) ∨ p = ⟨k, v⟩ := by
  unfold putK
  rw [List.mem_append, List.mem_cons, List.mem_filter, List.mem_filter]
  constructor
  · rintro (⟨h1, h2⟩ | h | ⟨h1, h2⟩)
    · exact Or.inl ⟨h1, fun e => by rw [e, lt_irrefl] at h2; cases h2⟩
    · exact Or.inr h
    · exact Or.inl ⟨h1, fun e => by rw [e, lt_irrefl] at h2; cases h2⟩
  · rintro (⟨h1, h2⟩ | h)
    · cases h3 : lt p.key k with
      | true => exact Or.inl ⟨h1, rfl⟩
      | false =>
        cases h4 : lt k p.key with
        | true => exact Or.inr (Or.inr ⟨h1, rfl⟩)
        | false => exact absurd (lt_total h3 h4) h2
    · exact Or.inr (Or.inl h)
theorem put_asc {m : List PairL} (h : Asc m) (k v : ByteArray) : Asc (putK m k v) := Maps.stepC_asc m ⟨k, v, false⟩ h
theorem cut_asc {m : List PairL} (h : Asc m) (k : ByteArray) : Asc (cutK m k) := List.Pairwise.filter _ h
theorem put_len (m : List PairL) (k v : ByteArray) : (putK m k v).length ≤ m.length + 1 := Maps.stepC_len m ⟨k, v, false⟩
theorem cut_len (m : List PairL) (k : ByteArray) : (cutK m k).length ≤ m.length := List.length_filter_le _ _
theorem get_put {m : List PairL} (h : Asc m) (k v : ByteArray) : get (putK m k v) k = some v := get_is (put_asc h k v) (mem_put.2 (Or.inr rfl))
theorem get_put_ne {m : List PairL} (h : Asc m) {k v l : ByteArray} (hne : l ≠ k) : get (putK m k v) l = get m l := by
  cases hg : get m l with
  | some u => exact get_is (put_asc h k v) (mem_put.2 (Or.inl ⟨get_mem hg, hne⟩))
  | none =>
    refine get_no fun p hp e => ?_
    rcases mem_put.1 hp with ⟨h1, _⟩ | h1
    · exact get_none hg p h1 e
    · rw [h1] at e; exact hne e.symm
theorem get_cut_ne {m : List PairL} (h : Asc m) {k l : ByteArray} (hne : l ≠ k) : get (cutK m k) l = get m l := by
  cases hg : get m l with
  | some u => exact get_is (cut_asc h k) (mem_cut.2 ⟨get_mem hg, hne⟩)
  | none => exact get_no fun p hp e => get_none hg p (mem_cut.1 hp).1 e
/-- Two pairs put, in any order. -/
theorem put_comm {m : List PairL} {k l v u : ByteArray} (h : lt k l = true) : putK (putK m k v) l u = putK (putK m l u) k v := by
  have e1 : lt l k = false := lt_asymm h
  unfold putK
  simp only [List.filter_append, List.filter_cons, List.filter_filter, h, e1, if_true, Bool.false_eq_true, if_false]
  have a1 : (m.filter fun p => lt p.key l && lt p.key k) = m.filter fun p => lt p.key k := List.filter_congr fun p _ => by
    cases hp : lt p.key k with
    | false => simp
    | true => simp [lt_trans hp h]
  have a2 : (m.filter fun p => lt p.key k && lt p.key l) = m.filter fun p => lt p.key k := List.filter_congr fun p _ => by
    cases hp : lt p.key k with
    | false => simp
    | true => simp [lt_trans hp h]
  have a3 : (m.filter fun p => lt l p.key && lt k p.key) = m.filter fun p => lt l p.key := List.filter_congr fun p _ => by
    cases hp : lt l p.key with
    | false => simp
    | true => simp [lt_trans h hp]
  have a4 : (m.filter fun p => lt k p.key && lt l p.key) = m.filter fun p => lt l p.key := List.filter_congr fun p _ => by
    cases hp : lt l p.key with
    | false => simp
    | true => simp [lt_trans h hp]
  have a5 : (m.filter fun p => lt l p.key && lt p.key k) = [] := List.filter_eq_nil_iff.2 fun p _ => by
    intro hq
    rw [Bool.and_eq_true] at hq
    have := lt_trans h (lt_trans hq.1 hq.2)
    rw [lt_irrefl] at this; cases this
  have a6 : (m.filter fun p => lt p.key k && lt l p.key) = [] := List.filter_eq_nil_iff.2 fun p _ => by
    intro hq
    rw [Bool.and_eq_true] at hq
    have := lt_trans h (lt_trans hq.2 hq.1)
    rw [lt_irrefl] at this; cases this
  have a7 : (m.filter fun p => lt p.key l && lt k p.key) = m.filter fun p => lt k p.key && lt p.key l := List.filter_congr fun p _ => Bool.and_comm _ _
  simp only [a1, a2, a3, a4, a5, a6, a7, List.append_assoc, List.cons_append, List.nil_append]
end Acts
end Go.Proofs.YtpedpdgkbmpfjaaDoor
