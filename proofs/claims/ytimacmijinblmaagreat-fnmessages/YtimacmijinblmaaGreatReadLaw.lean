/- Plain facts on reading an entry; no program is named here. Both ReadVar at every text and every place, and the law over them, walked. -/
import Derived.Test.YtimacmijinblmaaGreatKit
import Derived.Test.YtimacmijinblmaaGreatSTxt
namespace Go.Proofs.YtimacmijinblmaaGreat
set_option linter.unusedVariables false
namespace Ents
open Batches (by_ by_inj cut cut_app cut_all rd_cut rd_at)
/-- What stands behind place a. -/
def rest (u : ByteArray) (a : Nat) : ByteArray := u.extract a u.size
theorem by_rest (u : ByteArray) (a : Nat) : by_ (rest u a) = (by_ u).drop a := by
  unfold rest by_
  rw [Words.extract_list, List.take_of_length_le]
  rw [List.length_drop, Words.size_list]; exact Nat.le_refl _
theorem rest_size (u : ByteArray) (a : Nat) : (rest u a).size = u.size - a := by
  have : (by_ (rest u a)).length = u.size - a := by rw [by_rest, List.length_drop]; rfl
  exact this
/-- What is read of a text, by its places. -/
structure Gets (u : ByteArray) (i j : Nat) (k : UInt8) (a b : Nat) : Prop where
  h0 : (by_ u)[0]? = some 69
  r1 : Words.rd (by_ u) 1 = some (i, a)
  r2 : Words.rd (by_ u) a = some (j, b)
  hk : (by_ u)[b]? = some k
def ent (u : ByteArray) (j : Nat) (k : UInt8) (b : Nat) : EntL := ⟨(j : Int), (k.toNat : Int), rest u (b + 1)⟩
theorem cut_one {u : ByteArray} {a : Nat} {k : UInt8} (h : (by_ u)[a]? = some k) : a < u.size ∧ cut u a (a + 1) = [k] := by
  obtain ⟨h1, h2⟩ := List.getElem?_eq_some_iff.1 h
  refine ⟨h1, ?_⟩
  unfold cut
  rw [Nat.add_sub_cancel_left, Words.drop_cons h1, h2]
  rfl
theorem cut_rest (u : ByteArray) (a : Nat) : cut u a u.size = by_ (rest u a) := by
  rw [by_rest]
  unfold cut
  rw [List.take_of_length_le]
  rw [List.length_drop]; exact Nat.le_refl _
theorem gets_text {u : ByteArray} {i j : Nat} {k : UInt8} {a b : Nat} (h : Gets u i j k a b) : by_ u = text i (ent u j k b) := by
  obtain ⟨z1, z2⟩ := cut_one h.h0
  obtain ⟨p1, p2, p3, _⟩ := rd_cut h.r1
  obtain ⟨q1, q2, q3, _⟩ := rd_cut h.r2
  obtain ⟨y1, y2⟩ := cut_one h.hk
  rw [← cut_all u, cut_app u (b := 1) (by omega) (by omega), cut_app u (a := 1) (b := a) (by omega) (by omega), cut_app u (a := a) (b := b) (by omega) (by omega), cut_app u (a := b) (b := b + 1) (by omega) (by omega), z2, p3, q3, y2, cut_rest]
  simp [text, ent]
theorem kind_byte {k : Int} (h0 : 1 ≤ k) (h1 : k ≤ 3) : ((UInt8.ofNat k.toNat).toNat : Int) = k := by
  rw [Words.ofNat_toNat _ (by omega)]; omega
theorem text_gets {u : ByteArray} {i : Nat} {e : EntL} (h1 : by_ u = text i e) (h2 : right (i : Int) e) : ∃ j k a b, Gets u i j k a b ∧ e = ent u j k b := by
  obtain ⟨o1, o2, o3⟩ := h2
  obtain ⟨⟨t0, t1⟩, hk⟩ := okB_iff.1 o1
  obtain ⟨⟨k0, k1⟩, hd⟩ := kind_in hk
  have e0 : by_ u = [69] ++ (Words.var i ++ (Words.var e.term.toNat ++ (UInt8.ofNat e.kind.toNat :: by_ e.data))) := h1
  have e1 : by_ u = ([69] ++ Words.var i) ++ (Words.var e.term.toNat ++ (UInt8.ofNat e.kind.toNat :: by_ e.data)) := by rw [e0]; simp
  have e2 : by_ u = (([69] ++ Words.var i) ++ Words.var e.term.toNat) ++ (UInt8.ofNat e.kind.toNat :: by_ e.data) := by rw [e0]; simp
  have r1 := rd_at (by omega) e0
  have r2 := rd_at (by omega) e1
  refine ⟨e.term.toNat, UInt8.ofNat e.kind.toNat, _, _, ⟨by rw [e0]; rfl, r1, r2, ?_⟩, ?_⟩
  · rw [e2, List.getElem?_append_right (Nat.le_refl _), Nat.sub_self]; rfl
  · obtain ⟨t, k, d⟩ := e
    simp only at k0 k1 t0
    have hd : d = rest u ((([69] ++ Words.var i) ++ Words.var t.toNat).length + 1) := by
      apply by_inj
      rw [by_rest, e2]
      rw [List.drop_append]
      simp
    unfold ent
    simp only
    rw [kind_byte k0 k1, ← hd, Int.toNat_of_nonneg t0]
theorem gets_uniq {u : ByteArray} {i j i' j' : Nat} {k k' : UInt8} {a b a' b' : Nat} (h : Gets u i j k a b) (h' : Gets u i' j' k' a' b') : i = i' ∧ j = j' ∧ k = k' ∧ a = a' ∧ b = b' := by
  have q1 := h.r1.symm.trans h'.r1
  simp only [Option.some.injEq, Prod.mk.injEq] at q1
  obtain ⟨rfl, rfl⟩ := q1
  have q2 := h.r2.symm.trans h'.r2
  simp only [Option.some.injEq, Prod.mk.injEq] at q2
  obtain ⟨rfl, rfl⟩ := q2
  have q3 := h.hk.symm.trans h'.hk
  simp only [Option.some.injEq] at q3
  exact ⟨rfl, rfl, q3, rfl, rfl⟩
theorem got_of {u : ByteArray} {i j : Nat} {k : UInt8} {a b : Nat} (h : Gets u i j k a b) {i' : Nat} {e : EntL} (hg : Got u i' e) : i' = i ∧ e = ent u j k b := by
  obtain ⟨j', k', a', b', h', he⟩ := text_gets hg.1 hg.2
  obtain ⟨rfl, rfl, rfl, rfl, rfl⟩ := gets_uniq h h'
  exact ⟨rfl, he⟩
/-- Where reading ends ahead of its end. -/
def Torn (u : ByteArray) : Prop := (by_ u)[0]? = none ∨ (∃ c, (by_ u)[0]? = some c ∧ c ≠ 69) ∨ ((by_ u)[0]? = some 69 ∧ Words.rd (by_ u) 1 = none) ∨
  (∃ i a, (by_ u)[0]? = some 69 ∧ Words.rd (by_ u) 1 = some (i, a) ∧ Words.rd (by_ u) a = none) ∨
  (∃ i a j b, (by_ u)[0]? = some 69 ∧ Words.rd (by_ u) 1 = some (i, a) ∧ Words.rd (by_ u) a = some (j, b) ∧ (by_ u)[b]? = none)
theorem torn_or (u : ByteArray) : Torn u ∨ ∃ i j k a b, Gets u i j k a b := by
  unfold Torn
  cases h0 : (by_ u)[0]? with
  | none => exact Or.inl (Or.inl rfl)
  | some c =>
    by_cases hc : c = 69
    · subst hc
      cases h1 : Words.rd (by_ u) 1 with
      | none => exact Or.inl (Or.inr (Or.inr (Or.inl ⟨rfl, rfl⟩)))
      | some p =>
        obtain ⟨i, a⟩ := p
        cases h2 : Words.rd (by_ u) a with
        | none => exact Or.inl (Or.inr (Or.inr (Or.inr (Or.inl ⟨i, a, rfl, rfl, h2⟩))))
        | some q =>
          obtain ⟨j, b⟩ := q
          cases h3 : (by_ u)[b]? with
          | none => exact Or.inl (Or.inr (Or.inr (Or.inr (Or.inr ⟨i, a, j, b, rfl, rfl, h2, h3⟩))))
          | some k => exact Or.inr ⟨i, j, k, a, b, h0, h1, h2, h3⟩
    · exact Or.inl (Or.inr (Or.inl ⟨c, rfl, hc⟩))
end Ents
end Go.Proofs.YtimacmijinblmaaGreat
namespace Go.Proofs.YtimacmijinblmaaGreat
open Go.RowKit

def rdZ (s : ByteArray) (x : Int) : Option (Nat × Nat) := if 0 ≤ x ∧ x ≤ s.size then Words.rd s.data.toList x.toNat else none

theorem specRead_any (s : ByteArray) (hs : s.size ≤ 1048576) (x : Int) (w : World) :
    Calls Tryz.prog 41 #[.string s, .int .i64 x] w fun e w' => e = .returned (rdTuple (rdZ s x)) ∧ Below w.heap.size w w' := by
  by_cases h : 0 ≤ x ∧ x ≤ s.size
  · obtain ⟨n, rfl⟩ := Int.eq_ofNat_of_zero_le h.1
    rw [rdZ, if_pos h, Int.toNat_natCast]
    exact specRead_yes s hs n (by omega) w
  · rw [rdZ, if_neg h]
    exact specRead_no s x h w
theorem implRead_any (s : ByteArray) (hs : s.size ≤ 1048576) (x : Int) (w : World) :
    Calls Tryz.prog 99 #[.string s, .int .i64 x] w fun e w' => e = .returned (rdTuple (rdZ s x)) ∧ w' = w := by
  by_cases h : 0 ≤ x ∧ x ≤ s.size
  · obtain ⟨n, rfl⟩ := Int.eq_ofNat_of_zero_le h.1
    rw [rdZ, if_pos h, Int.toNat_natCast]
    exact implRead_yes s hs n (by omega) w
  · rw [rdZ, if_neg h]
    exact implRead_no s x h w

theorem specRead_none {s : ByteArray} {x : Int} (hs : s.size ≤ 1048576) (h : rdZ s x = none) (w : World) :
    Calls Tryz.prog 41 #[.string s, .int .i64 x] w fun e w' => e = .returned (.tuple #[.int .i64 0, .int .i64 0, .bool false]) ∧ Below w.heap.size w w' := by
  have := specRead_any s hs x w
  rwa [h] at this
theorem specRead_some {s : ByteArray} {x : Int} {n k : Nat} (hs : s.size ≤ 1048576) (h : rdZ s x = some (n, k)) (w : World) :
    Calls Tryz.prog 41 #[.string s, .int .i64 x] w fun e w' => e = .returned (.tuple #[.int .i64 (n : Int), .int .i64 (k : Int), .bool true]) ∧ Below w.heap.size w w' := by
  have := specRead_any s hs x w
  rwa [h] at this
theorem implRead_none {s : ByteArray} {x : Int} (hs : s.size ≤ 1048576) (h : rdZ s x = none) (w : World) :
    Calls Tryz.prog 99 #[.string s, .int .i64 x] w fun e w' => e = .returned (.tuple #[.int .i64 0, .int .i64 0, .bool false]) ∧ w' = w := by
  have := implRead_any s hs x w
  rwa [h] at this
theorem implRead_some {s : ByteArray} {x : Int} {n k : Nat} (hs : s.size ≤ 1048576) (h : rdZ s x = some (n, k)) (w : World) :
    Calls Tryz.prog 99 #[.string s, .int .i64 x] w fun e w' => e = .returned (.tuple #[.int .i64 (n : Int), .int .i64 (k : Int), .bool true]) ∧ w' = w := by
  have := implRead_any s hs x w
  rwa [h] at this

end Go.Proofs.YtimacmijinblmaaGreat
