/- Plain facts on the specification's cursor: what it reads of a text, number by number, list by list, as functions; no program is named here. -/
import Derived.Test.YtimacmijinblmaaMathMan
namespace Go.Proofs.Ytimacmijinblmaa
namespace Mans
open Batches (by_)
/-- One number: what is read, and the place and whether it went bad. -/
def cv (u : ByteArray) (s : Nat × Bool) : Nat × (Nat × Bool) :=
  if s.2 = true then (0, (s.1, true)) else match Words.rd (by_ u) s.1 with
    | none => (0, (s.1, true))
    | some (n, b) => (n, (b, false))
theorem cv_bad (u : ByteArray) (a : Nat) : cv u (a, true) = (0, (a, true)) := by simp [cv]
theorem cv_none {u : ByteArray} {a : Nat} (h : Words.rd (by_ u) a = none) : cv u (a, false) = (0, (a, true)) := by simp [cv, h]
theorem cv_some {u : ByteArray} {a n b : Nat} (h : Words.rd (by_ u) a = some (n, b)) : cv u (a, false) = (n, (b, false)) := by simp [cv, h]
/-- A list of n numbers, at most M + 1 of them, from the k-th on. -/
def cl (u : ByteArray) (n M : Nat) : Nat → Nat → Nat × Bool → List Int × (Nat × Bool)
  | 0, _, s => ([], s)
  | f + 1, k, s => if k < n ∧ s.2 = false ∧ k ≤ M then ((((cv u s).1 : Nat) : Int) :: (cl u n M f (k + 1) (cv u s).2).1, (cl u n M f (k + 1) (cv u s).2).2) else ([], s)
theorem cl_go {u : ByteArray} {n M k : Nat} {s : Nat × Bool} (h1 : k < n) (h2 : s.2 = false) (h3 : k ≤ M) : cl u n M (M + 1 - k) k s = ((((cv u s).1 : Nat) : Int) :: (cl u n M (M + 1 - (k + 1)) (k + 1) (cv u s).2).1, (cl u n M (M + 1 - (k + 1)) (k + 1) (cv u s).2).2) := by
  rw [show M + 1 - k = (M + 1 - (k + 1)) + 1 by omega, cl, if_pos ⟨h1, h2, h3⟩]
theorem cl_stop {u : ByteArray} {n M k : Nat} {s : Nat × Bool} (h : ¬ (k < n ∧ s.2 = false ∧ k ≤ M)) : cl u n M (M + 1 - k) k s = ([], s) := by
  cases hf : M + 1 - k with
  | zero => rfl
  | succ f => rw [cl, if_neg h]
theorem cl_len {u : ByteArray} {n M : Nat} : ∀ (f k : Nat) (s : Nat × Bool), (cl u n M f k s).1.length ≤ f
  | 0, _, _ => by simp [cl]
  | f + 1, k, s => by
    rw [cl]
    split
    · have := cl_len (u := u) (n := n) (M := M) f (k + 1) (cv u s).2
      simp; omega
    · simp
theorem cl_many {u : ByteArray} {N M : Nat} (hN : N ≤ M) : ∀ (j k a e : Nat) (l : List Int), k + j = N → rdMany u j a = some (l, e) → cl u N M (M + 1 - k) k (a, false) = (l, (e, false))
  | 0, k, a, e, l, hk, h => by
    simp only [rdMany, Option.some.injEq, Prod.mk.injEq] at h
    obtain ⟨rfl, rfl⟩ := h
    exact cl_stop (by omega)
  | j + 1, k, a, e, l, hk, h => by
    obtain ⟨c, a1, r, h1, h2, rfl⟩ := rdMany_next h
    rw [cl_go (by omega) rfl (by omega), cv_some h1]
    simp only
    rw [cl_many hN j (k + 1) a1 e r (by omega) h2]
/-- What the specification reads of a manifest's text. -/
structure Read (u : ByteArray) (b0 : Bool) (m : ManL) (bad : Bool) : Prop where
  of : ∃ (n k X Y Z : Nat) (s0 s1 s2 s3 s4 s5 s6 : Nat × Bool), cv u (0, b0) = (n, s0) ∧ cl u n 8 9 0 s0 = (m.segs, s1) ∧ cv u s1 = (X, s2) ∧ m.next = X ∧ cv u s2 = (Y, s3) ∧ m.base = Y ∧ cv u s3 = (Z, s4) ∧ m.term = Z ∧ cv u s4 = (k, s5) ∧ cl u k 4 5 0 s5 = (m.conf, s6) ∧ s6.2 = bad
theorem read_gets {u : ByteArray} {m m' : ManL} {bad : Bool} {a0 a1 a2 a3 a4 a5 e : Nat} (h : Gets u m a0 a1 a2 a3 a4 a5 e) (hr : Read u false m' bad) : m' = m ∧ bad = false := by
  obtain ⟨n, k, X, Y, Z, s0, s1, s2, s3, s4, s5, s6, q0, q1, q2, e2, q3, e3, q4, e4, q5, q6, q7⟩ := hr.of
  rw [cv_some h.r0] at q0
  simp only [Prod.mk.injEq] at q0
  obtain ⟨rfl, rfl⟩ := q0
  rw [show (9 : Nat) = 8 + 1 - 0 from rfl, cl_many h.n0 _ 0 _ _ _ (by omega) h.r1] at q1
  simp only [Prod.mk.injEq] at q1
  obtain ⟨f1, rfl⟩ := q1
  rw [cv_some h.r2] at q2
  simp only [Prod.mk.injEq] at q2
  obtain ⟨rfl, rfl⟩ := q2
  rw [cv_some h.r3] at q3
  simp only [Prod.mk.injEq] at q3
  obtain ⟨rfl, rfl⟩ := q3
  rw [cv_some h.r4] at q4
  simp only [Prod.mk.injEq] at q4
  obtain ⟨rfl, rfl⟩ := q4
  rw [cv_some h.r5] at q5
  simp only [Prod.mk.injEq] at q5
  obtain ⟨rfl, rfl⟩ := q5
  rw [show (5 : Nat) = 4 + 1 - 0 from rfl, cl_many h.n5 _ 0 _ _ _ (by omega) h.r6] at q6
  simp only [Prod.mk.injEq] at q6
  obtain ⟨f6, rfl⟩ := q6
  refine ⟨?_, q7.symm⟩
  have i2 := h.i2; have i3 := h.i3; have i4 := h.i4
  obtain ⟨l, x, y, z, l'⟩ := m
  obtain ⟨l2, x2, y2, z2, l2'⟩ := m'
  simp only at f1 f6 e2 e3 e4 i2 i3 i4
  subst f1 f6
  rw [e2, e3, e4, Int.toNat_of_nonneg i2, Int.toNat_of_nonneg i3, Int.toNat_of_nonneg i4]
theorem read_len {u : ByteArray} {b0 bad : Bool} {m : ManL} (h : Read u b0 m bad) : m.segs.length ≤ 9 ∧ m.conf.length ≤ 5 := by
  obtain ⟨n, k, X, Y, Z, s0, s1, s2, s3, s4, s5, s6, q0, q1, q2, e2, q3, e3, q4, e4, q5, q6, q7⟩ := h.of
  have h1 := cl_len (u := u) (n := n) (M := 8) 9 0 s0
  have h2 := cl_len (u := u) (n := k) (M := 4) 5 0 s5
  rw [q1] at h1
  rw [q6] at h2
  exact ⟨h1, h2⟩
end Mans
end Go.Proofs.Ytimacmijinblmaa
