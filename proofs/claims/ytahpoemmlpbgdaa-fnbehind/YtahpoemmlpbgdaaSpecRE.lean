/- The specification's ReadEntry, walked. -/
import Derived.Test.YtahpoemmlpbgdaaSpecEntT
import Derived.Test.YtahpoemmlpbgdaaMathB
import Derived.Test.YtahpoemmlpbgdaaCurA
namespace Go.Proofs.Ytahpoemmlpbgdaa
open Go.RowKit
open Ents (okB kindB rest ent Gets Torn Got right text textS)
set_option linter.unusedVariables false
set_option linter.unusedSimpArgs false

theorem one_byte (k : UInt8) (h : 0 < (⟨#[k]⟩ : ByteArray).size) : (⟨#[k]⟩ : ByteArray)[0]'h = k := rfl
/-- One byte that is taken. -/
def tk (u : ByteArray) (s : Nat × Bool) : ByteArray × (Nat × Bool) :=
  if s.2 = true then (⟨#[]⟩, (s.1, true)) else match (Batches.by_ u)[s.1]? with
    | none => (⟨#[]⟩, (s.1, true))
    | some k => (⟨#[k]⟩, (s.1 + 1, false))
theorem take_one {u : ByteArray} {a : Nat} {k : UInt8} (h : (Batches.by_ u)[a]? = some k) : u.extract a (a + 1) = ⟨#[k]⟩ := by
  apply Batches.by_inj
  have h1 := (List.getElem?_eq_some_iff.1 h)
  obtain ⟨h2, h3⟩ := h1
  unfold Batches.by_ at *
  rw [Words.extract_list, Nat.add_sub_cancel_left, Words.drop_cons h2, h3]
  rfl
/-- What the specification's reader comes to. -/
structure Sees (t : ByteArray) (i j : Nat) (x y : ByteArray) (s1 s2 s3 s4 : Nat × Bool) : Prop where
  q1 : tk t (0, false) = (x, s1)
  q2 : Mans.cv t s1 = (i, s2)
  q3 : Mans.cv t s2 = (j, s3)
  q4 : tk t s3 = (y, s4)
theorem sees_ex (t : ByteArray) : ∃ i j x y s1 s2 s3 s4, Sees t i j x y s1 s2 s3 s4 := ⟨_, _, _, _, _, _, _, _, rfl, rfl, rfl, rfl⟩
theorem tk_good {t x : ByteArray} {s s' : Nat × Bool} (h : tk t s = (x, s')) (hb : s'.2 = false) : s.2 = false ∧ ∃ k, (Batches.by_ t)[s.1]? = some k ∧ x = ⟨#[k]⟩ ∧ s'.1 = s.1 + 1 := by
  unfold tk at h
  split at h
  · rw [← (Prod.mk.inj h).2] at hb; cases hb
  · rename_i hs
    split at h
    · rw [← (Prod.mk.inj h).2] at hb; cases hb
    · rename_i k hk
      obtain ⟨h1, h2⟩ := Prod.mk.inj h
      exact ⟨by simpa using hs, k, hk, h1.symm, by rw [← h2]⟩
theorem cv_good {t : ByteArray} {n : Nat} {s s' : Nat × Bool} (h : Mans.cv t s = (n, s')) (hb : s'.2 = false) : s.2 = false ∧ Words.rd (Batches.by_ t) s.1 = some (n, s'.1) := by
  unfold Mans.cv at h
  split at h
  · rw [← (Prod.mk.inj h).2] at hb; cases hb
  · rename_i hs
    split at h
    · rw [← (Prod.mk.inj h).2] at hb; cases hb
    · rename_i m b hr
      obtain ⟨h1, h2⟩ := Prod.mk.inj h
      refine ⟨by simpa using hs, ?_⟩
      rw [hr, h1, ← h2]
theorem sees_good {t : ByteArray} {i j : Nat} {x y : ByteArray} {s1 s2 s3 s4 : Nat × Bool} (h : Sees t i j x y s1 s2 s3 s4) (hb : s4.2 = false) :
    ∃ c k a b, (Batches.by_ t)[0]? = some c ∧ Words.rd (Batches.by_ t) 1 = some (i, a) ∧ Words.rd (Batches.by_ t) a = some (j, b) ∧ (Batches.by_ t)[b]? = some k ∧ y = ⟨#[k]⟩ ∧ s4.1 = b + 1 := by
  obtain ⟨g3, k, hk, hy, h4⟩ := tk_good h.q4 hb
  obtain ⟨g2, hj⟩ := cv_good h.q3 g3
  obtain ⟨g1, hi⟩ := cv_good h.q2 g2
  obtain ⟨_, c, hc, _, h1⟩ := tk_good h.q1 g1
  rw [h1] at hi
  exact ⟨c, k, _, _, hc, hi, hj, hk, hy, h4⟩
theorem sees_not {t : ByteArray} {i j : Nat} {x y : ByteArray} {s1 s2 s3 s4 : Nat × Bool} (h : Sees t i j x y s1 s2 s3 s4) (hb : s4.2 = true) (i' : Nat) (e : EntL) : ¬ Got t i' e := fun hg => by
  obtain ⟨j', k', a', b', g, _⟩ := Ents.text_gets hg.1 hg.2
  have h1 : tk t (0, false) = (⟨#[69]⟩, (1, false)) := by simp [tk, g.h0]
  rw [h.q1] at h1
  obtain ⟨_, e1⟩ := Prod.mk.inj h1
  have h2 : Mans.cv t s1 = (i', (a', false)) := by rw [e1]; exact Mans.cv_some g.r1
  rw [h.q2] at h2
  obtain ⟨_, e2⟩ := Prod.mk.inj h2
  have h3 : Mans.cv t s2 = (j', (b', false)) := by rw [e2]; exact Mans.cv_some g.r2
  rw [h.q3] at h3
  obtain ⟨_, e3⟩ := Prod.mk.inj h3
  have h4 : tk t s3 = (⟨#[k']⟩, (b' + 1, false)) := by rw [e3]; simp [tk, g.hk]
  rw [h.q4] at h4
  obtain ⟨_, e4⟩ := Prod.mk.inj h4
  rw [e4] at hb
  cases hb
/-- What ReadEntry answers. -/
def REIs (t : ByteArray) (i : Nat) (e : EntL) (R : Bool) : Prop := (Got t i e ∧ R = true) ∨ ((∀ i' e', ¬ Got t i' e') ∧ i = 0 ∧ e = ⟨0, 0, ⟨#[]⟩⟩ ∧ R = false)
theorem re_ex (t : ByteArray) : ∃ i e R, REIs t i e R := by
  by_cases h : ∃ i e, Got t i e
  · obtain ⟨i, e, h⟩ := h
    exact ⟨i, e, true, Or.inl ⟨h, rfl⟩⟩
  · exact ⟨0, _, false, Or.inr ⟨fun i' e' hg => h ⟨i', e', hg⟩, rfl, rfl, rfl⟩⟩
theorem re_uniq {t : ByteArray} {i : Nat} {e : EntL} {R : Bool} (h : REIs t i e R) {i' : Nat} {e' : EntL} (hg : Got t i' e') : i = i' ∧ e = e' ∧ R = true := by
  rcases h with ⟨h, rfl⟩ | ⟨h, _⟩
  · obtain ⟨j, k, a, b, g, he⟩ := Ents.text_gets h.1 h.2
    obtain ⟨h1, h2⟩ := Ents.got_of g hg
    exact ⟨h1.symm, by rw [he, h2], rfl⟩
  · exact absurd hg (h _ _)
theorem re_none {t : ByteArray} {i : Nat} {e : EntL} {R : Bool} (h : REIs t i e R) (hn : ∀ i' e', ¬ Got t i' e') : i = 0 ∧ e = ⟨0, 0, ⟨#[]⟩⟩ ∧ R = false := by
  rcases h with ⟨h, rfl⟩ | ⟨_, h⟩
  · exact absurd h (hn _ _)
  · exact h
end Go.Proofs.Ytahpoemmlpbgdaa
