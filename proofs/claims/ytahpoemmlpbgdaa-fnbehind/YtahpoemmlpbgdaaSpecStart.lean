/- The specification's l12Start, walked. -/
import Derived.Test.YtahpoemmlpbgdaaSpecBehind
import Derived.Test.YtahpoemmlpbgdaaSpecRE
import Derived.Test.YtahpoemmlpbgdaaSpecLog2
namespace Go.Proofs.Ytahpoemmlpbgdaa
open Go.RowKit
set_option linter.unusedVariables false
set_option linter.unusedSimpArgs false

/-- The text of a record that begins a log anew. -/
def startAt (i j : Nat) : List UInt8 := 83 :: (Words.var i ++ Words.var j)
def startAtS (i j : Nat) : ByteArray := (⟨#[83]⟩ : ByteArray) ++ varS (i : Int) ++ varS (j : Int)
theorem startAtS_is (i j : Nat) : Is (startAtS i j) (startAt i j) := by
  have h1 : Is (⟨#[83]⟩ : ByteArray) [83] := rfl
  have := (h1.app (varS_is (i : Int))).app (varS_is (j : Int))
  unfold startAt startAtS
  simpa using this
/-- A text that begins a log anew. -/
def Begins (t : ByteArray) (i j : Nat) : Prop := Batches.by_ t = startAt i j ∧ i ≤ 1000000000 ∧ j ≤ 1000000000
def StIs (t : ByteArray) (i j : Nat) (R : Bool) : Prop := (Begins t i j ∧ R = true) ∨ ((∀ i' j', ¬ Begins t i' j') ∧ i = 0 ∧ j = 0 ∧ R = false)
theorem st_ex (t : ByteArray) : ∃ i j R, StIs t i j R := by
  by_cases h : ∃ i j, Begins t i j
  · obtain ⟨i, j, h⟩ := h
    exact ⟨i, j, true, Or.inl ⟨h, rfl⟩⟩
  · exact ⟨0, 0, false, Or.inr ⟨fun i' e' hg => h ⟨i', e', hg⟩, rfl, rfl, rfl⟩⟩
structure Sees2 (t : ByteArray) (i j : Nat) (x : ByteArray) (s1 s2 s3 : Nat × Bool) : Prop where
  q1 : tk t (0, false) = (x, s1)
  q2 : Mans.cv t s1 = (i, s2)
  q3 : Mans.cv t s2 = (j, s3)
theorem sees2_ex (t : ByteArray) : ∃ i j x s1 s2 s3, Sees2 t i j x s1 s2 s3 := ⟨_, _, _, _, _, _, rfl, rfl, rfl⟩
theorem sees2_of {t : ByteArray} {i j : Nat} {x : ByteArray} {s1 s2 s3 : Nat × Bool} (h : Sees2 t i j x s1 s2 s3) {i' j' : Nat} (hg : Begins t i' j') : i = i' ∧ j = j' ∧ s3.2 = false := by
  obtain ⟨e0, hi, hj⟩ := hg
  have e1 : Batches.by_ t = [83] ++ (Words.var i' ++ (Words.var j' ++ [])) := by rw [e0]; simp [startAt]
  have e2 : Batches.by_ t = ([83] ++ Words.var i') ++ (Words.var j' ++ []) := by rw [e0]; simp [startAt]
  have r1 := Batches.rd_at hi e1
  have r2 := Batches.rd_at hj e2
  have h1 : tk t (0, false) = (⟨#[83]⟩, (1, false)) := by
    have : (Batches.by_ t)[0]? = some 83 := by rw [e0]; rfl
    simp [tk, this]
  rw [h.q1] at h1
  obtain ⟨_, g1⟩ := Prod.mk.inj h1
  have h2 : Mans.cv t s1 = (i', (([83] ++ Words.var i').length, false)) := by rw [g1]; exact Mans.cv_some r1
  rw [h.q2] at h2
  obtain ⟨f2, g2⟩ := Prod.mk.inj h2
  have h3 : Mans.cv t s2 = (j', (([83] ++ Words.var i' ++ Words.var j').length, false)) := by rw [g2]; exact Mans.cv_some r2
  rw [h.q3] at h3
  obtain ⟨f3, g3⟩ := Prod.mk.inj h3
  exact ⟨f2, f3, by rw [g3]⟩
theorem st_none {t : ByteArray} {i j : Nat} {R : Bool} (h : StIs t i j R) (hn : ∀ i' j', ¬ Begins t i' j') : i = 0 ∧ j = 0 ∧ R = false := by
  rcases h with ⟨h, rfl⟩ | ⟨_, h⟩
  · exact absurd h (hn _ _)
  · exact h
end Go.Proofs.Ytahpoemmlpbgdaa
