/- The specification's l12Same: are two logs the same, walked. -/
import Derived.Test.YtahpoemmlpbgdaaSpecLog
import Derived.Laws.StructEq
namespace Go.Proofs.Ytahpoemmlpbgdaa
open Go.RowKit
set_option linter.unusedVariables false
set_option linter.unusedSimpArgs false

theorem ent_ne {x y : EntL} (h : x ≠ y) : x.term ≠ y.term ∨ (x.term = y.term ∧ (x.kind ≠ y.kind ∨ (x.kind = y.kind ∧ x.data ≠ y.data))) := by
  obtain ⟨a, b, c⟩ := x
  obtain ⟨a', b', c'⟩ := y
  by_cases h1 : a = a'
  · by_cases h2 : b = b'
    · by_cases h3 : c = c'
      · subst h1 h2 h3; exact absurd rfl h
      · exact Or.inr ⟨h1, Or.inr ⟨h2, h3⟩⟩
    · exact Or.inr ⟨h1, Or.inl h2⟩
  · exact Or.inl h1
theorem toList_ne {a b : ByteArray} (h : a ≠ b) : (a.toList == b.toList) = false := by
  rw [ByteArray.toList_eq, ByteArray.toList_eq]
  obtain ⟨⟨x⟩⟩ := a
  obtain ⟨⟨y⟩⟩ := b
  rw [beq_eq_false_iff_ne]
  intro e
  exact h (by simp only at e; rw [e])
end Go.Proofs.Ytahpoemmlpbgdaa
