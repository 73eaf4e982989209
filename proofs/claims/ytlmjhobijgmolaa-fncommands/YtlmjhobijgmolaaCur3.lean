/- The specification's cursor: a short text, taken or not. -/
import Derived.Test.YtlmjhobijgmolaaSpecCur
import Derived.Deep.Cut
import Derived.Deep.CutBlock
namespace Go.Proofs.Ytlmjhobijgmolaa
open Go.RowKit
set_option linter.unusedVariables false
set_option linter.unusedSimpArgs false

theorem rdShort_parts {t : ByteArray} {a b : Nat} {x : ByteArray} (ha : a ≤ t.size) (h : Batches.rdShort t a = some (x, b)) : ∃ n k, rdZ t (a : Int) = some (n, k) ∧ n ≤ 20000 ∧ k + n ≤ t.size ∧ x = t.extract k (k + n) ∧ b = k + n := by
  unfold Batches.rdShort at h
  split at h
  · cases h
  · rename_i n k hr
    split at h
    · rename_i hn
      simp only [Option.some.injEq, Prod.mk.injEq] at h
      exact ⟨n, k, (rdZ_at ha).trans hr, hn.1, hn.2, h.1.symm, h.2.symm⟩
    · cases h
theorem rdShort_not {t : ByteArray} {a : Nat} (ha : a ≤ t.size) (h : Batches.rdShort t a = none) : rdZ t (a : Int) = none ∨ ∃ n k, rdZ t (a : Int) = some (n, k) ∧ (20000 < n ∨ t.size < k + n) ∧ k ≤ t.size ∧ n ≤ 1000000000 := by
  unfold Batches.rdShort at h
  split at h
  · rename_i hr; exact Or.inl ((rdZ_at ha).trans hr)
  · rename_i n k hr
    split at h
    · cases h
    · rename_i hn
      obtain ⟨_, h2, _, h4⟩ := Batches.rd_cut hr
      exact Or.inr ⟨n, k, (rdZ_at ha).trans hr, by omega, h2, h4⟩
end Go.Proofs.Ytlmjhobijgmolaa
