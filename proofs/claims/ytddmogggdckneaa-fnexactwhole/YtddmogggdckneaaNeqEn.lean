/- Two entries held against each other as values. -/
import Derived.Test.YtddmogggdckneaaLEn
import Derived.Laws.StructEq
namespace Go.Proofs.Ytddmogggdckneaa
open Go.RowKit
set_option linter.unusedSimpArgs false
theorem toList_eq (s t : ByteArray) : s.toList = t.toList ↔ s = t := by
  constructor
  · intro e
    rw [ByteArray.toList_eq, ByteArray.toList_eq] at e
    obtain ⟨⟨x⟩⟩ := s
    obtain ⟨⟨y⟩⟩ := t
    have : x = y := e
    rw [this]
  · intro e
    rw [e]
set_option maxRecDepth 100000 in
theorem eqEnt_run (a b c d : Int) (s t : ByteArray) (w : World) : (Op.equalIn 10000 27 (.agg #[.int .i64 a, .int .i64 b, .string s]) (.agg #[.int .i64 c, .int .i64 d, .string t])).run Try.prog w = .ok (decide (a = c ∧ b = d ∧ s = t)) w := by
  rw [show (10000 : Nat) = 9999 + 1 from rfl, run_equalIn_struct w 9999 27 _ _ (by kernel_rfl) (by kernel_rfl)]
  obtain ⟨n1, n2, n3, e1, e2, e3, p1, p2, p3, m1, m2, m3, hf⟩ : ∃ n1 n2 n3 e1 e2 e3 p1 p2 p3, ¬ n1 = "_" ∧ ¬ n2 = "_" ∧ ¬ n3 = "_" ∧ Try.prog.fieldsOf 27 = #[⟨n1, 3, 0, false, e1, p1, 0⟩, ⟨n2, 3, 1, false, e2, p2, 8⟩, ⟨n3, 9, 2, false, e3, p3, 16⟩] := by
    rw [Program.fieldsOf]
    simp only [Try.underlying27]
    exact ⟨_, _, _, _, _, _, _, _, _, (by decide), (by decide), (by decide), rfl⟩
  have a3 : (isAgg 3).run Try.prog w = .ok false w := by kernel_rfl
  have a9 : (isAgg 9).run Try.prog w = .ok false w := by kernel_rfl
  rw [hf]
  simp [Op.eqFields, m1, m2, m3, part, a3, a9, run_equalIn_int w 9998 3 .i64 .i64 _ _ Try.underlying3, run_equalIn_string w 9998 9 _ _ Try.underlying9]
  by_cases h1 : a = c
  · by_cases h2 : b = d
    · by_cases h3 : s = t
      · simp [h1, h2, h3]
      · have : ¬ s.toList = t.toList := fun e => h3 ((toList_eq s t).1 e)
        simp [h1, h2, h3, this]
    · simp [h1, h2]
  · simp [h1]
theorem neqEnt (a b c d : Int) (s t : ByteArray) (w : World) : (binOp .neq 27 (.agg #[.int .i64 a, .int .i64 b, .string s]) (.agg #[.int .i64 c, .int .i64 d, .string t])).run Try.prog w = .ok (.bool (decide (¬ (a = c ∧ b = d ∧ s = t)))) w := by
  have h1 := eqEnt_run a b c d s t w
  simp only [binOp, Sem.run_bind]
  simp [Op.equal, Op.maxDepth, h1]
end Go.Proofs.Ytddmogggdckneaa
