/- A session and a seq as the key of a map. -/
import Derived.Test.YtddmogggdckneaaProg
import Derived.Test.YtddmogggdckneaaMathW2
import Derived.DeepKeys3
import Derived.Maps.Own
namespace Go.Proofs.Ytddmogggdckneaa
open Go.RowKit Go.Maps
set_option linter.unusedVariables false
set_option linter.unusedSimpArgs false
theorem key97 : Keyed Try.prog 97 := Keyed.of_law (deep_law (m := 3) (by omega) (by kernel_rfl) (by kernel_rfl) (by kernel_rfl))
def kOn (p : Int × Int) : Lit := .string (keyBytes [.int .i64 p.1, .int .i64 p.2])
theorem kOn_key : ∀ a, Go.WideAt.IsKeyLit (kOn a) := fun a => trivial
def okOn (p : Int × Int) : Prop := (Lit.int .i64 p.1).wf = true ∧ (Lit.int .i64 p.2).wf = true
theorem lits97 (s q : Int) (hs : (Lit.int .i64 s).wf = true) (hq : (Lit.int .i64 q).wf = true) (d : Nat) : Try.prog.keyLits (d + 2) 97 [.int .i64 s, .int .i64 q] = some [.int .i64 s, .int .i64 q] := by
  obtain ⟨n1, n2, e1, e2, p1, p2, m1, m2, hf⟩ : ∃ n1 n2 e1 e2 p1 p2, ¬ n1 = "_" ∧ ¬ n2 = "_" ∧ Try.prog.underlying 97 = some (.struct #[⟨n1, 3, 0, false, e1, p1, 0⟩, ⟨n2, 3, 1, false, e2, p2, 8⟩]) :=
    ⟨_, _, _, _, _, _, (by decide), (by decide), Try.underlying97⟩
  have hc : Try.prog.cellsOf 97 = 2 := by kernel_rfl
  have hc3 : Try.prog.cellsOf 3 = 1 := by kernel_rfl
  unfold Program.keyLits
  rw [hf]
  simp [hc, hc3, m1, m2, Program.keyLits, Try.underlying3, hs, hq]
theorem keyOf97 (s q : Int) (hs : (Lit.int .i64 s).wf = true) (hq : (Lit.int .i64 q).wf = true) : keyOf Try.prog 97 (.agg #[.int .i64 s, .int .i64 q]) = some (kOn (s, q)) := by
  have h1 : Try.prog.keyType 97 = true := by kernel_rfl
  have h2 : (Value.agg #[.int .i64 s, .int .i64 q]).formed Try.prog 97 = true := by
    have hc : Try.prog.cellsOf 97 = 2 := by kernel_rfl
    simp [Value.formed, Try.underlying97, hc]
  obtain ⟨d, hd⟩ : ∃ d, Try.prog.types.size + 1 = d + 2 := ⟨Try.prog.types.size - 1, by have : 0 < Try.prog.types.size := of_decide_eq_true (by kernel_rfl); omega⟩
  unfold keyOf
  rw [Try.underlying97]
  simp only [h1, h2, Bool.and_self, if_true, hd]
  rw [show (Value.agg #[.int .i64 s, .int .i64 q]).cells.toList = [.int .i64 s, .int .i64 q] from rfl, lits97 s q hs hq d]
  rfl
theorem kOn_inj : ∀ a b, okOn a → okOn b → kOn a = kOn b → a = b := by
  intro a b ha hb h
  have h' : keyBytes [.int .i64 a.1, .int .i64 a.2] = keyBytes [.int .i64 b.1, .int .i64 b.2] := by simpa [kOn] using h
  have := keyLits_inj (lits97 a.1 a.2 ha.1 ha.2 0) (lits97 b.1 b.2 hb.1 hb.2 0) h'
  simp at this
  exact Prod.ext this.1 this.2
end Go.Proofs.Ytddmogggdckneaa
