/- A command that came in, opened. -/
import Derived.Test.YtojhjffkbjdgfaaCmdW
import Derived.ProofKit
import Derived.OpenShut
import Derived.ShutString
import Derived.ChangeOld
import Derived.Deep.DeepHandedRow
import Derived.Deep.SlicePairs
import Derived.Lib.SmallJoins
import Derived.Deep.Slices
namespace Go.Proofs.Ytojhjffkbjdgfaa
open Go.ChangeShapes Go.WideShapes Go.ChangeAt Go.RowKit Go.Deep
set_option linter.unusedVariables false

set_option maxRecDepth 100000 in
theorem open_cmd {H : Type} {enc : TypeId × Value → H} {W : World} {base b0 : Nat} {r : Reach} {sp : Nat → Bool} {held : Bool} {v : Value} {d : DataW H} {p : List MemPlace}
    (hv : Value.okWide Try.prog W r b0 23 v) (h : DataW.Trod enc Try.prog W base sp held 23 v d p) :
    ∃ c : CmdL, v = .agg #[.int .i64 c.op, .int .i64 c.ses, .int .i64 c.seq, .string c.key, .string c.val, .string c.old] ∧ c.key.size ≤ maxLen ∧ c.val.size ≤ maxLen ∧ c.old.size ≤ maxLen := by
  obtain ⟨cs, rfl, hsz⟩ := okWide_struct Try.underlying23 hv
  obtain ⟨fuel, hf⟩ := h
  obtain ⟨cs⟩ := cs
  have hs5 : cs.length = 6 := hsz.trans (by kernel_rfl)
  have hf' : DataW.trod enc Try.prog W base sp held fuel 23 cs = some (d, p) := hf
  obtain ⟨xs, k, hk, hxy, _, hxl, hfl⟩ := DataW.trod_struct Try.underlying23 hf'
  match xs, hxl, cs, hs5 with
  | [y0, y1, y2, y3, y4, y5], _, [v0, v1, v2, v3, v4, v5], _ =>
    have g0 := hfl 0 _ rfl
    simp [show Try.prog.cellsOf 3 = 1 by kernel_rfl] at g0
    have g1 := hfl 1 _ rfl
    simp [show Try.prog.cellsOf 3 = 1 by kernel_rfl] at g1
    have g2 := hfl 2 _ rfl
    simp [show Try.prog.cellsOf 3 = 1 by kernel_rfl] at g2
    have g3 := hfl 3 _ rfl
    simp [show Try.prog.cellsOf 9 = 1 by kernel_rfl] at g3
    have g4 := hfl 4 _ rfl
    simp [show Try.prog.cellsOf 9 = 1 by kernel_rfl] at g4
    have g5 := hfl 5 _ rfl
    simp [show Try.prog.cellsOf 9 = 1 by kernel_rfl] at g5
    obtain ⟨x0, e0, _, z0⟩ := DataW.trod_int Try.underlying3 g0
    obtain ⟨x1, e1, _, z1⟩ := DataW.trod_int Try.underlying3 g1
    obtain ⟨x2, e2, _, z2⟩ := DataW.trod_int Try.underlying3 g2
    obtain ⟨x3, e3, _, z3⟩ := DataW.trod_string Try.underlying9 g3
    obtain ⟨x4, e4, _, z4⟩ := DataW.trod_string Try.underlying9 g4
    obtain ⟨x5, e5, _, z5⟩ := DataW.trod_string Try.underlying9 g5
    simp at e0 e1 e2 e3 e4 e5
    subst e0 e1 e2 e3 e4 e5
    exact ⟨⟨x0, x1, x2, x3, x4, x5⟩, rfl, z3, z4, z5⟩
end Go.Proofs.Ytojhjffkbjdgfaa
