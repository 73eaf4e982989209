/- An event that came in, opened. Made by program. -/
import Derived.Test.YtojhjffkbjdgfaaEvAll
import Derived.Test.YtojhjffkbjdgfaaOCmd
import Derived.Test.YtojhjffkbjdgfaaOInts
namespace Go.Proofs.Ytojhjffkbjdgfaa
open Go.ChangeShapes Go.WideShapes Go.ChangeAt Go.RowKit Go.Deep
set_option linter.unusedVariables false
theorem list14 {α : Type} : ∀ {l : List α}, l.length = 14 → ∃ a b c d e f g h i j k m n o, l = [a, b, c, d, e, f, g, h, i, j, k, m, n, o]
  | [a, b, c, d, e, f, g, h, i, j, k, m, n, o], _ => ⟨a, b, c, d, e, f, g, h, i, j, k, m, n, o, rfl⟩
theorem list9 {α : Type} : ∀ {l : List α}, l.length = 9 → ∃ a b c d e f g h i, l = [a, b, c, d, e, f, g, h, i]
  | [a, b, c, d, e, f, g, h, i], _ => ⟨a, b, c, d, e, f, g, h, i, rfl⟩
theorem list6 {α : Type} : ∀ {l : List α}, l.length = 6 → ∃ a b c d e f, l = [a, b, c, d, e, f]
  | [a, b, c, d, e, f], _ => ⟨a, b, c, d, e, f, rfl⟩
set_option maxHeartbeats 1000000 in
set_option maxRecDepth 100000 in
theorem open_ev {H : Type} {enc : TypeId × Value → H} {W : World} {base bb : Nat} {r : Reach} {sp : Nat → Bool} {held : Bool} {v : Value} {d : DataW H} {p : List MemPlace}
    (hv : Value.okWide Try.prog W r bb 26 v) (h : DataW.Trod enc Try.prog W base sp held 26 v d p) :
    ∃ (e : EvL) (a : Option Addr) (g o c : Nat), v = evV e a c ∧ (e.cmd.key.size ≤ maxLen ∧ e.cmd.val.size ≤ maxLen ∧ e.cmd.old.size ≤ maxLen) ∧ e.conf.length ≤ maxLen ∧ IntAt W a g o e.conf := by
  obtain ⟨cs, rfl, hsz⟩ := okWide_struct Try.underlying26 hv
  obtain ⟨fuel, hf⟩ := h
  obtain ⟨cs⟩ := cs
  have hs14 : cs.length = 14 := hsz.trans (by kernel_rfl)
  have hf' : DataW.trod enc Try.prog W base sp held fuel 26 cs = some (d, p) := hf
  clear hf hsz hv
  obtain ⟨v0, v1, v2, v3, v4, v5, v6, v7, v8, v9, v10, v11, v12, v13, rfl⟩ := list14 hs14
  obtain ⟨xs, k, hk, hxy, _, hxl, hfl⟩ := DataW.trod_struct Try.underlying26 hf'
  obtain ⟨y0, y1, y2, y3, y4, y5, y6, y7, y8, rfl⟩ := list9 (show xs.length = 9 from hxl)
  clear hf' hxy hs14
  have g0 := hfl 0 _ rfl
  simp [show Try.prog.cellsOf 3 = 1 by kernel_rfl] at g0
  have g1 := hfl 1 _ rfl
  simp [show Try.prog.cellsOf 3 = 1 by kernel_rfl] at g1
  have g2 := hfl 2 _ rfl
  simp [show Try.prog.cellsOf 3 = 1 by kernel_rfl] at g2
  have g3 := hfl 3 _ rfl
  simp [show Try.prog.cellsOf 3 = 1 by kernel_rfl] at g3
  have g4 := hfl 4 _ rfl
  simp [show Try.prog.cellsOf 23 = 6 by kernel_rfl] at g4
  have g5 := hfl 5 _ rfl
  simp [show Try.prog.cellsOf 24 = 1 by kernel_rfl] at g5
  have g6 := hfl 6 _ rfl
  simp [show Try.prog.cellsOf 4 = 1 by kernel_rfl] at g6
  have g7 := hfl 7 _ rfl
  simp [show Try.prog.cellsOf 3 = 1 by kernel_rfl] at g7
  have g8 := hfl 8 _ rfl
  simp [show Try.prog.cellsOf 3 = 1 by kernel_rfl] at g8
  obtain ⟨x0, e0, _, _⟩ := DataW.trod_int Try.underlying3 g0
  obtain ⟨x1, e1, _, _⟩ := DataW.trod_int Try.underlying3 g1
  obtain ⟨x2, e2, _, _⟩ := DataW.trod_int Try.underlying3 g2
  obtain ⟨x3, e3, _, _⟩ := DataW.trod_int Try.underlying3 g3
  obtain ⟨x7, e7, _, _⟩ := DataW.trod_int Try.underlying3 g7
  obtain ⟨x8, e8, _, _⟩ := DataW.trod_int Try.underlying3 g8
  obtain ⟨x6, e6, _⟩ := DataW.trod_bool Try.underlying4 g6
  obtain ⟨ca, gc, oc, cc, cl, e5, h5, i5⟩ := openIntS g5
  obtain ⟨zs, kk, _, _, _, hzl, hzf⟩ := DataW.trod_struct Try.underlying23 g4
  obtain ⟨z0, z1, z2, z3, z4, z5, rfl⟩ := list6 (show zs.length = 6 from hzl)
  have f0 := hzf 0 _ rfl
  simp [show Try.prog.cellsOf 3 = 1 by kernel_rfl] at f0
  have f1 := hzf 1 _ rfl
  simp [show Try.prog.cellsOf 3 = 1 by kernel_rfl] at f1
  have f2 := hzf 2 _ rfl
  simp [show Try.prog.cellsOf 3 = 1 by kernel_rfl] at f2
  have f3 := hzf 3 _ rfl
  simp [show Try.prog.cellsOf 9 = 1 by kernel_rfl] at f3
  have f4 := hzf 4 _ rfl
  simp [show Try.prog.cellsOf 9 = 1 by kernel_rfl] at f4
  have f5 := hzf 5 _ rfl
  simp [show Try.prog.cellsOf 9 = 1 by kernel_rfl] at f5
  obtain ⟨s0, b0, _, _⟩ := DataW.trod_int Try.underlying3 f0
  obtain ⟨s1, b1, _, _⟩ := DataW.trod_int Try.underlying3 f1
  obtain ⟨s2, b2, _, _⟩ := DataW.trod_int Try.underlying3 f2
  obtain ⟨s3, b3, _, m3⟩ := DataW.trod_string Try.underlying9 f3
  obtain ⟨s4, b4, _, m4⟩ := DataW.trod_string Try.underlying9 f4
  obtain ⟨s5, b5, _, m5⟩ := DataW.trod_string Try.underlying9 f5
  simp at e0 e1 e2 e3 e5 e6 e7 e8 b0 b1 b2 b3 b4 b5
  subst e0 e1 e2 e3 e5 e6 e7 e8 b0 b1 b2 b3 b4 b5
  exact ⟨⟨x0, x1, x2, x3, ⟨s0, s1, s2, s3, s4, s5⟩, cl, x6, x7, x8⟩, ca, gc, oc, cc, rfl, ⟨m3, m4, m5⟩, h5, i5⟩
end Go.Proofs.Ytojhjffkbjdgfaa
