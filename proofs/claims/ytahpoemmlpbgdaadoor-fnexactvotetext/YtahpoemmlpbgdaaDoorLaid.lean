/- What the rows' list of one variable gives: the cells of the vote that is none. -/
import Derived.Test.YtahpoemmlpbgdaaDoorRows
import Derived.Test.YtahpoemmlpbgdaaDoorVoteA
import Derived.ProofKit
import Derived.ChangeVars
import Derived.ChangeSame
import Derived.Lib.SmallJoins
import Derived.Deep.SlicePairs
namespace Go.Proofs.YtahpoemmlpbgdaaDoor
open Go.ChangeShapes Go.WideShapes Go.ChangeAt Go.RowKit
set_option linter.unusedVariables false

theorem gNo : Tryd.prog.globalNamed "loop.example/g00103/impl.noBallot" = some 0 := by kernel_rfl
theorem gNoType : (Tryd.prog.globals[0]?).map (·.type) = some 36 := by kernel_rfl
def noCells : Array Value := #[.int .i64 (-1), .int .i64 0]
theorem reads_no {H : Type} (enc : TypeId × Value → H) (W : World) (sp : Nat → Bool) : DataW.trod enc Tryd.prog W 0 sp true 3 36 noCells.toList = some (.agg [.lit (.int .i64 (-1)), .lit (.int .i64 0)], []) := by kernel_rfl
theorem cells_of_laid {W : World} (h : laidMetH Tryd.prog [("loop.example/g00103/impl.noBallot", Rows.laid_loop_example_g00103_impl_noBallot)] W) : W.var? Tryd.prog "loop.example/g00103/impl.noBallot" = some noCells := by
  have h' : laidMet Tryd.prog [("loop.example/g00103/impl.noBallot", Rows.laid_loop_example_g00103_impl_noBallot)] W := h
  obtain ⟨ps, ⟨g, t, cs, fuel, p, q, hg, ht, hvar, hd, _, _⟩, _⟩ := h'
  obtain rfl := Option.some.inj (gNo.symm.trans hg)
  obtain rfl := Option.some.inj (gNoType.symm.trans ht)
  rw [hvar]
  congr 1
  obtain ⟨l⟩ := cs
  obtain ⟨xs, k, hk, hxy, hcl, hxl, hf⟩ := DataW.trod_struct Tryd.underlying36 hd
  have hl2 : l.length = 2 := by have := hcl; rw [show Tryd.prog.cellsOf 36 = 2 by kernel_rfl] at this; simpa using this
  match xs, hxl, l, hl2 with
  | [y0, y1], _, [v0, v1], _ =>
    have g0 := hf 0 _ rfl
    simp [show Tryd.prog.cellsOf 3 = 1 by kernel_rfl] at g0
    have g1 := hf 1 _ rfl
    simp [show Tryd.prog.cellsOf 3 = 1 by kernel_rfl] at g1
    obtain ⟨F0, e0, r0, _⟩ := DataW.trod_int Tryd.underlying3 g0
    obtain ⟨F1, e1, r1, _⟩ := DataW.trod_int Tryd.underlying3 g1
    simp_all [Rows.laid_loop_example_g00103_impl_noBallot, noCells]
theorem nob_of {W : World} (h : laidMetH Tryd.prog [("loop.example/g00103/impl.noBallot", Rows.laid_loop_example_g00103_impl_noBallot)] W) : NoB W := by
  have hv := cells_of_laid h
  have c0 : W.cell? ⟨0, 0, none⟩ = some (.int .i64 (-1)) := by simpa [noCells] using World.var?_cell gNo hv 0
  have c1 : W.cell? ⟨0, 1, none⟩ = some (.int .i64 0) := by simpa [noCells] using World.var?_cell gNo hv 1
  exact ⟨c0, c1, World.block_lt_of_cell? W _ c0⟩
theorem var?_below {P : Program} {B g : Nat} {W W' : World} {n : String} {cs : Array Value} (h : Below B W W') (hg : P.globalNamed n = some g) (hgB : g < B) (hv : W.var? P n = some cs) : W'.var? P n = some cs := by
  unfold World.var? at hv ⊢
  simp only [hg, Option.bind_some] at hv ⊢
  rw [h.block g hgB]
  exact hv
/-- The variable reads behind the call as ahead of it. -/
theorem var_back {H : Type} {enc : TypeId × Value → H} {W : World} {gs : List (DataW H)} {q : List MemPlace} (hL : laidMetH Tryd.prog [("loop.example/g00103/impl.noBallot", Rows.laid_loop_example_g00103_impl_noBallot)] W)
    (hV : DataW.TrodVars enc Tryd.prog W (fun _ => true) ["loop.example/g00103/impl.noBallot"] gs q) : gs = [.agg [.lit (.int .i64 (-1)), .lit (.int .i64 0)]] ∧
    (∀ (W' : World) (sp : Nat → Bool), Below W.heap.size W W' → DataW.TrodVars enc Tryd.prog W' sp ["loop.example/g00103/impl.noBallot"] [.agg [.lit (.int .i64 (-1)), .lit (.int .i64 0)]] (MemPlace.row ⟨0, 0, none⟩ noCells.size ++ [])) := by
  obtain ⟨g, t, cs, fuel, d, p', rfl, hg, ht, hvar, hd, rfl⟩ := trodVars_one hV
  obtain rfl := Option.some.inj (gNo.symm.trans hg)
  obtain rfl := Option.some.inj (gNoType.symm.trans ht)
  obtain rfl : cs = noCells := Option.some.inj (hvar.symm.trans (cells_of_laid hL))
  obtain ⟨rfl, rfl⟩ := DataW.Trod.unique (v := .agg noCells) ⟨fuel, hd⟩ ⟨3, reads_no enc W _⟩
  exact ⟨rfl, fun W' sp hb => trodVars_mk1 hg ht (var?_below hb hg (nob_of hL).2.2 hvar) (reads_no enc W' sp)⟩
end Go.Proofs.YtahpoemmlpbgdaaDoor
