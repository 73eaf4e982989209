/- The call of the specification's ReadVar, walked. -/
import Derived.Test.YtimacmijinblmaaRead
import Derived.Deep.RegionWith
import Derived.Deep.QuietTactic
import Derived.BigQuiet
import Derived.Deep.RegionHeld3
namespace Go.Proofs.Ytimacmijinblmaa
open Go.RowKit

theorem neq_of {s : ByteArray} {a k N : Nat} {x : Int} {Z : Prop} (hx : x = (N : Int)) (hX : Words.var N = (s.data.toList.drop a).take (k + 1) ↔ ¬ Z) :
    ((!(Words.var x.toNat == (s.extract a (a + k + 1)).toList)) = true → Z) ∧ ((!(Words.var x.toNat == (s.extract a (a + k + 1)).toList)) = false → ¬ Z) := by
  have hl : (s.extract a (a + k + 1)).toList = (s.data.toList.drop a).take (k + 1) := by
    have := Words.extract_list s a (a + k + 1)
    rw [show a + k + 1 - a = k + 1 from by omega] at this
    rw [← this]
    exact ByteArray.toList_eq _
  rw [hx, Int.toNat_natCast, hl]
  constructor
  · intro h
    refine Classical.byContradiction fun hz => ?_
    rw [hX.2 hz] at h
    simp at h
  · intro h
    refine hX.1 ?_
    simpa using h

theorem l01Var_int (x : Int) (h0 : 0 ≤ x) (h1 : x ≤ 1000000000) (w : World) :
    Calls Try.prog 24 #[.int .i64 x] w fun e w' => e = .returned (.string ⟨(Words.var x.toNat).toArray⟩) ∧ Below w.heap.size w w' := by
  have h := l01Var_any x.toNat (by omega) w
  rwa [Int.toNat_of_nonneg h0] at h

end Go.Proofs.Ytimacmijinblmaa
