/- The call of the specification's ReadVar, walked. -/
import Derived.Test.YtlmjhobijgmolaaVar
import Derived.Deep.RegionWith
import Derived.Deep.QuietTactic
import Derived.BigQuiet
import Derived.Deep.RegionHeld3
namespace Go.Proofs.Ytlmjhobijgmolaa
open Go.RowKit

theorem l01Var_int (x : Int) (h0 : 0 ≤ x) (h1 : x ≤ 1000000000) (w : World) :
    Calls Try.prog 21 #[.int .i64 x] w fun e w' => e = .returned (.string ⟨(Words.var x.toNat).toArray⟩) ∧ Below w.heap.size w w' := by
  have h := l01Var_any x.toNat (by omega) w
  rwa [Int.toNat_of_nonneg h0] at h

end Go.Proofs.Ytlmjhobijgmolaa
