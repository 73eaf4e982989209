/- The law of VarText, walked: it answers true at every number. -/
import Derived.Test.YtbajccpnkgdfpaaVar
namespace Go.Proofs.Ytbajccpnkgdfpaa
open Go.RowKit

set_option maxHeartbeats 400000 in
theorem lawVar_any (x : Int) (w : World) :
    Calls Try.prog 3 #[.int .i64 x] w fun e w' => e = .returned (.bool true) ∧ Below w.heap.size w w' := by
  by_cases h : 0 ≤ x ∧ x ≤ 1000000000
  · obtain ⟨n, rfl⟩ := Int.eq_ofNat_of_zero_le h.1
    have hn : n ≤ 1000000000 := by omega
    go_enter Try.func3, Try.ntmps3
    go_wp2_with (first | (go_at_call 11; refine (specVar_yes n hn _).mono ?_; rintro e w1 ⟨rfl, hb1⟩) | (go_at_call 12; refine (implVar_yes n hn _).mono ?_; rintro e w2 ⟨rfl, hb2⟩))
    go_ret
    exact ⟨rfl, hb1.trans (hb2.mono hb1.size)⟩
  · go_enter Try.func3, Try.ntmps3
    go_wp2_with (first | (go_at_call 11; refine (specVar_no x h _).mono ?_; rintro e w1 ⟨rfl, hb1⟩) | (go_at_call 12; refine (implVar_no x h _).mono ?_; rintro e w2 ⟨rfl, hb2⟩))
    go_ret
    exact ⟨rfl, hb1.trans (hb2.mono hb1.size)⟩
end Go.Proofs.Ytbajccpnkgdfpaa
