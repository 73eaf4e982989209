/- The program's startFrame, framesFrom and LogFile, walked. -/
import Derived.Test.YtiifjhalkihlbaaImplTerm
import Derived.Test.YtiifjhalkihlbaaSpecBehind
namespace Go.Proofs.Ytiifjhalkihlbaa
open Go.RowKit
open Ents (okB)
open Logs (okL rises Fits inB)
set_option linter.unusedVariables false
set_option linter.unusedSimpArgs false

set_option maxHeartbeats 1000000 in
theorem partOf_is (a : Option Addr) (n cap i j : Nat) (hij : i ≤ j) (hj : j ≤ cap) (w : World) :
    Calls Try.prog 75 #[.slice a n cap, .int .i64 (i : Int), .int .i64 (j : Int)] w fun en w' => en = .returned (.slice (if j = i then a else a.map (·.add (i * 3))) (j - i) (j - i)) ∧ w' = w := by
  have i0 : (0 : Int) ≤ (i : Int) := by omega
  have i1 : (i : Int) ≤ (j : Int) := by omega
  have i2 : (j : Int) ≤ (cap : Int) := by omega
  go_enter Try.func75, Try.ntmps75
  go_wp2
  all_goals
    go_ret
    exact ⟨rfl, rfl⟩
/-- A part of entries, from place d on, lies where it lay. -/
theorem EnAt.part {w : World} {a : Option Addr} {g off : Nat} {l : List EntL} (h : EnAt w a g off l) (d : Nat) (hd : d ≤ l.length) : ∃ g' off', EnAt w (if l.length = d then a else a.map (·.add (d * 3))) g' off' (l.drop d) := by
  by_cases he : l.length = d
  · refine ⟨g, off, fun hp => ?_, fun j hj => ?_⟩
    · rw [List.length_drop] at hp; omega
    · rw [List.length_drop] at hj; omega
  · have ha := h.1 (by omega)
    subst ha
    rw [if_neg he]
    exact ⟨g, off + d * 3, by simpa [Addr.add_lit] using EnAt.drop h d⟩
end Go.Proofs.Ytiifjhalkihlbaa
