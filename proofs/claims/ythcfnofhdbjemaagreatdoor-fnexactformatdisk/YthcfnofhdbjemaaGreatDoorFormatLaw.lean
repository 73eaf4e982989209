/- The exact law of FormatShelf, walked. Made by program. -/
import Derived.Test.YthcfnofhdbjemaaGreatDoorFormat
import Derived.Test.YthcfnofhdbjemaaGreatDoorRawArg
import Derived.Test.YthcfnofhdbjemaaGreatDoorLaw
import Derived.Test.YthcfnofhdbjemaaGreatDoorInts
import Derived.Test.YthcfnofhdbjemaaGreatDoorDiskEq
namespace Go.Proofs.YthcfnofhdbjemaaGreatDoor
open Go.RowKit
set_option linter.unusedVariables false

theorem toIntS_own {a : Option Addr} {g off cap : Nat} (l : List Int) (hlen : l.length ≤ 1048576) (w : World) (hf : IntAt w a g off l) :
    Calls Tryz.prog 5 #[.slice a l.length cap] w fun e w' => ∃ g, e = .returned (.slice (some ⟨g, 0, none⟩) l.length l.length) ∧ w'.ownsRow w.heap.size 3 1 (.slice (some ⟨g, 0, none⟩) l.length l.length) l.length (cellsI l) ∧ Below w.heap.size w w' :=
  (toIntS_is l hlen w hf).mono fun _ _ ⟨h1, h2, h3⟩ => ⟨_, h1, h2, h3⟩
theorem files_slice {w : World} {base : Nat} {v : Value} {l : List FileL} (h : w.ownsRow base 41 2 v l.length (cellsF l)) : ∃ a g cap, v = .slice a l.length cap ∧ FilesAt w a g 0 l := by
  rcases h.2 with ⟨rfl, hn⟩ | ⟨g, cap, cur, rfl, hb, hh, h3⟩
  · have : l = [] := List.eq_nil_of_length_eq_zero hn
    subst this
    exact ⟨none, 0, 0, rfl, fun h => absurd h (by simp), fun j hj => absurd hj (by simp)⟩
  · exact ⟨_, g, cap, rfl, own_files rfl h⟩
end Go.Proofs.YthcfnofhdbjemaaGreatDoor
