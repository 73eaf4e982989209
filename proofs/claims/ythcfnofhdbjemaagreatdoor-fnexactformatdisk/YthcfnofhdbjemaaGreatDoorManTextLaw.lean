/- The exact law of ManifestText, walked. Made by program. -/
import Derived.Test.YthcfnofhdbjemaaGreatDoorManOk
import Derived.Deep.RegionHeld3
import Derived.Test.YthcfnofhdbjemaaGreatDoorSpecManText
namespace Go.Proofs.YthcfnofhdbjemaaGreatDoor
open Go.RowKit
set_option linter.unusedVariables false

/-- What both ManifestText answer. -/
def TextIs (m : ManL) (S : ByteArray) (R : Bool) : Prop := (Mans.ok m ∧ S = sealedS m ∧ R = true) ∨ (¬ Mans.ok m ∧ S = ⟨#[]⟩ ∧ R = false)
theorem textIs (m : ManL) : ∃ S R, TextIs m S R := by
  by_cases h : Mans.ok m
  · exact ⟨_, _, Or.inl ⟨h, rfl, rfl⟩⟩
  · exact ⟨_, _, Or.inr ⟨h, rfl, rfl⟩⟩
theorem implText_is {a b : Option Addr} {ga oa ca gb ob cb : Nat} (l l' : List Int) (x y z : Int) (hs : l.length ≤ 1048576) (hc : l'.length ≤ 1048576) (S : ByteArray) (R : Bool) (hT : TextIs ⟨l, x, y, z, l'⟩ S R) (w : World) (hA : IntAt w a ga oa l) (hB : IntAt w b gb ob l') :
    Calls Tryz.prog 26 #[manV ⟨l, x, y, z, l'⟩ a ca b cb] w fun e w' => e = .returned (.tuple #[.string S, .bool R]) ∧ Below w.heap.size w w' := by
  rcases hT with ⟨ho, rfl, rfl⟩ | ⟨ho, rfl, rfl⟩
  · exact implText_yes l l' x y z hs hc w hA hB ho
  · exact implText_no l l' x y z hs hc w hA hB ho
theorem specText_is {a b : Option Addr} {ga oa ca gb ob cb : Nat} (l l' : List Int) (x y z : Int) (hs : l.length ≤ 1048576) (hc : l'.length ≤ 1048576) (S : ByteArray) (R : Bool) (hT : TextIs ⟨l, x, y, z, l'⟩ S R) (w : World) (hA : IntAt w a ga oa l) (hB : IntAt w b gb ob l') :
    Calls Tryz.prog 21 #[manV ⟨l, x, y, z, l'⟩ a ca b cb] w fun e w' => e = .returned (.tuple #[.string S, .bool R]) ∧ Below w.heap.size w w' := by
  rcases hT with ⟨ho, rfl, rfl⟩ | ⟨ho, rfl, rfl⟩
  · exact specText_yes l l' x y z hs hc w hA hB ho
  · exact specText_no l l' x y z hs hc w hA hB ho
end Go.Proofs.YthcfnofhdbjemaaGreatDoor
