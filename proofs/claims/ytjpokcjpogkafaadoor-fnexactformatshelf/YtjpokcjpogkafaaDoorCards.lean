/-
  DERIVED. GIVEN WITH THE SEED: THE CARDS: each row of YtjpokcjpogkafaaDoorRows.lean that lists a variable, with what it lists TIED to the program's text (the seventh form; the later family's looks); each row that meets fmt, with fmt's text TOLD by the authors' own Lean function (tested against real Go, not proved from fmt's source: count such statements apart). THE CARD IS WHAT COUNTS. Prove the row's statement (the work); the ties are given (YtjpokcjpogkafaaDoorTie.lean); close each card by the builder's one call (the guide's Derived/Test/ToyasCard.lean, 'card_holds'). Laid BY PROGRAM, IN A SANDBOX (cutbox-door.mjs). By AI agents, Wed Nov 11 2026. No macro, syntax, notation, axiom, sorry.
-/
import Derived.Test.YtjpokcjpogkafaaDoorRows
import GoSem.ClaimSeven
namespace Go.Proofs.YtjpokcjpogkafaaDoor
namespace Rows

/-- THE TIED CARD OF 'laws.FnExactFormatShelf'. -/
def fnExactFormatShelfCard : Claim7 := { stood := { row := fnExactFormatShelfRow, standIns := [], harness := (true, "be63dc38441de210d37a36aa5d9fa4c6f84f11669e616e8ad9d5c9b565ed0027"), looks := false }, kinds := [], alts := [], laidByText := true, laidKinds := [.data, .data, .data], laidTests := true, laidLooks := .later }
def FnExactFormatShelfCardSaid : Prop := Claim7.holds Tryd.pinned (.plain (OpenSpec.ofChange fnExactFormatShelfSpec)) fnExactFormatShelfCard

/-- THE SECOND FORM's CARD OF 'laws.FnExactFormatShelf'. -/
def fnExactFormatShelfUptoCard : Claim7 := { stood := { row := fnExactFormatShelfUptoRow, standIns := [], harness := (true, "be63dc38441de210d37a36aa5d9fa4c6f84f11669e616e8ad9d5c9b565ed0027"), looks := false }, kinds := [], alts := [], laidByText := true, laidKinds := [.data, .data, .data], laidTests := true, laidLooks := .later }
def FnExactFormatShelfUptoCardSaid : Prop := Claim7.holds Tryd.pinned (.plain (OpenSpec.upto fnExactFormatShelfSpec)) fnExactFormatShelfUptoCard
end Rows
end Go.Proofs.YtjpokcjpogkafaaDoor
