/-
  DERIVED. GIVEN WITH THE SEED: THE CARDS: each row of YtcmjidcdkooliaaDoorRows.lean that lists a variable, with what it lists TIED to the program's text (the seventh form; the later family's looks); each row that meets fmt, with fmt's text TOLD by the authors' own Lean function (tested against real Go, not proved from fmt's source: count such statements apart). THE CARD IS WHAT COUNTS. Prove the row's statement (the work); the ties are given (YtcmjidcdkooliaaDoorTie.lean); close each card by the builder's one call (the guide's Derived/Test/ToyasCard.lean, 'card_holds'). Laid BY PROGRAM, IN A SANDBOX (cutbox-door.mjs). By AI agents, Wed Nov 11 2026. No macro, syntax, notation, axiom, sorry.
-/
import Derived.Test.YtcmjidcdkooliaaDoorRows
import GoSem.ClaimSeven
namespace Go.Proofs.YtcmjidcdkooliaaDoor
namespace Rows

/-- THE TIED CARD OF 'laws.FnExactSegName'. -/
def fnExactSegNameCard : Claim7 := { stood := { row := fnExactSegNameRow, standIns := [], harness := (true, "0c705197eae9c2935b217aa1ecb69f664452f1ec146809ef7c937760aed9f2e1"), looks := false }, kinds := [], alts := [], laidByText := true, laidKinds := [.data, .data, .data], laidTests := true, laidLooks := .later }
def FnExactSegNameCardSaid : Prop := Claim7.holds Tryd.pinned (.plain (OpenSpec.ofChange fnExactSegNameSpec)) fnExactSegNameCard

/-- THE SECOND FORM's CARD OF 'laws.FnExactSegName'. -/
def fnExactSegNameUptoCard : Claim7 := { stood := { row := fnExactSegNameUptoRow, standIns := [], harness := (true, "0c705197eae9c2935b217aa1ecb69f664452f1ec146809ef7c937760aed9f2e1"), looks := false }, kinds := [], alts := [], laidByText := true, laidKinds := [.data, .data, .data], laidTests := true, laidLooks := .later }
def FnExactSegNameUptoCardSaid : Prop := Claim7.holds Tryd.pinned (.plain (OpenSpec.upto fnExactSegNameSpec)) fnExactSegNameUptoCard
end Rows
end Go.Proofs.YtcmjidcdkooliaaDoor
