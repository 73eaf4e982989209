/-
  DERIVED. GIVEN WITH THE SEED: THE CARDS: each row of YtjpokcjpogkafaaGreatDoorRows.lean that lists a variable, with what it lists TIED to the program's text (the seventh form; the later family's looks); each row that meets fmt, with fmt's text TOLD by the authors' own Lean function (tested against real Go, not proved from fmt's source: count such statements apart). THE CARD IS WHAT COUNTS. Prove the row's statement (the work); the ties are given (YtjpokcjpogkafaaGreatDoorTie.lean); close each card by the builder's one call (the guide's Derived/Test/ToyasCard.lean, 'card_holds'). Laid BY PROGRAM, IN A SANDBOX (cutbox-door.mjs). By AI agents, Wed Nov 11 2026. No macro, syntax, notation, axiom, sorry.
-/
import Derived.Test.YtjpokcjpogkafaaGreatDoorRows
import GoSem.ClaimSeven
namespace Go.Proofs.YtjpokcjpogkafaaGreatDoor
namespace Rows

/-- THE TIED CARD OF 'laws.FnExactOpenShelf'. -/
def fnExactOpenShelfCard : Claim7 := { stood := { row := fnExactOpenShelfRow, standIns := [], harness := (true, "4b6bb9967c6e37f1f4ffa2192ee985e03e7a5f4040fb15aebf4a625e67066d75"), looks := true }, kinds := [], alts := [], laidByText := true, laidKinds := [.data, .data, .data, .handle], laidTests := true, laidLooks := .later }
def FnExactOpenShelfCardSaid : Prop := Claim7.holds Tryz.pinned (.plain (OpenSpec.ofChange fnExactOpenShelfSpec)) fnExactOpenShelfCard

/-- THE TIED CARD OF 'laws.FnExactAddBatch'. -/
def fnExactAddBatchCard : Claim7 := { stood := { row := fnExactAddBatchRow, standIns := [], harness := (true, "4b6bb9967c6e37f1f4ffa2192ee985e03e7a5f4040fb15aebf4a625e67066d75"), looks := true }, kinds := [], alts := [], laidByText := true, laidKinds := [.data, .data, .data], laidTests := true, laidLooks := .later }
def FnExactAddBatchCardSaid : Prop := Claim7.holds Tryz.pinned (.plain (OpenSpec.ofChange fnExactAddBatchSpec)) fnExactAddBatchCard

/-- THE TIED CARD OF 'laws.FnShelves'. -/
def fnShelvesCard : Claim7 := { stood := { row := fnShelvesRow, standIns := [], harness := (true, "4b6bb9967c6e37f1f4ffa2192ee985e03e7a5f4040fb15aebf4a625e67066d75"), looks := true }, kinds := [], alts := [], laidByText := true, laidKinds := [.data, .data, .data, .handle], laidTests := true, laidLooks := .later }
def FnShelvesCardSaid : Prop := Claim7.holds Tryz.pinned (.plain (OpenSpec.ofChange fnShelvesSpec)) fnShelvesCard

/-- THE TIED CARD OF 'laws.FnComesBack'. -/
def fnComesBackCard : Claim7 := { stood := { row := fnComesBackRow, standIns := [], harness := (true, "4b6bb9967c6e37f1f4ffa2192ee985e03e7a5f4040fb15aebf4a625e67066d75"), looks := true }, kinds := [], alts := [], laidByText := true, laidKinds := [.data, .data, .data, .handle], laidTests := true, laidLooks := .later }
def FnComesBackCardSaid : Prop := Claim7.holds Tryz.pinned (.plain (OpenSpec.ofChange fnComesBackSpec)) fnComesBackCard

/-- THE SECOND FORM's CARD OF 'laws.FnExactOpenShelf'. -/
def fnExactOpenShelfUptoCard : Claim7 := { stood := { row := fnExactOpenShelfUptoRow, standIns := [], harness := (true, "4b6bb9967c6e37f1f4ffa2192ee985e03e7a5f4040fb15aebf4a625e67066d75"), looks := true }, kinds := [], alts := [], laidByText := true, laidKinds := [.data, .data, .data, .handle], laidTests := true, laidLooks := .later }
def FnExactOpenShelfUptoCardSaid : Prop := Claim7.holds Tryz.pinned (.plain (OpenSpec.upto fnExactOpenShelfSpec)) fnExactOpenShelfUptoCard

/-- THE SECOND FORM's CARD OF 'laws.FnExactAddBatch'. -/
def fnExactAddBatchUptoCard : Claim7 := { stood := { row := fnExactAddBatchUptoRow, standIns := [], harness := (true, "4b6bb9967c6e37f1f4ffa2192ee985e03e7a5f4040fb15aebf4a625e67066d75"), looks := true }, kinds := [], alts := [], laidByText := true, laidKinds := [.data, .data, .data], laidTests := true, laidLooks := .later }
def FnExactAddBatchUptoCardSaid : Prop := Claim7.holds Tryz.pinned (.plain (OpenSpec.upto fnExactAddBatchSpec)) fnExactAddBatchUptoCard

/-- THE SECOND FORM's CARD OF 'laws.FnShelves'. -/
def fnShelvesUptoCard : Claim7 := { stood := { row := fnShelvesUptoRow, standIns := [], harness := (true, "4b6bb9967c6e37f1f4ffa2192ee985e03e7a5f4040fb15aebf4a625e67066d75"), looks := true }, kinds := [], alts := [], laidByText := true, laidKinds := [.data, .data, .data, .handle], laidTests := true, laidLooks := .later }
def FnShelvesUptoCardSaid : Prop := Claim7.holds Tryz.pinned (.plain (OpenSpec.upto fnShelvesSpec)) fnShelvesUptoCard

/-- THE SECOND FORM's CARD OF 'laws.FnComesBack'. -/
def fnComesBackUptoCard : Claim7 := { stood := { row := fnComesBackUptoRow, standIns := [], harness := (true, "4b6bb9967c6e37f1f4ffa2192ee985e03e7a5f4040fb15aebf4a625e67066d75"), looks := true }, kinds := [], alts := [], laidByText := true, laidKinds := [.data, .data, .data, .handle], laidTests := true, laidLooks := .later }
def FnComesBackUptoCardSaid : Prop := Claim7.holds Tryz.pinned (.plain (OpenSpec.upto fnComesBackSpec)) fnComesBackUptoCard
end Rows
end Go.Proofs.YtjpokcjpogkafaaGreatDoor
