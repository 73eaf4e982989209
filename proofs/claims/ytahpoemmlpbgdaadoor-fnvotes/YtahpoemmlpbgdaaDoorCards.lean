/-
  DERIVED. GIVEN WITH THE SEED: THE CARDS: each row of YtahpoemmlpbgdaaDoorRows.lean that lists a variable, with what it lists TIED to the program's text (the seventh form; the later family's looks); each row that meets fmt, with fmt's text TOLD by the authors' own Lean function (tested against real Go, not proved from fmt's source: count such statements apart). THE CARD IS WHAT COUNTS. Prove the row's statement (the work); the ties are given (YtahpoemmlpbgdaaDoorTie.lean); close each card by the builder's one call (the guide's Derived/Test/ToyasCard.lean, 'card_holds'). Laid BY PROGRAM, IN A SANDBOX (cutbox-door.mjs). By AI agents, Wed Nov 11 2026. No macro, syntax, notation, axiom, sorry.
-/
import Derived.Test.YtahpoemmlpbgdaaDoorRows
import GoSem.ClaimSeven
namespace Go.Proofs.YtahpoemmlpbgdaaDoor
namespace Rows

/-- THE TIED CARD OF 'laws.FnExactVoteText'. -/
def fnExactVoteTextCard : Claim7 := { stood := { row := fnExactVoteTextRow, standIns := [], harness := (true, "95957c4f2033b7b8ceedc1d27b5698e96ad046a3f58a98600171cf029f65dc16"), looks := false }, kinds := [], alts := [], laidByText := true, laidKinds := [.data], laidTests := true, laidLooks := .later }
def FnExactVoteTextCardSaid : Prop := Claim7.holds Tryd.pinned (.plain (OpenSpec.ofChange fnExactVoteTextSpec)) fnExactVoteTextCard

/-- THE TIED CARD OF 'laws.FnExactReadVotes'. -/
def fnExactReadVotesCard : Claim7 := { stood := { row := fnExactReadVotesRow, standIns := [], harness := (true, "95957c4f2033b7b8ceedc1d27b5698e96ad046a3f58a98600171cf029f65dc16"), looks := false }, kinds := [], alts := [], laidByText := true, laidKinds := [.data], laidTests := true, laidLooks := .later }
def FnExactReadVotesCardSaid : Prop := Claim7.holds Tryd.pinned (.plain (OpenSpec.ofChange fnExactReadVotesSpec)) fnExactReadVotesCard

/-- THE TIED CARD OF 'laws.FnVotes'. -/
def fnVotesCard : Claim7 := { stood := { row := fnVotesRow, standIns := [], harness := (true, "95957c4f2033b7b8ceedc1d27b5698e96ad046a3f58a98600171cf029f65dc16"), looks := false }, kinds := [], alts := [], laidByText := true, laidKinds := [.data], laidTests := true, laidLooks := .later }
def FnVotesCardSaid : Prop := Claim7.holds Tryd.pinned (.plain (OpenSpec.ofChange fnVotesSpec)) fnVotesCard

/-- THE SECOND FORM's CARD OF 'laws.FnExactVoteText'. -/
def fnExactVoteTextUptoCard : Claim7 := { stood := { row := fnExactVoteTextUptoRow, standIns := [], harness := (true, "95957c4f2033b7b8ceedc1d27b5698e96ad046a3f58a98600171cf029f65dc16"), looks := false }, kinds := [], alts := [], laidByText := true, laidKinds := [.data], laidTests := true, laidLooks := .later }
def FnExactVoteTextUptoCardSaid : Prop := Claim7.holds Tryd.pinned (.plain (OpenSpec.upto fnExactVoteTextSpec)) fnExactVoteTextUptoCard

/-- THE SECOND FORM's CARD OF 'laws.FnExactReadVotes'. -/
def fnExactReadVotesUptoCard : Claim7 := { stood := { row := fnExactReadVotesUptoRow, standIns := [], harness := (true, "95957c4f2033b7b8ceedc1d27b5698e96ad046a3f58a98600171cf029f65dc16"), looks := false }, kinds := [], alts := [], laidByText := true, laidKinds := [.data], laidTests := true, laidLooks := .later }
def FnExactReadVotesUptoCardSaid : Prop := Claim7.holds Tryd.pinned (.plain (OpenSpec.upto fnExactReadVotesSpec)) fnExactReadVotesUptoCard

/-- THE SECOND FORM's CARD OF 'laws.FnVotes'. -/
def fnVotesUptoCard : Claim7 := { stood := { row := fnVotesUptoRow, standIns := [], harness := (true, "95957c4f2033b7b8ceedc1d27b5698e96ad046a3f58a98600171cf029f65dc16"), looks := false }, kinds := [], alts := [], laidByText := true, laidKinds := [.data], laidTests := true, laidLooks := .later }
def FnVotesUptoCardSaid : Prop := Claim7.holds Tryd.pinned (.plain (OpenSpec.upto fnVotesSpec)) fnVotesUptoCard
end Rows
end Go.Proofs.YtahpoemmlpbgdaaDoor
