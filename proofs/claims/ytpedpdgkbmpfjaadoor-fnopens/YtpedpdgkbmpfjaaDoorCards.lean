/-
  DERIVED. GIVEN WITH THE SEED: THE CARDS: each row of YtpedpdgkbmpfjaaDoorRows.lean that lists a variable, with what it lists TIED to the program's text (the seventh form; the later family's looks); each row that meets fmt, with fmt's text TOLD by the authors' own Lean function (tested against real Go, not proved from fmt's source: count such statements apart). THE CARD IS WHAT COUNTS. Prove the row's statement (the work); the ties are given (YtpedpdgkbmpfjaaDoorTie.lean); close each card by the builder's one call (the guide's Derived/Test/ToyasCard.lean, 'card_holds'). Laid BY PROGRAM, IN A SANDBOX (cutbox-door.mjs). By AI agents, Wed Nov 11 2026. No macro, syntax, notation, axiom, sorry.
-/
import Derived.Test.YtpedpdgkbmpfjaaDoorRows
import GoSem.ClaimSeven
namespace Go.Proofs.YtpedpdgkbmpfjaaDoor
namespace Rows

/-- THE TIED CARD OF 'laws.FnExactAct'. -/
def fnExactActCard : Claim7 := { stood := { row := fnExactActRow, standIns := [], harness := (true, "734a9eb8109421b956552f2fe45f39b2e6887643ce527f78b463d40c9b2e90b4"), looks := false }, kinds := [], alts := [], laidByText := true, laidKinds := [.data, .data, .data], laidTests := true, laidLooks := .later }
def FnExactActCardSaid : Prop := Claim7.holds Tryd.pinned (.plain (OpenSpec.ofChange fnExactActSpec)) fnExactActCard

/-- THE TIED CARD OF 'laws.FnSessions'. -/
def fnSessionsCard : Claim7 := { stood := { row := fnSessionsRow, standIns := [], harness := (true, "734a9eb8109421b956552f2fe45f39b2e6887643ce527f78b463d40c9b2e90b4"), looks := false }, kinds := [], alts := [], laidByText := true, laidKinds := [.data, .data, .data], laidTests := true, laidLooks := .later }
def FnSessionsCardSaid : Prop := Claim7.holds Tryd.pinned (.plain (OpenSpec.ofChange fnSessionsSpec)) fnSessionsCard

/-- THE TIED CARD OF 'laws.FnOpens'. -/
def fnOpensCard : Claim7 := { stood := { row := fnOpensRow, standIns := [], harness := (true, "734a9eb8109421b956552f2fe45f39b2e6887643ce527f78b463d40c9b2e90b4"), looks := false }, kinds := [], alts := [], laidByText := true, laidKinds := [.data, .data, .data], laidTests := true, laidLooks := .later }
def FnOpensCardSaid : Prop := Claim7.holds Tryd.pinned (.plain (OpenSpec.ofChange fnOpensSpec)) fnOpensCard

/-- THE SECOND FORM's CARD OF 'laws.FnExactAct'. -/
def fnExactActUptoCard : Claim7 := { stood := { row := fnExactActUptoRow, standIns := [], harness := (true, "734a9eb8109421b956552f2fe45f39b2e6887643ce527f78b463d40c9b2e90b4"), looks := false }, kinds := [], alts := [], laidByText := true, laidKinds := [.data, .data, .data], laidTests := true, laidLooks := .later }
def FnExactActUptoCardSaid : Prop := Claim7.holds Tryd.pinned (.plain (OpenSpec.upto fnExactActSpec)) fnExactActUptoCard

/-- THE SECOND FORM's CARD OF 'laws.FnSessions'. -/
def fnSessionsUptoCard : Claim7 := { stood := { row := fnSessionsUptoRow, standIns := [], harness := (true, "734a9eb8109421b956552f2fe45f39b2e6887643ce527f78b463d40c9b2e90b4"), looks := false }, kinds := [], alts := [], laidByText := true, laidKinds := [.data, .data, .data], laidTests := true, laidLooks := .later }
def FnSessionsUptoCardSaid : Prop := Claim7.holds Tryd.pinned (.plain (OpenSpec.upto fnSessionsSpec)) fnSessionsUptoCard

/-- THE SECOND FORM's CARD OF 'laws.FnOpens'. -/
def fnOpensUptoCard : Claim7 := { stood := { row := fnOpensUptoRow, standIns := [], harness := (true, "734a9eb8109421b956552f2fe45f39b2e6887643ce527f78b463d40c9b2e90b4"), looks := false }, kinds := [], alts := [], laidByText := true, laidKinds := [.data, .data, .data], laidTests := true, laidLooks := .later }
def FnOpensUptoCardSaid : Prop := Claim7.holds Tryd.pinned (.plain (OpenSpec.upto fnOpensSpec)) fnOpensUptoCard
end Rows
end Go.Proofs.YtpedpdgkbmpfjaaDoor
