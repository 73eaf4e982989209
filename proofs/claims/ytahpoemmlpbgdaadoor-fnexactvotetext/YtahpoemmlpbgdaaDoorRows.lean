/-
  NARROWER THAN 'FOR EVERY INPUT', by the rows' own cells (each row's printed sentence says how): FnExactVoteText: laid · FnExactReadVotes: laid · FnVotes: laid.
  DERIVED. THE GIVEN ROWS OF THIS SEAT. 3 by the template 'for every input the law returns true; each argument reads behind the call as it read before'; 0 by the template 'total and deterministic' (their statements: YtahpoemmlpbgdaaDoorTotals.lean).
  GIVEN WITH THE SEED: the statements are not yours to turn. If you find one false, say at which input.
  Laid BY PROGRAM, IN A SANDBOX (cutbox-rows.mjs): the forced cells as the released guide's own fill.sh prints them over the translation 09a1587872932d6f… (all of the seat's roots in one cut). By AI agents, Wed Nov 11 2026. No macro, syntax, notation, axiom, sorry.
-/
import Derived.Test.YtahpoemmlpbgdaaDoorChecked
import GoSem.Claim
import GoSem.ClaimJoined
import GoSem.ClaimMapViews
import Derived.JoinedTies
import Derived.KernelRfl
namespace Go.Proofs.YtahpoemmlpbgdaaDoor
/- THE CELL 'sum', in the pinned program and in every row, IS THE sha256 OF THE DUMP (.gsa) THAT YtahpoemmlpbgdaaDoorProg.lean LOADS. Nothing in Lean hashes anything: it is a label: what it is worth is what the hold of that sum in a sandbox is worth. -/
noncomputable def Tryd.pinned : Pinned := { name := "ytahpoemmlpbgdaadoor", sum := "09a1587872932d6f8093c61f21839af7796a449a0ef3bd5d2dc55af06b5e0535", checked := Tryd.checked }
namespace Rows
def none {H : Type} : Left H := { results := [], args := [] }

/- WHAT THE LISTED PACKAGE-LEVEL VARIABLES READ AS WHEN THE CALL BEGINS. Each datum BY PROGRAM (the guide's laid-datum.mjs) off the statement by which the dump's own 'gosem.cut.vars' lays the variable. In a bare row this is a premise. The card (YtahpoemmlpbgdaaDoorCards.lean) ties it to the program's text. -/
def laid_loop_example_g00103_impl_noBallot {H : Type} : DataW H := .agg [.lit (.int .i64 (-1)), .lit (.int .i64 0)]

/-- 'laws.FnExactVoteText': WHATEVER THE INPUT: true; the input reads as it did. -/
def fnExactVoteTextSpec : ChangeSpec := { name := "fnExactVoteText", vars := ["loop.example/g00103/impl.noBallot"], fn := fun _ => fun
  | [d1, d2, g1] => { results := [.lit (.bool true)], args := [d1, d2], vars := [g1] }
  | _ => none }
def fnExactVoteTextRow : OpenClaim := { program := "ytahpoemmlpbgdaadoor", sum := "09a1587872932d6f8093c61f21839af7796a449a0ef3bd5d2dc55af06b5e0535", func := "loop.example/g00103/laws.FnExactVoteText", spec := "fnExactVoteText", named := ["loop.example/g00103/impl.noBallot"], apart := false, laid := [("loop.example/g00103/impl.noBallot", laid_loop_example_g00103_impl_noBallot)] }
def FnExactVoteTextSaid : Prop := fnExactVoteTextRow.holds Tryd.pinned (OpenSpec.ofChange fnExactVoteTextSpec)

/-- ITS FALSE NEIGHBOUR: 'it returns false'. Refute it at one input. -/
def fnExactVoteTextWrong : ChangeSpec := { name := "fnExactVoteText", vars := ["loop.example/g00103/impl.noBallot"], fn := fun _ => fun
  | [d1, d2, g1] => { results := [.lit (.bool false)], args := [d1, d2], vars := [g1] }
  | _ => none }
def FnExactVoteTextWrongFalsely : Prop := fnExactVoteTextRow.holds Tryd.pinned (OpenSpec.ofChange fnExactVoteTextWrong)

/-- 'laws.FnExactReadVotes': WHATEVER THE INPUT: true; the input reads as it did. -/
def fnExactReadVotesSpec : ChangeSpec := { name := "fnExactReadVotes", vars := ["loop.example/g00103/impl.noBallot"], fn := fun _ => fun
  | [d, g1] => { results := [.lit (.bool true)], args := [d], vars := [g1] }
  | _ => none }
def fnExactReadVotesRow : OpenClaim := { program := "ytahpoemmlpbgdaadoor", sum := "09a1587872932d6f8093c61f21839af7796a449a0ef3bd5d2dc55af06b5e0535", func := "loop.example/g00103/laws.FnExactReadVotes", spec := "fnExactReadVotes", unfollowed := true, recurses := true, named := ["loop.example/g00103/impl.noBallot"], apart := false, laid := [("loop.example/g00103/impl.noBallot", laid_loop_example_g00103_impl_noBallot)] }
def FnExactReadVotesSaid : Prop := fnExactReadVotesRow.holds Tryd.pinned (OpenSpec.ofChange fnExactReadVotesSpec)

/-- ITS FALSE NEIGHBOUR: 'it returns false'. Refute it at one input. -/
def fnExactReadVotesWrong : ChangeSpec := { name := "fnExactReadVotes", vars := ["loop.example/g00103/impl.noBallot"], fn := fun _ => fun
  | [d, g1] => { results := [.lit (.bool false)], args := [d], vars := [g1] }
  | _ => none }
def FnExactReadVotesWrongFalsely : Prop := fnExactReadVotesRow.holds Tryd.pinned (OpenSpec.ofChange fnExactReadVotesWrong)

/-- 'laws.FnVotes': WHATEVER THE INPUT: true; the input reads as it did. -/
def fnVotesSpec : ChangeSpec := { name := "fnVotes", vars := ["loop.example/g00103/impl.noBallot"], fn := fun _ => fun
  | [d, g1] => { results := [.lit (.bool true)], args := [d], vars := [g1] }
  | _ => none }
def fnVotesRow : OpenClaim := { program := "ytahpoemmlpbgdaadoor", sum := "09a1587872932d6f8093c61f21839af7796a449a0ef3bd5d2dc55af06b5e0535", func := "loop.example/g00103/laws.FnVotes", spec := "fnVotes", unfollowed := true, recurses := true, named := ["loop.example/g00103/impl.noBallot"], apart := false, laid := [("loop.example/g00103/impl.noBallot", laid_loop_example_g00103_impl_noBallot)] }
def FnVotesSaid : Prop := fnVotesRow.holds Tryd.pinned (OpenSpec.ofChange fnVotesSpec)

/-- ITS FALSE NEIGHBOUR: 'it returns false'. Refute it at one input. -/
def fnVotesWrong : ChangeSpec := { name := "fnVotes", vars := ["loop.example/g00103/impl.noBallot"], fn := fun _ => fun
  | [d, g1] => { results := [.lit (.bool false)], args := [d], vars := [g1] }
  | _ => none }
def FnVotesWrongFalsely : Prop := fnVotesRow.holds Tryd.pinned (OpenSpec.ofChange fnVotesWrong)

/- THE SECOND FORM. 'bulk': how many values and letters a reading holds, each counted each time it is reached (what is shared counts as often as it is met; a slice's spare places count too). A statement '..UptoSaid' is the law's where the arguments, and the package variables that the reading takes, are together of bulk at most 1048576: NARROWER than '..Said'. Prove '..Said' where nothing that the law and all that it calls make is longer than what came in: it says more and counts as full. Else prove '..UptoSaid'. A law counts once. -/
mutual
def uptoBulk {H : Type} : DataW H → Nat
  | .lit (.string bytes) => bytes.length + 1
  | .lit _ => 1
  | .nil => 1
  | .ptr d => uptoBulk d + 1
  | .slice elems spare => uptoBulkAll elems + uptoBulkAll spare + 1
  | .agg parts => uptoBulkAll parts + 1
  | .iface _ d => uptoBulk d + 1
  | .map entries => uptoBulkEntries entries + 1
  | .held _ => 1
def uptoBulkAll {H : Type} : List (DataW H) → Nat
  | [] => 0
  | d :: r => uptoBulk d + uptoBulkAll r
def uptoBulkEntries {H : Type} : List (Lit × DataW H) → Nat
  | [] => 0
  | x :: r => uptoBulkEntry x + uptoBulkEntries r
def uptoBulkEntry {H : Type} : Lit × DataW H → Nat
  | (.string bytes, d) => bytes.length + uptoBulk d + 1
  | (_, d) => uptoBulk d + 1
 end
def uptoSmall : (H : Type) → List (DataW H) → Bool := fun _ ds => decide (uptoBulkAll ds ≤ 1048576)
def OpenSpec.upto (s : _root_.Go.ChangeSpec) : _root_.Go.OpenSpec := { _root_.Go.OpenSpec.ofChange s with cond := some uptoSmall }

/-- 'laws.FnExactVoteText', WHERE WHAT IT READS IS OF BULK AT MOST 1048576: true; the input reads as it did. -/
def fnExactVoteTextUptoRow : OpenClaim := { program := "ytahpoemmlpbgdaadoor", sum := "09a1587872932d6f8093c61f21839af7796a449a0ef3bd5d2dc55af06b5e0535", func := "loop.example/g00103/laws.FnExactVoteText", spec := "fnExactVoteText", named := ["loop.example/g00103/impl.noBallot"], apart := false, laid := [("loop.example/g00103/impl.noBallot", laid_loop_example_g00103_impl_noBallot)], narrowed := true }
def FnExactVoteTextUptoSaid : Prop := fnExactVoteTextUptoRow.holds Tryd.pinned (OpenSpec.upto fnExactVoteTextSpec)

/-- 'laws.FnExactReadVotes', WHERE WHAT IT READS IS OF BULK AT MOST 1048576: true; the input reads as it did. -/
def fnExactReadVotesUptoRow : OpenClaim := { program := "ytahpoemmlpbgdaadoor", sum := "09a1587872932d6f8093c61f21839af7796a449a0ef3bd5d2dc55af06b5e0535", func := "loop.example/g00103/laws.FnExactReadVotes", spec := "fnExactReadVotes", unfollowed := true, recurses := true, named := ["loop.example/g00103/impl.noBallot"], apart := false, laid := [("loop.example/g00103/impl.noBallot", laid_loop_example_g00103_impl_noBallot)], narrowed := true }
def FnExactReadVotesUptoSaid : Prop := fnExactReadVotesUptoRow.holds Tryd.pinned (OpenSpec.upto fnExactReadVotesSpec)

/-- 'laws.FnVotes', WHERE WHAT IT READS IS OF BULK AT MOST 1048576: true; the input reads as it did. -/
def fnVotesUptoRow : OpenClaim := { program := "ytahpoemmlpbgdaadoor", sum := "09a1587872932d6f8093c61f21839af7796a449a0ef3bd5d2dc55af06b5e0535", func := "loop.example/g00103/laws.FnVotes", spec := "fnVotes", unfollowed := true, recurses := true, named := ["loop.example/g00103/impl.noBallot"], apart := false, laid := [("loop.example/g00103/impl.noBallot", laid_loop_example_g00103_impl_noBallot)], narrowed := true }
def FnVotesUptoSaid : Prop := fnVotesUptoRow.holds Tryd.pinned (OpenSpec.upto fnVotesSpec)

end Rows
end Go.Proofs.YtahpoemmlpbgdaaDoor
