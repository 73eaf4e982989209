/-
  No cell of these rows narrows 'for every input' (looked for: loops, veiled, ifaces, maps, wideKeys, modest, calm, conditions, laid).
  DERIVED. THE GIVEN ROWS OF THIS SEAT. 8 by the template 'for every input the law returns true; each argument reads behind the call as it read before'; 0 by the template 'total and deterministic' (their statements: YtdpbmaedpdbppaaTotals.lean).
  GIVEN WITH THE SEED: the statements are not yours to turn. If you find one false, say at which input.
  Laid BY PROGRAM, IN A SANDBOX (cutbox-rows.mjs): the forced cells as the released guide's own fill.sh prints them over the translation 60fda51be0c68753… (all of the seat's roots in one cut). By AI agents, Wed Nov 11 2026. No macro, syntax, notation, axiom, sorry.
-/
import Derived.Test.YtdpbmaedpdbppaaChecked
import GoSem.Claim
import GoSem.ClaimJoined
import GoSem.ClaimMapViews
import Derived.JoinedTies
import Derived.KernelRfl
namespace Go.Proofs.Ytdpbmaedpdbppaa
/- THE CELL 'sum', in the pinned program and in every row, IS THE sha256 OF THE DUMP (.gsa) THAT YtdpbmaedpdbppaaProg.lean LOADS. Nothing in Lean hashes anything: it is a label: what it is worth is what the hold of that sum in a sandbox is worth. -/
noncomputable def Try.pinned : Pinned := { name := "ytdpbmaedpdbppaa", sum := "60fda51be0c68753b3f6f29d1bd7fd23e0f08076bc5f6c7a27fbf7094095ac4b", checked := Try.checked }
namespace Rows
def none {H : Type} : Left H := { results := [], args := [] }

/-- 'laws.FnBehind': WHATEVER THE INPUT: true; the input reads as it did. -/
def fnBehindSpec : ChangeSpec := { name := "fnBehind", fn := fun _ => fun
  | [d] => { results := [.lit (.bool true)], args := [d] }
  | _ => none }
def fnBehindRow : OpenClaim := { program := "ytdpbmaedpdbppaa", sum := "60fda51be0c68753b3f6f29d1bd7fd23e0f08076bc5f6c7a27fbf7094095ac4b", func := "loop.example/g00103/laws.FnBehind", spec := "fnBehind", apart := false }
def FnBehindSaid : Prop := fnBehindRow.holds Try.pinned (OpenSpec.ofChange fnBehindSpec)

/-- ITS FALSE NEIGHBOUR: 'it returns false'. Refute it at one input. -/
def fnBehindWrong : ChangeSpec := { name := "fnBehind", fn := fun _ => fun
  | [d] => { results := [.lit (.bool false)], args := [d] }
  | _ => none }
def FnBehindWrongFalsely : Prop := fnBehindRow.holds Try.pinned (OpenSpec.ofChange fnBehindWrong)

/-- 'laws.FnExactLogOk': WHATEVER THE INPUT: true; the input reads as it did. -/
def fnExactLogOkSpec : ChangeSpec := { name := "fnExactLogOk", fn := fun _ => fun
  | [d] => { results := [.lit (.bool true)], args := [d] }
  | _ => none }
def fnExactLogOkRow : OpenClaim := { program := "ytdpbmaedpdbppaa", sum := "60fda51be0c68753b3f6f29d1bd7fd23e0f08076bc5f6c7a27fbf7094095ac4b", func := "loop.example/g00103/laws.FnExactLogOk", spec := "fnExactLogOk", apart := false }
def FnExactLogOkSaid : Prop := fnExactLogOkRow.holds Try.pinned (OpenSpec.ofChange fnExactLogOkSpec)

/-- ITS FALSE NEIGHBOUR: 'it returns false'. Refute it at one input. -/
def fnExactLogOkWrong : ChangeSpec := { name := "fnExactLogOk", fn := fun _ => fun
  | [d] => { results := [.lit (.bool false)], args := [d] }
  | _ => none }
def FnExactLogOkWrongFalsely : Prop := fnExactLogOkRow.holds Try.pinned (OpenSpec.ofChange fnExactLogOkWrong)

/-- 'laws.FnExactLogLast': WHATEVER THE INPUT: true; the input reads as it did. -/
def fnExactLogLastSpec : ChangeSpec := { name := "fnExactLogLast", fn := fun _ => fun
  | [d] => { results := [.lit (.bool true)], args := [d] }
  | _ => none }
def fnExactLogLastRow : OpenClaim := { program := "ytdpbmaedpdbppaa", sum := "60fda51be0c68753b3f6f29d1bd7fd23e0f08076bc5f6c7a27fbf7094095ac4b", func := "loop.example/g00103/laws.FnExactLogLast", spec := "fnExactLogLast", apart := false }
def FnExactLogLastSaid : Prop := fnExactLogLastRow.holds Try.pinned (OpenSpec.ofChange fnExactLogLastSpec)

/-- ITS FALSE NEIGHBOUR: 'it returns false'. Refute it at one input. -/
def fnExactLogLastWrong : ChangeSpec := { name := "fnExactLogLast", fn := fun _ => fun
  | [d] => { results := [.lit (.bool false)], args := [d] }
  | _ => none }
def FnExactLogLastWrongFalsely : Prop := fnExactLogLastRow.holds Try.pinned (OpenSpec.ofChange fnExactLogLastWrong)

/-- 'laws.FnExactLogTerm': WHATEVER THE INPUT: true; the input reads as it did. -/
def fnExactLogTermSpec : ChangeSpec := { name := "fnExactLogTerm", fn := fun _ => fun
  | [d1, d2] => { results := [.lit (.bool true)], args := [d1, d2] }
  | _ => none }
def fnExactLogTermRow : OpenClaim := { program := "ytdpbmaedpdbppaa", sum := "60fda51be0c68753b3f6f29d1bd7fd23e0f08076bc5f6c7a27fbf7094095ac4b", func := "loop.example/g00103/laws.FnExactLogTerm", spec := "fnExactLogTerm", apart := false }
def FnExactLogTermSaid : Prop := fnExactLogTermRow.holds Try.pinned (OpenSpec.ofChange fnExactLogTermSpec)

/-- ITS FALSE NEIGHBOUR: 'it returns false'. Refute it at one input. -/
def fnExactLogTermWrong : ChangeSpec := { name := "fnExactLogTerm", fn := fun _ => fun
  | [d1, d2] => { results := [.lit (.bool false)], args := [d1, d2] }
  | _ => none }
def FnExactLogTermWrongFalsely : Prop := fnExactLogTermRow.holds Try.pinned (OpenSpec.ofChange fnExactLogTermWrong)

/-- 'laws.FnExactLogFile': WHATEVER THE INPUT: true; the input reads as it did. -/
def fnExactLogFileSpec : ChangeSpec := { name := "fnExactLogFile", fn := fun _ => fun
  | [d] => { results := [.lit (.bool true)], args := [d] }
  | _ => none }
def fnExactLogFileRow : OpenClaim := { program := "ytdpbmaedpdbppaa", sum := "60fda51be0c68753b3f6f29d1bd7fd23e0f08076bc5f6c7a27fbf7094095ac4b", func := "loop.example/g00103/laws.FnExactLogFile", spec := "fnExactLogFile", unfollowed := true, recurses := true, apart := false }
def FnExactLogFileSaid : Prop := fnExactLogFileRow.holds Try.pinned (OpenSpec.ofChange fnExactLogFileSpec)

/-- ITS FALSE NEIGHBOUR: 'it returns false'. Refute it at one input. -/
def fnExactLogFileWrong : ChangeSpec := { name := "fnExactLogFile", fn := fun _ => fun
  | [d] => { results := [.lit (.bool false)], args := [d] }
  | _ => none }
def FnExactLogFileWrongFalsely : Prop := fnExactLogFileRow.holds Try.pinned (OpenSpec.ofChange fnExactLogFileWrong)

/-- 'laws.FnExactReadLog': WHATEVER THE INPUT: true; the input reads as it did. -/
def fnExactReadLogSpec : ChangeSpec := { name := "fnExactReadLog", fn := fun _ => fun
  | [d] => { results := [.lit (.bool true)], args := [d] }
  | _ => none }
def fnExactReadLogRow : OpenClaim := { program := "ytdpbmaedpdbppaa", sum := "60fda51be0c68753b3f6f29d1bd7fd23e0f08076bc5f6c7a27fbf7094095ac4b", func := "loop.example/g00103/laws.FnExactReadLog", spec := "fnExactReadLog", unfollowed := true, recurses := true, apart := false }
def FnExactReadLogSaid : Prop := fnExactReadLogRow.holds Try.pinned (OpenSpec.ofChange fnExactReadLogSpec)

/-- ITS FALSE NEIGHBOUR: 'it returns false'. Refute it at one input. -/
def fnExactReadLogWrong : ChangeSpec := { name := "fnExactReadLog", fn := fun _ => fun
  | [d] => { results := [.lit (.bool false)], args := [d] }
  | _ => none }
def FnExactReadLogWrongFalsely : Prop := fnExactReadLogRow.holds Try.pinned (OpenSpec.ofChange fnExactReadLogWrong)

/-- 'laws.FnExactLogSteps': WHATEVER THE INPUT: true; the input reads as it did. -/
def fnExactLogStepsSpec : ChangeSpec := { name := "fnExactLogSteps", fn := fun _ => fun
  | [d1, d2, d3] => { results := [.lit (.bool true)], args := [d1, d2, d3] }
  | _ => none }
def fnExactLogStepsRow : OpenClaim := { program := "ytdpbmaedpdbppaa", sum := "60fda51be0c68753b3f6f29d1bd7fd23e0f08076bc5f6c7a27fbf7094095ac4b", func := "loop.example/g00103/laws.FnExactLogSteps", spec := "fnExactLogSteps", unfollowed := true, recurses := true, apart := false }
def FnExactLogStepsSaid : Prop := fnExactLogStepsRow.holds Try.pinned (OpenSpec.ofChange fnExactLogStepsSpec)

/-- ITS FALSE NEIGHBOUR: 'it returns false'. Refute it at one input. -/
def fnExactLogStepsWrong : ChangeSpec := { name := "fnExactLogSteps", fn := fun _ => fun
  | [d1, d2, d3] => { results := [.lit (.bool false)], args := [d1, d2, d3] }
  | _ => none }
def FnExactLogStepsWrongFalsely : Prop := fnExactLogStepsRow.holds Try.pinned (OpenSpec.ofChange fnExactLogStepsWrong)

/-- 'laws.FnExactLogBehind': WHATEVER THE INPUT: true; the input reads as it did. -/
def fnExactLogBehindSpec : ChangeSpec := { name := "fnExactLogBehind", fn := fun _ => fun
  | [d1, d2, d3] => { results := [.lit (.bool true)], args := [d1, d2, d3] }
  | _ => none }
def fnExactLogBehindRow : OpenClaim := { program := "ytdpbmaedpdbppaa", sum := "60fda51be0c68753b3f6f29d1bd7fd23e0f08076bc5f6c7a27fbf7094095ac4b", func := "loop.example/g00103/laws.FnExactLogBehind", spec := "fnExactLogBehind", apart := false }
def FnExactLogBehindSaid : Prop := fnExactLogBehindRow.holds Try.pinned (OpenSpec.ofChange fnExactLogBehindSpec)

/-- ITS FALSE NEIGHBOUR: 'it returns false'. Refute it at one input. -/
def fnExactLogBehindWrong : ChangeSpec := { name := "fnExactLogBehind", fn := fun _ => fun
  | [d1, d2, d3] => { results := [.lit (.bool false)], args := [d1, d2, d3] }
  | _ => none }
def FnExactLogBehindWrongFalsely : Prop := fnExactLogBehindRow.holds Try.pinned (OpenSpec.ofChange fnExactLogBehindWrong)

/- THE SECOND FORM. 'bulk': how many values and letters a reading holds, each counted each time it is reached (what is shared counts as often as it is met; a slice's spare places count too). A statement '..UptoSaid' is the law's where the arguments, and the package variables that the reading takes, are together of bulk at most 1048576: NARROWER than '..Said'. Prove '..Said' where nothing that the law and all that it calls make is longer than what came in: it says more and counts as full. Else prove '..UptoSaid'. A law counts once. -/
mutual
def uptoBulk {H : Type} : DataW H → Nat
  | .lit (.string bytes) => bytes.length + 1
  | .lit _ => 1
  | .nil => 1
  | .ptr d => uptoBulk d + 1
  | .slice elems spare => uptoBulkAll elems + uptoBulkAll spare + 1
  | .agg parts => uptoBulkAll parts + 1
  | .iface _ d => uptoBulk d + 1
  | .map entries => uptoBulkEntries entries + 1
  | .held _ => 1
def uptoBulkAll {H : Type} : List (DataW H) → Nat
  | [] => 0
  | d :: r => uptoBulk d + uptoBulkAll r
def uptoBulkEntries {H : Type} : List (Lit × DataW H) → Nat
  | [] => 0
  | x :: r => uptoBulkEntry x + uptoBulkEntries r
def uptoBulkEntry {H : Type} : Lit × DataW H → Nat
  | (.string bytes, d) => bytes.length + uptoBulk d + 1
  | (_, d) => uptoBulk d + 1
 end
def uptoSmall : (H : Type) → List (DataW H) → Bool := fun _ ds => decide (uptoBulkAll ds ≤ 1048576)
def OpenSpec.upto (s : _root_.Go.ChangeSpec) : _root_.Go.OpenSpec := { _root_.Go.OpenSpec.ofChange s with cond := some uptoSmall }

/-- 'laws.FnBehind', WHERE WHAT IT READS IS OF BULK AT MOST 1048576: true; the input reads as it did. -/
def fnBehindUptoRow : OpenClaim := { program := "ytdpbmaedpdbppaa", sum := "60fda51be0c68753b3f6f29d1bd7fd23e0f08076bc5f6c7a27fbf7094095ac4b", func := "loop.example/g00103/laws.FnBehind", spec := "fnBehind", apart := false, narrowed := true }
def FnBehindUptoSaid : Prop := fnBehindUptoRow.holds Try.pinned (OpenSpec.upto fnBehindSpec)

/-- 'laws.FnExactLogOk', WHERE WHAT IT READS IS OF BULK AT MOST 1048576: true; the input reads as it did. -/
def fnExactLogOkUptoRow : OpenClaim := { program := "ytdpbmaedpdbppaa", sum := "60fda51be0c68753b3f6f29d1bd7fd23e0f08076bc5f6c7a27fbf7094095ac4b", func := "loop.example/g00103/laws.FnExactLogOk", spec := "fnExactLogOk", apart := false, narrowed := true }
def FnExactLogOkUptoSaid : Prop := fnExactLogOkUptoRow.holds Try.pinned (OpenSpec.upto fnExactLogOkSpec)

/-- 'laws.FnExactLogLast', WHERE WHAT IT READS IS OF BULK AT MOST 1048576: true; the input reads as it did. -/
def fnExactLogLastUptoRow : OpenClaim := { program := "ytdpbmaedpdbppaa", sum := "60fda51be0c68753b3f6f29d1bd7fd23e0f08076bc5f6c7a27fbf7094095ac4b", func := "loop.example/g00103/laws.FnExactLogLast", spec := "fnExactLogLast", apart := false, narrowed := true }
def FnExactLogLastUptoSaid : Prop := fnExactLogLastUptoRow.holds Try.pinned (OpenSpec.upto fnExactLogLastSpec)

/-- 'laws.FnExactLogTerm', WHERE WHAT IT READS IS OF BULK AT MOST 1048576: true; the input reads as it did. -/
def fnExactLogTermUptoRow : OpenClaim := { program := "ytdpbmaedpdbppaa", sum := "60fda51be0c68753b3f6f29d1bd7fd23e0f08076bc5f6c7a27fbf7094095ac4b", func := "loop.example/g00103/laws.FnExactLogTerm", spec := "fnExactLogTerm", apart := false, narrowed := true }
def FnExactLogTermUptoSaid : Prop := fnExactLogTermUptoRow.holds Try.pinned (OpenSpec.upto fnExactLogTermSpec)

/-- 'laws.FnExactLogFile', WHERE WHAT IT READS IS OF BULK AT MOST 1048576: true; the input reads as it did. -/
def fnExactLogFileUptoRow : OpenClaim := { program := "ytdpbmaedpdbppaa", sum := "60fda51be0c68753b3f6f29d1bd7fd23e0f08076bc5f6c7a27fbf7094095ac4b", func := "loop.example/g00103/laws.FnExactLogFile", spec := "fnExactLogFile", unfollowed := true, recurses := true, apart := false, narrowed := true }
def FnExactLogFileUptoSaid : Prop := fnExactLogFileUptoRow.holds Try.pinned (OpenSpec.upto fnExactLogFileSpec)

/-- 'laws.FnExactReadLog', WHERE WHAT IT READS IS OF BULK AT MOST 1048576: true; the input reads as it did. -/
def fnExactReadLogUptoRow : OpenClaim := { program := "ytdpbmaedpdbppaa", sum := "60fda51be0c68753b3f6f29d1bd7fd23e0f08076bc5f6c7a27fbf7094095ac4b", func := "loop.example/g00103/laws.FnExactReadLog", spec := "fnExactReadLog", unfollowed := true, recurses := true, apart := false, narrowed := true }
def FnExactReadLogUptoSaid : Prop := fnExactReadLogUptoRow.holds Try.pinned (OpenSpec.upto fnExactReadLogSpec)

/-- 'laws.FnExactLogSteps', WHERE WHAT IT READS IS OF BULK AT MOST 1048576: true; the input reads as it did. -/
def fnExactLogStepsUptoRow : OpenClaim := { program := "ytdpbmaedpdbppaa", sum := "60fda51be0c68753b3f6f29d1bd7fd23e0f08076bc5f6c7a27fbf7094095ac4b", func := "loop.example/g00103/laws.FnExactLogSteps", spec := "fnExactLogSteps", unfollowed := true, recurses := true, apart := false, narrowed := true }
def FnExactLogStepsUptoSaid : Prop := fnExactLogStepsUptoRow.holds Try.pinned (OpenSpec.upto fnExactLogStepsSpec)

/-- 'laws.FnExactLogBehind', WHERE WHAT IT READS IS OF BULK AT MOST 1048576: true; the input reads as it did. -/
def fnExactLogBehindUptoRow : OpenClaim := { program := "ytdpbmaedpdbppaa", sum := "60fda51be0c68753b3f6f29d1bd7fd23e0f08076bc5f6c7a27fbf7094095ac4b", func := "loop.example/g00103/laws.FnExactLogBehind", spec := "fnExactLogBehind", apart := false, narrowed := true }
def FnExactLogBehindUptoSaid : Prop := fnExactLogBehindUptoRow.holds Try.pinned (OpenSpec.upto fnExactLogBehindSpec)

end Rows
end Go.Proofs.Ytdpbmaedpdbppaa
