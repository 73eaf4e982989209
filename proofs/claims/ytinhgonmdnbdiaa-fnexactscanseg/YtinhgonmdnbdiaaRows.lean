/-
  No cell of these rows narrows 'for every input' (looked for: loops, veiled, ifaces, maps, wideKeys, modest, calm, conditions, laid).
  DERIVED. THE GIVEN ROWS OF THIS SEAT. 5 by the template 'for every input the law returns true; each argument reads behind the call as it read before'; 0 by the template 'total and deterministic' (their statements: YtinhgonmdnbdiaaTotals.lean).
  GIVEN WITH THE SEED: the statements are not yours to turn. If you find one false, say at which input.
  Laid BY PROGRAM, IN A SANDBOX (cutbox-rows.mjs): the forced cells as the released guide's own fill.sh prints them over the translation 06c69d673edd65cf… (all of the seat's roots in one cut). By AI agents, Wed Nov 11 2026. No macro, syntax, notation, axiom, sorry.
-/
import Derived.Test.YtinhgonmdnbdiaaChecked
import GoSem.Claim
import GoSem.ClaimJoined
import GoSem.ClaimMapViews
import Derived.JoinedTies
import Derived.KernelRfl
namespace Go.Proofs.Ytinhgonmdnbdiaa
/- THE CELL 'sum', in the pinned program and in every row, IS THE sha256 OF THE DUMP (.gsa) THAT YtinhgonmdnbdiaaProg.lean LOADS. Nothing in Lean hashes anything: it is a label: what it is worth is what the hold of that sum in a sandbox is worth. -/
noncomputable def Try.pinned : Pinned := { name := "ytinhgonmdnbdiaa", sum := "06c69d673edd65cf90af266a1f407512436fe4f8ee246b90289fe869d5299628", checked := Try.checked }
namespace Rows
def none {H : Type} : Left H := { results := [], args := [] }

/-- 'laws.FnExactScanSeg': WHATEVER THE INPUT: true; the input reads as it did. -/
def fnExactScanSegSpec : ChangeSpec := { name := "fnExactScanSeg", fn := fun _ => fun
  | [d1, d2] => { results := [.lit (.bool true)], args := [d1, d2] }
  | _ => none }
def fnExactScanSegRow : OpenClaim := { program := "ytinhgonmdnbdiaa", sum := "06c69d673edd65cf90af266a1f407512436fe4f8ee246b90289fe869d5299628", func := "loop.example/g00103/laws.FnExactScanSeg", spec := "fnExactScanSeg", inPlace := ["math.Float64frombits"], unfollowed := true, recurses := true, apart := false }
def FnExactScanSegSaid : Prop := fnExactScanSegRow.holds Try.pinned (OpenSpec.ofChange fnExactScanSegSpec)

/-- ITS FALSE NEIGHBOUR: 'it returns false'. Refute it at one input. -/
def fnExactScanSegWrong : ChangeSpec := { name := "fnExactScanSeg", fn := fun _ => fun
  | [d1, d2] => { results := [.lit (.bool false)], args := [d1, d2] }
  | _ => none }
def FnExactScanSegWrongFalsely : Prop := fnExactScanSegRow.holds Try.pinned (OpenSpec.ofChange fnExactScanSegWrong)

/-- 'laws.FnExactDirOk': WHATEVER THE INPUT: true; the input reads as it did. -/
def fnExactDirOkSpec : ChangeSpec := { name := "fnExactDirOk", fn := fun _ => fun
  | [d] => { results := [.lit (.bool true)], args := [d] }
  | _ => none }
def fnExactDirOkRow : OpenClaim := { program := "ytinhgonmdnbdiaa", sum := "06c69d673edd65cf90af266a1f407512436fe4f8ee246b90289fe869d5299628", func := "loop.example/g00103/laws.FnExactDirOk", spec := "fnExactDirOk", apart := false }
def FnExactDirOkSaid : Prop := fnExactDirOkRow.holds Try.pinned (OpenSpec.ofChange fnExactDirOkSpec)

/-- ITS FALSE NEIGHBOUR: 'it returns false'. Refute it at one input. -/
def fnExactDirOkWrong : ChangeSpec := { name := "fnExactDirOk", fn := fun _ => fun
  | [d] => { results := [.lit (.bool false)], args := [d] }
  | _ => none }
def FnExactDirOkWrongFalsely : Prop := fnExactDirOkRow.holds Try.pinned (OpenSpec.ofChange fnExactDirOkWrong)

/-- 'laws.FnExactDirMore': WHATEVER THE INPUT: true; the input reads as it did. -/
def fnExactDirMoreSpec : ChangeSpec := { name := "fnExactDirMore", fn := fun _ => fun
  | [d1, d2] => { results := [.lit (.bool true)], args := [d1, d2] }
  | _ => none }
def fnExactDirMoreRow : OpenClaim := { program := "ytinhgonmdnbdiaa", sum := "06c69d673edd65cf90af266a1f407512436fe4f8ee246b90289fe869d5299628", func := "loop.example/g00103/laws.FnExactDirMore", spec := "fnExactDirMore", recurses := true, apart := false }
def FnExactDirMoreSaid : Prop := fnExactDirMoreRow.holds Try.pinned (OpenSpec.ofChange fnExactDirMoreSpec)

/-- ITS FALSE NEIGHBOUR: 'it returns false'. Refute it at one input. -/
def fnExactDirMoreWrong : ChangeSpec := { name := "fnExactDirMore", fn := fun _ => fun
  | [d1, d2] => { results := [.lit (.bool false)], args := [d1, d2] }
  | _ => none }
def FnExactDirMoreWrongFalsely : Prop := fnExactDirMoreRow.holds Try.pinned (OpenSpec.ofChange fnExactDirMoreWrong)

/-- 'laws.FnExactHintText': WHATEVER THE INPUT: true; the input reads as it did. -/
def fnExactHintTextSpec : ChangeSpec := { name := "fnExactHintText", fn := fun _ => fun
  | [d] => { results := [.lit (.bool true)], args := [d] }
  | _ => none }
def fnExactHintTextRow : OpenClaim := { program := "ytinhgonmdnbdiaa", sum := "06c69d673edd65cf90af266a1f407512436fe4f8ee246b90289fe869d5299628", func := "loop.example/g00103/laws.FnExactHintText", spec := "fnExactHintText", apart := false }
def FnExactHintTextSaid : Prop := fnExactHintTextRow.holds Try.pinned (OpenSpec.ofChange fnExactHintTextSpec)

/-- ITS FALSE NEIGHBOUR: 'it returns false'. Refute it at one input. -/
def fnExactHintTextWrong : ChangeSpec := { name := "fnExactHintText", fn := fun _ => fun
  | [d] => { results := [.lit (.bool false)], args := [d] }
  | _ => none }
def FnExactHintTextWrongFalsely : Prop := fnExactHintTextRow.holds Try.pinned (OpenSpec.ofChange fnExactHintTextWrong)

/-- 'laws.FnExactReadHint': WHATEVER THE INPUT: true; the input reads as it did. -/
def fnExactReadHintSpec : ChangeSpec := { name := "fnExactReadHint", fn := fun _ => fun
  | [d] => { results := [.lit (.bool true)], args := [d] }
  | _ => none }
def fnExactReadHintRow : OpenClaim := { program := "ytinhgonmdnbdiaa", sum := "06c69d673edd65cf90af266a1f407512436fe4f8ee246b90289fe869d5299628", func := "loop.example/g00103/laws.FnExactReadHint", spec := "fnExactReadHint", unfollowed := true, recurses := true, apart := false }
def FnExactReadHintSaid : Prop := fnExactReadHintRow.holds Try.pinned (OpenSpec.ofChange fnExactReadHintSpec)

/-- ITS FALSE NEIGHBOUR: 'it returns false'. Refute it at one input. -/
def fnExactReadHintWrong : ChangeSpec := { name := "fnExactReadHint", fn := fun _ => fun
  | [d] => { results := [.lit (.bool false)], args := [d] }
  | _ => none }
def FnExactReadHintWrongFalsely : Prop := fnExactReadHintRow.holds Try.pinned (OpenSpec.ofChange fnExactReadHintWrong)

/- THE SECOND FORM. 'bulk': how many values and letters a reading holds, each counted each time it is reached (what is shared counts as often as it is met; a slice's spare places count too). A statement '..UptoSaid' is the law's where the arguments, and the package variables that the reading takes, are together of bulk at most 1048576: NARROWER than '..Said'. Prove '..Said' where nothing that the law and all that it calls make is longer than what came in: it says more and counts as full. Else prove '..UptoSaid'. A law counts once. -/
mutual
def uptoBulk {H : Type} : DataW H → Nat
  | .lit (.string bytes) => bytes.length + 1
  | .lit _ => 1
  | .nil => 1
  | .ptr d => uptoBulk d + 1
  | .slice elems spare => uptoBulkAll elems + uptoBulkAll spare + 1
  | .agg parts => uptoBulkAll parts + 1
  | .iface _ d => uptoBulk d + 1
  | .map entries => uptoBulkEntries entries + 1
  | .held _ => 1
def uptoBulkAll {H : Type} : List (DataW H) → Nat
  | [] => 0
  | d :: r => uptoBulk d + uptoBulkAll r
def uptoBulkEntries {H : Type} : List (Lit × DataW H) → Nat
  | [] => 0
  | x :: r => uptoBulkEntry x + uptoBulkEntries r
def uptoBulkEntry {H : Type} : Lit × DataW H → Nat
  | (.string bytes, d) => bytes.length + uptoBulk d + 1
  | (_, d) => uptoBulk d + 1
 end
def uptoSmall : (H : Type) → List (DataW H) → Bool := fun _ ds => decide (uptoBulkAll ds ≤ 1048576)
def OpenSpec.upto (s : _root_.Go.ChangeSpec) : _root_.Go.OpenSpec := { _root_.Go.OpenSpec.ofChange s with cond := some uptoSmall }

/-- 'laws.FnExactScanSeg', WHERE WHAT IT READS IS OF BULK AT MOST 1048576: true; the input reads as it did. -/
def fnExactScanSegUptoRow : OpenClaim := { program := "ytinhgonmdnbdiaa", sum := "06c69d673edd65cf90af266a1f407512436fe4f8ee246b90289fe869d5299628", func := "loop.example/g00103/laws.FnExactScanSeg", spec := "fnExactScanSeg", inPlace := ["math.Float64frombits"], unfollowed := true, recurses := true, apart := false, narrowed := true }
def FnExactScanSegUptoSaid : Prop := fnExactScanSegUptoRow.holds Try.pinned (OpenSpec.upto fnExactScanSegSpec)

/-- 'laws.FnExactDirOk', WHERE WHAT IT READS IS OF BULK AT MOST 1048576: true; the input reads as it did. -/
def fnExactDirOkUptoRow : OpenClaim := { program := "ytinhgonmdnbdiaa", sum := "06c69d673edd65cf90af266a1f407512436fe4f8ee246b90289fe869d5299628", func := "loop.example/g00103/laws.FnExactDirOk", spec := "fnExactDirOk", apart := false, narrowed := true }
def FnExactDirOkUptoSaid : Prop := fnExactDirOkUptoRow.holds Try.pinned (OpenSpec.upto fnExactDirOkSpec)

/-- 'laws.FnExactDirMore', WHERE WHAT IT READS IS OF BULK AT MOST 1048576: true; the input reads as it did. -/
def fnExactDirMoreUptoRow : OpenClaim := { program := "ytinhgonmdnbdiaa", sum := "06c69d673edd65cf90af266a1f407512436fe4f8ee246b90289fe869d5299628", func := "loop.example/g00103/laws.FnExactDirMore", spec := "fnExactDirMore", recurses := true, apart := false, narrowed := true }
def FnExactDirMoreUptoSaid : Prop := fnExactDirMoreUptoRow.holds Try.pinned (OpenSpec.upto fnExactDirMoreSpec)

/-- 'laws.FnExactHintText', WHERE WHAT IT READS IS OF BULK AT MOST 1048576: true; the input reads as it did. -/
def fnExactHintTextUptoRow : OpenClaim := { program := "ytinhgonmdnbdiaa", sum := "06c69d673edd65cf90af266a1f407512436fe4f8ee246b90289fe869d5299628", func := "loop.example/g00103/laws.FnExactHintText", spec := "fnExactHintText", apart := false, narrowed := true }
def FnExactHintTextUptoSaid : Prop := fnExactHintTextUptoRow.holds Try.pinned (OpenSpec.upto fnExactHintTextSpec)

/-- 'laws.FnExactReadHint', WHERE WHAT IT READS IS OF BULK AT MOST 1048576: true; the input reads as it did. -/
def fnExactReadHintUptoRow : OpenClaim := { program := "ytinhgonmdnbdiaa", sum := "06c69d673edd65cf90af266a1f407512436fe4f8ee246b90289fe869d5299628", func := "loop.example/g00103/laws.FnExactReadHint", spec := "fnExactReadHint", unfollowed := true, recurses := true, apart := false, narrowed := true }
def FnExactReadHintUptoSaid : Prop := fnExactReadHintUptoRow.holds Try.pinned (OpenSpec.upto fnExactReadHintSpec)

end Rows
end Go.Proofs.Ytinhgonmdnbdiaa
