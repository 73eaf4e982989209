/-
  No cell of these rows narrows 'for every input' (looked for: loops, veiled, ifaces, maps, wideKeys, modest, calm, conditions, laid).
  DERIVED. THE GIVEN ROWS OF THIS SEAT. 10 by the template 'for every input the law returns true; each argument reads behind the call as it read before'; 0 by the template 'total and deterministic' (their statements: YtpkkejpidlkmnaaTotals.lean).
  GIVEN WITH THE SEED: the statements are not yours to turn. If you find one false, say at which input.
  Laid BY PROGRAM, IN A SANDBOX (cutbox-rows.mjs): the forced cells as the released guide's own fill.sh prints them over the translation 8fe14f183fe1fe12… (all of the seat's roots in one cut). By AI agents, Wed Nov 11 2026. No macro, syntax, notation, axiom, sorry.
-/
import Derived.Test.YtpkkejpidlkmnaaChecked
import GoSem.Claim
import GoSem.ClaimJoined
import GoSem.ClaimMapViews
import Derived.JoinedTies
import Derived.KernelRfl
namespace Go.Proofs.Ytpkkejpidlkmnaa
/- THE CELL 'sum', in the pinned program and in every row, IS THE sha256 OF THE DUMP (.gsa) THAT YtpkkejpidlkmnaaProg.lean LOADS. Nothing in Lean hashes anything: it is a label: what it is worth is what the hold of that sum in a sandbox is worth. -/
noncomputable def Try.pinned : Pinned := { name := "ytpkkejpidlkmnaa", sum := "8fe14f183fe1fe120a35c2efb107ff19ee44109e5a24e7657a36adc9679883a5", checked := Try.checked }
namespace Rows
def none {H : Type} : Left H := { results := [], args := [] }

/-- 'laws.FnExactSumOf': WHATEVER THE INPUT: true; the input reads as it did. -/
def fnExactSumOfSpec : ChangeSpec := { name := "fnExactSumOf", fn := fun _ => fun
  | [d] => { results := [.lit (.bool true)], args := [d] }
  | _ => none }
def fnExactSumOfRow : OpenClaim := { program := "ytpkkejpidlkmnaa", sum := "8fe14f183fe1fe120a35c2efb107ff19ee44109e5a24e7657a36adc9679883a5", func := "loop.example/g00103/laws.FnExactSumOf", spec := "fnExactSumOf", apart := false }
def FnExactSumOfSaid : Prop := fnExactSumOfRow.holds Try.pinned (OpenSpec.ofChange fnExactSumOfSpec)

/-- ITS FALSE NEIGHBOUR: 'it returns false'. Refute it at one input. -/
def fnExactSumOfWrong : ChangeSpec := { name := "fnExactSumOf", fn := fun _ => fun
  | [d] => { results := [.lit (.bool false)], args := [d] }
  | _ => none }
def FnExactSumOfWrongFalsely : Prop := fnExactSumOfRow.holds Try.pinned (OpenSpec.ofChange fnExactSumOfWrong)

/-- 'laws.FnExactSealed': WHATEVER THE INPUT: true; the input reads as it did. -/
def fnExactSealedSpec : ChangeSpec := { name := "fnExactSealed", fn := fun _ => fun
  | [d] => { results := [.lit (.bool true)], args := [d] }
  | _ => none }
def fnExactSealedRow : OpenClaim := { program := "ytpkkejpidlkmnaa", sum := "8fe14f183fe1fe120a35c2efb107ff19ee44109e5a24e7657a36adc9679883a5", func := "loop.example/g00103/laws.FnExactSealed", spec := "fnExactSealed", apart := false }
def FnExactSealedSaid : Prop := fnExactSealedRow.holds Try.pinned (OpenSpec.ofChange fnExactSealedSpec)

/-- ITS FALSE NEIGHBOUR: 'it returns false'. Refute it at one input. -/
def fnExactSealedWrong : ChangeSpec := { name := "fnExactSealed", fn := fun _ => fun
  | [d] => { results := [.lit (.bool false)], args := [d] }
  | _ => none }
def FnExactSealedWrongFalsely : Prop := fnExactSealedRow.holds Try.pinned (OpenSpec.ofChange fnExactSealedWrong)

/-- 'laws.FnExactUnsealed': WHATEVER THE INPUT: true; the input reads as it did. -/
def fnExactUnsealedSpec : ChangeSpec := { name := "fnExactUnsealed", fn := fun _ => fun
  | [d] => { results := [.lit (.bool true)], args := [d] }
  | _ => none }
def fnExactUnsealedRow : OpenClaim := { program := "ytpkkejpidlkmnaa", sum := "8fe14f183fe1fe120a35c2efb107ff19ee44109e5a24e7657a36adc9679883a5", func := "loop.example/g00103/laws.FnExactUnsealed", spec := "fnExactUnsealed", apart := false }
def FnExactUnsealedSaid : Prop := fnExactUnsealedRow.holds Try.pinned (OpenSpec.ofChange fnExactUnsealedSpec)

/-- ITS FALSE NEIGHBOUR: 'it returns false'. Refute it at one input. -/
def fnExactUnsealedWrong : ChangeSpec := { name := "fnExactUnsealed", fn := fun _ => fun
  | [d] => { results := [.lit (.bool false)], args := [d] }
  | _ => none }
def FnExactUnsealedWrongFalsely : Prop := fnExactUnsealedRow.holds Try.pinned (OpenSpec.ofChange fnExactUnsealedWrong)

/-- 'laws.FnExactDiskOk': WHATEVER THE INPUT: true; the input reads as it did. -/
def fnExactDiskOkSpec : ChangeSpec := { name := "fnExactDiskOk", fn := fun _ => fun
  | [d] => { results := [.lit (.bool true)], args := [d] }
  | _ => none }
def fnExactDiskOkRow : OpenClaim := { program := "ytpkkejpidlkmnaa", sum := "8fe14f183fe1fe120a35c2efb107ff19ee44109e5a24e7657a36adc9679883a5", func := "loop.example/g00103/laws.FnExactDiskOk", spec := "fnExactDiskOk", apart := false }
def FnExactDiskOkSaid : Prop := fnExactDiskOkRow.holds Try.pinned (OpenSpec.ofChange fnExactDiskOkSpec)

/-- ITS FALSE NEIGHBOUR: 'it returns false'. Refute it at one input. -/
def fnExactDiskOkWrong : ChangeSpec := { name := "fnExactDiskOk", fn := fun _ => fun
  | [d] => { results := [.lit (.bool false)], args := [d] }
  | _ => none }
def FnExactDiskOkWrongFalsely : Prop := fnExactDiskOkRow.holds Try.pinned (OpenSpec.ofChange fnExactDiskOkWrong)

/-- 'laws.FnExactFileAt': WHATEVER THE INPUT: true; the input reads as it did. -/
def fnExactFileAtSpec : ChangeSpec := { name := "fnExactFileAt", fn := fun _ => fun
  | [d1, d2] => { results := [.lit (.bool true)], args := [d1, d2] }
  | _ => none }
def fnExactFileAtRow : OpenClaim := { program := "ytpkkejpidlkmnaa", sum := "8fe14f183fe1fe120a35c2efb107ff19ee44109e5a24e7657a36adc9679883a5", func := "loop.example/g00103/laws.FnExactFileAt", spec := "fnExactFileAt", apart := false }
def FnExactFileAtSaid : Prop := fnExactFileAtRow.holds Try.pinned (OpenSpec.ofChange fnExactFileAtSpec)

/-- ITS FALSE NEIGHBOUR: 'it returns false'. Refute it at one input. -/
def fnExactFileAtWrong : ChangeSpec := { name := "fnExactFileAt", fn := fun _ => fun
  | [d1, d2] => { results := [.lit (.bool false)], args := [d1, d2] }
  | _ => none }
def FnExactFileAtWrongFalsely : Prop := fnExactFileAtRow.holds Try.pinned (OpenSpec.ofChange fnExactFileAtWrong)

/-- 'laws.FnExactPutRaw': WHATEVER THE INPUT: true; the input reads as it did. -/
def fnExactPutRawSpec : ChangeSpec := { name := "fnExactPutRaw", fn := fun _ => fun
  | [d1, d2] => { results := [.lit (.bool true)], args := [d1, d2] }
  | _ => none }
def fnExactPutRawRow : OpenClaim := { program := "ytpkkejpidlkmnaa", sum := "8fe14f183fe1fe120a35c2efb107ff19ee44109e5a24e7657a36adc9679883a5", func := "loop.example/g00103/laws.FnExactPutRaw", spec := "fnExactPutRaw", recurses := true, apart := false }
def FnExactPutRawSaid : Prop := fnExactPutRawRow.holds Try.pinned (OpenSpec.ofChange fnExactPutRawSpec)

/-- ITS FALSE NEIGHBOUR: 'it returns false'. Refute it at one input. -/
def fnExactPutRawWrong : ChangeSpec := { name := "fnExactPutRaw", fn := fun _ => fun
  | [d1, d2] => { results := [.lit (.bool false)], args := [d1, d2] }
  | _ => none }
def FnExactPutRawWrongFalsely : Prop := fnExactPutRawRow.holds Try.pinned (OpenSpec.ofChange fnExactPutRawWrong)

/-- 'laws.FnExactPutRaws': WHATEVER THE INPUT: true; the input reads as it did. -/
def fnExactPutRawsSpec : ChangeSpec := { name := "fnExactPutRaws", fn := fun _ => fun
  | [d1, d2] => { results := [.lit (.bool true)], args := [d1, d2] }
  | _ => none }
def fnExactPutRawsRow : OpenClaim := { program := "ytpkkejpidlkmnaa", sum := "8fe14f183fe1fe120a35c2efb107ff19ee44109e5a24e7657a36adc9679883a5", func := "loop.example/g00103/laws.FnExactPutRaws", spec := "fnExactPutRaws", recurses := true, apart := false }
def FnExactPutRawsSaid : Prop := fnExactPutRawsRow.holds Try.pinned (OpenSpec.ofChange fnExactPutRawsSpec)

/-- ITS FALSE NEIGHBOUR: 'it returns false'. Refute it at one input. -/
def fnExactPutRawsWrong : ChangeSpec := { name := "fnExactPutRaws", fn := fun _ => fun
  | [d1, d2] => { results := [.lit (.bool false)], args := [d1, d2] }
  | _ => none }
def FnExactPutRawsWrongFalsely : Prop := fnExactPutRawsRow.holds Try.pinned (OpenSpec.ofChange fnExactPutRawsWrong)

/-- 'laws.FnExactCutRaws': WHATEVER THE INPUT: true; the input reads as it did. -/
def fnExactCutRawsSpec : ChangeSpec := { name := "fnExactCutRaws", fn := fun _ => fun
  | [d1, d2, d3, d4] => { results := [.lit (.bool true)], args := [d1, d2, d3, d4] }
  | _ => none }
def fnExactCutRawsRow : OpenClaim := { program := "ytpkkejpidlkmnaa", sum := "8fe14f183fe1fe120a35c2efb107ff19ee44109e5a24e7657a36adc9679883a5", func := "loop.example/g00103/laws.FnExactCutRaws", spec := "fnExactCutRaws", recurses := true, apart := false }
def FnExactCutRawsSaid : Prop := fnExactCutRawsRow.holds Try.pinned (OpenSpec.ofChange fnExactCutRawsSpec)

/-- ITS FALSE NEIGHBOUR: 'it returns false'. Refute it at one input. -/
def fnExactCutRawsWrong : ChangeSpec := { name := "fnExactCutRaws", fn := fun _ => fun
  | [d1, d2, d3, d4] => { results := [.lit (.bool false)], args := [d1, d2, d3, d4] }
  | _ => none }
def FnExactCutRawsWrongFalsely : Prop := fnExactCutRawsRow.holds Try.pinned (OpenSpec.ofChange fnExactCutRawsWrong)

/-- 'laws.FnRaws': WHATEVER THE INPUT: true; the input reads as it did. -/
def fnRawsSpec : ChangeSpec := { name := "fnRaws", fn := fun _ => fun
  | [d] => { results := [.lit (.bool true)], args := [d] }
  | _ => none }
def fnRawsRow : OpenClaim := { program := "ytpkkejpidlkmnaa", sum := "8fe14f183fe1fe120a35c2efb107ff19ee44109e5a24e7657a36adc9679883a5", func := "loop.example/g00103/laws.FnRaws", spec := "fnRaws", recurses := true, apart := false }
def FnRawsSaid : Prop := fnRawsRow.holds Try.pinned (OpenSpec.ofChange fnRawsSpec)

/-- ITS FALSE NEIGHBOUR: 'it returns false'. Refute it at one input. -/
def fnRawsWrong : ChangeSpec := { name := "fnRaws", fn := fun _ => fun
  | [d] => { results := [.lit (.bool false)], args := [d] }
  | _ => none }
def FnRawsWrongFalsely : Prop := fnRawsRow.holds Try.pinned (OpenSpec.ofChange fnRawsWrong)

/-- 'laws.FnTorn': WHATEVER THE INPUT: true; the input reads as it did. -/
def fnTornSpec : ChangeSpec := { name := "fnTorn", fn := fun _ => fun
  | [d] => { results := [.lit (.bool true)], args := [d] }
  | _ => none }
def fnTornRow : OpenClaim := { program := "ytpkkejpidlkmnaa", sum := "8fe14f183fe1fe120a35c2efb107ff19ee44109e5a24e7657a36adc9679883a5", func := "loop.example/g00103/laws.FnTorn", spec := "fnTorn", recurses := true, apart := false }
def FnTornSaid : Prop := fnTornRow.holds Try.pinned (OpenSpec.ofChange fnTornSpec)

/-- ITS FALSE NEIGHBOUR: 'it returns false'. Refute it at one input. -/
def fnTornWrong : ChangeSpec := { name := "fnTorn", fn := fun _ => fun
  | [d] => { results := [.lit (.bool false)], args := [d] }
  | _ => none }
def FnTornWrongFalsely : Prop := fnTornRow.holds Try.pinned (OpenSpec.ofChange fnTornWrong)

/- THE SECOND FORM. 'bulk': how many values and letters a reading holds, each counted each time it is reached (what is shared counts as often as it is met; a slice's spare places count too). A statement '..UptoSaid' is the law's where the arguments, and the package variables that the reading takes, are together of bulk at most 1048576: NARROWER than '..Said'. Prove '..Said' where nothing that the law and all that it calls make is longer than what came in: it says more and counts as full. Else prove '..UptoSaid'. A law counts once. -/
mutual
def uptoBulk {H : Type} : DataW H → Nat
  | .lit (.string bytes) => bytes.length + 1
  | .lit _ => 1
  | .nil => 1
  | .ptr d => uptoBulk d + 1
  | .slice elems spare => uptoBulkAll elems + uptoBulkAll spare + 1
  | .agg parts => uptoBulkAll parts + 1
  | .iface _ d => uptoBulk d + 1
  | .map entries => uptoBulkEntries entries + 1
  | .held _ => 1
def uptoBulkAll {H : Type} : List (DataW H) → Nat
  | [] => 0
  | d :: r => uptoBulk d + uptoBulkAll r
def uptoBulkEntries {H : Type} : List (Lit × DataW H) → Nat
  | [] => 0
  | x :: r => uptoBulkEntry x + uptoBulkEntries r
def uptoBulkEntry {H : Type} : Lit × DataW H → Nat
  | (.string bytes, d) => bytes.length + uptoBulk d + 1
  | (_, d) => uptoBulk d + 1
 end
def uptoSmall : (H : Type) → List (DataW H) → Bool := fun _ ds => decide (uptoBulkAll ds ≤ 1048576)
def OpenSpec.upto (s : _root_.Go.ChangeSpec) : _root_.Go.OpenSpec := { _root_.Go.OpenSpec.ofChange s with cond := some uptoSmall }

/-- 'laws.FnExactSumOf', WHERE WHAT IT READS IS OF BULK AT MOST 1048576: true; the input reads as it did. -/
def fnExactSumOfUptoRow : OpenClaim := { program := "ytpkkejpidlkmnaa", sum := "8fe14f183fe1fe120a35c2efb107ff19ee44109e5a24e7657a36adc9679883a5", func := "loop.example/g00103/laws.FnExactSumOf", spec := "fnExactSumOf", apart := false, narrowed := true }
def FnExactSumOfUptoSaid : Prop := fnExactSumOfUptoRow.holds Try.pinned (OpenSpec.upto fnExactSumOfSpec)

/-- 'laws.FnExactSealed', WHERE WHAT IT READS IS OF BULK AT MOST 1048576: true; the input reads as it did. -/
def fnExactSealedUptoRow : OpenClaim := { program := "ytpkkejpidlkmnaa", sum := "8fe14f183fe1fe120a35c2efb107ff19ee44109e5a24e7657a36adc9679883a5", func := "loop.example/g00103/laws.FnExactSealed", spec := "fnExactSealed", apart := false, narrowed := true }
def FnExactSealedUptoSaid : Prop := fnExactSealedUptoRow.holds Try.pinned (OpenSpec.upto fnExactSealedSpec)

/-- 'laws.FnExactUnsealed', WHERE WHAT IT READS IS OF BULK AT MOST 1048576: true; the input reads as it did. -/
def fnExactUnsealedUptoRow : OpenClaim := { program := "ytpkkejpidlkmnaa", sum := "8fe14f183fe1fe120a35c2efb107ff19ee44109e5a24e7657a36adc9679883a5", func := "loop.example/g00103/laws.FnExactUnsealed", spec := "fnExactUnsealed", apart := false, narrowed := true }
def FnExactUnsealedUptoSaid : Prop := fnExactUnsealedUptoRow.holds Try.pinned (OpenSpec.upto fnExactUnsealedSpec)

/-- 'laws.FnExactDiskOk', WHERE WHAT IT READS IS OF BULK AT MOST 1048576: true; the input reads as it did. -/
def fnExactDiskOkUptoRow : OpenClaim := { program := "ytpkkejpidlkmnaa", sum := "8fe14f183fe1fe120a35c2efb107ff19ee44109e5a24e7657a36adc9679883a5", func := "loop.example/g00103/laws.FnExactDiskOk", spec := "fnExactDiskOk", apart := false, narrowed := true }
def FnExactDiskOkUptoSaid : Prop := fnExactDiskOkUptoRow.holds Try.pinned (OpenSpec.upto fnExactDiskOkSpec)

/-- 'laws.FnExactFileAt', WHERE WHAT IT READS IS OF BULK AT MOST 1048576: true; the input reads as it did. -/
def fnExactFileAtUptoRow : OpenClaim := { program := "ytpkkejpidlkmnaa", sum := "8fe14f183fe1fe120a35c2efb107ff19ee44109e5a24e7657a36adc9679883a5", func := "loop.example/g00103/laws.FnExactFileAt", spec := "fnExactFileAt", apart := false, narrowed := true }
def FnExactFileAtUptoSaid : Prop := fnExactFileAtUptoRow.holds Try.pinned (OpenSpec.upto fnExactFileAtSpec)

/-- 'laws.FnExactPutRaw', WHERE WHAT IT READS IS OF BULK AT MOST 1048576: true; the input reads as it did. -/
def fnExactPutRawUptoRow : OpenClaim := { program := "ytpkkejpidlkmnaa", sum := "8fe14f183fe1fe120a35c2efb107ff19ee44109e5a24e7657a36adc9679883a5", func := "loop.example/g00103/laws.FnExactPutRaw", spec := "fnExactPutRaw", recurses := true, apart := false, narrowed := true }
def FnExactPutRawUptoSaid : Prop := fnExactPutRawUptoRow.holds Try.pinned (OpenSpec.upto fnExactPutRawSpec)

/-- 'laws.FnExactPutRaws', WHERE WHAT IT READS IS OF BULK AT MOST 1048576: true; the input reads as it did. -/
def fnExactPutRawsUptoRow : OpenClaim := { program := "ytpkkejpidlkmnaa", sum := "8fe14f183fe1fe120a35c2efb107ff19ee44109e5a24e7657a36adc9679883a5", func := "loop.example/g00103/laws.FnExactPutRaws", spec := "fnExactPutRaws", recurses := true, apart := false, narrowed := true }
def FnExactPutRawsUptoSaid : Prop := fnExactPutRawsUptoRow.holds Try.pinned (OpenSpec.upto fnExactPutRawsSpec)

/-- 'laws.FnExactCutRaws', WHERE WHAT IT READS IS OF BULK AT MOST 1048576: true; the input reads as it did. -/
def fnExactCutRawsUptoRow : OpenClaim := { program := "ytpkkejpidlkmnaa", sum := "8fe14f183fe1fe120a35c2efb107ff19ee44109e5a24e7657a36adc9679883a5", func := "loop.example/g00103/laws.FnExactCutRaws", spec := "fnExactCutRaws", recurses := true, apart := false, narrowed := true }
def FnExactCutRawsUptoSaid : Prop := fnExactCutRawsUptoRow.holds Try.pinned (OpenSpec.upto fnExactCutRawsSpec)

/-- 'laws.FnRaws', WHERE WHAT IT READS IS OF BULK AT MOST 1048576: true; the input reads as it did. -/
def fnRawsUptoRow : OpenClaim := { program := "ytpkkejpidlkmnaa", sum := "8fe14f183fe1fe120a35c2efb107ff19ee44109e5a24e7657a36adc9679883a5", func := "loop.example/g00103/laws.FnRaws", spec := "fnRaws", recurses := true, apart := false, narrowed := true }
def FnRawsUptoSaid : Prop := fnRawsUptoRow.holds Try.pinned (OpenSpec.upto fnRawsSpec)

/-- 'laws.FnTorn', WHERE WHAT IT READS IS OF BULK AT MOST 1048576: true; the input reads as it did. -/
def fnTornUptoRow : OpenClaim := { program := "ytpkkejpidlkmnaa", sum := "8fe14f183fe1fe120a35c2efb107ff19ee44109e5a24e7657a36adc9679883a5", func := "loop.example/g00103/laws.FnTorn", spec := "fnTorn", recurses := true, apart := false, narrowed := true }
def FnTornUptoSaid : Prop := fnTornUptoRow.holds Try.pinned (OpenSpec.upto fnTornSpec)

end Rows
end Go.Proofs.Ytpkkejpidlkmnaa
