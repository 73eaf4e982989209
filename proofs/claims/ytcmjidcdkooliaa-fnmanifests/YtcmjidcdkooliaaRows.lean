/-
  No cell of these rows narrows 'for every input' (looked for: loops, veiled, ifaces, maps, wideKeys, modest, calm, conditions, laid).
  DERIVED. THE GIVEN ROWS OF THIS SEAT. 5 by the template 'for every input the law returns true; each argument reads behind the call as it read before'; 0 by the template 'total and deterministic' (their statements: YtcmjidcdkooliaaTotals.lean).
  GIVEN WITH THE SEED: the statements are not yours to turn. If you find one false, say at which input.
  Laid BY PROGRAM, IN A SANDBOX (cutbox-rows.mjs): the forced cells as the released guide's own fill.sh prints them over the translation 6cecce7a09b86bf9… (all of the seat's roots in one cut). By AI agents, Wed Nov 11 2026. No macro, syntax, notation, axiom, sorry.
-/
import Derived.Test.YtcmjidcdkooliaaChecked
import GoSem.Claim
import GoSem.ClaimJoined
import GoSem.ClaimMapViews
import Derived.JoinedTies
import Derived.KernelRfl
namespace Go.Proofs.Ytcmjidcdkooliaa
/- THE CELL 'sum', in the pinned program and in every row, IS THE sha256 OF THE DUMP (.gsa) THAT YtcmjidcdkooliaaProg.lean LOADS. Nothing in Lean hashes anything: it is a label: what it is worth is what the hold of that sum in a sandbox is worth. -/
noncomputable def Try.pinned : Pinned := { name := "ytcmjidcdkooliaa", sum := "6cecce7a09b86bf93e3bd415f3e28e7af6e41804079fc991304f86e924c99290", checked := Try.checked }
namespace Rows
def none {H : Type} : Left H := { results := [], args := [] }

/-- 'laws.FnManifests': WHATEVER THE INPUT: true; the input reads as it did. -/
def fnManifestsSpec : ChangeSpec := { name := "fnManifests", fn := fun _ => fun
  | [d] => { results := [.lit (.bool true)], args := [d] }
  | _ => none }
def fnManifestsRow : OpenClaim := { program := "ytcmjidcdkooliaa", sum := "6cecce7a09b86bf93e3bd415f3e28e7af6e41804079fc991304f86e924c99290", func := "loop.example/g00103/laws.FnManifests", spec := "fnManifests", unfollowed := true, recurses := true, apart := false }
def FnManifestsSaid : Prop := fnManifestsRow.holds Try.pinned (OpenSpec.ofChange fnManifestsSpec)

/-- ITS FALSE NEIGHBOUR: 'it returns false'. Refute it at one input. -/
def fnManifestsWrong : ChangeSpec := { name := "fnManifests", fn := fun _ => fun
  | [d] => { results := [.lit (.bool false)], args := [d] }
  | _ => none }
def FnManifestsWrongFalsely : Prop := fnManifestsRow.holds Try.pinned (OpenSpec.ofChange fnManifestsWrong)

/-- 'laws.FnExactConfOk': WHATEVER THE INPUT: true; the input reads as it did. -/
def fnExactConfOkSpec : ChangeSpec := { name := "fnExactConfOk", fn := fun _ => fun
  | [d] => { results := [.lit (.bool true)], args := [d] }
  | _ => none }
def fnExactConfOkRow : OpenClaim := { program := "ytcmjidcdkooliaa", sum := "6cecce7a09b86bf93e3bd415f3e28e7af6e41804079fc991304f86e924c99290", func := "loop.example/g00103/laws.FnExactConfOk", spec := "fnExactConfOk", apart := false }
def FnExactConfOkSaid : Prop := fnExactConfOkRow.holds Try.pinned (OpenSpec.ofChange fnExactConfOkSpec)

/-- ITS FALSE NEIGHBOUR: 'it returns false'. Refute it at one input. -/
def fnExactConfOkWrong : ChangeSpec := { name := "fnExactConfOk", fn := fun _ => fun
  | [d] => { results := [.lit (.bool false)], args := [d] }
  | _ => none }
def FnExactConfOkWrongFalsely : Prop := fnExactConfOkRow.holds Try.pinned (OpenSpec.ofChange fnExactConfOkWrong)

/-- 'laws.FnExactManifestOk': WHATEVER THE INPUT: true; the input reads as it did. -/
def fnExactManifestOkSpec : ChangeSpec := { name := "fnExactManifestOk", fn := fun _ => fun
  | [d] => { results := [.lit (.bool true)], args := [d] }
  | _ => none }
def fnExactManifestOkRow : OpenClaim := { program := "ytcmjidcdkooliaa", sum := "6cecce7a09b86bf93e3bd415f3e28e7af6e41804079fc991304f86e924c99290", func := "loop.example/g00103/laws.FnExactManifestOk", spec := "fnExactManifestOk", apart := false }
def FnExactManifestOkSaid : Prop := fnExactManifestOkRow.holds Try.pinned (OpenSpec.ofChange fnExactManifestOkSpec)

/-- ITS FALSE NEIGHBOUR: 'it returns false'. Refute it at one input. -/
def fnExactManifestOkWrong : ChangeSpec := { name := "fnExactManifestOk", fn := fun _ => fun
  | [d] => { results := [.lit (.bool false)], args := [d] }
  | _ => none }
def FnExactManifestOkWrongFalsely : Prop := fnExactManifestOkRow.holds Try.pinned (OpenSpec.ofChange fnExactManifestOkWrong)

/-- 'laws.FnExactManifestText': WHATEVER THE INPUT: true; the input reads as it did. -/
def fnExactManifestTextSpec : ChangeSpec := { name := "fnExactManifestText", fn := fun _ => fun
  | [d] => { results := [.lit (.bool true)], args := [d] }
  | _ => none }
def fnExactManifestTextRow : OpenClaim := { program := "ytcmjidcdkooliaa", sum := "6cecce7a09b86bf93e3bd415f3e28e7af6e41804079fc991304f86e924c99290", func := "loop.example/g00103/laws.FnExactManifestText", spec := "fnExactManifestText", apart := false }
def FnExactManifestTextSaid : Prop := fnExactManifestTextRow.holds Try.pinned (OpenSpec.ofChange fnExactManifestTextSpec)

/-- ITS FALSE NEIGHBOUR: 'it returns false'. Refute it at one input. -/
def fnExactManifestTextWrong : ChangeSpec := { name := "fnExactManifestText", fn := fun _ => fun
  | [d] => { results := [.lit (.bool false)], args := [d] }
  | _ => none }
def FnExactManifestTextWrongFalsely : Prop := fnExactManifestTextRow.holds Try.pinned (OpenSpec.ofChange fnExactManifestTextWrong)

/-- 'laws.FnExactReadManifest': WHATEVER THE INPUT: true; the input reads as it did. -/
def fnExactReadManifestSpec : ChangeSpec := { name := "fnExactReadManifest", fn := fun _ => fun
  | [d] => { results := [.lit (.bool true)], args := [d] }
  | _ => none }
def fnExactReadManifestRow : OpenClaim := { program := "ytcmjidcdkooliaa", sum := "6cecce7a09b86bf93e3bd415f3e28e7af6e41804079fc991304f86e924c99290", func := "loop.example/g00103/laws.FnExactReadManifest", spec := "fnExactReadManifest", unfollowed := true, recurses := true, apart := false }
def FnExactReadManifestSaid : Prop := fnExactReadManifestRow.holds Try.pinned (OpenSpec.ofChange fnExactReadManifestSpec)

/-- ITS FALSE NEIGHBOUR: 'it returns false'. Refute it at one input. -/
def fnExactReadManifestWrong : ChangeSpec := { name := "fnExactReadManifest", fn := fun _ => fun
  | [d] => { results := [.lit (.bool false)], args := [d] }
  | _ => none }
def FnExactReadManifestWrongFalsely : Prop := fnExactReadManifestRow.holds Try.pinned (OpenSpec.ofChange fnExactReadManifestWrong)

/- THE SECOND FORM. 'bulk': how many values and letters a reading holds, each counted each time it is reached (what is shared counts as often as it is met; a slice's spare places count too). A statement '..UptoSaid' is the law's where the arguments, and the package variables that the reading takes, are together of bulk at most 1048576: NARROWER than '..Said'. Prove '..Said' where nothing that the law and all that it calls make is longer than what came in: it says more and counts as full. Else prove '..UptoSaid'. A law counts once. -/
mutual
def uptoBulk {H : Type} : DataW H → Nat
  | .lit (.string bytes) => bytes.length + 1
  | .lit _ => 1
  | .nil => 1
  | .ptr d => uptoBulk d + 1
  | .slice elems spare => uptoBulkAll elems + uptoBulkAll spare + 1
  | .agg parts => uptoBulkAll parts + 1
  | .iface _ d => uptoBulk d + 1
  | .map entries => uptoBulkEntries entries + 1
  | .held _ => 1
def uptoBulkAll {H : Type} : List (DataW H) → Nat
  | [] => 0
  | d :: r => uptoBulk d + uptoBulkAll r
def uptoBulkEntries {H : Type} : List (Lit × DataW H) → Nat
  | [] => 0
  | x :: r => uptoBulkEntry x + uptoBulkEntries r
def uptoBulkEntry {H : Type} : Lit × DataW H → Nat
  | (.string bytes, d) => bytes.length + uptoBulk d + 1
  | (_, d) => uptoBulk d + 1
 end
def uptoSmall : (H : Type) → List (DataW H) → Bool := fun _ ds => decide (uptoBulkAll ds ≤ 1048576)
def OpenSpec.upto (s : _root_.Go.ChangeSpec) : _root_.Go.OpenSpec := { _root_.Go.OpenSpec.ofChange s with cond := some uptoSmall }

/-- 'laws.FnManifests', WHERE WHAT IT READS IS OF BULK AT MOST 1048576: true; the input reads as it did. -/
def fnManifestsUptoRow : OpenClaim := { program := "ytcmjidcdkooliaa", sum := "6cecce7a09b86bf93e3bd415f3e28e7af6e41804079fc991304f86e924c99290", func := "loop.example/g00103/laws.FnManifests", spec := "fnManifests", unfollowed := true, recurses := true, apart := false, narrowed := true }
def FnManifestsUptoSaid : Prop := fnManifestsUptoRow.holds Try.pinned (OpenSpec.upto fnManifestsSpec)

/-- 'laws.FnExactConfOk', WHERE WHAT IT READS IS OF BULK AT MOST 1048576: true; the input reads as it did. -/
def fnExactConfOkUptoRow : OpenClaim := { program := "ytcmjidcdkooliaa", sum := "6cecce7a09b86bf93e3bd415f3e28e7af6e41804079fc991304f86e924c99290", func := "loop.example/g00103/laws.FnExactConfOk", spec := "fnExactConfOk", apart := false, narrowed := true }
def FnExactConfOkUptoSaid : Prop := fnExactConfOkUptoRow.holds Try.pinned (OpenSpec.upto fnExactConfOkSpec)

/-- 'laws.FnExactManifestOk', WHERE WHAT IT READS IS OF BULK AT MOST 1048576: true; the input reads as it did. -/
def fnExactManifestOkUptoRow : OpenClaim := { program := "ytcmjidcdkooliaa", sum := "6cecce7a09b86bf93e3bd415f3e28e7af6e41804079fc991304f86e924c99290", func := "loop.example/g00103/laws.FnExactManifestOk", spec := "fnExactManifestOk", apart := false, narrowed := true }
def FnExactManifestOkUptoSaid : Prop := fnExactManifestOkUptoRow.holds Try.pinned (OpenSpec.upto fnExactManifestOkSpec)

/-- 'laws.FnExactManifestText', WHERE WHAT IT READS IS OF BULK AT MOST 1048576: true; the input reads as it did. -/
def fnExactManifestTextUptoRow : OpenClaim := { program := "ytcmjidcdkooliaa", sum := "6cecce7a09b86bf93e3bd415f3e28e7af6e41804079fc991304f86e924c99290", func := "loop.example/g00103/laws.FnExactManifestText", spec := "fnExactManifestText", apart := false, narrowed := true }
def FnExactManifestTextUptoSaid : Prop := fnExactManifestTextUptoRow.holds Try.pinned (OpenSpec.upto fnExactManifestTextSpec)

/-- 'laws.FnExactReadManifest', WHERE WHAT IT READS IS OF BULK AT MOST 1048576: true; the input reads as it did. -/
def fnExactReadManifestUptoRow : OpenClaim := { program := "ytcmjidcdkooliaa", sum := "6cecce7a09b86bf93e3bd415f3e28e7af6e41804079fc991304f86e924c99290", func := "loop.example/g00103/laws.FnExactReadManifest", spec := "fnExactReadManifest", unfollowed := true, recurses := true, apart := false, narrowed := true }
def FnExactReadManifestUptoSaid : Prop := fnExactReadManifestUptoRow.holds Try.pinned (OpenSpec.upto fnExactReadManifestSpec)

end Rows
end Go.Proofs.Ytcmjidcdkooliaa
