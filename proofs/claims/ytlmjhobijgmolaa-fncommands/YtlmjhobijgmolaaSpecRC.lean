/- The specification's ReadCommand, walked. -/
import Derived.Test.YtlmjhobijgmolaaSpecTxt
import Derived.Test.YtlmjhobijgmolaaRdCmd
import Derived.Test.YtlmjhobijgmolaaCur3
namespace Go.Proofs.Ytlmjhobijgmolaa
open Go.RowKit
open Cmds (okC Reads Got)
set_option linter.unusedVariables false
set_option linter.unusedSimpArgs false

/-- The command that is read, the result's cells and the cursor. -/
structure XS (w : World) (xb : Nat) (t : ByteArray) (A : Array Value) (a : Nat) (bad : Bool) (X : World) : Prop where
  x : X.heap[xb]? = some (.cells A 26 (0, 0))
  z : X.heap[w.heap.size]? = some (.cells zeroC 26 (0, 0))
  c : C5 X (w.heap.size + 1) t a bad
  b : Below w.heap.size w X
  n : w.heap.size + 1 < xb
theorem XS.grown {w X X' : World} {xb : Nat} {t : ByteArray} {A : Array Value} {a a' : Nat} {bad bad' : Bool} (h : XS w xb t A a bad X) (hg : X.grownBy X' (some (w.heap.size + 1))) (hc : C5 X' (w.heap.size + 1) t a' bad') : XS w xb t A a' bad' X' :=
  ⟨grown_keep h.x hg (by have := h.n; omega), grown_keep h.z hg (by omega), hc, h.b.grown hg h.b.size (fun k e => by cases e; omega), h.n⟩
theorem XS.set {w X : World} {xb : Nat} {t : ByteArray} {A : Array Value} {a : Nat} {bad : Bool} (h : XS w xb t A a bad X) (j : Nat) (v : Value) : XS w xb t (A.setIfInBounds j v) a bad (X.setCell ⟨xb, j, none⟩ v) :=
  ⟨heap_setCell_same X xb j _ 26 v h.x, set_far h.z (by have := h.n; omega) j v, h.c.far (by have := h.n; omega) j v, h.b.setCell (by show w.heap.size ≤ xb; have := h.n; omega) _, h.n⟩
theorem XS.below {w X X' : World} {xb : Nat} {t : ByteArray} {A : Array Value} {a : Nat} {bad : Bool} (h : XS w xb t A a bad X) (hb : Below X.heap.size X X') : XS w xb t A a bad X' :=
  ⟨(hb.block _ (Array.getElem?_eq_some_iff.1 h.x).1).trans h.x, (hb.block _ (Array.getElem?_eq_some_iff.1 h.z).1).trans h.z, h.c.below hb, h.b.trans (hb.mono h.b.size), h.n⟩
end Go.Proofs.Ytlmjhobijgmolaa
