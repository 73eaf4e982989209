/- The call of the specification's PutRaw, walked. -/
import Derived.Test.YthcfnofhdbjemaaGreatDoorPut
import Derived.Test.YthcfnofhdbjemaaGreatDoorMathRaw
import Derived.Test.YthcfnofhdbjemaaGreatDoorRawArg2
import Derived.Laws.AppendOwnNone
namespace Go.Proofs.YthcfnofhdbjemaaGreatDoor
open Go.RowKit

def rawC (r : Disks.RawL) : Obj := .cells #[.int .i64 r.kind, .string r.name, .string r.dst, .string r.text] 44
/-- What a call of PutRaw keeps. -/
structure RawAt (h : Nat) (D : Value) (r : Disks.RawL) (W : World) : Prop where
  d : W.heap[h]? = some (.cells #[D] 25 (0, 0))
  r : W.heap[h + 1]? = some (rawC r)
  res : W.heap[h + 1 + 1]? = some (.cells #[.slice none 0 0] 25 (0, 0))
theorem RawAt.lt {h : Nat} {D : Value} {r : Disks.RawL} {W : World} (p : RawAt h D r W) : h + 1 + 1 < W.heap.size := (Array.getElem?_eq_some_iff.1 p.res).1
theorem RawAt.kept {h : Nat} {D : Value} {r : Disks.RawL} {W W' : World} (p : RawAt h D r W) (hb : Below W.heap.size W W') : RawAt h D r W' := by
  have := p.lt
  exact ⟨(hb.block _ (by omega)).trans p.d, (hb.block _ (by omega)).trans p.r, (hb.block _ (by omega)).trans p.res⟩
theorem RawAt.c0 {h : Nat} {D : Value} {r : Disks.RawL} {W : World} (p : RawAt h D r W) : W.cell? ⟨h + 1, 0, none⟩ = some (.int .i64 r.kind) := cell_of_row _ _ 0 _ _ _ p.r
theorem RawAt.c1 {h : Nat} {D : Value} {r : Disks.RawL} {W : World} (p : RawAt h D r W) : W.cell? ⟨h + 1, 1, none⟩ = some (.string r.name) := cell_of_row _ _ 1 _ _ _ p.r
theorem RawAt.c2 {h : Nat} {D : Value} {r : Disks.RawL} {W : World} (p : RawAt h D r W) : W.cell? ⟨h + 1, 2, none⟩ = some (.string r.dst) := cell_of_row _ _ 2 _ _ _ p.r
theorem RawAt.c3 {h : Nat} {D : Value} {r : Disks.RawL} {W : World} (p : RawAt h D r W) : W.cell? ⟨h + 1, 3, none⟩ = some (.string r.text) := cell_of_row _ _ 3 _ _ _ p.r
theorem RawAt.cr {h : Nat} {D : Value} {r : Disks.RawL} {W : World} (p : RawAt h D r W) : W.cell? ⟨h + 1 + 1, 0, none⟩ = some (.slice none 0 0) := cell_of_row _ _ 0 _ _ _ p.res
theorem RawAt.fr {h : Nat} {D : Value} {r : Disks.RawL} {W : World} (p : RawAt h D r W) : W.frozen? ⟨h + 1 + 1, 0, none⟩ = false := frozen_of_row _ _ _ _ _ p.res
theorem RawAt.start (w : World) (D : Value) (r : Disks.RawL) : RawAt w.heap.size D r (((w.alloc (.cells #[D] 25)).alloc (rawC r)).alloc (.cells #[.slice none 0 0] 25)) :=
  ⟨three_0 w _ _ _, three_1 w _ _ _, three_2 w _ _ _⟩

/-- What PutRaw answers with. -/
def putPost (w : World) (o : Option (List FileL)) (e : Ending) (w' : World) : Prop :=
  ∃ v : Value, e = .returned (.tuple #[.agg #[v], .bool o.isSome]) ∧ w'.ownsRow w.heap.size 41 2 v (o.getD []).length (cellsF (o.getD [])) ∧ Below w.heap.size w w'

end Go.Proofs.YthcfnofhdbjemaaGreatDoor
