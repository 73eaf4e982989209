/- The calls of l03Drop and l03Put, walked. -/
import Derived.Test.YthcfnofhdbjemaaGreatDoorKit
import Derived.Test.YthcfnofhdbjemaaGreatDoorConfOk
import Derived.Test.YthcfnofhdbjemaaGreatDoorMathDisk
import Derived.Deep.RegionWith
import Derived.Deep.QuietTactic
import Derived.BigQuiet
import Derived.Deep.RegionHeld3
import Derived.Deep.AppendLies
import Derived.Deep.RegionLaw
namespace Go.Proofs.YthcfnofhdbjemaaGreatDoor
open Go.RowKit

theorem two_strings (a b : ByteArray) : ∀ u ∈ [Value.string a, Value.string b], u.oneCell' = true := by
  intro u hu
  simp only [List.mem_cons, List.not_mem_nil, or_false] at hu
  rcases hu with rfl | rfl <;> rfl

/-- A list that is grown in a variable of the call's own: its block o, the block r of the result, all made ahead of b. -/
structure OutAt (o r b : Nat) (W : World) (v : Value) (pre : List FileL) : Prop where
  ob : o < b
  rb : r < b
  ne : r ≠ o
  res : W.cell? ⟨r, 0, none⟩ = some (.slice none 0 0)
  resf : W.frozen? ⟨r, 0, none⟩ = false
  out : W.cell? ⟨o, 0, none⟩ = some v
  outf : W.frozen? ⟨o, 0, none⟩ = false
  own : W.ownsRow b 41 2 v pre.length (cellsF pre)
  size : b ≤ W.heap.size
theorem OutAt.far {o r b : Nat} {W : World} {v : Value} {pre : List FileL} (h : OutAt o r b W v pre) {j : Nat} (hj : j < b) : some j ≠ v.ownBlock := fun e => by
  have := (h.own.lt j e.symm).1
  omega
theorem OutAt.step {o r b : Nat} {W w1 : World} {v v' : Value} {pre : List FileL} {A T : ByteArray} (h : OutAt o r b W v pre) (hgr : W.grownBy w1 v.ownBlock) (hown1 : w1.ownsRow b 41 2 v' (pre.length + 1) (cellsF pre ++ [.string A, .string T])) :
    OutAt o r b (w1.setCell ⟨o, 0, none⟩ v') v' (pre ++ [(A, T)]) ∧ (∀ p : Addr, p.block < b → p.block ≠ o → (w1.setCell ⟨o, 0, none⟩ v').cell? p = W.cell? p) := by
  have key : ∀ p : Addr, p.block < b → p.block ≠ o → (w1.setCell ⟨o, 0, none⟩ v').cell? p = W.cell? p ∧ (w1.setCell ⟨o, 0, none⟩ v').frozen? p = W.frozen? p := by
    intro p hp hne
    have e1 : (w1.setCell ⟨o, 0, none⟩ v').heap[p.block]? = w1.heap[p.block]? := Below.heap_setCell w1 ⟨o, 0, none⟩ v' p.block hne
    have e2 := hgr.block p.block (Nat.lt_of_lt_of_le hp h.size) (h.far hp)
    exact ⟨World.cell?_of_block (e1.trans e2), World.frozen?_of_block (e1.trans e2)⟩
  have oz : o < W.heap.size := World.block_lt_of_cell? W _ h.out
  have ho1 : w1.cell? ⟨o, 0, none⟩ = some v := hgr.cell h.out (h.far h.ob)
  refine ⟨⟨h.ob, h.rb, h.ne, (key ⟨r, 0, none⟩ h.rb h.ne).1.trans h.res, (key ⟨r, 0, none⟩ h.rb h.ne).2.trans h.resf, World.cell?_setCell_same _ _ _ ho1, ?_, ?_, ?_⟩, fun p hp hne => (key p hp hne).1⟩
  · rw [World.frozen?_setCell]
    exact (hgr.frozen_far ⟨o, 0, none⟩ oz (h.far h.ob)).trans h.outf
  · have e : cellsF pre ++ [.string A, .string T] = cellsF (pre ++ [(A, T)]) := by rw [cellsF_app]; rfl
    rw [e] at hown1
    rw [List.length_append]
    refine own_set hown1 o 0 v' fun e => ?_
    have := (hown1.lt o e).1
    have := h.ob
    omega
  · have := hgr.size
    have := h.size
    simp [World.setCell]
    omega
theorem three_0 (w : World) (x y z : Obj) : (((w.alloc x).alloc y).alloc z).heap[w.heap.size]? = some x := by
  rw [Below.heap_alloc _ _ _ (by simp; omega), Below.heap_alloc _ _ _ (by simp)]
  exact heap_alloc_new w x
theorem three_1 (w : World) (x y z : Obj) : (((w.alloc x).alloc y).alloc z).heap[w.heap.size + 1]? = some y := by
  rw [Below.heap_alloc _ _ _ (by simp)]
  have := heap_alloc_new (w.alloc x) y
  simpa using this
theorem three_2 (w : World) (x y z : Obj) : (((w.alloc x).alloc y).alloc z).heap[w.heap.size + 1 + 1]? = some z := by
  have := heap_alloc_new ((w.alloc x).alloc y) z
  simpa using this
theorem filter_step {p : FileL → Bool} {l : List FileL} {k : Nat} (hk : k < l.length) : (l.take (k + 1)).filter p = (l.take k).filter p ++ (if p l[k] then [l[k]] else []) := by
  rw [List.take_succ_eq_append_getElem hk, List.filter_append]
  congr 1
  rw [List.filter_cons, List.filter_nil]

end Go.Proofs.YthcfnofhdbjemaaGreatDoor
