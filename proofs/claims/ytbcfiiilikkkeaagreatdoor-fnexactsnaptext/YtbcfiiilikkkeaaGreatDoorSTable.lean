/- What a law holds while it calls: its variables, its rows of files. Rows of raw writes in memory: four cells each; the call of the specification's PutRaws, walked. Lists of raw writes in memory, 4 cells each; measured, copied, held against each other, marked. Made by program. Plain facts on shelves: a batch added is done to the map; cut anywhere, the shelf comes back as it was, or as it would be; no program is named here. A map of spots in memory, read as an ascending list; spots put into it one by one. -/
import Derived.Test.YtbcfiiilikkkeaaGreatDoorDiskEq
import Derived.Test.YtbcfiiilikkkeaaGreatDoorMathMan
import Derived.Deep.DeepCutAuto
import Derived.Test.YtbcfiiilikkkeaaGreatDoorReader
import Derived.Test.YtbcfiiilikkkeaaGreatDoorAt
import Derived.Test.YtbcfiiilikkkeaaGreatDoorProg
import Derived.WalkKit
import Derived.WalkSpells
import Derived.WalkLawsBesides
import Derived.Laws.IdiomStrings
import Derived.Laws.BytesArg
import Derived.Laws.BitsAllLaws
import Derived.BigQuiet
import Derived.Laws.AppendOwnNone
import Derived.Deep.RegionHeld3
import Derived.Test.YtbcfiiilikkkeaaGreatDoorReadLaw
import Derived.Test.YtbcfiiilikkkeaaGreatDoorFiles
import Derived.Test.YtbcfiiilikkkeaaGreatDoorRdDir
import Derived.Maps.RangeWalk
import Derived.Sort.KeysCollected
namespace Go.Proofs.YtbcfiiilikkkeaaGreatDoor
open Go.RowKit

structure LawSt (w : World) (bs : List (Nat × Obj)) (rows : List (Value × List FileL)) (W : World) : Prop where
  below : Below w.heap.size w W
  has : ∀ p ∈ bs, W.heap[p.1]? = some p.2
  own : ∀ p ∈ rows, W.ownsRow w.heap.size 164 2 p.1 p.2.length (cellsF p.2)
  sep : ∀ p ∈ bs, ∀ q ∈ rows, q.1.ownBlock ≠ some p.1
  apart : rows.Pairwise fun p q => p.1.ownBlock = none ∨ p.1.ownBlock ≠ q.1.ownBlock
  dist : bs.Pairwise fun p q => p.1 ≠ q.1
  up : ∀ p ∈ bs, w.heap.size ≤ p.1
theorem LawSt.bsz {w W : World} {bs : List (Nat × Obj)} {rows : List (Value × List FileL)} (h : LawSt w bs rows W) : ∀ p ∈ bs, p.1 < W.heap.size := fun p hp => (Array.getElem?_eq_some_iff.1 (h.has p hp)).1
theorem LawSt.rsz {w W : World} {bs : List (Nat × Obj)} {rows : List (Value × List FileL)} (h : LawSt w bs rows W) : ∀ q ∈ rows, ∀ k, q.1.ownBlock = some k → k < W.heap.size := fun q hq k hk => ((h.own q hq).lt k hk).2
theorem LawSt.step {w W W' : World} {bs : List (Nat × Obj)} {rows : List (Value × List FileL)} (h : LawSt w bs rows W) (hb : Below W.heap.size W W') : LawSt w bs rows W' :=
  ⟨h.below.trans (hb.mono h.below.size), fun p hp => (hb.block _ (h.bsz p hp)).trans (h.has p hp), fun p hp => own_kept (h.own p hp) hb, h.sep, h.apart, h.dist, h.up⟩
theorem LawSt.drew {w W : World} {bs : List (Nat × Obj)} {rows : List (Value × List FileL)} (h : LawSt w bs rows W) : LawSt w bs rows W.drew := ⟨h.below.drew, h.has, h.own, h.sep, h.apart, h.dist, h.up⟩
theorem LawSt.alloc {w W : World} {bs : List (Nat × Obj)} {rows : List (Value × List FileL)} (h : LawSt w bs rows W) (o : Obj) : LawSt w ((W.heap.size, o) :: bs) rows (W.alloc o) := by
  have hb : Below W.heap.size W (W.alloc o) := (Below.refl _ _).alloc (Nat.le_refl _) _
  have h2 := h.step hb
  refine ⟨h2.below, fun p hp => ?_, h2.own, fun p hp q hq => ?_, h.apart, List.Pairwise.cons (fun q hq => by have := h.bsz q hq; simp only; omega) h.dist, fun p hp => ?_⟩
  · rcases List.mem_cons.1 hp with rfl | hp
    · exact heap_alloc_new W o
    · exact h2.has p hp
  · rcases List.mem_cons.1 hp with rfl | hp
    · intro e
      have := h.rsz q hq _ e
      exact Nat.lt_irrefl _ this
    · exact h.sep p hp q hq
  · rcases List.mem_cons.1 hp with rfl | hp
    · exact h.below.size
    · exact h.up p hp
/-- A call that answers with a row of its own. -/
theorem LawSt.call {w W W' : World} {bs : List (Nat × Obj)} {rows : List (Value × List FileL)} (h : LawSt w bs rows W) (hb : Below W.heap.size W W') {v : Value} {l : List FileL} (hv : W'.ownsRow W.heap.size 164 2 v l.length (cellsF l)) : LawSt w bs ((v, l) :: rows) W' := by
  have h2 := h.step hb
  refine ⟨h2.below, h2.has, fun p hp => ?_, fun p hp q hq => ?_, List.Pairwise.cons (fun q hq => ?_) h.apart, h.dist, h.up⟩
  · rcases List.mem_cons.1 hp with rfl | hp
    · exact own_mono hv h.below.size
    · exact h2.own p hp
  · rcases List.mem_cons.1 hq with rfl | hq
    · intro e
      have h3 := (hv.lt _ e).1
      have h4 := h.bsz p hp
      omega
    · exact h.sep p hp q hq
  · cases e : v.ownBlock with
    | none => exact Or.inl rfl
    | some k =>
      right
      intro e2
      have h3 := (hv.lt _ e).1
      have h4 := h.rsz q hq k e2.symm
      omega
/-- A variable is set. -/
theorem LawSt.set {w W : World} {bs : List (Nat × Obj)} {rows : List (Value × List FileL)} {b : Nat} {x : Value} {t : TypeId} (h : LawSt w ((b, Obj.cells #[x] t (0, 0)) :: bs) rows W) (v : Value) : LawSt w ((b, .cells #[v] t (0, 0)) :: bs) rows (W.setCell ⟨b, 0, none⟩ v) := by
  have hd := (List.pairwise_cons.1 h.dist)
  refine ⟨h.below.setCell (h.up _ (List.Mem.head _)) _, fun p hp => ?_, fun p hp => own_set (h.own p hp) b 0 v (h.sep _ (List.Mem.head _) p hp), fun p hp q hq => ?_, h.apart, List.Pairwise.cons (fun q hq => hd.1 q hq) hd.2, fun p hp => ?_⟩
  · rcases List.mem_cons.1 hp with rfl | hp
    · have := heap_setCell_same W b 0 _ t v (h.has _ (List.Mem.head _))
      simpa using this
    · exact (Below.heap_setCell W ⟨b, 0, none⟩ v p.1 (fun e => hd.1 p hp e.symm)).trans (h.has p (List.mem_cons_of_mem _ hp))
  · rcases List.mem_cons.1 hp with rfl | hp
    · exact h.sep (b, Obj.cells #[x] t (0, 0)) (List.Mem.head _) q hq
    · exact h.sep p (List.mem_cons_of_mem _ hp) q hq
  · rcases List.mem_cons.1 hp with rfl | hp
    · exact h.up (b, Obj.cells #[x] t (0, 0)) (List.Mem.head _)
    · exact h.up p (List.mem_cons_of_mem _ hp)
/-- One row is marked: what else there is stays. -/
theorem LawSt.mark {w W W' : World} {bs : List (Nat × Obj)} {rows : List (Value × List FileL)} (h : LawSt w bs rows W) {v : Value} {l l' : List FileL} (hm : (v, l) ∈ rows) (hg : W.grownBy W' v.ownBlock) (hv : W'.ownsRow w.heap.size 164 2 v l'.length (cellsF l'))
    (rest : List (Value × List FileL)) (hrest : ∀ p ∈ rest, p ∈ rows ∧ (p.1.ownBlock = none ∨ p.1.ownBlock ≠ v.ownBlock)) (hpw : rest.Pairwise fun p q => p.1.ownBlock = none ∨ p.1.ownBlock ≠ q.1.ownBlock) : LawSt w bs ((v, l') :: rest) W' := by
  refine ⟨h.below.grown hg h.below.size (fun j hj => (hv.lt j hj).1), fun p hp => (hg.block _ (h.bsz p hp) (fun e => h.sep p hp _ hm e.symm)).trans (h.has p hp), fun p hp => ?_, fun p hp q hq => ?_, List.Pairwise.cons (fun q hq => ?_) hpw, h.dist, h.up⟩
  · rcases List.mem_cons.1 hp with rfl | hp
    · exact hv
    · exact (h.own p (hrest p hp).1).kept hg (hrest p hp).2
  · rcases List.mem_cons.1 hq with rfl | hq
    · exact h.sep p hp (v, l) hm
    · exact h.sep p hp q (hrest q hq).1
  · rcases (hrest q hq).2 with h1 | h1
    · cases e : v.ownBlock with
      | none => exact Or.inl rfl
      | some k => right; rw [h1]; simp
    · exact Or.inr (fun e => h1 e.symm)
theorem LawSt.cell {w W : World} {bs : List (Nat × Obj)} {rows : List (Value × List FileL)} (h : LawSt w bs rows W) {b : Nat} {x : Value} {t : TypeId} (hm : (b, Obj.cells #[x] t (0, 0)) ∈ bs) : W.cell? ⟨b, 0, none⟩ = some x := cell_of_row _ _ 0 _ _ _ (h.has _ hm)
theorem LawSt.frozen {w W : World} {bs : List (Nat × Obj)} {rows : List (Value × List FileL)} (h : LawSt w bs rows W) {b : Nat} {x : Value} {t : TypeId} (hm : (b, Obj.cells #[x] t (0, 0)) ∈ bs) : W.frozen? ⟨b, 0, none⟩ = false := frozen_of_row _ _ _ _ _ (h.has _ hm)
theorem LawSt.tail {w W : World} {bs : List (Nat × Obj)} {r : Value × List FileL} {rows : List (Value × List FileL)} (h : LawSt w bs (r :: rows) W) : LawSt w bs rows W :=
  ⟨h.below, h.has, fun p hp => h.own p (List.mem_cons_of_mem _ hp), fun p hp q hq => h.sep p hp q (List.mem_cons_of_mem _ hq), (List.pairwise_cons.1 h.apart).2, h.dist, h.up⟩
theorem LawSt.start (w : World) (x y : Obj) : LawSt w [(w.heap.size + 1, y), (w.heap.size, x)] [] ((w.alloc x).alloc y) := by
  refine ⟨((Below.refl _ _).alloc (Nat.le_refl _) _).alloc (by simp) _, fun p hp => ?_, fun p hp => (List.not_mem_nil hp).elim, fun p _ q hq => (List.not_mem_nil hq).elim, List.Pairwise.nil, by simp, fun p hp => by rcases List.mem_cons.1 hp with rfl | hp; exact Nat.le_succ _; obtain rfl := List.mem_singleton.1 hp; exact Nat.le_refl _⟩
  simp only [List.mem_cons, List.not_mem_nil, or_false] at hp
  rcases hp with rfl | rfl
  · have := heap_alloc_new (w.alloc x) y
    simpa using this
  · show ((w.alloc x).alloc y).heap[w.heap.size]? = some x
    rw [Below.heap_alloc _ _ _ (by simp)]
    exact heap_alloc_new w x
end Go.Proofs.YtbcfiiilikkkeaaGreatDoor
namespace Go.Proofs.YtbcfiiilikkkeaaGreatDoor
open Go.RowKit

/-- A slice at a whose elements are these raw writes. -/
def RawsAt (w : World) (a : Option Addr) (g off : Nat) (l : List Disks.RawL) : Prop :=
  (0 < l.length → a = some ⟨g, off, none⟩) ∧ ∀ j (hj : j < l.length), w.cell? ⟨g, off + j * 4, none⟩ = some (.int .i64 l[j].kind) ∧ w.cell? ⟨g, off + j * 4 + 1, none⟩ = some (.string l[j].name) ∧ w.cell? ⟨g, off + j * 4 + 2, none⟩ = some (.string l[j].to) ∧ w.cell? ⟨g, off + j * 4 + 3, none⟩ = some (.string l[j].text)
theorem RawsAt.lt {w : World} {a : Option Addr} {g off : Nat} {l : List Disks.RawL} (h : RawsAt w a g off l) (hl : 0 < l.length) : g < w.heap.size := World.block_lt_of_cell? w _ (h.2 0 hl).1
theorem RawsAt.kept {w w' : World} {a : Option Addr} {g off : Nat} {l : List Disks.RawL} (h : RawsAt w a g off l) (hb : Below w.heap.size w w') : RawsAt w' a g off l := by
  refine ⟨h.1, fun j hj => ?_⟩
  have hg := h.lt (by omega)
  rw [hb.cell (p := ⟨g, off + j * 4, none⟩) hg, hb.cell (p := ⟨g, off + j * 4 + 1, none⟩) hg, hb.cell (p := ⟨g, off + j * 4 + 2, none⟩) hg, hb.cell (p := ⟨g, off + j * 4 + 3, none⟩) hg]
  exact h.2 j hj
theorem LawSt.drop1 {w W : World} {p : Nat × Obj} {bs : List (Nat × Obj)} {rows : List (Value × List FileL)} (h : LawSt w (p :: bs) rows W) : LawSt w bs rows W :=
  ⟨h.below, fun q hq => h.has q (List.mem_cons_of_mem _ hq), h.own, fun q hq => h.sep q (List.mem_cons_of_mem _ hq), h.apart, (List.pairwise_cons.1 h.dist).2, fun q hq => h.up q (List.mem_cons_of_mem _ hq)⟩
end Go.Proofs.YtbcfiiilikkkeaaGreatDoor
namespace Go.Proofs.YtbcfiiilikkkeaaGreatDoor
open Go.RowKit
set_option linter.unusedVariables false
set_option linter.unusedSimpArgs false

def cellsRaw (l : List Disks.RawL) : List Value := l.flatMap fun r => [.int .i64 r.kind, .string r.name, .string r.to, .string r.text]
theorem cellsRaw_len : ∀ l : List Disks.RawL, (cellsRaw l).length = l.length * 4
  | [] => rfl
  | r :: l => by have := cellsRaw_len l; simp only [cellsRaw, List.flatMap_cons, List.length_append, List.length_cons, List.length_nil] at *; omega
theorem cellsRaw_at : ∀ (l : List Disks.RawL) (j : Nat) (hj : j < l.length), (cellsRaw l)[j * 4]? = some (.int .i64 l[j].kind) ∧ (cellsRaw l)[j * 4 + 1]? = some (.string l[j].name) ∧ (cellsRaw l)[j * 4 + 2]? = some (.string l[j].to) ∧ (cellsRaw l)[j * 4 + 3]? = some (.string l[j].text)
  | r :: l, 0, _ => ⟨rfl, rfl, rfl, rfl⟩
  | r :: l, j + 1, hj => by
    have := cellsRaw_at l j (by simpa using hj)
    simpa [cellsRaw, Nat.add_mul, Nat.add_assoc] using this
theorem cellsRaw_own {w : World} {base : Nat} {e : TypeId} {g n cap : Nat} {l : List Disks.RawL} (hn : l.length = n) (h : w.ownsRow base e 4 (.slice (some ⟨g, 0, none⟩) n cap) n (cellsRaw l)) : RawsAt w (some ⟨g, 0, none⟩) g 0 l := by
  refine ⟨fun _ => rfl, fun j hj => ?_⟩
  rw [Nat.zero_add, h.cellAt (j * 4) (by omega), h.cellAt (j * 4 + 1) (by omega), h.cellAt (j * 4 + 2) (by omega), h.cellAt (j * 4 + 3) (by omega)]
  exact cellsRaw_at l j hj
theorem Tryz.info103 : (Tryz.prog.info? 103).map (fun i => (i.zero, i.size, i.bytes)) = some (some (.agg #[.int .i64 0, .string ByteArray.empty, .string ByteArray.empty, .string ByteArray.empty]), 4, 56) := by kernel_rfl
theorem RawsAt.cellsAll {w : World} {a : Option Addr} {g off : Nat} {l : List Disks.RawL} (h : RawsAt w a g off l) : ∀ j u, (cellsRaw l)[j]? = some u → w.cell? ((⟨g, off, none⟩ : Addr).add j) = some u := by
  intro j u hu
  rw [Addr.add_lit]
  have hj : j < l.length * 4 := by rw [← cellsRaw_len]; exact (List.getElem?_eq_some_iff.1 hu).1
  obtain ⟨k, i, hi, rfl⟩ : ∃ k i, i < 4 ∧ j = k * 4 + i := ⟨j / 4, j % 4, by omega, by omega⟩
  have h1 := cellsRaw_at l k (by omega)
  have h2 := h.2 k (by omega)
  have h3 : i = 0 ∨ i = 1 ∨ i = 2 ∨ i = 3 := by omega
  rcases h3 with rfl | rfl | rfl | rfl
  · rw [show k * 4 + 0 = k * 4 from by omega, h1.1] at hu
    rw [← Option.some.inj hu]
    simpa [Nat.add_assoc] using h2.1
  · rw [h1.2.1] at hu
    rw [← Option.some.inj hu]
    simpa [Nat.add_assoc] using h2.2.1
  · rw [h1.2.2.1] at hu
    rw [← Option.some.inj hu]
    simpa [Nat.add_assoc] using h2.2.2.1
  · rw [h1.2.2.2] at hu
    rw [← Option.some.inj hu]
    simpa [Nat.add_assoc] using h2.2.2.2
theorem cellsRaw_one {l : List Disks.RawL} : ∀ u ∈ cellsRaw l, u.oneCell' = true := by
  intro u hu
  unfold cellsRaw at hu
  obtain ⟨r, _, hr⟩ := List.mem_flatMap.1 hu
  simp only [List.mem_cons, List.not_mem_nil, or_false] at hr
  rcases hr with rfl | rfl | rfl | rfl <;> rfl
/-- 'append(x, y...)' onto a row of the call's own. -/
theorem wpList_appendRaw {w : World} {ops : Array Oper} {rest : List Oper} {o : Oper} {act : Act} {Q : Exit → Act → World → Prop} (hgd : o.guard = none) (s x : Operand)
    (ho : o.op = .call { callee := .builtin .append, args := #[s, x], argTypes := #[41, 41] }) (base : Nat) (v : Value) (n : Nat) (xs : List Value) (hs : act.eval s = v) (hown : w.ownsRow base 103 4 v n xs)
    (a : Option Addr) (g off cap : Nat) (l : List Disks.RawL) (hx : act.eval x = .slice a l.length cap) (hf : RawsAt w a g off l) (hnil : a = none → cap = 0) (h63 : n + l.length ≤ 2097152) (hbase : base ≤ w.heap.size)
    (h : ∀ v' w', w'.ownsRow base 103 4 v' (n + l.length) (xs ++ cellsRaw l) → w.grownBy w' v.ownBlock → wpList Tryz.prog ops Q rest (act.put o.dst v') w') : wpList Tryz.prog ops Q (o :: rest) act w := by
  obtain ⟨i0, hi, hz0, hz1, hz2⟩ := info_parts Tryz.info103
  cases a with
  | none =>
    have hl : l = [] := by
      cases l with
      | nil => rfl
      | cons f r => have := hf.1 (by simp); cases this
    subst hl
    rw [hnil rfl] at hx
    refine wpList_append_own_none hgd s x 41 ho base 103 i0 4 Tryz.underlying41 hi v n xs hs hown hx ?_
    refine h v w ?_ (World.grownBy.refl _ _)
    simpa [cellsRaw] using hown
  | some ad =>
    have had : 0 < l.length → ad = ⟨g, off, none⟩ := fun hp => Option.some.inj (hf.1 hp)
    refine wpList_append_own w hgd s x 41 ho base 103 i0 (.agg #[.int .i64 0, .string ByteArray.empty, .string ByteArray.empty, .string ByteArray.empty]) 4 56 Tryz.underlying41 hi hz0 hz1 hz2 rfl (by decide) v n xs hs hown ad l.length cap (cellsRaw l) hx (cellsRaw_len l) ?_ cellsRaw_one (by unfold maxLen; omega) (by omega) hbase ?_
    · intro j u hu
      have hp : 0 < l.length := by
        have := (List.getElem?_eq_some_iff.1 hu).1
        rw [cellsRaw_len] at this
        omega
      rw [had hp]
      exact hf.cellsAll j u hu
    · intro v' w' h1 h2 _
      exact h v' w' h1 h2
end Go.Proofs.YtbcfiiilikkkeaaGreatDoor
namespace Go.Proofs.YtbcfiiilikkkeaaGreatDoor
set_option linter.unusedVariables false
namespace Shelves
open Go
open Batches (by_ by_inj lt)
open Scan (segEnd segSpots segStamp Full valAt by_len)
open Disks (fileAt textOf RawL nameIs run putRaw rawOut)
theorem app_bytes (n : Int) (l : List FileL) (f : List UInt8) : textOf l (segName n) ++ (⟨f.toArray⟩ : ByteArray) = ⟨(textAt l n ++ f).toArray⟩ := by
  apply by_inj
  show (textOf l (segName n) ++ (⟨f.toArray⟩ : ByteArray)).data.toList = textAt l n ++ f
  rw [ByteArray.data_append]
  simp [textAt, by_]
end Shelves
end Go.Proofs.YtbcfiiilikkkeaaGreatDoor
namespace Go.Proofs.YtbcfiiilikkkeaaGreatDoor
open Go.RowKit Go.Maps
set_option linter.unusedVariables false

def sdat (c : SpotL) : DataW Unit := .agg [.lit (.string (Batches.by_ c.key)), .lit (.int .i64 c.seg), .lit (.int .i64 c.pos), .lit (.int .i64 c.size)]
theorem sdat_inj {c d : SpotL} (h : sdat c = sdat d) : c = d := by
  obtain ⟨A, S, P, Z⟩ := c
  obtain ⟨A', S', P', Z'⟩ := d
  unfold sdat at h
  simp only [DataW.agg.injEq, List.cons.injEq, DataW.lit.injEq, Lit.string.injEq, Lit.int.injEq, and_true, true_and] at h
  obtain ⟨h1, h2, h3, h4⟩ := h
  rw [Batches.by_inj h1, h2, h3, h4]
def spotOf' : List Value → Option (DataW Unit × List MemPlace)
  | [.string k, .int .i64 s, .int .i64 p, .int .i64 z] => some (sdat ⟨k, s, p, z⟩, [])
  | _ => none
/-- How a spot in a map reads. -/
def spotElem : Value → Option (DataW Unit × List MemPlace)
  | .agg cs => spotOf' cs.toList
  | _ => none
theorem spotElem_mk (c : SpotL) : spotElem (spotV c) = some (sdat c, []) := rfl
theorem spotOf_inv {l : List Value} {z : DataW Unit × List MemPlace} (h : spotOf' l = some z) : ∃ c : SpotL, l = [.string c.key, .int .i64 c.seg, .int .i64 c.pos, .int .i64 c.size] ∧ z = (sdat c, []) := by
  unfold spotOf' at h
  split at h
  · rename_i k s p z
    cases h; exact ⟨⟨k, s, p, z⟩, rfl, rfl⟩
  · cases h
theorem spotElem_inv {v : Value} {z : DataW Unit × List MemPlace} (h : spotElem v = some z) : ∃ c : SpotL, v = spotV c ∧ z = (sdat c, []) := by
  cases v <;> simp only [spotElem, reduceCtorEq] at h
  rename_i cs
  obtain ⟨c, h1, h2⟩ := spotOf_inv h
  exact ⟨c, by unfold spotV; rw [← Array.toArray_toList (xs := cs), h1], h2⟩
structure STabIs (l : List SpotL) (D : DataW Unit) : Prop where
  has : ∀ n : ByteArray, Maps.has D (.string (Batches.by_ n)) = true ↔ ∃ c ∈ l, c.key = n
  elem : ∀ c ∈ l, ∀ z, D.atKey (.string (Batches.by_ c.key)) z = sdat c
theorem stab_nil : STabIs [] (.map []) := ⟨fun n => ⟨fun h => (by cases h), fun ⟨c, hc, _⟩ => (List.not_mem_nil hc).elim⟩, fun _ hf => (List.not_mem_nil hf).elim⟩
theorem skey_ne {a b : ByteArray} (h : a ≠ b) : (Lit.string (Batches.by_ a)) ≠ .string (Batches.by_ b) := fun e => h (Batches.by_inj (by simpa using e))
theorem stab_put {l : List SpotL} {D : DataW Unit} (h : STabIs l D) (hD : IsMap D) (x : SpotL) (hx : x.size ≠ -1) : STabIs (Dirs.put1 l x) (D.put (.string (Batches.by_ x.key)) (sdat x)) := by
  refine ⟨fun n => ?_, fun e he z => ?_⟩
  · by_cases hn : n = x.key
    · rw [hn, has_put_same hD (show WideAt.IsKeyLit (.string _) from trivial)]
      exact ⟨fun _ => ⟨x, Dirs.put1_mem.2 (Or.inr ⟨hx, rfl⟩), rfl⟩, fun _ => rfl⟩
    · rw [has_put_other (skey_ne hn), h.has]
      constructor
      · rintro ⟨e, he, q⟩; exact ⟨e, Dirs.put1_mem.2 (Or.inl ⟨he, by rw [q]; exact hn⟩), q⟩
      · rintro ⟨e, he, q⟩
        rcases Dirs.put1_mem.1 he with ⟨he, _⟩ | ⟨_, rfl⟩
        · exact ⟨e, he, q⟩
        · exact absurd q.symm hn
  · rcases Dirs.put1_mem.1 he with ⟨he, hne⟩ | ⟨_, rfl⟩
    · rw [atKey_put_other (skey_ne hne)]; exact h.elem e he z
    · exact atKey_put_same hD (show WideAt.IsKeyLit (.string _) from trivial) _ _
theorem stab_del {l : List SpotL} {D : DataW Unit} (h : STabIs l D) (x : SpotL) (hx : x.size = -1) : STabIs (Dirs.put1 l x) (D.del (.string (Batches.by_ x.key))) := by
  have hm : ∀ y, y ∈ Dirs.put1 l x ↔ y ∈ l ∧ y.key ≠ x.key := fun y => by rw [Dirs.put1_mem]; exact ⟨fun q => by rcases q with q | ⟨q, _⟩; exact q; exact absurd hx q, Or.inl⟩
  refine ⟨fun n => ?_, fun e he z => ?_⟩
  · by_cases hn : n = x.key
    · rw [hn, has_del_same]
      constructor
      · intro q; cases q
      · rintro ⟨e, he, q⟩; exact absurd q ((hm e).1 he).2
    · rw [has_del_other (skey_ne hn), h.has]
      constructor
      · rintro ⟨e, he, q⟩; exact ⟨e, (hm e).2 ⟨he, by rw [q]; exact hn⟩, q⟩
      · rintro ⟨e, he, q⟩; exact ⟨e, ((hm e).1 he).1, q⟩
  · obtain ⟨he, hne⟩ := (hm e).1 he
    rw [atKey_del_other (skey_ne hne)]; exact h.elem e he z
theorem sown_tight {w : World} {k : TypeId} {R : Value → Option (DataW Unit × List MemPlace)} {b n : Nat} {D : DataW Unit} (h : w.ownsMap Tryz.prog k R b n D) : w.ownsMap Tryz.prog k R b (Maps.size D) D := by
  obtain ⟨es, clock, hb, F, hs, rfl⟩ := h
  exact ⟨es, clock, hb, F, by simp [Maps.size, length_sorted], rfl⟩
theorem strK : Keyed Tryz.prog 9 := string_keyed Tryz.underlying9
/-- Block b is a map of just these spots, by their keys. -/
def STable (w : World) (b : Nat) (l : List SpotL) : Prop := ∃ D, w.ownsMap Tryz.prog 9 spotElem b (Maps.size D) D ∧ STabIs l D
theorem STable.lt {w : World} {b : Nat} {l : List SpotL} (h : STable w b l) : b < w.heap.size := by obtain ⟨D, h, _⟩ := h; exact h.lt
theorem STable.kept {w w' : World} {b : Nat} {l : List SpotL} {row : Option Nat} (h : STable w b l) (hg : w.grownBy w' row) (hne : some b ≠ row) : STable w' b l := by
  obtain ⟨D, h1, h2⟩ := h; exact ⟨D, h1.kept hg hne, h2⟩
theorem STable.below {w w' : World} {b : Nat} {l : List SpotL} (h : STable w b l) (hb : Below w.heap.size w w') : STable w' b l :=
  h.kept (row := none) ⟨hb.os, hb.tape, hb.output, hb.size, fun k hk _ => hb.block k hk⟩ (by simp)
theorem STable.set {w : World} {b : Nat} {l : List SpotL} (h : STable w b l) {a : Addr} (ha : b ≠ a.block) (u : Value) : STable (w.setCell a u) b l := by
  obtain ⟨D, h1, h2⟩ := h; exact ⟨D, h1.setCell ha u, h2⟩
theorem STable.alloc {w : World} {b : Nat} {l : List SpotL} (h : STable w b l) (o : Obj) : STable (w.alloc o) b l := by
  obtain ⟨D, h1, h2⟩ := h; exact ⟨D, h1.alloc o, h2⟩
theorem stab_keys {w : World} {b n : Nat} {l : List SpotL} {D : DataW Unit} (ha : Dirs.asc l) (h1 : w.ownsMap Tryz.prog 9 spotElem b n D) (h2 : STabIs l D) : (l.map fun f => Batches.by_ f.key).Perm (strKeys D) := by
  obtain ⟨es, hD, hpw, _⟩ := h1.entries strK
  obtain ⟨es', hD', hko⟩ := h1.keysOf
  obtain rfl : es = es' := by rw [hD] at hD'; simpa using hD'
  subst hD
  refine perm_strKeys hpw (fun p hp => by obtain ⟨v, hv⟩ := hko p hp; obtain ⟨x, _, hx, _⟩ := Maps.keyOf_str Tryz.underlying9 hv; exact ⟨x, hx⟩) (Dirs.asc_nodup ha) (fun x => ?_)
  have e := h2.has ⟨x.toArray⟩
  have ek : Batches.by_ ⟨x.toArray⟩ = x := by simp [Batches.by_]
  rw [ek] at e
  rw [e, List.mem_map]
  exact ⟨fun ⟨f, hf, q⟩ => ⟨f, hf, by rw [← q] at ek; exact Batches.by_inj (by rw [ek, q])⟩, fun ⟨f, hf, q⟩ => ⟨f, hf, by rw [q, ek]⟩⟩
theorem stab_size {w : World} {b n : Nat} {l : List SpotL} {D : DataW Unit} (ha : Dirs.asc l) (h1 : w.ownsMap Tryz.prog 9 spotElem b n D) (h2 : STabIs l D) : Maps.size D = l.length := by
  have := (stab_keys ha h1 h2).length_eq
  obtain ⟨es, hD, _⟩ := h1.entries strK
  subst hD
  simpa [strKeys, Maps.size] using this.symm
set_option maxRecDepth 100000 in
theorem zero56 (w : World) : (zeroValue 134).run Tryz.prog w = .ok (spotV ⟨⟨#[]⟩, 0, 0, 0⟩) w := by kernel_rfl
theorem skeyS {n : ByteArray} (h : n.size ≤ maxLen) : keyOf Tryz.prog 9 (.string n) = some (.string (Batches.by_ n)) := by
  have := WideMaps.keyOf_string_mk (P := Tryz.prog) Tryz.underlying9 h
  simpa [Batches.by_, ByteArray.toList_eq] using this
/-- 't[n]' of a key that is there -/
theorem stab_get {w : World} {b : Nat} {l : List SpotL} (hT : STable w b l) {c : SpotL} (hc : c ∈ l) (hn : c.key.size ≤ maxLen) : (Instr.lookup 305 (.map (some b)) (.string c.key) false).run Tryz.prog w = .ok (spotV c) w := by
  obtain ⟨D, hown, ht⟩ := hT
  have e2 := ht.elem c hc (sdat ⟨⟨#[]⟩, 0, 0, 0⟩)
  obtain ⟨v, ps, hrun, hv⟩ := hown.lookup strK Tryz.underlying305 (zero56 w) (spotElem_mk _) (skeyS hn)
  obtain ⟨d, rfl, hv2⟩ := spotElem_inv hv
  rw [e2] at hv2
  have := sdat_inj (congrArg Prod.fst hv2)
  subst this
  exact hrun
section
variable {ops : Array Oper} {rest : List Oper} {o : Oper} {a : Act} {Q : Exit → Act → World → Prop}
/-- 't[n] = f' -/
theorem wpList_put_stab (w : World) (hg : o.guard = none) (m x v : Operand) (hop : o.op = Op.mapUpdate 305 m x v) (b : Nat) (l : List SpotL) (ha : Dirs.asc l) (hl : l.length ≤ 4194304) (c : SpotL) (hn : c.key.size ≤ maxLen) (hs : c.size ≠ -1) (hT : STable w b l) (hm : a.eval m = .map (some b)) (hx : a.eval x = .string c.key)
    (hv : a.eval v = spotV c)
    (hK : ∀ w', STable w' b (Dirs.put1 l c) → w.grownBy w' (some b) → wpList Tryz.prog ops Q rest (a.put o.dst undef) w') : wpList Tryz.prog ops Q (o :: rest) a w := by
  obtain ⟨D, hown, ht⟩ := hT
  have hsz := stab_size ha hown ht
  refine wpList_mapUpdate_in w hg m x v 305 hop 9 134 strK Tryz.underlying305 spotElem b (Maps.size D) D hm hown (by rw [hsz]; unfold maxLen; omega) (.string c.key) (spotV c) (.string (Batches.by_ c.key)) hx hv (skeyS hn) (sdat c) [] (spotElem_mk _) fun w' h1 h2 => ?_
  exact hK w' ⟨_, sown_tight h1, stab_put ht hown.isMap c hs⟩ h2.grown
/-- 'delete(t, n)' -/
theorem wpList_del_stab (w : World) (hg : o.guard = none) (m x : Operand) (hop : o.op = Op.call { callee := Callee.builtin Builtin.delete, args := #[m, x], argTypes := #[305, 9] }) (b : Nat) (l : List SpotL) (c : SpotL) (hn : c.key.size ≤ maxLen) (hs : c.size = -1) (hT : STable w b l) (hm : a.eval m = .map (some b)) (hx : a.eval x = .string c.key)
    (hK : ∀ w', STable w' b (Dirs.put1 l c) → w.grownBy w' (some b) → wpList Tryz.prog ops Q rest (a.put o.dst (.tuple #[])) w') : wpList Tryz.prog ops Q (o :: rest) a w := by
  obtain ⟨D, hown, ht⟩ := hT
  refine wpList_delete_own w hg m x 305 9 hop 134 strK Tryz.underlying305 spotElem b (Maps.size D) D hm hown (.string c.key) (.string (Batches.by_ c.key)) hx (skeyS hn) fun w' h1 h2 => ?_
  exact hK w' ⟨_, sown_tight h1, stab_del ht c hs⟩ h2.grown
end
/-- A new map. -/
theorem stable_made (w : World) : STable (w.alloc (.map #[] 0)) w.heap.size [] := ⟨.map [], sown_tight (World.ownsMap_made w Tryz.prog 9 spotElem), stab_nil⟩
theorem make_stab (n : Int) (w : World) : (Instr.makeMap 305 (some (.int .i64 n))).run Tryz.prog w = .ok (.map (some w.heap.size)) (w.alloc (.map #[] 0)) := by
  simp [Instr.makeMap, run_underlying Tryz.underlying305, Result.andThen, go_sem]
theorem cell_grown {w w' : World} {b : Nat} (h : w.grownBy w' (some b)) {p : Addr} (hp : p.block < w.heap.size) (hne : b ≠ p.block) : w'.cell? p = w.cell? p := World.cell?_of_block (w := w) (h.block p.block hp (fun e => hne (by simpa using e.symm)))
theorem SpotAt.grown {w w' : World} {a : Option Addr} {g off b : Nat} {l : List SpotL} (h : SpotAt w a g off l) (hg : w.grownBy w' (some b)) (hne : 0 < l.length → b ≠ g) : SpotAt w' a g off l := by
  refine ⟨h.1, fun j hj => ?_⟩
  have hgl := h.lt (by omega)
  have hn := hne (by omega)
  obtain ⟨h0, h1, h2, h3⟩ := h.2 j hj
  exact ⟨(cell_grown hg (p := ⟨g, _, none⟩) hgl hn).trans h0, (cell_grown hg (p := ⟨g, _, none⟩) hgl hn).trans h1, (cell_grown hg (p := ⟨g, _, none⟩) hgl hn).trans h2, (cell_grown hg (p := ⟨g, _, none⟩) hgl hn).trans h3⟩
set_option maxHeartbeats 2000000 in
set_option maxRecDepth 100000 in
theorem take_is {a : Option Addr} {g off cap : Nat} (l xs : List SpotL) (hasc : Dirs.asc l) (hlen : l.length + xs.length ≤ 4194304) (hsz : ∀ c ∈ xs, smallSpot 2097152 c) (b : Nat) (w : World) (hT : STable w b l) (hf : SpotAt w a g off xs) (hne : 0 < xs.length → b ≠ g) :
    Calls Tryz.prog 248 #[.map (some b), .slice a xs.length cap] w fun e w' => e = .returned (.tuple #[]) ∧ STable w' b (Dirs.more l xs) ∧ w.grownBy w' (some b) := by
  have HF : Hid (SpotAt w a g off xs) := hf
  have HS : Hid (∀ c ∈ xs, smallSpot 2097152 c) := hsz
  have HA : Hid (Dirs.asc l) := hasc
  have HT : Hid (STable w b l) := hT
  have HNE : Hid (0 < xs.length → b ≠ g) := hne
  clear hf hsz hasc hT hne
  go_enter Tryz.func248, Tryz.ntmps248
  go_wp2_with fail
  go_loopw [8] (fun i wr => ∃ k : Nat, k ≤ xs.length ∧ i = .int .i64 (k : Int) ∧ Hid (STable wr b (Dirs.more l (xs.take k))) ∧ w.grownBy wr (some b))
    (fun i _ => xs.length - (intOf i).toNat)
  case atStart => exact ⟨0, Nat.zero_le _, rfl, by show STable w b _; rw [List.take_zero]; exact HT.out, World.grownBy.refl _ _⟩
  case round =>
    obtain ⟨k, hk, rfl, TR, hgr⟩ := hrel
    by_cases hlt : k < xs.length
    · obtain ⟨c0, c1, c2, c3⟩ := (HF.out.grown hgr HNE.out).2 k hlt
      have ea := HF.out.1 (by omega)
      subst ea
      have s0 := HS.out xs[k] (List.getElem_mem _)
      have HAA0 : Hid (∃ c, c = xs[k] ∧ xs[k] = c) := ⟨_, rfl, rfl⟩
      obtain ⟨c, hc, hc'⟩ := HAA0.out
      rw [← hc] at c0 c1 c2 c3 s0
      have HST : Hid (Dirs.more l (xs.take (k + 1)) = Dirs.put1 (Dirs.more l (xs.take k)) c) := by show _ = _; rw [Dirs.more_take hlt, hc']
      clear HAA0 hc hc'
      have HM : Hid (Dirs.asc (Dirs.more l (xs.take k))) := Dirs.asc_more _ _ HA.out
      have hml : (Dirs.more l (xs.take k)).length ≤ 4194304 := Nat.le_trans (Dirs.more_take_len k) hlen
      obtain ⟨A, G, P, Z⟩ := c
      simp only at c0 c1 c2 c3
      unfold smallSpot at s0
      simp only at s0
      have hk0 : (0 : Int) ≤ (k : Int) := by omega
      have hk1 : (k : Int) < (xs.length : Int) := by omega
      have hA := heap_alloc_new wr (Obj.cells #[Value.string A, Value.int .i64 G, Value.int .i64 P, Value.int .i64 Z] 134)
      by_cases hz : Z = -1
      · subst hz
        go_wp2_with (first | (at_delete; refine wpList_del_stab _ rfl _ _ rfl b (Dirs.more l (xs.take k)) ⟨A, G, P, -1⟩ (by show A.size ≤ _; unfold maxLen; omega) rfl (TR.out.alloc _) (by rfl) (by rfl) ?_; intro w4 T4 g4) | fail)
        have T5 : Hid (STable w4 b (Dirs.more l (xs.take (k + 1)))) := by show STable w4 b _; rw [HST.out]; exact T4
        have hg5 : w.grownBy w4 (some b) := (hgr.trans (grown_alloc _ _)).trans g4
        clear T4 g4
        go_wp2
        go_roundw
        case rel => exact ⟨k + 1, by omega, by go_num, T5, hg5⟩
        case measure => simp [intOf]; omega
      · go_wp2_with (first | (at_mapUpdate; refine wpList_put_stab _ rfl _ _ _ rfl b (Dirs.more l (xs.take k)) HM.out hml ⟨A, G, P, Z⟩ (by show A.size ≤ _; unfold maxLen; omega) hz (TR.out.alloc _) (by rfl) (by rfl) (by rfl) ?_; intro w4 T4 g4) | fail)
        have T5 : Hid (STable w4 b (Dirs.more l (xs.take (k + 1)))) := by show STable w4 b _; rw [HST.out]; exact T4
        have hg5 : w.grownBy w4 (some b) := (hgr.trans (grown_alloc _ _)).trans g4
        clear T4 g4
        go_wp2
        go_roundw
        case rel => exact ⟨k + 1, by omega, by go_num, T5, hg5⟩
        case measure => simp [intOf]; omega
    · have hk1 : ¬ (k : Int) < (xs.length : Int) := by omega
      have T5 : Hid (STable wr b (Dirs.more l xs)) := by
        have := TR.out
        rw [List.take_of_length_le (by omega)] at this
        exact this
      go_wp2
      go_end0
      exact ⟨rfl, T5.out, hgr⟩
end Go.Proofs.YtbcfiiilikkkeaaGreatDoor
