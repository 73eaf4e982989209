/- What the program's table does of a raw write, and of a list of them; the table of a disk. The program's FileAt, walked. The program's table told as a disk: its names collected, sorted, and the files copied in their order. What a law holds while it calls: its variables' blocks and its rows, apart from each other; rows of whatever elements. Plain facts on shelves: the raw writes of a batch cut at any byte; no program is named here. -/
import Derived.Test.YtbcfiiilikkkeaaGreatDoorDiskImplOk
import Derived.Test.YtbcfiiilikkkeaaGreatDoorAt
import Derived.Test.YtbcfiiilikkkeaaGreatDoorReader
import Derived.Test.YtbcfiiilikkkeaaGreatDoorMathAt
import Derived.Test.YtbcfiiilikkkeaaGreatDoorLRaw
import Derived.Test.YtbcfiiilikkkeaaGreatDoorKit
import Derived.Sort.OwnSorted
import Derived.Sort.KeysCollected
import Derived.Deep.AppendLies
import Derived.Deep.RegionHeld3
import Derived.Test.YtbcfiiilikkkeaaGreatDoorReadLaw
import Derived.Deep.DeepCutAuto
namespace Go.Proofs.YtbcfiiilikkkeaaGreatDoor
open Go.RowKit
set_option linter.unusedVariables false

set_option maxRecDepth 100000 in
theorem field68 (A T : ByteArray) (w : World) : (Instr.field 164 (.agg #[.string A, .string T]) 1).run Tryz.prog w = .ok (.string T) w := by
  kernel_rfl
set_option maxHeartbeats 1000000 in
set_option maxRecDepth 100000 in
theorem filesOf_no {a : Option Addr} {g off cap : Nat} (l : List FileL) (hlen : l.length ≤ 1048576) (hsz : ∀ f ∈ l, f.1.size ≤ 1048576 ∧ f.2.size ≤ 1048576) (hno : ¬ Disks.ok l) (w : World) (hf : FilesAt w a g off l) :
    Calls Tryz.prog 92 #[.agg #[.slice a l.length cap]] w fun e w' => e = .returned (.tuple #[.map none, .bool false]) ∧ Below w.heap.size w w' := by
  have HF : Hid (FilesAt w a g off l) := hf
  have HS : Hid (∀ f ∈ l, f.1.size ≤ 1048576 ∧ f.2.size ≤ 1048576) := hsz
  have HN : Hid (¬ Disks.ok l) := hno
  clear hf hsz hno
  go_enter Tryz.func92, Tryz.ntmps92
  go_wp2_with fail
  obtain ⟨W1, hW1⟩ : ∃ W1, W1 = w.alloc (Obj.cells #[Value.slice a l.length cap] 46) := ⟨_, rfl⟩
  rw [← hW1]
  have hB1 : Below w.heap.size w W1 := by rw [hW1]; exact (Below.refl _ _).alloc (Nat.le_refl _) _
  clear hW1
  refine (implDiskOk_any false l hlen W1 (HF.out.kept hB1) HS.out ⟨fun h => absurd h Bool.false_ne_true, fun h => absurd h HN.out⟩).mono ?_
  rintro e w2 ⟨rfl, hb2⟩
  go_wp2
  go_ret2
  exact ⟨rfl, hB1.trans (hb2.mono hB1.size)⟩

set_option maxHeartbeats 2000000 in
set_option maxRecDepth 100000 in
theorem filesOf_yes {a : Option Addr} {g off cap : Nat} (l : List FileL) (hok : Disks.ok l) (w : World) (hf : FilesAt w a g off l) :
    Calls Tryz.prog 92 #[.agg #[.slice a l.length cap]] w fun e w' => ∃ b, e = .returned (.tuple #[.map (some b), .bool true]) ∧ w.heap.size ≤ b ∧ Table w' b l ∧ Below w.heap.size w w' := by
  have HF : Hid (FilesAt w a g off l) := hf
  obtain ⟨hl30, hfo, hasc⟩ := (Disks.ok_iff l).1 hok
  have HS : Hid (∀ f ∈ l, f.1.size ≤ 1048576 ∧ f.2.size ≤ 1048576) := fun f hf => by obtain ⟨_, h1, h2⟩ := hfo f hf; omega
  have HK : Hid (Disks.ok l) := hok
  have HA : Hid (Disks.asc l) := hasc
  clear hf hfo hok hasc
  have hmk := make_tab
  go_enter Tryz.func92, Tryz.ntmps92
  go_wp2_with fail
  obtain ⟨W1, hW1⟩ : ∃ W1, W1 = w.alloc (Obj.cells #[Value.slice a l.length cap] 46) := ⟨_, rfl⟩
  rw [← hW1]
  have hB1 : Below w.heap.size w W1 := by rw [hW1]; exact (Below.refl _ _).alloc (Nat.le_refl _) _
  have c1 : W1.cell? ⟨w.heap.size, 0, none⟩ = some (.slice a l.length cap) := by rw [hW1]; exact cell_of_row _ _ 0 _ _ _ (heap_alloc_new w _)
  clear hW1
  refine (implDiskOk_any true l (by omega) W1 (HF.out.kept hB1) HS.out ⟨fun _ => HK.out, fun _ => rfl⟩).mono ?_
  rintro e w2 ⟨rfl, hb2⟩
  have hB2 : Below w.heap.size w w2 := hB1.trans (hb2.mono hB1.size)
  have c2 : w2.cell? ⟨w.heap.size, 0, none⟩ = some (.slice a l.length cap) := (hb2.cell (p := ⟨w.heap.size, 0, none⟩) (World.block_lt_of_cell? W1 _ c1)).trans c1
  have hz2 : w.heap.size < w2.heap.size := World.block_lt_of_cell? w2 _ c2
  clear hb2 c1 hB1
  go_wp2_with fail
  obtain ⟨W3, hW3⟩ : ∃ W3, W3 = w2.alloc (Obj.map #[] 0) := ⟨_, rfl⟩
  obtain ⟨B, hB⟩ : ∃ B, B = w2.heap.size := ⟨_, rfl⟩
  rw [← hW3, ← hB]
  have T3 : Hid (Table W3 B (l.take 0)) := by show Table W3 B _; rw [hW3, hB]; exact table_made w2
  have hB3 : Below w.heap.size w W3 := by rw [hW3]; exact hB2.alloc hB2.size _
  have hwB : w.heap.size ≤ B := by omega
  clear hW3 hB hB2 hz2 c2 hmk
  go_loopw [17] (fun i wr => ∃ k : Nat, k ≤ l.length ∧ i = .int .i64 (k : Int) ∧ Hid (Table wr B (l.take k)) ∧ Below w.heap.size w wr)
    (fun i _ => l.length - (intOf i).toNat)
  case atStart => exact ⟨0, Nat.zero_le _, rfl, T3, hB3⟩
  case round =>
    obtain ⟨k, hk, rfl, TR, hbel⟩ := hrel
    by_cases hlt : k < l.length
    · obtain ⟨c0, c1⟩ := (HF.out.kept hbel).2 k hlt
      have ea := HF.out.1 (by omega)
      subst ea
      obtain ⟨A, hA⟩ : ∃ A, A = l[k].1 := ⟨_, rfl⟩
      obtain ⟨T, hT⟩ : ∃ T, T = l[k].2 := ⟨_, rfl⟩
      obtain ⟨s0, s1⟩ := HS.out l[k] (List.getElem_mem _)
      rw [← hA] at c0 s0
      rw [← hT] at c1 s1
      have HP : Hid (Disks.put (l.take k) (A, T) = l.take (k + 1)) := by show _ = _; rw [hA, hT]; exact Disks.take_put HA.out hlt
      have hk0 : (0 : Int) ≤ (k : Int) := by omega
      have hk1 : (k : Int) < (l.length : Int) := by omega
      clear hA hT
      go_wp2_with (first | (at_mapUpdate; refine wpList_put_tab _ rfl _ _ _ rfl B (l.take k) (List.Pairwise.take HA.out) (by rw [List.length_take]; omega) A T (by unfold maxLen; omega) (TR.out.alloc _) (by rfl) (by rfl) (by rfl) ?_; intro w4 T4 g4 _; go_frame) | fail)
      have hB4 : Below w.heap.size w w4 := (hbel.alloc hbel.size _).grown g4 (by simp; have := hbel.size; omega) (fun j hj => by cases hj; exact hwB)
      rw [HP.out] at T4
      have T4' : Hid (Table w4 B (l.take (k + 1))) := T4
      clear T4 g4
      go_wp2
      go_roundw
      case rel => exact ⟨k + 1, by omega, by go_num, T4', hB4⟩
      case measure => simp [intOf]; omega
    · have hk1 : ¬ (k : Int) < (l.length : Int) := by omega
      have TR' : Hid (Table wr B l) := by show Table wr B l; have := TR.out; rwa [List.take_of_length_le (by omega)] at this
      go_wp2
      go_ret2
      exact ⟨B, rfl, hwB, TR'.out, hbel⟩

end Go.Proofs.YtbcfiiilikkkeaaGreatDoor
namespace Go.Proofs.YtbcfiiilikkkeaaGreatDoor
open Go.RowKit
set_option linter.unusedVariables false

set_option maxHeartbeats 400000 in
theorem clone_str (s : ByteArray) (h : s.size ≤ 281474976710656) (w : World) :
    Calls Tryz.prog 95 #[.string s] w fun e w' => e = .returned (.string s) ∧ Below w.heap.size w w' := by
  go_enter Tryz.func95, Tryz.ntmps95
  go_wp2_with (go_at_call 157; refine (Tryz.stringslite_Clone s _ h).mono ?_; rintro e w1 ⟨rfl, hb1⟩)
  go_ret
  exact ⟨rfl, hb1⟩
set_option maxHeartbeats 1000000 in
set_option maxRecDepth 100000 in
theorem implFileAt_yes {a : Option Addr} {g off cap : Nat} (l : List FileL) (hok : Disks.ok l) (n : ByteArray) (hn : n.size ≤ 1048576) (LA LT : ByteArray) (LB : Bool) (hL : Disks.look l n = ((LA, LT), LB)) (hs : LT.size ≤ 20000) (w : World) (hf : FilesAt w a g off l) :
    Calls Tryz.prog 117 #[.agg #[.slice a l.length cap], .string n] w fun e w' => e = .returned (.tuple #[.string LT, .bool LB]) ∧ Below w.heap.size w w' := by
  have HF : Hid (FilesAt w a g off l) := hf
  have HK : Hid (Disks.ok l) := hok
  have HL : Hid (Disks.look l n = ((LA, LT), LB)) := hL
  clear hf hok hL
  go_enter Tryz.func117, Tryz.ntmps117
  go_wp2_with fail
  obtain ⟨W1, hW1⟩ : ∃ W1, W1 = w.alloc (Obj.cells #[Value.slice a l.length cap] 46) := ⟨_, rfl⟩
  rw [← hW1]
  have hB1 : Below w.heap.size w W1 := by rw [hW1]; exact (Below.refl _ _).alloc (Nat.le_refl _) _
  clear hW1
  refine (filesOf_yes l HK.out W1 (HF.out.kept hB1)).mono ?_
  rintro e w2 ⟨b, rfl, hb, T2, hb2⟩
  have T2' : Hid (Table w2 b l) := T2
  have hB2 : Below w.heap.size w w2 := hB1.trans (hb2.mono hB1.size)
  clear T2 hb hb2 hB1
  go_wp2_with (first | (at_lookup; refine wpList_look_tab _ rfl _ _ rfl b l n (by unfold maxLen; omega) T2'.out _ _ _ HL.out (by rfl) (by rfl) ?_) | fail)
  refine (clone_str LT (by omega) _).mono ?_
  rintro e w3 ⟨rfl, hb3⟩
  have hB3 : Below w.heap.size w w3 := (hB2.alloc hB2.size _).trans (hb3.mono (hB2.alloc hB2.size _).size)
  go_wp2
  go_ret2
  exact ⟨rfl, hB3⟩
end Go.Proofs.YtbcfiiilikkkeaaGreatDoor
namespace Go.Proofs.YtbcfiiilikkkeaaGreatDoor
open Go.RowKit Go.Maps Go.Sort
set_option linter.unusedVariables false

theorem tab_get {w : World} {b : Nat} {l : List FileL} (hT : Table w b l) {n A T : ByteArray} {B : Bool} (hn : n.size ≤ maxLen) (hl : Disks.look l n = ((A, T), B)) : (Instr.lookup 129 (.map (some b)) (.string n) false).run Tryz.prog w = .ok (.agg #[.string A, .string T]) w := by
  obtain ⟨D, hown, ht⟩ := hT
  obtain ⟨_, e2⟩ := tab_look ht n
  rw [hl] at e2
  simp only at e2
  obtain ⟨v, ps, hrun, hv⟩ := hown.lookup strK Tryz.underlying129 (zero68 w) (fileElem_mk _ _) (keyS hn)
  obtain ⟨n', t', rfl, hv2⟩ := fileElem_inv hv
  rw [e2] at hv2
  obtain ⟨q1, q2⟩ := fdat_inj (congrArg Prod.fst hv2)
  rw [← q1, ← q2] at hrun
  exact hrun

end Go.Proofs.YtbcfiiilikkkeaaGreatDoor
namespace Go.Proofs.YtbcfiiilikkkeaaGreatDoor
open Go.RowKit
set_option linter.unusedVariables false

/-- A slice of the law's own: n elements of z cells of type e. -/
structure RowD where
  v : Value
  e : TypeId
  z : Nat
  n : Nat
  xs : List Value
structure LawS (w : World) (bs : List (Nat × Obj)) (rows : List RowD) (W : World) : Prop where
  below : Below w.heap.size w W
  has : ∀ p ∈ bs, W.heap[p.1]? = some p.2
  own : ∀ r ∈ rows, W.ownsRow w.heap.size r.e r.z r.v r.n r.xs
  sep : ∀ p ∈ bs, ∀ r ∈ rows, r.v.ownBlock ≠ some p.1
  apart : rows.Pairwise fun r s => r.v.ownBlock = none ∨ r.v.ownBlock ≠ s.v.ownBlock
  dist : bs.Pairwise fun p q => p.1 ≠ q.1
  up : ∀ p ∈ bs, w.heap.size ≤ p.1
theorem LawS.bsz {w W : World} {bs : List (Nat × Obj)} {rows : List RowD} (h : LawS w bs rows W) : ∀ p ∈ bs, p.1 < W.heap.size := fun p hp => (Array.getElem?_eq_some_iff.1 (h.has p hp)).1
theorem LawS.rsz {w W : World} {bs : List (Nat × Obj)} {rows : List RowD} (h : LawS w bs rows W) : ∀ r ∈ rows, ∀ k, r.v.ownBlock = some k → k < W.heap.size := fun r hr k hk => ((h.own r hr).lt k hk).2
theorem LawS.start (w : World) : LawS w [] [] w :=
  ⟨Below.refl _ _, fun p hp => (List.not_mem_nil hp).elim, fun p hp => (List.not_mem_nil hp).elim, fun p hp => (List.not_mem_nil hp).elim, List.Pairwise.nil, List.Pairwise.nil, fun p hp => (List.not_mem_nil hp).elim⟩
theorem LawS.step {w W W' : World} {bs : List (Nat × Obj)} {rows : List RowD} (h : LawS w bs rows W) (hb : Below W.heap.size W W') : LawS w bs rows W' :=
  ⟨h.below.trans (hb.mono h.below.size), fun p hp => (hb.block _ (h.bsz p hp)).trans (h.has p hp), fun p hp => own_kept (h.own p hp) hb, h.sep, h.apart, h.dist, h.up⟩
theorem LawS.drew {w W : World} {bs : List (Nat × Obj)} {rows : List RowD} (h : LawS w bs rows W) : LawS w bs rows W.drew := ⟨h.below.drew, h.has, h.own, h.sep, h.apart, h.dist, h.up⟩
theorem LawS.alloc {w W : World} {bs : List (Nat × Obj)} {rows : List RowD} (h : LawS w bs rows W) (o : Obj) : LawS w ((W.heap.size, o) :: bs) rows (W.alloc o) := by
  have hb : Below W.heap.size W (W.alloc o) := (Below.refl _ _).alloc (Nat.le_refl _) _
  have h2 := h.step hb
  refine ⟨h2.below, fun p hp => ?_, h2.own, fun p hp q hq => ?_, h.apart, List.Pairwise.cons (fun q hq => by have := h.bsz q hq; simp only; omega) h.dist, fun p hp => ?_⟩
  · rcases List.mem_cons.1 hp with rfl | hp
    · exact heap_alloc_new W o
    · exact h2.has p hp
  · rcases List.mem_cons.1 hp with rfl | hp
    · intro e
      have := h.rsz q hq _ e
      exact Nat.lt_irrefl _ this
    · exact h.sep p hp q hq
  · rcases List.mem_cons.1 hp with rfl | hp
    · exact h.below.size
    · exact h.up p hp
/-- A call that answers with a row of its own. -/
theorem LawS.call {w W W' : World} {bs : List (Nat × Obj)} {rows : List RowD} (h : LawS w bs rows W) (hb : Below W.heap.size W W') {v : Value} {e : TypeId} {z n : Nat} {xs : List Value} (hv : W'.ownsRow W.heap.size e z v n xs) : LawS w bs (⟨v, e, z, n, xs⟩ :: rows) W' := by
  have h2 := h.step hb
  refine ⟨h2.below, h2.has, fun p hp => ?_, fun p hp q hq => ?_, List.Pairwise.cons (fun q hq => ?_) h.apart, h.dist, h.up⟩
  · rcases List.mem_cons.1 hp with rfl | hp
    · exact own_mono hv h.below.size
    · exact h2.own p hp
  · rcases List.mem_cons.1 hq with rfl | hq
    · intro e
      have h3 := (hv.lt _ e).1
      have h4 := h.bsz p hp
      omega
    · exact h.sep p hp q hq
  · cases e : v.ownBlock with
    | none => exact Or.inl rfl
    | some k =>
      right
      intro e2
      have h3 := (hv.lt _ e).1
      have h4 := h.rsz q hq k e2.symm
      omega
theorem LawS.row {w W : World} {bs : List (Nat × Obj)} {rows : List RowD} (h : LawS w bs rows W) (i : Nat) {r : RowD} (hi : rows[i]? = some r) : W.ownsRow w.heap.size r.e r.z r.v r.n r.xs := h.own r (List.mem_of_getElem? hi)
end Go.Proofs.YtbcfiiilikkkeaaGreatDoor
namespace Go.Proofs.YtbcfiiilikkkeaaGreatDoor
set_option linter.unusedVariables false
namespace Shelves
open Go
open Batches (by_ by_inj lt)
open Scan (segEnd segSpots segStamp Full by_len)
open Disks (fileAt textOf RawL nameIs)
theorem by_extract (b : ByteArray) (k : Nat) : by_ (b.extract 0 k) = (by_ b).take k := by
  simp [by_, ByteArray.data_extract, Array.toList_extract]
theorem extract_size (t : ByteArray) (k : Nat) : (t.extract 0 k).size ≤ t.size := by
  rw [← by_len, ← by_len, by_extract, List.length_take]; omega
end Shelves
end Go.Proofs.YtbcfiiilikkkeaaGreatDoor
