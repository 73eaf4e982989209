/- The methods of the program's table of files, walked. What the program's table does of a raw write, and of a list of them; the table of a disk. The program's FileAt, walked. The program's table told as a disk: its names collected, sorted, and the files copied in their order. -/
import Derived.Test.YtbcfiiilikkkeaaGreatDoorDiskImplOk
import Derived.Test.YtbcfiiilikkkeaaGreatDoorPutRaw
import Derived.Test.YtbcfiiilikkkeaaGreatDoorMathAt
import Derived.Test.YtbcfiiilikkkeaaGreatDoorShelf
import Derived.Test.YtbcfiiilikkkeaaGreatDoorSh
import Derived.Test.YtbcfiiilikkkeaaGreatDoorLRaw
import Derived.Sort.OwnSorted
import Derived.Sort.KeysCollected
import Derived.Deep.AppendLies
import Derived.Deep.RegionHeld3
namespace Go.Proofs.YtbcfiiilikkkeaaGreatDoor
open Go.RowKit
set_option linter.unusedVariables false

theorem two_0 (w : World) (x y : Obj) : ((w.alloc x).alloc y).heap[w.heap.size]? = some x := by
  rw [Below.heap_alloc _ _ _ (by simp)]; exact heap_alloc_new w x
theorem grown_of_pk {w w' : World} {row : Option Nat} (h : Below w.heap.size w w') : w.grownBy w' row := ⟨h.os, h.tape, h.output, h.size, fun k hk _ => h.block k hk⟩
theorem grown_then {w w' w'' : World} {row : Option Nat} (h : Below w.heap.size w w') (h2 : w'.grownBy w'' row) : w.grownBy w'' row :=
  ⟨h2.os.trans h.os, h2.tape.trans h.tape, h2.output.trans h.output, Nat.le_trans h.size h2.size, fun k hk hne => (h2.block k (Nat.lt_of_lt_of_le hk h.size) hne).trans (h.block k hk)⟩
theorem grown_trans {w w' w'' : World} {row : Option Nat} (h : w.grownBy w' row) (h2 : w'.grownBy w'' row) : w.grownBy w'' row :=
  ⟨h2.os.trans h.os, h2.tape.trans h.tape, h2.output.trans h.output, Nat.le_trans h.size h2.size, fun k hk hne => (h2.block k (Nat.lt_of_lt_of_le hk h.size) hne).trans (h.block k hk hne)⟩
theorem Table.len {w : World} {b : Nat} {l : List FileL} (h : Table w b l) (ha : Disks.asc l) : (Builtin.len_ #[129] 3 #[.map (some b)]).run Tryz.prog w = .ok (.int .i64 (l.length : Int)) w := by
  obtain ⟨D, h1, h2⟩ := h
  rw [← tab_size ha h1 h2]
  exact h1.len Tryz.underlying129 3
/-- What a method that may write the table leaves. -/
def tabPost (w : World) (b : Nat) (l : List FileL) (o : Option (List FileL)) (e : Ending) (w' : World) : Prop :=
  e = .returned (.bool o.isSome) ∧ Table w' b (o.getD l) ∧ w.grownBy w' (some b)

set_option maxHeartbeats 1000000 in
set_option maxRecDepth 100000 in
theorem tabPut_bad (l : List FileL) (ha : Disks.asc l) (hl : l.length ≤ 1000) (n t : ByteArray) (hn : n.size ≤ 2097152) (ht : t.size ≤ 2097152) (b : Nat) (w : World) (hT : Table w b l) (hok : ¬ Disks.fileOk (n, t)) :
    Calls Tryz.prog 284 #[.map (some b), .agg #[.string n, .string t]] w (tabPost w b l none) := by
  obtain ⟨LA, LT, LB, hLL⟩ : ∃ LA LT LB, Disks.look l n = ((LA, LT), LB) := ⟨_, _, _, rfl⟩
  have HL : Hid (Disks.look l n = ((LA, LT), LB)) := hLL
  clear hLL
  have HT : Hid (Table w b l) := hT
  have HA : Hid (Disks.asc l) := ha
  clear hT ha
  go_enter Tryz.func284, Tryz.ntmps284
  go_wp2_with (first | (at_lookup; refine wpList_look_tab _ rfl _ _ rfl b l n (by unfold maxLen; omega) (HT.out.alloc _) _ _ _ HL.out (by rfl) (by rfl) ?_) | fail)
  obtain ⟨W2, hW2⟩ : ∃ W2, W2 = (w.alloc (Obj.cells #[Value.string n, Value.string t] 164)).alloc (Obj.cells #[Value.string LA, Value.string LT] 164) := ⟨_, rfl⟩
  rw [← hW2]
  have T2 : Hid (Table W2 b l) := by show Table W2 b l; rw [hW2]; exact (HT.out.alloc _).alloc _
  have hB2 : Below w.heap.size w W2 := by rw [hW2]; exact ((Below.refl _ _).alloc (Nat.le_refl _) _).alloc (by simp) _
  have c0 : W2.cell? ⟨w.heap.size, 0, none⟩ = some (.string n) := by rw [hW2]; exact cell_of_row _ _ 0 _ _ _ (two_0 w _ _)
  have c1 : W2.cell? ⟨w.heap.size, 1, none⟩ = some (.string t) := by rw [hW2]; exact cell_of_row _ _ 1 _ _ _ (two_0 w _ _)
  clear hW2
  refine (fileOk_no n t hn ht hok W2).mono ?_
  rintro e w3 ⟨rfl, hb3⟩
  have T3 : Hid (Table w3 b l) := T2.out.below hb3
  have hB3 : Below w.heap.size w w3 := hB2.trans (hb3.mono hB2.size)
  have hz : w.heap.size < W2.heap.size := World.block_lt_of_cell? W2 _ c0
  have d0 : w3.cell? ⟨w.heap.size, 0, none⟩ = some (.string n) := (hb3.cell (p := ⟨w.heap.size, 0, none⟩) hz).trans c0
  have d1 : w3.cell? ⟨w.heap.size, 1, none⟩ = some (.string t) := (hb3.cell (p := ⟨w.heap.size, 1, none⟩) hz).trans c1
  clear T2 hB2 c0 c1 hb3 hz
  go_wp2
  go_ret
  exact ⟨rfl, T3.out, grown_of_pk hB3⟩

set_option maxHeartbeats 1000000 in
set_option maxRecDepth 100000 in
theorem tabPut_old (l : List FileL) (ha : Disks.asc l) (hl : l.length ≤ 1000) (n t : ByteArray) (hn : n.size ≤ 2097152) (ht : t.size ≤ 2097152) (b : Nat) (w : World) (hT : Table w b l) (hok : Disks.fileOk (n, t)) (hno : (Disks.look l n).2 = true) :
    Calls Tryz.prog 284 #[.map (some b), .agg #[.string n, .string t]] w (tabPost w b l (some (Disks.put l (n, t)))) := by
  obtain ⟨LA, LT, LB, hLL⟩ : ∃ LA LT LB, Disks.look l n = ((LA, LT), LB) := ⟨_, _, _, rfl⟩
  obtain rfl : LB = true := by rw [hLL] at hno; exact hno
  have HL : Hid (Disks.look l n = ((LA, LT), true)) := hLL
  clear hLL hno
  have HT : Hid (Table w b l) := hT
  have HA : Hid (Disks.asc l) := ha
  clear hT ha
  go_enter Tryz.func284, Tryz.ntmps284
  go_wp2_with (first | (at_lookup; refine wpList_look_tab _ rfl _ _ rfl b l n (by unfold maxLen; omega) (HT.out.alloc _) _ _ _ HL.out (by rfl) (by rfl) ?_) | fail)
  obtain ⟨W2, hW2⟩ : ∃ W2, W2 = (w.alloc (Obj.cells #[Value.string n, Value.string t] 164)).alloc (Obj.cells #[Value.string LA, Value.string LT] 164) := ⟨_, rfl⟩
  rw [← hW2]
  have T2 : Hid (Table W2 b l) := by show Table W2 b l; rw [hW2]; exact (HT.out.alloc _).alloc _
  have hB2 : Below w.heap.size w W2 := by rw [hW2]; exact ((Below.refl _ _).alloc (Nat.le_refl _) _).alloc (by simp) _
  have c0 : W2.cell? ⟨w.heap.size, 0, none⟩ = some (.string n) := by rw [hW2]; exact cell_of_row _ _ 0 _ _ _ (two_0 w _ _)
  have c1 : W2.cell? ⟨w.heap.size, 1, none⟩ = some (.string t) := by rw [hW2]; exact cell_of_row _ _ 1 _ _ _ (two_0 w _ _)
  clear hW2
  refine (fileOk_yes n t hok W2).mono ?_
  rintro e w3 ⟨rfl, hb3⟩
  have T3 : Hid (Table w3 b l) := T2.out.below hb3
  have hB3 : Below w.heap.size w w3 := hB2.trans (hb3.mono hB2.size)
  have hz : w.heap.size < W2.heap.size := World.block_lt_of_cell? W2 _ c0
  have d0 : w3.cell? ⟨w.heap.size, 0, none⟩ = some (.string n) := (hb3.cell (p := ⟨w.heap.size, 0, none⟩) hz).trans c0
  have d1 : w3.cell? ⟨w.heap.size, 1, none⟩ = some (.string t) := (hb3.cell (p := ⟨w.heap.size, 1, none⟩) hz).trans c1
  clear T2 hB2 c0 c1 hb3 hz
  go_wp2_with (first | (at_mapUpdate; refine wpList_put_tab _ rfl _ _ _ rfl b l HA.out hl n t (by unfold maxLen; omega) T3.out (by rfl) (by rfl) (by rfl) ?_; intro w4 T4 g4 _) | fail)
  go_ret
  exact ⟨rfl, T4, grown_then hB3 g4⟩

set_option maxHeartbeats 1000000 in
set_option maxRecDepth 100000 in
theorem tabPut_full (l : List FileL) (ha : Disks.asc l) (hl : l.length ≤ 1000) (n t : ByteArray) (hn : n.size ≤ 2097152) (ht : t.size ≤ 2097152) (b : Nat) (w : World) (hT : Table w b l) (hok : Disks.fileOk (n, t)) (hno : (Disks.look l n).2 = false) (h30 : l.length = 30) :
    Calls Tryz.prog 284 #[.map (some b), .agg #[.string n, .string t]] w (tabPost w b l none) := by
  obtain ⟨LA, LT, LB, hLL⟩ : ∃ LA LT LB, Disks.look l n = ((LA, LT), LB) := ⟨_, _, _, rfl⟩
  obtain rfl : LB = false := by rw [hLL] at hno; exact hno
  have HL : Hid (Disks.look l n = ((LA, LT), false)) := hLL
  clear hLL hno
  have HT : Hid (Table w b l) := hT
  have HA : Hid (Disks.asc l) := ha
  clear hT ha
  go_enter Tryz.func284, Tryz.ntmps284
  go_wp2_with (first | (at_lookup; refine wpList_look_tab _ rfl _ _ rfl b l n (by unfold maxLen; omega) (HT.out.alloc _) _ _ _ HL.out (by rfl) (by rfl) ?_) | fail)
  obtain ⟨W2, hW2⟩ : ∃ W2, W2 = (w.alloc (Obj.cells #[Value.string n, Value.string t] 164)).alloc (Obj.cells #[Value.string LA, Value.string LT] 164) := ⟨_, rfl⟩
  rw [← hW2]
  have T2 : Hid (Table W2 b l) := by show Table W2 b l; rw [hW2]; exact (HT.out.alloc _).alloc _
  have hB2 : Below w.heap.size w W2 := by rw [hW2]; exact ((Below.refl _ _).alloc (Nat.le_refl _) _).alloc (by simp) _
  have c0 : W2.cell? ⟨w.heap.size, 0, none⟩ = some (.string n) := by rw [hW2]; exact cell_of_row _ _ 0 _ _ _ (two_0 w _ _)
  have c1 : W2.cell? ⟨w.heap.size, 1, none⟩ = some (.string t) := by rw [hW2]; exact cell_of_row _ _ 1 _ _ _ (two_0 w _ _)
  clear hW2
  refine (fileOk_yes n t hok W2).mono ?_
  rintro e w3 ⟨rfl, hb3⟩
  have T3 : Hid (Table w3 b l) := T2.out.below hb3
  have hB3 : Below w.heap.size w w3 := hB2.trans (hb3.mono hB2.size)
  have hz : w.heap.size < W2.heap.size := World.block_lt_of_cell? W2 _ c0
  have d0 : w3.cell? ⟨w.heap.size, 0, none⟩ = some (.string n) := (hb3.cell (p := ⟨w.heap.size, 0, none⟩) hz).trans c0
  have d1 : w3.cell? ⟨w.heap.size, 1, none⟩ = some (.string t) := (hb3.cell (p := ⟨w.heap.size, 1, none⟩) hz).trans c1
  clear T2 hB2 c0 c1 hb3 hz
  have hlen := T3.out.len HA.out
  have h3 : ((l.length : Int) == 30) = true := by simp; omega
  clear h30
  go_wp2
  go_ret
  exact ⟨rfl, T3.out, grown_of_pk hB3⟩

set_option maxHeartbeats 1000000 in
set_option maxRecDepth 100000 in
theorem tabPut_new (l : List FileL) (ha : Disks.asc l) (hl : l.length ≤ 1000) (n t : ByteArray) (hn : n.size ≤ 2097152) (ht : t.size ≤ 2097152) (b : Nat) (w : World) (hT : Table w b l) (hok : Disks.fileOk (n, t)) (hno : (Disks.look l n).2 = false) (h30 : l.length ≠ 30) :
    Calls Tryz.prog 284 #[.map (some b), .agg #[.string n, .string t]] w (tabPost w b l (some (Disks.put l (n, t)))) := by
  obtain ⟨LA, LT, LB, hLL⟩ : ∃ LA LT LB, Disks.look l n = ((LA, LT), LB) := ⟨_, _, _, rfl⟩
  obtain rfl : LB = false := by rw [hLL] at hno; exact hno
  have HL : Hid (Disks.look l n = ((LA, LT), false)) := hLL
  clear hLL hno
  have HT : Hid (Table w b l) := hT
  have HA : Hid (Disks.asc l) := ha
  clear hT ha
  go_enter Tryz.func284, Tryz.ntmps284
  go_wp2_with (first | (at_lookup; refine wpList_look_tab _ rfl _ _ rfl b l n (by unfold maxLen; omega) (HT.out.alloc _) _ _ _ HL.out (by rfl) (by rfl) ?_) | fail)
  obtain ⟨W2, hW2⟩ : ∃ W2, W2 = (w.alloc (Obj.cells #[Value.string n, Value.string t] 164)).alloc (Obj.cells #[Value.string LA, Value.string LT] 164) := ⟨_, rfl⟩
  rw [← hW2]
  have T2 : Hid (Table W2 b l) := by show Table W2 b l; rw [hW2]; exact (HT.out.alloc _).alloc _
  have hB2 : Below w.heap.size w W2 := by rw [hW2]; exact ((Below.refl _ _).alloc (Nat.le_refl _) _).alloc (by simp) _
  have c0 : W2.cell? ⟨w.heap.size, 0, none⟩ = some (.string n) := by rw [hW2]; exact cell_of_row _ _ 0 _ _ _ (two_0 w _ _)
  have c1 : W2.cell? ⟨w.heap.size, 1, none⟩ = some (.string t) := by rw [hW2]; exact cell_of_row _ _ 1 _ _ _ (two_0 w _ _)
  clear hW2
  refine (fileOk_yes n t hok W2).mono ?_
  rintro e w3 ⟨rfl, hb3⟩
  have T3 : Hid (Table w3 b l) := T2.out.below hb3
  have hB3 : Below w.heap.size w w3 := hB2.trans (hb3.mono hB2.size)
  have hz : w.heap.size < W2.heap.size := World.block_lt_of_cell? W2 _ c0
  have d0 : w3.cell? ⟨w.heap.size, 0, none⟩ = some (.string n) := (hb3.cell (p := ⟨w.heap.size, 0, none⟩) hz).trans c0
  have d1 : w3.cell? ⟨w.heap.size, 1, none⟩ = some (.string t) := (hb3.cell (p := ⟨w.heap.size, 1, none⟩) hz).trans c1
  clear T2 hB2 c0 c1 hb3 hz
  have hlen := T3.out.len HA.out
  have h3 : ((l.length : Int) == 30) = false := by simp; omega
  clear h30
  go_wp2_with (first | (at_mapUpdate; refine wpList_put_tab _ rfl _ _ _ rfl b l HA.out hl n t (by unfold maxLen; omega) T3.out (by rfl) (by rfl) (by rfl) ?_; intro w4 T4 g4 _) | fail)
  go_ret
  exact ⟨rfl, T4, grown_then hB3 g4⟩

theorem tabPut_is (l : List FileL) (ha : Disks.asc l) (hl : l.length ≤ 1000) (n t : ByteArray) (hn : n.size ≤ 2097152) (ht : t.size ≤ 2097152) (b : Nat) (w : World) (hT : Table w b l) :
    Calls Tryz.prog 284 #[.map (some b), .agg #[.string n, .string t]] w (tabPost w b l (Disks.tput l (n, t))) := by
  unfold Disks.tput
  by_cases hok : Disks.fileOk (n, t)
  · have e1 : Disks.fileOkB (n, t) = true := (Disks.fileOkB_iff _).2 hok
    cases hno : (Disks.look l n).2
    · have e2 : l.any (Disks.nameIs n) = false := by rw [← Disks.look_any]; exact hno
      by_cases h30 : l.length = 30
      · rw [if_neg (by simp [e1, e2, h30])]
        exact tabPut_full l ha hl n t hn ht b w hT hok hno h30
      · rw [if_pos (by simp [e1, e2, h30])]
        exact tabPut_new l ha hl n t hn ht b w hT hok hno h30
    · have e2 : l.any (Disks.nameIs n) = true := by rw [← Disks.look_any]; exact hno
      rw [if_pos (by simp [e1, e2])]
      exact tabPut_old l ha hl n t hn ht b w hT hok hno
  · have e1 : Disks.fileOkB (n, t) = false := by rw [← Bool.not_eq_true, Disks.fileOkB_iff]; exact hok
    rw [if_neg (by simp [e1])]
    exact tabPut_bad l ha hl n t hn ht b w hT hok

set_option maxHeartbeats 1000000 in
set_option maxRecDepth 100000 in
theorem tabDrop_is (l : List FileL) (n : ByteArray) (hn : n.size ≤ 2097152) (b : Nat) (w : World) (hT : Table w b l) :
    Calls Tryz.prog 286 #[.map (some b), .string n] w (tabPost w b l (Disks.tdrop l n)) := by
  unfold Disks.tdrop
  have HT : Hid (Table w b l) := hT
  clear hT
  obtain ⟨LA, LT, LB, hLL⟩ : ∃ LA LT LB, Disks.look l n = ((LA, LT), LB) := ⟨_, _, _, rfl⟩
  have e2 : l.any (Disks.nameIs n) = LB := by rw [← Disks.look_any, hLL]
  have HL : Hid (Disks.look l n = ((LA, LT), LB)) := hLL
  rw [e2]
  clear hLL e2
  have hB2 : ∀ o, Below w.heap.size w (w.alloc o) := fun o => (Below.refl _ _).alloc (Nat.le_refl _) _
  cases LB
  · rw [if_neg (by simp)]
    go_enter Tryz.func286, Tryz.ntmps286
    go_wp2_with (first | (at_lookup; refine wpList_look_tab _ rfl _ _ rfl b l n (by unfold maxLen; omega) HT.out _ _ _ HL.out (by rfl) (by rfl) ?_) | fail)
    go_ret
    exact ⟨rfl, HT.out.alloc _, grown_of_pk (hB2 _)⟩
  · rw [if_pos rfl]
    go_enter Tryz.func286, Tryz.ntmps286
    go_wp2_with (first | (at_lookup; refine wpList_look_tab _ rfl _ _ rfl b l n (by unfold maxLen; omega) HT.out _ _ _ HL.out (by rfl) (by rfl) ?_) | (at_delete; refine wpList_del_tab _ rfl _ _ rfl b l n (by unfold maxLen; omega) (HT.out.alloc _) (by rfl) (by rfl) ?_; intro w4 T4 g4 _) | fail)
    go_ret
    exact ⟨rfl, T4, grown_then (hB2 _) g4⟩

set_option maxHeartbeats 1000000 in
set_option maxRecDepth 100000 in
theorem tabMove_none (l : List FileL) (ha : Disks.asc l) (hl : l.length ≤ 1000) (n tq : ByteArray) (hn : n.size ≤ 2097152) (ht : tq.size ≤ 2097152) (LA LT : ByteArray) (b : Nat) (w : World) (hT : Table w b l) (hL : Disks.look l n = ((LA, LT), false)) :
    Calls Tryz.prog 285 #[.map (some b), .string n, .string tq] w (tabPost w b l none) := by
  have HT : Hid (Table w b l) := hT
  have HA : Hid (Disks.asc l) := ha
  clear hT ha
  have HL : Hid (Disks.look l n = ((LA, LT), false)) := hL
  clear hL
  go_enter Tryz.func285, Tryz.ntmps285
  go_wp2_with (first | (at_lookup; refine wpList_look_tab _ rfl _ _ rfl b l n (by unfold maxLen; omega) HT.out _ _ _ HL.out (by rfl) (by rfl) ?_) | fail)
  go_ret
  exact ⟨rfl, (HT.out.alloc _), grown_of_pk ((Below.refl _ _).alloc (Nat.le_refl _) _)⟩

set_option maxHeartbeats 1000000 in
set_option maxRecDepth 100000 in
theorem tabMove_bad (l : List FileL) (ha : Disks.asc l) (hl : l.length ≤ 1000) (n tq : ByteArray) (hn : n.size ≤ 2097152) (ht : tq.size ≤ 2097152) (LA LT : ByteArray) (b : Nat) (w : World) (hT : Table w b l) (hL : Disks.look l n = ((LA, LT), true)) (hs : LT.size ≤ 2097152) (hok : ¬ Disks.fileOk (tq, LT)) :
    Calls Tryz.prog 285 #[.map (some b), .string n, .string tq] w (tabPost w b l none) := by
  have HT : Hid (Table w b l) := hT
  have HA : Hid (Disks.asc l) := ha
  clear hT ha
  have HL : Hid (Disks.look l n = ((LA, LT), true)) := hL
  clear hL
  go_enter Tryz.func285, Tryz.ntmps285
  go_wp2_with (first | (at_lookup; refine wpList_look_tab _ rfl _ _ rfl b l n (by unfold maxLen; omega) HT.out _ _ _ HL.out (by rfl) (by rfl) ?_) | fail)
  obtain ⟨W2, hW2⟩ : ∃ W2, W2 = w.alloc (Obj.cells #[Value.string tq, Value.string LT] 164) := ⟨_, rfl⟩
  rw [← hW2]
  have T2 : Hid (Table W2 b l) := by show Table W2 b l; rw [hW2]; exact HT.out.alloc _
  have hB2 : Below w.heap.size w W2 := by rw [hW2]; exact (Below.refl _ _).alloc (Nat.le_refl _) _
  have c0 : W2.cell? ⟨w.heap.size, 0, none⟩ = some (.string tq) := by rw [hW2]; exact cell_of_row _ _ 0 _ _ _ (heap_alloc_new w _)
  have c1 : W2.cell? ⟨w.heap.size, 1, none⟩ = some (.string LT) := by rw [hW2]; exact cell_of_row _ _ 1 _ _ _ (heap_alloc_new w _)
  clear hW2
  refine (fileOk_no tq LT ht hs hok W2).mono ?_
  rintro e w3 ⟨rfl, hb3⟩
  have T3 : Hid (Table w3 b l) := T2.out.below hb3
  have hB3 : Below w.heap.size w w3 := hB2.trans (hb3.mono hB2.size)
  have hz : w.heap.size < W2.heap.size := World.block_lt_of_cell? W2 _ c0
  have d0 : w3.cell? ⟨w.heap.size, 0, none⟩ = some (.string tq) := (hb3.cell (p := ⟨w.heap.size, 0, none⟩) hz).trans c0
  have d1 : w3.cell? ⟨w.heap.size, 1, none⟩ = some (.string LT) := (hb3.cell (p := ⟨w.heap.size, 1, none⟩) hz).trans c1
  have hz3 : w.heap.size < w3.heap.size := World.block_lt_of_cell? w3 _ d0
  clear T2 hB2 c0 c1 hb3 hz
  go_wp2
  go_ret
  exact ⟨rfl, T3.out, grown_of_pk hB3⟩

set_option maxHeartbeats 1000000 in
set_option maxRecDepth 100000 in
theorem tabMove_yes (l : List FileL) (ha : Disks.asc l) (hl : l.length ≤ 1000) (n tq : ByteArray) (hn : n.size ≤ 2097152) (ht : tq.size ≤ 2097152) (LA LT : ByteArray) (b : Nat) (w : World) (hT : Table w b l) (hL : Disks.look l n = ((LA, LT), true)) (hok : Disks.fileOk (tq, LT)) (hbl : b < w.heap.size) :
    Calls Tryz.prog 285 #[.map (some b), .string n, .string tq] w (tabPost w b l (some (Disks.put (Disks.drop l n) (tq, LT)))) := by
  have HT : Hid (Table w b l) := hT
  have HA : Hid (Disks.asc l) := ha
  clear hT ha
  have HL : Hid (Disks.look l n = ((LA, LT), true)) := hL
  clear hL
  go_enter Tryz.func285, Tryz.ntmps285
  go_wp2_with (first | (at_lookup; refine wpList_look_tab _ rfl _ _ rfl b l n (by unfold maxLen; omega) HT.out _ _ _ HL.out (by rfl) (by rfl) ?_) | fail)
  obtain ⟨W2, hW2⟩ : ∃ W2, W2 = w.alloc (Obj.cells #[Value.string tq, Value.string LT] 164) := ⟨_, rfl⟩
  rw [← hW2]
  have T2 : Hid (Table W2 b l) := by show Table W2 b l; rw [hW2]; exact HT.out.alloc _
  have hB2 : Below w.heap.size w W2 := by rw [hW2]; exact (Below.refl _ _).alloc (Nat.le_refl _) _
  have c0 : W2.cell? ⟨w.heap.size, 0, none⟩ = some (.string tq) := by rw [hW2]; exact cell_of_row _ _ 0 _ _ _ (heap_alloc_new w _)
  have c1 : W2.cell? ⟨w.heap.size, 1, none⟩ = some (.string LT) := by rw [hW2]; exact cell_of_row _ _ 1 _ _ _ (heap_alloc_new w _)
  clear hW2
  refine (fileOk_yes tq LT hok W2).mono ?_
  rintro e w3 ⟨rfl, hb3⟩
  have T3 : Hid (Table w3 b l) := T2.out.below hb3
  have hB3 : Below w.heap.size w w3 := hB2.trans (hb3.mono hB2.size)
  have hz : w.heap.size < W2.heap.size := World.block_lt_of_cell? W2 _ c0
  have d0 : w3.cell? ⟨w.heap.size, 0, none⟩ = some (.string tq) := (hb3.cell (p := ⟨w.heap.size, 0, none⟩) hz).trans c0
  have d1 : w3.cell? ⟨w.heap.size, 1, none⟩ = some (.string LT) := (hb3.cell (p := ⟨w.heap.size, 1, none⟩) hz).trans c1
  have hz3 : w.heap.size < w3.heap.size := World.block_lt_of_cell? w3 _ d0
  clear T2 hB2 c0 c1 hb3 hz
  have hne : b ≠ w.heap.size := by omega
  go_wp2_with (first | (at_delete; refine wpList_del_tab _ rfl _ _ rfl b l n (by unfold maxLen; omega) T3.out (by rfl) (by rfl) ?_; intro w4 T4 g4 _; (have T4' : Hid (Table w4 b (Disks.drop l n)) := T4); (have e0 : w4.cell? ⟨w.heap.size, 0, none⟩ = some (.string tq) := (cell_grown g4 hz3 hne).trans d0); (have e1 : w4.cell? ⟨w.heap.size, 1, none⟩ = some (.string LT) := (cell_grown g4 hz3 hne).trans d1); clear T4 d0 d1) | (at_mapUpdate; refine wpList_put_tab _ rfl _ _ _ rfl b (Disks.drop l n) (Disks.drop_asc HA.out n) (Nat.le_trans (List.length_filter_le _ _) hl) tq LT (by unfold maxLen; omega) T4'.out (by rfl) (by rfl) (by rfl) ?_; intro w5 T5 g5 _) | fail)
  go_ret
  exact ⟨rfl, T5, grown_then hB3 (grown_trans g4 g5)⟩

theorem tabMove_is (l : List FileL) (ha : Disks.asc l) (hl : l.length ≤ 1000) (hs : ∀ f ∈ l, f.2.size ≤ 2097152) (n tq : ByteArray) (hn : n.size ≤ 2097152) (ht : tq.size ≤ 2097152) (b : Nat) (w : World) (hT : Table w b l) :
    Calls Tryz.prog 285 #[.map (some b), .string n, .string tq] w (tabPost w b l (Disks.tmove l n tq)) := by
  unfold Disks.tmove
  obtain ⟨LA, LT, LB, hLL⟩ : ∃ LA LT LB, Disks.look l n = ((LA, LT), LB) := ⟨_, _, _, rfl⟩
  have e2 : l.any (Disks.nameIs n) = LB := by rw [← Disks.look_any, hLL]
  have e3 : Disks.textOf l n = LT := by rw [← Disks.look_text, hLL]
  rw [e2, e3]
  cases LB
  · rw [if_neg (by simp)]
    exact tabMove_none l ha hl n tq hn ht LA LT b w hT hLL
  · have hm := (Disks.look_some (l := l) (n := n) (by rw [hLL])).1
    rw [hLL] at hm
    by_cases hok : Disks.fileOk (tq, LT)
    · rw [if_pos (by simp [(Disks.fileOkB_iff _).2 hok])]
      exact tabMove_yes l ha hl n tq hn ht LA LT b w hT hLL hok hT.lt
    · have e1 : Disks.fileOkB (tq, LT) = false := by rw [← Bool.not_eq_true, Disks.fileOkB_iff]; exact hok
      rw [if_neg (by simp [e1])]
      exact tabMove_bad l ha hl n tq hn ht LA LT b w hT hLL (hs _ hm) hok

end Go.Proofs.YtbcfiiilikkkeaaGreatDoor
namespace Go.Proofs.YtbcfiiilikkkeaaGreatDoor
open Go.RowKit
set_option linter.unusedVariables false

set_option maxRecDepth 100000 in
theorem field68 (A T : ByteArray) (w : World) : (Instr.field 164 (.agg #[.string A, .string T]) 1).run Tryz.prog w = .ok (.string T) w := by
  kernel_rfl
theorem tabPost_up {w W : World} {b : Nat} {l : List FileL} {o : Option (List FileL)} {e : Ending} {w' : World} (hB : Below w.heap.size w W) (h : tabPost W b l o e w') : tabPost w b l o e w' := ⟨h.1, h.2.1, grown_then hB h.2.2⟩

set_option maxHeartbeats 1000000 in
set_option maxRecDepth 100000 in
theorem tabDo_1 (l : List FileL) (hok : Disks.ok l) (M O X : ByteArray) (hM : M.size ≤ 1048576) (hO : O.size ≤ 1048576) (hX : X.size ≤ 1048576) (b : Nat) (w : World) (hT : Table w b l) :
    Calls Tryz.prog 241 #[.map (some b), .agg #[.int .i64 1, .string M, .string O, .string X]] w (tabPost w b l (Disks.tput l (M, X))) := by
  have HT : Hid (Table w b l) := hT
  have HO : Hid (Disks.ok l) := hok
  clear hT hok
  obtain ⟨hl30, hfo, hasc⟩ := (Disks.ok_iff l).1 HO.out
  have HF : Hid (∀ f ∈ l, Disks.fileOk f) := hfo
  have HA : Hid (Disks.asc l) := hasc
  clear hfo hasc
  go_enter Tryz.func241, Tryz.ntmps241
  go_wp2_with fail
  obtain ⟨W1, hW1⟩ : ∃ W1, W1 = w.alloc (Obj.cells #[Value.int .i64 1, Value.string M, Value.string O, Value.string X] 103) := ⟨_, rfl⟩
  rw [← hW1]
  have T1 : Hid (Table W1 b l) := by show Table W1 b l; rw [hW1]; exact HT.out.alloc _
  have hB1 : Below w.heap.size w W1 := by rw [hW1]; exact (Below.refl _ _).alloc (Nat.le_refl _) _
  clear hW1
  refine (tabPut_is l HA.out (by omega) M X (by omega) (by omega) b W1 T1.out).mono ?_
  rintro e w3 ⟨rfl, T3, g3⟩
  have T3' : Hid (Table w3 b _) := T3
  clear T3
  go_wp2
  go_ret
  exact tabPost_up hB1 ⟨rfl, T3'.out, g3⟩

set_option maxHeartbeats 1000000 in
set_option maxRecDepth 100000 in
theorem tabDo_2 (l : List FileL) (hok : Disks.ok l) (M O X : ByteArray) (hM : M.size ≤ 1048576) (hO : O.size ≤ 1048576) (hX : X.size ≤ 1048576) (b : Nat) (w : World) (hT : Table w b l) :
    Calls Tryz.prog 241 #[.map (some b), .agg #[.int .i64 2, .string M, .string O, .string X]] w (tabPost w b l (Disks.tput l (M, Disks.textOf l M ++ X))) := by
  have HT : Hid (Table w b l) := hT
  have HO : Hid (Disks.ok l) := hok
  clear hT hok
  obtain ⟨hl30, hfo, hasc⟩ := (Disks.ok_iff l).1 HO.out
  have HF : Hid (∀ f ∈ l, Disks.fileOk f) := hfo
  have HA : Hid (Disks.asc l) := hasc
  clear hfo hasc
  obtain ⟨LA, LT, LB, hLL⟩ : ∃ LA LT LB, Disks.look l M = ((LA, LT), LB) := ⟨_, _, _, rfl⟩
  have e3 : Disks.textOf l M = LT := by rw [← Disks.look_text, hLL]
  have hs : LT.size ≤ 20000 := by
    cases LB
    · have := Disks.look_none (l := l) (n := M) (by rw [hLL]); rw [hLL] at this; cases this; exact Nat.zero_le _
    · have hm := (Disks.look_some (l := l) (n := M) (by rw [hLL])).1; rw [hLL] at hm; exact (HF.out _ hm).2.2
  have HL : Hid (Disks.look l M = ((LA, LT), LB)) := hLL
  have hfd := fun wx => field68 LA LT wx
  rw [e3]
  clear hLL e3
  go_enter Tryz.func241, Tryz.ntmps241
  go_wp2_with (first | (at_lookup; refine wpList_get_tab _ rfl _ _ rfl b l M (by unfold maxLen; omega) (HT.out.alloc _) _ _ _ HL.out (by rfl) (by rfl) ?_) | fail)
  obtain ⟨W1, hW1⟩ : ∃ W1, W1 = w.alloc (Obj.cells #[Value.int .i64 2, Value.string M, Value.string O, Value.string X] 103) := ⟨_, rfl⟩
  rw [← hW1]
  have T1 : Hid (Table W1 b l) := by show Table W1 b l; rw [hW1]; exact HT.out.alloc _
  have hB1 : Below w.heap.size w W1 := by rw [hW1]; exact (Below.refl _ _).alloc (Nat.le_refl _) _
  clear hW1
  refine (tabPut_is l HA.out (by omega) M (LT ++ X) (by omega) (by rw [ByteArray.size_append]; omega) b W1 T1.out).mono ?_
  rintro e w3 ⟨rfl, T3, g3⟩
  have T3' : Hid (Table w3 b _) := T3
  clear T3
  go_wp2
  go_ret
  exact tabPost_up hB1 ⟨rfl, T3'.out, g3⟩

set_option maxHeartbeats 1000000 in
set_option maxRecDepth 100000 in
theorem tabDo_3 (l : List FileL) (hok : Disks.ok l) (M O X : ByteArray) (hM : M.size ≤ 1048576) (hO : O.size ≤ 1048576) (hX : X.size ≤ 1048576) (b : Nat) (w : World) (hT : Table w b l) :
    Calls Tryz.prog 241 #[.map (some b), .agg #[.int .i64 3, .string M, .string O, .string X]] w (tabPost w b l (Disks.tmove l M O)) := by
  have HT : Hid (Table w b l) := hT
  have HO : Hid (Disks.ok l) := hok
  clear hT hok
  obtain ⟨hl30, hfo, hasc⟩ := (Disks.ok_iff l).1 HO.out
  have HF : Hid (∀ f ∈ l, Disks.fileOk f) := hfo
  have HA : Hid (Disks.asc l) := hasc
  clear hfo hasc
  go_enter Tryz.func241, Tryz.ntmps241
  go_wp2_with fail
  obtain ⟨W1, hW1⟩ : ∃ W1, W1 = w.alloc (Obj.cells #[Value.int .i64 3, Value.string M, Value.string O, Value.string X] 103) := ⟨_, rfl⟩
  rw [← hW1]
  have T1 : Hid (Table W1 b l) := by show Table W1 b l; rw [hW1]; exact HT.out.alloc _
  have hB1 : Below w.heap.size w W1 := by rw [hW1]; exact (Below.refl _ _).alloc (Nat.le_refl _) _
  clear hW1
  refine (tabMove_is l HA.out (by omega) (fun f hf => by have := (HF.out f hf).2.2; omega) M O (by omega) (by omega) b W1 T1.out).mono ?_
  rintro e w3 ⟨rfl, T3, g3⟩
  have T3' : Hid (Table w3 b _) := T3
  clear T3
  go_wp2
  go_ret
  exact tabPost_up hB1 ⟨rfl, T3'.out, g3⟩

set_option maxHeartbeats 1000000 in
set_option maxRecDepth 100000 in
theorem tabDo_4 (l : List FileL) (hok : Disks.ok l) (M O X : ByteArray) (hM : M.size ≤ 1048576) (hO : O.size ≤ 1048576) (hX : X.size ≤ 1048576) (b : Nat) (w : World) (hT : Table w b l) :
    Calls Tryz.prog 241 #[.map (some b), .agg #[.int .i64 4, .string M, .string O, .string X]] w (tabPost w b l (Disks.tdrop l M)) := by
  have HT : Hid (Table w b l) := hT
  have HO : Hid (Disks.ok l) := hok
  clear hT hok
  obtain ⟨hl30, hfo, hasc⟩ := (Disks.ok_iff l).1 HO.out
  have HF : Hid (∀ f ∈ l, Disks.fileOk f) := hfo
  have HA : Hid (Disks.asc l) := hasc
  clear hfo hasc
  go_enter Tryz.func241, Tryz.ntmps241
  go_wp2_with fail
  obtain ⟨W1, hW1⟩ : ∃ W1, W1 = w.alloc (Obj.cells #[Value.int .i64 4, Value.string M, Value.string O, Value.string X] 103) := ⟨_, rfl⟩
  rw [← hW1]
  have T1 : Hid (Table W1 b l) := by show Table W1 b l; rw [hW1]; exact HT.out.alloc _
  have hB1 : Below w.heap.size w W1 := by rw [hW1]; exact (Below.refl _ _).alloc (Nat.le_refl _) _
  clear hW1
  refine (tabDrop_is l M (by omega) b W1 T1.out).mono ?_
  rintro e w3 ⟨rfl, T3, g3⟩
  have T3' : Hid (Table w3 b _) := T3
  clear T3
  go_wp2
  go_ret
  exact tabPost_up hB1 ⟨rfl, T3'.out, g3⟩

set_option maxHeartbeats 1000000 in
set_option maxRecDepth 100000 in
theorem tabDo_o (l : List FileL) (hok : Disks.ok l) (K : Int) (M O X : ByteArray) (hM : M.size ≤ 1048576) (hO : O.size ≤ 1048576) (hX : X.size ≤ 1048576) (h1 : (K == 1) = false) (h2 : (K == 2) = false) (h3 : (K == 3) = false) (h4 : (K == 4) = false) (b : Nat) (w : World) (hT : Table w b l) :
    Calls Tryz.prog 241 #[.map (some b), .agg #[.int .i64 K, .string M, .string O, .string X]] w (tabPost w b l none) := by
  have HT : Hid (Table w b l) := hT
  have HO : Hid (Disks.ok l) := hok
  clear hT hok
  obtain ⟨hl30, hfo, hasc⟩ := (Disks.ok_iff l).1 HO.out
  have HF : Hid (∀ f ∈ l, Disks.fileOk f) := hfo
  have HA : Hid (Disks.asc l) := hasc
  clear hfo hasc
  go_enter Tryz.func241, Tryz.ntmps241
  go_wp2
  go_ret
  exact ⟨rfl, HT.out.alloc _, grown_of_pk ((Below.refl _ _).alloc (Nat.le_refl _) _)⟩

theorem tabDo_is (l : List FileL) (hok : Disks.ok l) (r : Disks.RawL) (hr : r.name.size ≤ 1048576 ∧ r.to.size ≤ 1048576 ∧ r.text.size ≤ 1048576) (b : Nat) (w : World) (hT : Table w b l) :
    Calls Tryz.prog 241 #[.map (some b), rawV r] w (tabPost w b l (Disks.putRaw l r)) := by
  rw [← Disks.tdo_is hok]
  obtain ⟨K, M, O, X⟩ := r
  obtain ⟨hM, hO, hX⟩ := hr
  unfold Disks.tdo rawV
  simp only at hM hO hX ⊢
  by_cases k1 : K = 1
  · subst k1; rw [if_pos rfl]; exact tabDo_1 l hok M O X hM hO hX b w hT
  · rw [if_neg k1]
    by_cases k2 : K = 2
    · subst k2; rw [if_pos rfl]; exact tabDo_2 l hok M O X hM hO hX b w hT
    · rw [if_neg k2]
      by_cases k3 : K = 3
      · subst k3; rw [if_pos rfl]; exact tabDo_3 l hok M O X hM hO hX b w hT
      · rw [if_neg k3]
        by_cases k4 : K = 4
        · subst k4; rw [if_pos rfl]; exact tabDo_4 l hok M O X hM hO hX b w hT
        · rw [if_neg k4]; exact tabDo_o l hok K M O X hM hO hX (beq_eq_false_iff_ne.2 k1) (beq_eq_false_iff_ne.2 k2) (beq_eq_false_iff_ne.2 k3) (beq_eq_false_iff_ne.2 k4) b w hT

set_option maxHeartbeats 1000000 in
set_option maxRecDepth 100000 in
theorem filesOf_no {a : Option Addr} {g off cap : Nat} (l : List FileL) (hlen : l.length ≤ 1048576) (hsz : ∀ f ∈ l, f.1.size ≤ 1048576 ∧ f.2.size ≤ 1048576) (hno : ¬ Disks.ok l) (w : World) (hf : FilesAt w a g off l) :
    Calls Tryz.prog 92 #[.agg #[.slice a l.length cap]] w fun e w' => e = .returned (.tuple #[.map none, .bool false]) ∧ Below w.heap.size w w' := by
  have HF : Hid (FilesAt w a g off l) := hf
  have HS : Hid (∀ f ∈ l, f.1.size ≤ 1048576 ∧ f.2.size ≤ 1048576) := hsz
  have HN : Hid (¬ Disks.ok l) := hno
  clear hf hsz hno
  go_enter Tryz.func92, Tryz.ntmps92
  go_wp2_with fail
  obtain ⟨W1, hW1⟩ : ∃ W1, W1 = w.alloc (Obj.cells #[Value.slice a l.length cap] 46) := ⟨_, rfl⟩
  rw [← hW1]
  have hB1 : Below w.heap.size w W1 := by rw [hW1]; exact (Below.refl _ _).alloc (Nat.le_refl _) _
  clear hW1
  refine (implDiskOk_any false l hlen W1 (HF.out.kept hB1) HS.out ⟨fun h => absurd h Bool.false_ne_true, fun h => absurd h HN.out⟩).mono ?_
  rintro e w2 ⟨rfl, hb2⟩
  go_wp2
  go_ret2
  exact ⟨rfl, hB1.trans (hb2.mono hB1.size)⟩

set_option maxHeartbeats 2000000 in
set_option maxRecDepth 100000 in
theorem filesOf_yes {a : Option Addr} {g off cap : Nat} (l : List FileL) (hok : Disks.ok l) (w : World) (hf : FilesAt w a g off l) :
    Calls Tryz.prog 92 #[.agg #[.slice a l.length cap]] w fun e w' => ∃ b, e = .returned (.tuple #[.map (some b), .bool true]) ∧ w.heap.size ≤ b ∧ Table w' b l ∧ Below w.heap.size w w' := by
  have HF : Hid (FilesAt w a g off l) := hf
  obtain ⟨hl30, hfo, hasc⟩ := (Disks.ok_iff l).1 hok
  have HS : Hid (∀ f ∈ l, f.1.size ≤ 1048576 ∧ f.2.size ≤ 1048576) := fun f hf => by obtain ⟨_, h1, h2⟩ := hfo f hf; omega
  have HK : Hid (Disks.ok l) := hok
  have HA : Hid (Disks.asc l) := hasc
  clear hf hfo hok hasc
  have hmk := make_tab
  go_enter Tryz.func92, Tryz.ntmps92
  go_wp2_with fail
  obtain ⟨W1, hW1⟩ : ∃ W1, W1 = w.alloc (Obj.cells #[Value.slice a l.length cap] 46) := ⟨_, rfl⟩
  rw [← hW1]
  have hB1 : Below w.heap.size w W1 := by rw [hW1]; exact (Below.refl _ _).alloc (Nat.le_refl _) _
  have c1 : W1.cell? ⟨w.heap.size, 0, none⟩ = some (.slice a l.length cap) := by rw [hW1]; exact cell_of_row _ _ 0 _ _ _ (heap_alloc_new w _)
  clear hW1
  refine (implDiskOk_any true l (by omega) W1 (HF.out.kept hB1) HS.out ⟨fun _ => HK.out, fun _ => rfl⟩).mono ?_
  rintro e w2 ⟨rfl, hb2⟩
  have hB2 : Below w.heap.size w w2 := hB1.trans (hb2.mono hB1.size)
  have c2 : w2.cell? ⟨w.heap.size, 0, none⟩ = some (.slice a l.length cap) := (hb2.cell (p := ⟨w.heap.size, 0, none⟩) (World.block_lt_of_cell? W1 _ c1)).trans c1
  have hz2 : w.heap.size < w2.heap.size := World.block_lt_of_cell? w2 _ c2
  clear hb2 c1 hB1
  go_wp2_with fail
  obtain ⟨W3, hW3⟩ : ∃ W3, W3 = w2.alloc (Obj.map #[] 0) := ⟨_, rfl⟩
  obtain ⟨B, hB⟩ : ∃ B, B = w2.heap.size := ⟨_, rfl⟩
  rw [← hW3, ← hB]
  have T3 : Hid (Table W3 B (l.take 0)) := by show Table W3 B _; rw [hW3, hB]; exact table_made w2
  have hB3 : Below w.heap.size w W3 := by rw [hW3]; exact hB2.alloc hB2.size _
  have hwB : w.heap.size ≤ B := by omega
  clear hW3 hB hB2 hz2 c2 hmk
  go_loopw [17] (fun i wr => ∃ k : Nat, k ≤ l.length ∧ i = .int .i64 (k : Int) ∧ Hid (Table wr B (l.take k)) ∧ Below w.heap.size w wr)
    (fun i _ => l.length - (intOf i).toNat)
  case atStart => exact ⟨0, Nat.zero_le _, rfl, T3, hB3⟩
  case round =>
    obtain ⟨k, hk, rfl, TR, hbel⟩ := hrel
    by_cases hlt : k < l.length
    · obtain ⟨c0, c1⟩ := (HF.out.kept hbel).2 k hlt
      have ea := HF.out.1 (by omega)
      subst ea
      obtain ⟨A, hA⟩ : ∃ A, A = l[k].1 := ⟨_, rfl⟩
      obtain ⟨T, hT⟩ : ∃ T, T = l[k].2 := ⟨_, rfl⟩
      obtain ⟨s0, s1⟩ := HS.out l[k] (List.getElem_mem _)
      rw [← hA] at c0 s0
      rw [← hT] at c1 s1
      have HP : Hid (Disks.put (l.take k) (A, T) = l.take (k + 1)) := by show _ = _; rw [hA, hT]; exact Disks.take_put HA.out hlt
      have hk0 : (0 : Int) ≤ (k : Int) := by omega
      have hk1 : (k : Int) < (l.length : Int) := by omega
      clear hA hT
      go_wp2_with (first | (at_mapUpdate; refine wpList_put_tab _ rfl _ _ _ rfl B (l.take k) (List.Pairwise.take HA.out) (by rw [List.length_take]; omega) A T (by unfold maxLen; omega) (TR.out.alloc _) (by rfl) (by rfl) (by rfl) ?_; intro w4 T4 g4 _; go_frame) | fail)
      have hB4 : Below w.heap.size w w4 := (hbel.alloc hbel.size _).grown g4 (by simp; have := hbel.size; omega) (fun j hj => by cases hj; exact hwB)
      rw [HP.out] at T4
      have T4' : Hid (Table w4 B (l.take (k + 1))) := T4
      clear T4 g4
      go_wp2
      go_roundw
      case rel => exact ⟨k + 1, by omega, by go_num, T4', hB4⟩
      case measure => simp [intOf]; omega
    · have hk1 : ¬ (k : Int) < (l.length : Int) := by omega
      have TR' : Hid (Table wr B l) := by show Table wr B l; have := TR.out; rwa [List.take_of_length_le (by omega)] at this
      go_wp2
      go_ret2
      exact ⟨B, rfl, hwB, TR'.out, hbel⟩

end Go.Proofs.YtbcfiiilikkkeaaGreatDoor
namespace Go.Proofs.YtbcfiiilikkkeaaGreatDoor
open Go.RowKit
set_option linter.unusedVariables false

set_option maxHeartbeats 400000 in
theorem clone_str (s : ByteArray) (h : s.size ≤ 281474976710656) (w : World) :
    Calls Tryz.prog 95 #[.string s] w fun e w' => e = .returned (.string s) ∧ Below w.heap.size w w' := by
  go_enter Tryz.func95, Tryz.ntmps95
  go_wp2_with (go_at_call 157; refine (Tryz.stringslite_Clone s _ h).mono ?_; rintro e w1 ⟨rfl, hb1⟩)
  go_ret
  exact ⟨rfl, hb1⟩
set_option maxHeartbeats 1000000 in
set_option maxRecDepth 100000 in
theorem implFileAt_yes {a : Option Addr} {g off cap : Nat} (l : List FileL) (hok : Disks.ok l) (n : ByteArray) (hn : n.size ≤ 1048576) (LA LT : ByteArray) (LB : Bool) (hL : Disks.look l n = ((LA, LT), LB)) (hs : LT.size ≤ 20000) (w : World) (hf : FilesAt w a g off l) :
    Calls Tryz.prog 117 #[.agg #[.slice a l.length cap], .string n] w fun e w' => e = .returned (.tuple #[.string LT, .bool LB]) ∧ Below w.heap.size w w' := by
  have HF : Hid (FilesAt w a g off l) := hf
  have HK : Hid (Disks.ok l) := hok
  have HL : Hid (Disks.look l n = ((LA, LT), LB)) := hL
  clear hf hok hL
  go_enter Tryz.func117, Tryz.ntmps117
  go_wp2_with fail
  obtain ⟨W1, hW1⟩ : ∃ W1, W1 = w.alloc (Obj.cells #[Value.slice a l.length cap] 46) := ⟨_, rfl⟩
  rw [← hW1]
  have hB1 : Below w.heap.size w W1 := by rw [hW1]; exact (Below.refl _ _).alloc (Nat.le_refl _) _
  clear hW1
  refine (filesOf_yes l HK.out W1 (HF.out.kept hB1)).mono ?_
  rintro e w2 ⟨b, rfl, hb, T2, hb2⟩
  have T2' : Hid (Table w2 b l) := T2
  have hB2 : Below w.heap.size w w2 := hB1.trans (hb2.mono hB1.size)
  clear T2 hb hb2 hB1
  go_wp2_with (first | (at_lookup; refine wpList_look_tab _ rfl _ _ rfl b l n (by unfold maxLen; omega) T2'.out _ _ _ HL.out (by rfl) (by rfl) ?_) | fail)
  refine (clone_str LT (by omega) _).mono ?_
  rintro e w3 ⟨rfl, hb3⟩
  have hB3 : Below w.heap.size w w3 := (hB2.alloc hB2.size _).trans (hb3.mono (hB2.alloc hB2.size _).size)
  go_wp2
  go_ret2
  exact ⟨rfl, hB3⟩
end Go.Proofs.YtbcfiiilikkkeaaGreatDoor
namespace Go.Proofs.YtbcfiiilikkkeaaGreatDoor
open Go.RowKit Go.Maps Go.Sort
set_option linter.unusedVariables false

/-- The names of a disk that ascends, sorted. -/
theorem sorted_names {l : List FileL} (h : Disks.asc l) {ss : List (List UInt8)} (hp : ss.Perm (l.map fun f => Disks.key f.1)) : ss.mergeSort (fun x y => decide (x ≤ y)) = l.map fun f => Disks.key f.1 := by
  have e := mergeSort_of_perm hp
  unfold leB at e
  rw [e]
  refine List.mergeSort_of_pairwise (List.pairwise_map.2 (List.Pairwise.imp (fun {a b} hab => ?_) h))
  simp only [decide_eq_true_eq]
  exact List.le_of_lt ((Disks.lt_iff _ _).1 hab)
theorem enc_key (s : ByteArray) : encStr (Disks.key s) = .string s := by
  show Value.string ⟨(Disks.key s).toArray⟩ = .string s
  exact congrArg Value.string (Disks.key_inj (by simp [Disks.key]))

/-- What stands while the files are copied: those that are, the names, the table. -/
structure ToldAt (B g cap b : Nat) (l : List FileL) (W0 wr : World) (v : Value) (k : Nat) : Prop where
  row : wr.ownsRow B 164 2 v k (cellsF (l.take k))
  names : wr.ownsRow B 9 1 (.slice (some ⟨g, 0, none⟩) l.length cap) l.length (l.map fun f => Value.string f.1)
  apart : v.ownBlock ≠ some g
  tab : Table wr b l
  below : Below B W0 wr
  up : B ≤ wr.heap.size
theorem ToldAt.step {B g cap b : Nat} {l : List FileL} {W0 wr : World} {v : Value} {k : Nat} (h : ToldAt B g cap b l W0 wr v k) (hbB : b < B) (hgw : g < wr.heap.size) {wa wb w8 : World} {o : Obj} {g2 cap2 : Nat} (ha : Below wr.drew.heap.size wr.drew wa) (hb : Below wa.heap.size wa wb)
    (hown : w8.ownsRow B 164 2 (.slice (some ⟨g2, 0, none⟩) (k + 1) cap2) (k + 1) (cellsF (l.take (k + 1)))) (hg : (wb.alloc o).grownBy w8 v.ownBlock) (hat : v.ownBlock = some g2 ∨ g2 = wb.heap.size + 1) : ToldAt B g cap b l W0 w8 (.slice (some ⟨g2, 0, none⟩) (k + 1) cap2) (k + 1) := by
  have hab : Below wr.heap.size wr wb := by
    have h1 : Below wr.heap.size wr wa := ⟨ha.os, ha.tape, ha.output, ha.size, ha.block⟩
    exact h1.trans (hb.mono h1.size)
  have hab2 : Below wr.heap.size wr (wb.alloc o) := hab.alloc hab.size _
  have hne : some b ≠ v.ownBlock := fun e => by have := (h.row.lt b e.symm).1; omega
  refine ⟨hown, (own_kept h.names hab2).kept hg (Or.inr ?_), ?_, (h.tab.below hab2).kept hg hne, ?_, ?_⟩
  · intro e; exact h.apart e.symm
  · intro e
    have e1 : g2 = g := by simpa [Value.ownBlock] using e
    rcases hat with q | q
    · rw [e1] at q; exact h.apart q
    · have := hab.size; omega
  · exact (h.below.trans (hab2.mono h.up)).grown hg (Nat.le_trans h.up hab2.size) (fun j hj => (h.row.lt j hj).1)
  · exact Nat.le_trans h.up (Nat.le_trans hab2.size hg.size)
theorem tab_get {w : World} {b : Nat} {l : List FileL} (hT : Table w b l) {n A T : ByteArray} {B : Bool} (hn : n.size ≤ maxLen) (hl : Disks.look l n = ((A, T), B)) : (Instr.lookup 129 (.map (some b)) (.string n) false).run Tryz.prog w = .ok (.agg #[.string A, .string T]) w := by
  obtain ⟨D, hown, ht⟩ := hT
  obtain ⟨_, e2⟩ := tab_look ht n
  rw [hl] at e2
  simp only at e2
  obtain ⟨v, ps, hrun, hv⟩ := hown.lookup strK Tryz.underlying129 (zero68 w) (fileElem_mk _ _) (keyS hn)
  obtain ⟨n', t', rfl, hv2⟩ := fileElem_inv hv
  rw [e2] at hv2
  obtain ⟨q1, q2⟩ := fdat_inj (congrArg Prod.fst hv2)
  rw [← q1, ← q2] at hrun
  exact hrun

set_option maxHeartbeats 4000000 in
set_option maxRecDepth 100000 in
theorem told_is_pk (l : List FileL) (hok : Disks.ok l) (b : Nat) (w : World) (hT : Table w b l) :
    Calls Tryz.prog 196 #[.map (some b)] w fun e w' => ∃ v, e = .returned (.agg #[v]) ∧ w'.ownsRow w.heap.size 164 2 v l.length (cellsF l) ∧ Below w.heap.size w w' := by
  obtain ⟨i0, hi, hz0, hz1, hz2⟩ := info_parts Tryz.info9
  obtain ⟨j0, hj, hy0, hy1, hy2⟩ := info_parts Tryz.info164
  obtain ⟨hl30, hfo, hasc⟩ := (Disks.ok_iff l).1 hok
  have HFO : Hid (∀ f ∈ l, Disks.fileOk f) := hfo
  have HA : Hid (Disks.asc l) := hasc
  obtain ⟨D0, hown, htab⟩ := hT
  have hsz : Maps.size D0 ≤ 30 := by rw [tab_size hasc hown htab]; exact hl30
  have HK : Hid ((l.map fun f => Disks.key f.1).Perm (strKeys D0)) := tab_keys hasc hown htab
  have HTB : Hid (TabIs l D0) := htab
  have hbl := hown.lt
  clear hfo hasc hok htab
  obtain ⟨n, hn⟩ : ∃ n, n = Maps.size D0 := ⟨_, rfl⟩
  have hn30 : n ≤ 30 := by omega
  rw [← hn] at hown
  have HN : Hid (n = Maps.size D0) := hn
  clear hn
  go_enter Tryz.func196, Tryz.ntmps196
  go_wp2_with (first
    | (at_len; refine wpList_len_own _ rfl _ 129 rfl 9 164 Tryz.underlying129 _ b n _ rfl (hown.alloc _) ?_)
    | (at_make; refine wpList_make_own _ rfl _ _ 158 rfl (w.heap.size + 1) 9 i0 (.string ⟨#[]⟩) 1 Tryz.underlying158 hi hz0 hz1 _ _ _ (Maps.size D0) rfl rfl rfl (by rw [hz2]; omega) (by unfold maxLen; omega) (by simp) ?_; intro w1 hrow1 hg1)
    | (at_range; refine wpList_range_own _ rfl _ 129 rfl 9 164 strK Tryz.underlying129 _ b n _ rfl ((hown.alloc _).kept hg1 (by simp)) ?_; intro w0 hrg0 hg0 hs0)
    | fail)
  go_frame
  obtain ⟨W0, hW0⟩ : ∃ W0, W0 = w.alloc (Obj.cells #[Value.slice none 0 0] 46) := ⟨_, rfl⟩
  have HW0 : Hid (W0.heap[w.heap.size]? = some (.cells #[.slice none 0 0] 46 (0, 0))) := by show _ = _; rw [hW0]; exact heap_alloc_new w _
  have hz0' : W0.heap.size = w.heap.size + 1 := by rw [hW0]; simp
  have HB0 : Hid (Below w.heap.size w W0) := by show Below _ _ _; rw [hW0]; exact (Below.refl _ _).alloc (Nat.le_refl _) _
  rw [← hW0] at hg1
  have hrow1' : w1.ownsRow (w.heap.size + 1) 9 1 (.slice (some ⟨w.heap.size + 1, 0, none⟩) 0 (size D0)) 0 [] := by simpa using hrow1
  have hgz1 := hg1.size
  rw [hz0'] at hgz1
  have HZ0 : Hid (W0.heap.size = w.heap.size + 1) := hz0'
  clear hW0 hrow1 hz0'
  go_loopw [3] (fun v wr => ∃ (left : Lit → Bool) (cnt : Nat) (ss : List (List UInt8)), wr.ranges Tryz.prog 9 fileElem b w1.heap.size n D0 left cnt ∧ ss.length + cnt ≤ Maps.size D0 ∧
      wr.ownsRow (w.heap.size + 1) 9 1 v ss.length (ss.map encStr) ∧ v ≠ .slice none 0 0 ∧ Collected D0 left ss ∧ Below (w.heap.size + 1) W0 wr)
    (fun _ wr => wr.rangeLeft b w1.heap.size)
  case atStart =>
    exact ⟨_, _, [], hrg0, by simp, hrow1'.kept hg0 (Or.inr (by simp [Value.ownBlock])), by simp, Collected.start D0,
      ((Below.refl _ _).grown hg1 (by rw [HZ0.out]; exact Nat.le_refl _) (fun j hj => by cases hj)).grown hg0 hgz1 (fun j hj => by cases hj)⟩
  case round =>
    obtain ⟨left, cnt, ss, hrg, hcs, hrow, hnn, hC, hnx⟩ := hrel
    have hnz := hnx.size
    rw [HZ0.out] at hnz
    go_wp2_with (first
      | (at_next; refine wpList_next_ranges _ rfl _ rfl 9 strK fileElem encStr (fun p : FileL => Value.agg #[.string p.1, .string p.2]) (fun key kl hk => by obtain ⟨x, hx, _⟩ := Maps.keyOf_str Tryz.underlying9 hk; exact ⟨x, hx⟩) (fun v y hv => by obtain ⟨n, t, rfl, _⟩ := fileElem_inv hv; exact ⟨(n, t), rfl⟩) b w1.heap.size n _ _ _ rfl hrg ?_ ?_)
      | fail)
    · intro hc0 hl0
      rcases hrow.2 with ⟨hnil, _⟩ | ⟨g, cap, cur, rfl, hbase, hb, h1, h2, h3, h4⟩
      · exact absurd hnil hnn
      have hH : Holds encStr wr g 0 ss.toArray := holds_of_block hb (by simpa using h4)
      have hgl : g < wr.heap.size := (Array.getElem?_eq_some_iff.1 hb).1
      have hc := Tryz.slices_Sort_string g 0 cap ss wr hH hgl (by omega)
      have hperm := (hC.perm (w := wr) hrg.owns strK Tryz.underlying9 hl0).trans HK.out.symm
      have hsrt := sorted_names HA.out hperm
      have hlen : ss.length = l.length := by rw [hperm.length_eq]; simp
      have HRS : ∀ nn os, Hid ((grow (putRow encStr (Sort.ahead wr nn) g 0 (ss.mergeSort fun x y => decide (x ≤ y)).toArray) os).ownsRow (w.heap.size + 1) 9 1 (.slice (some ⟨g, 0, none⟩) l.length cap) l.length ((l.map fun f => Disks.key f.1).map encStr)) := fun nn os => by
        show World.ownsRow _ _ _ _ _ _ _
        rw [← hsrt, ← hlen]
        exact ownsRow_sorted (by simp) hbase hb h1 h2 h3
      have HGS : ∀ nn os, Hid (wr.grownBy (grow (putRow encStr (Sort.ahead wr nn) g 0 (ss.mergeSort fun x y => decide (x ≤ y)).toArray) os) (some g)) := fun nn os => grownBy_sorted _
      have HTW : Hid (Table wr b l) := ⟨D0, own_tight hrg.owns, HTB.out⟩
      have hgb : b ≠ g := by omega
      rw [hlen] at hc ⊢
      clear hrow hnn hC hrg hH hb h3 h4 hsrt hperm hrg0 hlen
      go_wp2_with fail
      refine hc.mono ?_
      rintro e w5 ⟨rfl, nn, os, rfl⟩
      have R5 := HRS nn os
      have G5 := HGS nn os
      clear HRS HGS hc
      obtain ⟨w5, hw5⟩ : ∃ w5, w5 = grow (putRow encStr (Sort.ahead wr nn) g 0 (ss.mergeSort fun x y => decide (x ≤ y)).toArray) os := ⟨_, rfl⟩
      rw [← hw5] at R5 G5 ⊢
      clear hw5
      have T5 : Hid (Table w5 b l) := HTW.out.kept G5.out (by simp; omega)
      have B5 : Hid (Below (w.heap.size + 1) W0 w5) := hnx.grown G5.out hnz (fun j hj => by cases hj; omega)
      have hz5 : w.heap.size + 1 ≤ w5.heap.size := Nat.le_trans hnz G5.out.size
      have hg5 : g < w5.heap.size := Nat.lt_of_lt_of_le hgl G5.out.size
      clear G5 HTW hnx
      go_wp2_with (first
        | (at_make; refine wpList_make_own _ rfl _ _ 44 rfl (w.heap.size + 1) 164 j0 (.agg #[.string ByteArray.empty, .string ByteArray.empty]) 2 Tryz.underlying44 hj hy0 hy1 _ _ _ l.length rfl rfl rfl (by rw [hy2]; omega) (by unfold maxLen; omega) hz5 ?_; intro w6 hrow6 hg6)
        | fail)
      have TA : Hid (ToldAt (w.heap.size + 1) g cap b l W0 w6 (.slice (some ⟨w5.heap.size, 0, none⟩) 0 l.length) 0) :=
        ⟨hrow6, by have := R5.out.kept hg6 (Or.inr (by simp [Value.ownBlock])); simpa [List.map_map, Function.comp_def, enc_key] using this, by simp [Value.ownBlock]; omega, T5.out.kept hg6 (by simp), B5.out.grown hg6 hz5 (fun j hj => by cases hj), Nat.le_trans hz5 hg6.size⟩
      clear hrow6 hg6 R5 T5 B5 hg1 hg0 hs0 hrow1' hcs hc0 hl0 h1 hbase
      go_loopw [5, 28] (fun v i wq => ∃ k : Nat, k ≤ l.length ∧ i = .int .i64 (k : Int) ∧ Hid (ToldAt (w.heap.size + 1) g cap b l W0 wq v k))
        (fun _ i _ => l.length - (intOf i).toNat)
      case atStart => exact ⟨0, Nat.zero_le _, rfl, TA⟩
      case round =>
        obtain ⟨k, hk, rfl, TQ⟩ := hrel
        by_cases hlt : k < l.length
        · have c0 : wr.cell? ⟨g, k, none⟩ = some (.string l[k].1) := by rw [TQ.out.names.cellAt k (by omega)]; simp [hlt]
          obtain ⟨A, hA⟩ : ∃ A, A = l[k].1 := ⟨_, rfl⟩
          obtain ⟨T, hT⟩ : ∃ T, T = l[k].2 := ⟨_, rfl⟩
          rw [← hA] at c0
          have hk0 : (0 : Int) ≤ (k : Int) := by omega
          have hk1 : (k : Int) < (l.length : Int) := by omega
          have hfk := HFO.out l[k] (List.getElem_mem hlt)
          have HL : Hid (Disks.look l A = ((A, T), true)) := by show _ = _; rw [hA, hT]; exact Disks.look_at HA.out hlt
          have HAT : Hid (cellsF (l.take k) ++ [.string A, .string T] = cellsF (l.take (k + 1))) := by
            show _ = _
            rw [List.take_succ_eq_append_getElem hlt, cellsF_app, hA, hT]; rfl
          have hAs : A.size ≤ 12 := by rw [hA]; exact hfk.2.1
          have hTs : T.size ≤ 20000 := by rw [hT]; exact hfk.2.2
          clear hA hT hfk
          have hg0 : (Instr.lookup 129 (.map (some b)) (.string A) false).run Tryz.prog wr = .ok (.agg #[.string A, .string T]) wr := tab_get TQ.out.tab (by unfold maxLen; omega) HL.out
          have hfd := fun wx => field68 A T wx
          have h63 : k + 1 ≤ maxLen := by unfold maxLen; omega
          have hby : (k + 1) * 32 ≤ 140737488355328 := by omega
          have hg5' : g < wr.heap.size := (TQ.out.names.lt g rfl).2
          go_wp2
          go_region_held3 (fun w' => (Instr.lookup 129 (.map (some b)) (.string A) false).run Tryz.prog w' = .ok (.agg #[.string A, .string T]) w')
            (first
              | exact tab_get (Table.below (w := wr.drew) TQ.out.tab hba) (by unfold maxLen; omega) HL.out
              | exact tab_get ((Table.below (w := wr.drew) TQ.out.tab hba).below hbb) (by unfold maxLen; omega) HL.out
              | exact tab_get (((Table.below (w := wr.drew) TQ.out.tab hba).below hbb).alloc _) (by unfold maxLen; omega) HL.out
              | exact tab_get ((((Table.below (w := wr.drew) TQ.out.tab hba).below hbb).alloc _).kept hgrow (fun e => by have := (TQ.out.row.lt b e.symm).1; omega)) (by unfold maxLen; omega) HL.out
              | exact tab_get (w := wr.drew) TQ.out.tab (by unfold maxLen; omega) HL.out)
            (first
              | (go_at_call_of 95 (Value.string A); refine (clone_str A (by omega) _).mono ?_; rintro e wa ⟨rfl, hba⟩)
              | (go_at_call_of 95 (Value.string T); refine (clone_str T (by omega) _).mono ?_; rintro e wb ⟨rfl, hbb⟩)
              | (refine step_append_lies _ (by rfl) _ _ _ (by rfl) (w.heap.size + 1) 164 j0 _ 2 32 Tryz.underlying44 hj hy0 hy1 hy2 rfl (Nat.zero_lt_succ _) u5 k (cellsF (l.take k)) (by rfl) ((own_kept (own_kept (w := wr.drew) TQ.out.row hba) hbb).alloc _) ⟨wb.heap.size, 0, none⟩ 1 1 [.string A, .string T] (by rfl) (by rfl) (World.news_of_block (cs := #[.string A, .string T]) (t := 164) (fr := (0, 0)) (heap_alloc_new wb _)) (two_strings _ _) (Nat.zero_lt_succ _) h63 hby (by have h1 := TQ.out.up; have h2 := hba.size; have h3 := hbb.size; simp at h2 ⊢; omega) (wb.heap.size + 1) (Array.size_push ..) ?_; intro g2 cap2 w8 hown8 hgrow hat hlt8))
          all_goals
            have TN : Hid (ToldAt (w.heap.size + 1) g cap b l W0 w8 (.slice (some ⟨g2, 0, none⟩) (k + 1) cap2) (k + 1)) := ToldAt.step TQ.out (by omega) hg5' hba hbb (by rw [← HAT.out]; exact hown8) hgrow hat
            clear hba hbb hown8 hgrow hat hlt8
            go_wp2
            go_roundw
            case rel => exact ⟨k + 1, by omega, by go_num, TN⟩
            case measure => simp [intOf]; omega
        · have hk1 : ¬ (k : Int) < (l.length : Int) := by omega
          obtain ⟨va, vc, rfl⟩ := own_slice TQ.out.row
          have hblk : wr.heap[w.heap.size]? = some (.cells #[.slice none 0 0] 46 (0, 0)) := (TQ.out.below.block w.heap.size (Nat.lt_succ_self _)).trans HW0.out
          have hr : wr.cell? ⟨w.heap.size, 0, none⟩ = some (.slice none 0 0) := cell_of_row _ _ 0 _ _ _ hblk
          have hrf : wr.frozen? ⟨w.heap.size, 0, none⟩ = false := frozen_of_row _ _ _ _ _ hblk
          have hres := World.cell?_setCell_same wr _ (.slice va k vc) hr
          have HR : Hid (wr.ownsRow (w.heap.size + 1) 164 2 (.slice va k vc) l.length (cellsF l)) := by
            show World.ownsRow _ _ _ _ _ _ _
            have := TQ.out.row
            rw [List.take_of_length_le (by omega)] at this
            rwa [show k = l.length by omega] at this ⊢
          have HB : Hid (Below w.heap.size w wr) := HB0.out.trans (TQ.out.below.mono (Nat.le_succ _))
          clear hblk
          go_wp2
          refine bodyPost_ret (v := .agg #[.slice va k vc]) (by simp [results, Tryz.results196, go_sem, hres]) rfl ⟨_, rfl, ?_, HB.out.setCell (Nat.le_refl _) _⟩
          exact own_set (own_mono HR.out (Nat.le_succ _)) _ _ _ (fun e => by have := (HR.out.lt _ e).1; omega)
    · intro x cn ct kl yd yp w2 cnt2 hkey hlk hv hat hrg2 hlt hg2 hs2 hen
      obtain ⟨x', ex, rfl, _⟩ := Maps.keyOf_str Tryz.underlying9 hkey
      obtain rfl : x = x' := encStr_inj ex
      have hrow2 := hrow.kept hg2 (Or.inr (row_ne_iter hrow hrg).symm)
      have hg2z := hg2.size
      clear hs2
      go_wp2_with (first
        | (at_builtin; refine wpList_append_own _ rfl _ _ 158 rfl (w.heap.size + 1) 9 i0 (.string ⟨#[]⟩) 1 16 Tryz.underlying158 hi hz0 hz1 hz2 rfl (by decide) _ _ _ rfl (hrow2.alloc _) ⟨w2.heap.size, 0, none⟩ 1 1 [encStr x] rfl rfl (cell_one_new _ _ _) (by simp [Value.oneCell', encStr]) (by unfold maxLen at *; omega) (by omega) (by simp; omega) ?_; intro v' w3 hown' hg3 hnil3; go_frame)
        | fail)
      have hrg3 := (hrg2.alloc _).kept hg3 (row_ne_low hrow2 (by omega)) (row_ne_iter hrow2 hrg2)
      go_roundw
      case rel =>
        refine ⟨_, cnt2, ss ++ [x], hrg3, by simp; omega, by simpa using hown', fun hv' => by have := (hnil3.1 hv').2; omega, hC.step hlk hat, ?_⟩
        exact ((hnx.grown hg2 hnz (fun j hj => by cases hj; omega)).alloc (by omega) _).grown hg3 (by simp; omega) (fun j hj => (hrow2.lt j hj).1)
      case measure => rw [hrg3.left_eq, hrg.left_eq]; exact hlt
end Go.Proofs.YtbcfiiilikkkeaaGreatDoor
