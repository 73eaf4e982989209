/- The methods of the program's table of files, walked. -/
import Derived.Test.YthcfnofhdbjemaaGreatDoorTable
import Derived.Test.YthcfnofhdbjemaaGreatDoorImplOk
namespace Go.Proofs.YthcfnofhdbjemaaGreatDoor
open Go.RowKit
set_option linter.unusedVariables false

theorem two_0 (w : World) (x y : Obj) : ((w.alloc x).alloc y).heap[w.heap.size]? = some x := by
  rw [Below.heap_alloc _ _ _ (by simp)]; exact heap_alloc_new w x
theorem grown_of_pk {w w' : World} {row : Option Nat} (h : Below w.heap.size w w') : w.grownBy w' row := ⟨h.os, h.tape, h.output, h.size, fun k hk _ => h.block k hk⟩
theorem grown_then {w w' w'' : World} {row : Option Nat} (h : Below w.heap.size w w') (h2 : w'.grownBy w'' row) : w.grownBy w'' row :=
  ⟨h2.os.trans h.os, h2.tape.trans h.tape, h2.output.trans h.output, Nat.le_trans h.size h2.size, fun k hk hne => (h2.block k (Nat.lt_of_lt_of_le hk h.size) hne).trans (h.block k hk)⟩
theorem grown_trans {w w' w'' : World} {row : Option Nat} (h : w.grownBy w' row) (h2 : w'.grownBy w'' row) : w.grownBy w'' row :=
  ⟨h2.os.trans h.os, h2.tape.trans h.tape, h2.output.trans h.output, Nat.le_trans h.size h2.size, fun k hk hne => (h2.block k (Nat.lt_of_lt_of_le hk h.size) hne).trans (h.block k hk hne)⟩
theorem Table.len {w : World} {b : Nat} {l : List FileL} (h : Table w b l) (ha : Disks.asc l) : (Builtin.len_ #[55] 3 #[.map (some b)]).run Tryz.prog w = .ok (.int .i64 (l.length : Int)) w := by
  obtain ⟨D, h1, h2⟩ := h
  rw [← tab_size ha h1 h2]
  exact h1.len Tryz.underlying55 3
theorem cell_grown {w w' : World} {b : Nat} (h : w.grownBy w' (some b)) {p : Addr} (hp : p.block < w.heap.size) (hne : b ≠ p.block) : w'.cell? p = w.cell? p := World.cell?_of_block (w := w) (h.block p.block hp (fun e => hne (by simpa using e.symm)))
/-- What a method that may write the table leaves. -/
def tabPost (w : World) (b : Nat) (l : List FileL) (o : Option (List FileL)) (e : Ending) (w' : World) : Prop :=
  e = .returned (.bool o.isSome) ∧ Table w' b (o.getD l) ∧ w.grownBy w' (some b)

set_option maxHeartbeats 1000000 in
set_option maxRecDepth 100000 in
theorem tabPut_bad (l : List FileL) (ha : Disks.asc l) (hl : l.length ≤ 1000) (n t : ByteArray) (hn : n.size ≤ 2097152) (ht : t.size ≤ 2097152) (b : Nat) (w : World) (hT : Table w b l) (hok : ¬ Disks.fileOk (n, t)) :
    Calls Tryz.prog 56 #[.map (some b), .agg #[.string n, .string t]] w (tabPost w b l none) := by
  obtain ⟨LA, LT, LB, hLL⟩ : ∃ LA LT LB, Disks.look l n = ((LA, LT), LB) := ⟨_, _, _, rfl⟩
  have HL : Hid (Disks.look l n = ((LA, LT), LB)) := hLL
  clear hLL
  have HT : Hid (Table w b l) := hT
  have HA : Hid (Disks.asc l) := ha
  clear hT ha
  go_enter Tryz.func56, Tryz.ntmps56
  go_wp2_with (first | (at_lookup; refine wpList_look_tab _ rfl _ _ rfl b l n (by unfold maxLen; omega) (HT.out.alloc _) _ _ _ HL.out (by rfl) (by rfl) ?_) | fail)
  obtain ⟨W2, hW2⟩ : ∃ W2, W2 = (w.alloc (Obj.cells #[Value.string n, Value.string t] 41)).alloc (Obj.cells #[Value.string LA, Value.string LT] 41) := ⟨_, rfl⟩
  rw [← hW2]
  have T2 : Hid (Table W2 b l) := by show Table W2 b l; rw [hW2]; exact (HT.out.alloc _).alloc _
  have hB2 : Below w.heap.size w W2 := by rw [hW2]; exact ((Below.refl _ _).alloc (Nat.le_refl _) _).alloc (by simp) _
  have c0 : W2.cell? ⟨w.heap.size, 0, none⟩ = some (.string n) := by rw [hW2]; exact cell_of_row _ _ 0 _ _ _ (two_0 w _ _)
  have c1 : W2.cell? ⟨w.heap.size, 1, none⟩ = some (.string t) := by rw [hW2]; exact cell_of_row _ _ 1 _ _ _ (two_0 w _ _)
  clear hW2
  refine (fileOk_no n t hn ht hok W2).mono ?_
  rintro e w3 ⟨rfl, hb3⟩
  have T3 : Hid (Table w3 b l) := T2.out.below hb3
  have hB3 : Below w.heap.size w w3 := hB2.trans (hb3.mono hB2.size)
  have hz : w.heap.size < W2.heap.size := World.block_lt_of_cell? W2 _ c0
  have d0 : w3.cell? ⟨w.heap.size, 0, none⟩ = some (.string n) := (hb3.cell (p := ⟨w.heap.size, 0, none⟩) hz).trans c0
  have d1 : w3.cell? ⟨w.heap.size, 1, none⟩ = some (.string t) := (hb3.cell (p := ⟨w.heap.size, 1, none⟩) hz).trans c1
  clear T2 hB2 c0 c1 hb3 hz
  go_wp2
  go_ret
  exact ⟨rfl, T3.out, grown_of_pk hB3⟩

set_option maxHeartbeats 1000000 in
set_option maxRecDepth 100000 in
theorem tabPut_old (l : List FileL) (ha : Disks.asc l) (hl : l.length ≤ 1000) (n t : ByteArray) (hn : n.size ≤ 2097152) (ht : t.size ≤ 2097152) (b : Nat) (w : World) (hT : Table w b l) (hok : Disks.fileOk (n, t)) (hno : (Disks.look l n).2 = true) :
    Calls Tryz.prog 56 #[.map (some b), .agg #[.string n, .string t]] w (tabPost w b l (some (Disks.put l (n, t)))) := by
  obtain ⟨LA, LT, LB, hLL⟩ : ∃ LA LT LB, Disks.look l n = ((LA, LT), LB) := ⟨_, _, _, rfl⟩
  obtain rfl : LB = true := by rw [hLL] at hno; exact hno
  have HL : Hid (Disks.look l n = ((LA, LT), true)) := hLL
  clear hLL hno
  have HT : Hid (Table w b l) := hT
  have HA : Hid (Disks.asc l) := ha
  clear hT ha
  go_enter Tryz.func56, Tryz.ntmps56
  go_wp2_with (first | (at_lookup; refine wpList_look_tab _ rfl _ _ rfl b l n (by unfold maxLen; omega) (HT.out.alloc _) _ _ _ HL.out (by rfl) (by rfl) ?_) | fail)
  obtain ⟨W2, hW2⟩ : ∃ W2, W2 = (w.alloc (Obj.cells #[Value.string n, Value.string t] 41)).alloc (Obj.cells #[Value.string LA, Value.string LT] 41) := ⟨_, rfl⟩
  rw [← hW2]
  have T2 : Hid (Table W2 b l) := by show Table W2 b l; rw [hW2]; exact (HT.out.alloc _).alloc _
  have hB2 : Below w.heap.size w W2 := by rw [hW2]; exact ((Below.refl _ _).alloc (Nat.le_refl _) _).alloc (by simp) _
  have c0 : W2.cell? ⟨w.heap.size, 0, none⟩ = some (.string n) := by rw [hW2]; exact cell_of_row _ _ 0 _ _ _ (two_0 w _ _)
  have c1 : W2.cell? ⟨w.heap.size, 1, none⟩ = some (.string t) := by rw [hW2]; exact cell_of_row _ _ 1 _ _ _ (two_0 w _ _)
  clear hW2
  refine (fileOk_yes n t hok W2).mono ?_
  rintro e w3 ⟨rfl, hb3⟩
  have T3 : Hid (Table w3 b l) := T2.out.below hb3
  have hB3 : Below w.heap.size w w3 := hB2.trans (hb3.mono hB2.size)
  have hz : w.heap.size < W2.heap.size := World.block_lt_of_cell? W2 _ c0
  have d0 : w3.cell? ⟨w.heap.size, 0, none⟩ = some (.string n) := (hb3.cell (p := ⟨w.heap.size, 0, none⟩) hz).trans c0
  have d1 : w3.cell? ⟨w.heap.size, 1, none⟩ = some (.string t) := (hb3.cell (p := ⟨w.heap.size, 1, none⟩) hz).trans c1
  clear T2 hB2 c0 c1 hb3 hz
  go_wp2_with (first | (at_mapUpdate; refine wpList_put_tab _ rfl _ _ _ rfl b l HA.out hl n t (by unfold maxLen; omega) T3.out (by rfl) (by rfl) (by rfl) ?_; intro w4 T4 g4 _) | fail)
  go_ret
  exact ⟨rfl, T4, grown_then hB3 g4⟩

set_option maxHeartbeats 1000000 in
set_option maxRecDepth 100000 in
theorem tabPut_full (l : List FileL) (ha : Disks.asc l) (hl : l.length ≤ 1000) (n t : ByteArray) (hn : n.size ≤ 2097152) (ht : t.size ≤ 2097152) (b : Nat) (w : World) (hT : Table w b l) (hok : Disks.fileOk (n, t)) (hno : (Disks.look l n).2 = false) (h30 : l.length = 30) :
    Calls Tryz.prog 56 #[.map (some b), .agg #[.string n, .string t]] w (tabPost w b l none) := by
  obtain ⟨LA, LT, LB, hLL⟩ : ∃ LA LT LB, Disks.look l n = ((LA, LT), LB) := ⟨_, _, _, rfl⟩
  obtain rfl : LB = false := by rw [hLL] at hno; exact hno
  have HL : Hid (Disks.look l n = ((LA, LT), false)) := hLL
  clear hLL hno
  have HT : Hid (Table w b l) := hT
  have HA : Hid (Disks.asc l) := ha
  clear hT ha
  go_enter Tryz.func56, Tryz.ntmps56
  go_wp2_with (first | (at_lookup; refine wpList_look_tab _ rfl _ _ rfl b l n (by unfold maxLen; omega) (HT.out.alloc _) _ _ _ HL.out (by rfl) (by rfl) ?_) | fail)
  obtain ⟨W2, hW2⟩ : ∃ W2, W2 = (w.alloc (Obj.cells #[Value.string n, Value.string t] 41)).alloc (Obj.cells #[Value.string LA, Value.string LT] 41) := ⟨_, rfl⟩
  rw [← hW2]
  have T2 : Hid (Table W2 b l) := by show Table W2 b l; rw [hW2]; exact (HT.out.alloc _).alloc _
  have hB2 : Below w.heap.size w W2 := by rw [hW2]; exact ((Below.refl _ _).alloc (Nat.le_refl _) _).alloc (by simp) _
  have c0 : W2.cell? ⟨w.heap.size, 0, none⟩ = some (.string n) := by rw [hW2]; exact cell_of_row _ _ 0 _ _ _ (two_0 w _ _)
  have c1 : W2.cell? ⟨w.heap.size, 1, none⟩ = some (.string t) := by rw [hW2]; exact cell_of_row _ _ 1 _ _ _ (two_0 w _ _)
  clear hW2
  refine (fileOk_yes n t hok W2).mono ?_
  rintro e w3 ⟨rfl, hb3⟩
  have T3 : Hid (Table w3 b l) := T2.out.below hb3
  have hB3 : Below w.heap.size w w3 := hB2.trans (hb3.mono hB2.size)
  have hz : w.heap.size < W2.heap.size := World.block_lt_of_cell? W2 _ c0
  have d0 : w3.cell? ⟨w.heap.size, 0, none⟩ = some (.string n) := (hb3.cell (p := ⟨w.heap.size, 0, none⟩) hz).trans c0
  have d1 : w3.cell? ⟨w.heap.size, 1, none⟩ = some (.string t) := (hb3.cell (p := ⟨w.heap.size, 1, none⟩) hz).trans c1
  clear T2 hB2 c0 c1 hb3 hz
  have hlen := T3.out.len HA.out
  have h3 : ((l.length : Int) == 30) = true := by simp; omega
  clear h30
  go_wp2
  go_ret
  exact ⟨rfl, T3.out, grown_of_pk hB3⟩

set_option maxHeartbeats 1000000 in
set_option maxRecDepth 100000 in
theorem tabPut_new (l : List FileL) (ha : Disks.asc l) (hl : l.length ≤ 1000) (n t : ByteArray) (hn : n.size ≤ 2097152) (ht : t.size ≤ 2097152) (b : Nat) (w : World) (hT : Table w b l) (hok : Disks.fileOk (n, t)) (hno : (Disks.look l n).2 = false) (h30 : l.length ≠ 30) :
    Calls Tryz.prog 56 #[.map (some b), .agg #[.string n, .string t]] w (tabPost w b l (some (Disks.put l (n, t)))) := by
  obtain ⟨LA, LT, LB, hLL⟩ : ∃ LA LT LB, Disks.look l n = ((LA, LT), LB) := ⟨_, _, _, rfl⟩
  obtain rfl : LB = false := by rw [hLL] at hno; exact hno
  have HL : Hid (Disks.look l n = ((LA, LT), false)) := hLL
  clear hLL hno
  have HT : Hid (Table w b l) := hT
  have HA : Hid (Disks.asc l) := ha
  clear hT ha
  go_enter Tryz.func56, Tryz.ntmps56
  go_wp2_with (first | (at_lookup; refine wpList_look_tab _ rfl _ _ rfl b l n (by unfold maxLen; omega) (HT.out.alloc _) _ _ _ HL.out (by rfl) (by rfl) ?_) | fail)
  obtain ⟨W2, hW2⟩ : ∃ W2, W2 = (w.alloc (Obj.cells #[Value.string n, Value.string t] 41)).alloc (Obj.cells #[Value.string LA, Value.string LT] 41) := ⟨_, rfl⟩
  rw [← hW2]
  have T2 : Hid (Table W2 b l) := by show Table W2 b l; rw [hW2]; exact (HT.out.alloc _).alloc _
  have hB2 : Below w.heap.size w W2 := by rw [hW2]; exact ((Below.refl _ _).alloc (Nat.le_refl _) _).alloc (by simp) _
  have c0 : W2.cell? ⟨w.heap.size, 0, none⟩ = some (.string n) := by rw [hW2]; exact cell_of_row _ _ 0 _ _ _ (two_0 w _ _)
  have c1 : W2.cell? ⟨w.heap.size, 1, none⟩ = some (.string t) := by rw [hW2]; exact cell_of_row _ _ 1 _ _ _ (two_0 w _ _)
  clear hW2
  refine (fileOk_yes n t hok W2).mono ?_
  rintro e w3 ⟨rfl, hb3⟩
  have T3 : Hid (Table w3 b l) := T2.out.below hb3
  have hB3 : Below w.heap.size w w3 := hB2.trans (hb3.mono hB2.size)
  have hz : w.heap.size < W2.heap.size := World.block_lt_of_cell? W2 _ c0
  have d0 : w3.cell? ⟨w.heap.size, 0, none⟩ = some (.string n) := (hb3.cell (p := ⟨w.heap.size, 0, none⟩) hz).trans c0
  have d1 : w3.cell? ⟨w.heap.size, 1, none⟩ = some (.string t) := (hb3.cell (p := ⟨w.heap.size, 1, none⟩) hz).trans c1
  clear T2 hB2 c0 c1 hb3 hz
  have hlen := T3.out.len HA.out
  have h3 : ((l.length : Int) == 30) = false := by simp; omega
  clear h30
  go_wp2_with (first | (at_mapUpdate; refine wpList_put_tab _ rfl _ _ _ rfl b l HA.out hl n t (by unfold maxLen; omega) T3.out (by rfl) (by rfl) (by rfl) ?_; intro w4 T4 g4 _) | fail)
  go_ret
  exact ⟨rfl, T4, grown_then hB3 g4⟩

theorem tabPut_is (l : List FileL) (ha : Disks.asc l) (hl : l.length ≤ 1000) (n t : ByteArray) (hn : n.size ≤ 2097152) (ht : t.size ≤ 2097152) (b : Nat) (w : World) (hT : Table w b l) :
    Calls Tryz.prog 56 #[.map (some b), .agg #[.string n, .string t]] w (tabPost w b l (Disks.tput l (n, t))) := by
  unfold Disks.tput
  by_cases hok : Disks.fileOk (n, t)
  · have e1 : Disks.fileOkB (n, t) = true := (Disks.fileOkB_iff _).2 hok
    cases hno : (Disks.look l n).2
    · have e2 : l.any (Disks.nameIs n) = false := by rw [← Disks.look_any]; exact hno
      by_cases h30 : l.length = 30
      · rw [if_neg (by simp [e1, e2, h30])]
        exact tabPut_full l ha hl n t hn ht b w hT hok hno h30
      · rw [if_pos (by simp [e1, e2, h30])]
        exact tabPut_new l ha hl n t hn ht b w hT hok hno h30
    · have e2 : l.any (Disks.nameIs n) = true := by rw [← Disks.look_any]; exact hno
      rw [if_pos (by simp [e1, e2])]
      exact tabPut_old l ha hl n t hn ht b w hT hok hno
  · have e1 : Disks.fileOkB (n, t) = false := by rw [← Bool.not_eq_true, Disks.fileOkB_iff]; exact hok
    rw [if_neg (by simp [e1])]
    exact tabPut_bad l ha hl n t hn ht b w hT hok

set_option maxHeartbeats 1000000 in
set_option maxRecDepth 100000 in
theorem tabDrop_is (l : List FileL) (n : ByteArray) (hn : n.size ≤ 2097152) (b : Nat) (w : World) (hT : Table w b l) :
    Calls Tryz.prog 58 #[.map (some b), .string n] w (tabPost w b l (Disks.tdrop l n)) := by
  unfold Disks.tdrop
  have HT : Hid (Table w b l) := hT
  clear hT
  obtain ⟨LA, LT, LB, hLL⟩ : ∃ LA LT LB, Disks.look l n = ((LA, LT), LB) := ⟨_, _, _, rfl⟩
  have e2 : l.any (Disks.nameIs n) = LB := by rw [← Disks.look_any, hLL]
  have HL : Hid (Disks.look l n = ((LA, LT), LB)) := hLL
  rw [e2]
  clear hLL e2
  have hB2 : ∀ o, Below w.heap.size w (w.alloc o) := fun o => (Below.refl _ _).alloc (Nat.le_refl _) _
  cases LB
  · rw [if_neg (by simp)]
    go_enter Tryz.func58, Tryz.ntmps58
    go_wp2_with (first | (at_lookup; refine wpList_look_tab _ rfl _ _ rfl b l n (by unfold maxLen; omega) HT.out _ _ _ HL.out (by rfl) (by rfl) ?_) | fail)
    go_ret
    exact ⟨rfl, HT.out.alloc _, grown_of_pk (hB2 _)⟩
  · rw [if_pos rfl]
    go_enter Tryz.func58, Tryz.ntmps58
    go_wp2_with (first | (at_lookup; refine wpList_look_tab _ rfl _ _ rfl b l n (by unfold maxLen; omega) HT.out _ _ _ HL.out (by rfl) (by rfl) ?_) | (at_delete; refine wpList_del_tab _ rfl _ _ rfl b l n (by unfold maxLen; omega) (HT.out.alloc _) (by rfl) (by rfl) ?_; intro w4 T4 g4 _) | fail)
    go_ret
    exact ⟨rfl, T4, grown_then (hB2 _) g4⟩

set_option maxHeartbeats 1000000 in
set_option maxRecDepth 100000 in
theorem tabMove_none (l : List FileL) (ha : Disks.asc l) (hl : l.length ≤ 1000) (n dst : ByteArray) (hn : n.size ≤ 2097152) (ht : dst.size ≤ 2097152) (LA LT : ByteArray) (b : Nat) (w : World) (hT : Table w b l) (hL : Disks.look l n = ((LA, LT), false)) :
    Calls Tryz.prog 57 #[.map (some b), .string n, .string dst] w (tabPost w b l none) := by
  have HT : Hid (Table w b l) := hT
  have HA : Hid (Disks.asc l) := ha
  clear hT ha
  have HL : Hid (Disks.look l n = ((LA, LT), false)) := hL
  clear hL
  go_enter Tryz.func57, Tryz.ntmps57
  go_wp2_with (first | (at_lookup; refine wpList_look_tab _ rfl _ _ rfl b l n (by unfold maxLen; omega) HT.out _ _ _ HL.out (by rfl) (by rfl) ?_) | fail)
  go_ret
  exact ⟨rfl, (HT.out.alloc _), grown_of_pk ((Below.refl _ _).alloc (Nat.le_refl _) _)⟩

set_option maxHeartbeats 1000000 in
set_option maxRecDepth 100000 in
theorem tabMove_bad (l : List FileL) (ha : Disks.asc l) (hl : l.length ≤ 1000) (n dst : ByteArray) (hn : n.size ≤ 2097152) (ht : dst.size ≤ 2097152) (LA LT : ByteArray) (b : Nat) (w : World) (hT : Table w b l) (hL : Disks.look l n = ((LA, LT), true)) (hs : LT.size ≤ 2097152) (hok : ¬ Disks.fileOk (dst, LT)) :
    Calls Tryz.prog 57 #[.map (some b), .string n, .string dst] w (tabPost w b l none) := by
  have HT : Hid (Table w b l) := hT
  have HA : Hid (Disks.asc l) := ha
  clear hT ha
  have HL : Hid (Disks.look l n = ((LA, LT), true)) := hL
  clear hL
  go_enter Tryz.func57, Tryz.ntmps57
  go_wp2_with (first | (at_lookup; refine wpList_look_tab _ rfl _ _ rfl b l n (by unfold maxLen; omega) HT.out _ _ _ HL.out (by rfl) (by rfl) ?_) | fail)
  obtain ⟨W2, hW2⟩ : ∃ W2, W2 = w.alloc (Obj.cells #[Value.string dst, Value.string LT] 41) := ⟨_, rfl⟩
  rw [← hW2]
  have T2 : Hid (Table W2 b l) := by show Table W2 b l; rw [hW2]; exact HT.out.alloc _
  have hB2 : Below w.heap.size w W2 := by rw [hW2]; exact (Below.refl _ _).alloc (Nat.le_refl _) _
  have c0 : W2.cell? ⟨w.heap.size, 0, none⟩ = some (.string dst) := by rw [hW2]; exact cell_of_row _ _ 0 _ _ _ (heap_alloc_new w _)
  have c1 : W2.cell? ⟨w.heap.size, 1, none⟩ = some (.string LT) := by rw [hW2]; exact cell_of_row _ _ 1 _ _ _ (heap_alloc_new w _)
  clear hW2
  refine (fileOk_no dst LT ht hs hok W2).mono ?_
  rintro e w3 ⟨rfl, hb3⟩
  have T3 : Hid (Table w3 b l) := T2.out.below hb3
  have hB3 : Below w.heap.size w w3 := hB2.trans (hb3.mono hB2.size)
  have hz : w.heap.size < W2.heap.size := World.block_lt_of_cell? W2 _ c0
  have d0 : w3.cell? ⟨w.heap.size, 0, none⟩ = some (.string dst) := (hb3.cell (p := ⟨w.heap.size, 0, none⟩) hz).trans c0
  have d1 : w3.cell? ⟨w.heap.size, 1, none⟩ = some (.string LT) := (hb3.cell (p := ⟨w.heap.size, 1, none⟩) hz).trans c1
  have hz3 : w.heap.size < w3.heap.size := World.block_lt_of_cell? w3 _ d0
  clear T2 hB2 c0 c1 hb3 hz
  go_wp2
  go_ret
  exact ⟨rfl, T3.out, grown_of_pk hB3⟩

set_option maxHeartbeats 1000000 in
set_option maxRecDepth 100000 in
theorem tabMove_yes (l : List FileL) (ha : Disks.asc l) (hl : l.length ≤ 1000) (n dst : ByteArray) (hn : n.size ≤ 2097152) (ht : dst.size ≤ 2097152) (LA LT : ByteArray) (b : Nat) (w : World) (hT : Table w b l) (hL : Disks.look l n = ((LA, LT), true)) (hok : Disks.fileOk (dst, LT)) (hbl : b < w.heap.size) :
    Calls Tryz.prog 57 #[.map (some b), .string n, .string dst] w (tabPost w b l (some (Disks.put (Disks.drop l n) (dst, LT)))) := by
  have HT : Hid (Table w b l) := hT
  have HA : Hid (Disks.asc l) := ha
  clear hT ha
  have HL : Hid (Disks.look l n = ((LA, LT), true)) := hL
  clear hL
  go_enter Tryz.func57, Tryz.ntmps57
  go_wp2_with (first | (at_lookup; refine wpList_look_tab _ rfl _ _ rfl b l n (by unfold maxLen; omega) HT.out _ _ _ HL.out (by rfl) (by rfl) ?_) | fail)
  obtain ⟨W2, hW2⟩ : ∃ W2, W2 = w.alloc (Obj.cells #[Value.string dst, Value.string LT] 41) := ⟨_, rfl⟩
  rw [← hW2]
  have T2 : Hid (Table W2 b l) := by show Table W2 b l; rw [hW2]; exact HT.out.alloc _
  have hB2 : Below w.heap.size w W2 := by rw [hW2]; exact (Below.refl _ _).alloc (Nat.le_refl _) _
  have c0 : W2.cell? ⟨w.heap.size, 0, none⟩ = some (.string dst) := by rw [hW2]; exact cell_of_row _ _ 0 _ _ _ (heap_alloc_new w _)
  have c1 : W2.cell? ⟨w.heap.size, 1, none⟩ = some (.string LT) := by rw [hW2]; exact cell_of_row _ _ 1 _ _ _ (heap_alloc_new w _)
  clear hW2
  refine (fileOk_yes dst LT hok W2).mono ?_
  rintro e w3 ⟨rfl, hb3⟩
  have T3 : Hid (Table w3 b l) := T2.out.below hb3
  have hB3 : Below w.heap.size w w3 := hB2.trans (hb3.mono hB2.size)
  have hz : w.heap.size < W2.heap.size := World.block_lt_of_cell? W2 _ c0
  have d0 : w3.cell? ⟨w.heap.size, 0, none⟩ = some (.string dst) := (hb3.cell (p := ⟨w.heap.size, 0, none⟩) hz).trans c0
  have d1 : w3.cell? ⟨w.heap.size, 1, none⟩ = some (.string LT) := (hb3.cell (p := ⟨w.heap.size, 1, none⟩) hz).trans c1
  have hz3 : w.heap.size < w3.heap.size := World.block_lt_of_cell? w3 _ d0
  clear T2 hB2 c0 c1 hb3 hz
  have hne : b ≠ w.heap.size := by omega
  go_wp2_with (first | (at_delete; refine wpList_del_tab _ rfl _ _ rfl b l n (by unfold maxLen; omega) T3.out (by rfl) (by rfl) ?_; intro w4 T4 g4 _; (have T4' : Hid (Table w4 b (Disks.drop l n)) := T4); (have e0 : w4.cell? ⟨w.heap.size, 0, none⟩ = some (.string dst) := (cell_grown g4 hz3 hne).trans d0); (have e1 : w4.cell? ⟨w.heap.size, 1, none⟩ = some (.string LT) := (cell_grown g4 hz3 hne).trans d1); clear T4 d0 d1) | (at_mapUpdate; refine wpList_put_tab _ rfl _ _ _ rfl b (Disks.drop l n) (Disks.drop_asc HA.out n) (Nat.le_trans (List.length_filter_le _ _) hl) dst LT (by unfold maxLen; omega) T4'.out (by rfl) (by rfl) (by rfl) ?_; intro w5 T5 g5 _) | fail)
  go_ret
  exact ⟨rfl, T5, grown_then hB3 (grown_trans g4 g5)⟩

theorem tabMove_is (l : List FileL) (ha : Disks.asc l) (hl : l.length ≤ 1000) (hs : ∀ f ∈ l, f.2.size ≤ 2097152) (n dst : ByteArray) (hn : n.size ≤ 2097152) (ht : dst.size ≤ 2097152) (b : Nat) (w : World) (hT : Table w b l) :
    Calls Tryz.prog 57 #[.map (some b), .string n, .string dst] w (tabPost w b l (Disks.tmove l n dst)) := by
  unfold Disks.tmove
  obtain ⟨LA, LT, LB, hLL⟩ : ∃ LA LT LB, Disks.look l n = ((LA, LT), LB) := ⟨_, _, _, rfl⟩
  have e2 : l.any (Disks.nameIs n) = LB := by rw [← Disks.look_any, hLL]
  have e3 : Disks.textOf l n = LT := by rw [← Disks.look_text, hLL]
  rw [e2, e3]
  cases LB
  · rw [if_neg (by simp)]
    exact tabMove_none l ha hl n dst hn ht LA LT b w hT hLL
  · have hm := (Disks.look_some (l := l) (n := n) (by rw [hLL])).1
    rw [hLL] at hm
    by_cases hok : Disks.fileOk (dst, LT)
    · rw [if_pos (by simp [(Disks.fileOkB_iff _).2 hok])]
      exact tabMove_yes l ha hl n dst hn ht LA LT b w hT hLL hok hT.lt
    · have e1 : Disks.fileOkB (dst, LT) = false := by rw [← Bool.not_eq_true, Disks.fileOkB_iff]; exact hok
      rw [if_neg (by simp [e1])]
      exact tabMove_bad l ha hl n dst hn ht LA LT b w hT hLL (hs _ hm) hok

end Go.Proofs.YthcfnofhdbjemaaGreatDoor
