/- What the program's table does of a raw write, and of a list of them; the table of a disk. -/
import Derived.Test.YthcfnofhdbjemaaGreatDoorTabOps
import Derived.Test.YthcfnofhdbjemaaGreatDoorRawArg2
import Derived.Test.YthcfnofhdbjemaaGreatDoorMathRaws
import Derived.Test.YthcfnofhdbjemaaGreatDoorShelf
import Derived.Test.YthcfnofhdbjemaaGreatDoorFiles
import Derived.Test.YthcfnofhdbjemaaGreatDoorProg
import Derived.WalkKit
import Derived.WalkSpells
import Derived.WalkLawsBesides
import Derived.Laws.IdiomStrings
import Derived.Laws.BytesArg
import Derived.Laws.BitsAllLaws
import Derived.Test.YthcfnofhdbjemaaGreatDoorRows
import Derived.Test.YthcfnofhdbjemaaGreatDoorDiskEq
import Derived.Deep.RegionWith
import Derived.Deep.QuietTactic
import Derived.BigQuiet
import Derived.Deep.RegionHeld3
import Derived.Test.YthcfnofhdbjemaaGreatDoorConfOk
import Derived.Test.YthcfnofhdbjemaaGreatDoorMathDisk
import Derived.Test.YthcfnofhdbjemaaGreatDoorPutRaw
import Derived.Deep.DeepCutAuto
namespace Go.Proofs.YthcfnofhdbjemaaGreatDoor
open Go.RowKit
set_option linter.unusedVariables false

set_option maxRecDepth 100000 in
theorem field68 (A T : ByteArray) (w : World) : (Instr.field 41 (.agg #[.string A, .string T]) 1).run Tryz.prog w = .ok (.string T) w := by
  kernel_rfl
theorem tabPost_up {w W : World} {b : Nat} {l : List FileL} {o : Option (List FileL)} {e : Ending} {w' : World} (hB : Below w.heap.size w W) (h : tabPost W b l o e w') : tabPost w b l o e w' := ⟨h.1, h.2.1, grown_then hB h.2.2⟩

set_option maxHeartbeats 1000000 in
set_option maxRecDepth 100000 in
theorem tabDo_1 (l : List FileL) (hok : Disks.ok l) (M O X : ByteArray) (hM : M.size ≤ 1048576) (hO : O.size ≤ 1048576) (hX : X.size ≤ 1048576) (b : Nat) (w : World) (hT : Table w b l) :
    Calls Tryz.prog 32 #[.map (some b), .agg #[.int .i64 1, .string M, .string O, .string X]] w (tabPost w b l (Disks.tput l (M, X))) := by
  have HT : Hid (Table w b l) := hT
  have HO : Hid (Disks.ok l) := hok
  clear hT hok
  obtain ⟨hl30, hfo, hasc⟩ := (Disks.ok_iff l).1 HO.out
  have HF : Hid (∀ f ∈ l, Disks.fileOk f) := hfo
  have HA : Hid (Disks.asc l) := hasc
  clear hfo hasc
  go_enter Tryz.func32, Tryz.ntmps32
  go_wp2_with fail
  obtain ⟨W1, hW1⟩ : ∃ W1, W1 = w.alloc (Obj.cells #[Value.int .i64 1, Value.string M, Value.string O, Value.string X] 44) := ⟨_, rfl⟩
  rw [← hW1]
  have T1 : Hid (Table W1 b l) := by show Table W1 b l; rw [hW1]; exact HT.out.alloc _
  have hB1 : Below w.heap.size w W1 := by rw [hW1]; exact (Below.refl _ _).alloc (Nat.le_refl _) _
  clear hW1
  refine (tabPut_is l HA.out (by omega) M X (by omega) (by omega) b W1 T1.out).mono ?_
  rintro e w3 ⟨rfl, T3, g3⟩
  have T3' : Hid (Table w3 b _) := T3
  clear T3
  go_wp2
  go_ret
  exact tabPost_up hB1 ⟨rfl, T3'.out, g3⟩

set_option maxHeartbeats 1000000 in
set_option maxRecDepth 100000 in
theorem tabDo_2 (l : List FileL) (hok : Disks.ok l) (M O X : ByteArray) (hM : M.size ≤ 1048576) (hO : O.size ≤ 1048576) (hX : X.size ≤ 1048576) (b : Nat) (w : World) (hT : Table w b l) :
    Calls Tryz.prog 32 #[.map (some b), .agg #[.int .i64 2, .string M, .string O, .string X]] w (tabPost w b l (Disks.tput l (M, Disks.textOf l M ++ X))) := by
  have HT : Hid (Table w b l) := hT
  have HO : Hid (Disks.ok l) := hok
  clear hT hok
  obtain ⟨hl30, hfo, hasc⟩ := (Disks.ok_iff l).1 HO.out
  have HF : Hid (∀ f ∈ l, Disks.fileOk f) := hfo
  have HA : Hid (Disks.asc l) := hasc
  clear hfo hasc
  obtain ⟨LA, LT, LB, hLL⟩ : ∃ LA LT LB, Disks.look l M = ((LA, LT), LB) := ⟨_, _, _, rfl⟩
  have e3 : Disks.textOf l M = LT := by rw [← Disks.look_text, hLL]
  have hs : LT.size ≤ 20000 := by
    cases LB
    · have := Disks.look_none (l := l) (n := M) (by rw [hLL]); rw [hLL] at this; cases this; exact Nat.zero_le _
    · have hm := (Disks.look_some (l := l) (n := M) (by rw [hLL])).1; rw [hLL] at hm; exact (HF.out _ hm).2.2
  have HL : Hid (Disks.look l M = ((LA, LT), LB)) := hLL
  have hfd := fun wx => field68 LA LT wx
  rw [e3]
  clear hLL e3
  go_enter Tryz.func32, Tryz.ntmps32
  go_wp2_with (first | (at_lookup; refine wpList_get_tab _ rfl _ _ rfl b l M (by unfold maxLen; omega) (HT.out.alloc _) _ _ _ HL.out (by rfl) (by rfl) ?_) | fail)
  obtain ⟨W1, hW1⟩ : ∃ W1, W1 = w.alloc (Obj.cells #[Value.int .i64 2, Value.string M, Value.string O, Value.string X] 44) := ⟨_, rfl⟩
  rw [← hW1]
  have T1 : Hid (Table W1 b l) := by show Table W1 b l; rw [hW1]; exact HT.out.alloc _
  have hB1 : Below w.heap.size w W1 := by rw [hW1]; exact (Below.refl _ _).alloc (Nat.le_refl _) _
  clear hW1
  refine (tabPut_is l HA.out (by omega) M (LT ++ X) (by omega) (by rw [ByteArray.size_append]; omega) b W1 T1.out).mono ?_
  rintro e w3 ⟨rfl, T3, g3⟩
  have T3' : Hid (Table w3 b _) := T3
  clear T3
  go_wp2
  go_ret
  exact tabPost_up hB1 ⟨rfl, T3'.out, g3⟩

set_option maxHeartbeats 1000000 in
set_option maxRecDepth 100000 in
theorem tabDo_3 (l : List FileL) (hok : Disks.ok l) (M O X : ByteArray) (hM : M.size ≤ 1048576) (hO : O.size ≤ 1048576) (hX : X.size ≤ 1048576) (b : Nat) (w : World) (hT : Table w b l) :
    Calls Tryz.prog 32 #[.map (some b), .agg #[.int .i64 3, .string M, .string O, .string X]] w (tabPost w b l (Disks.tmove l M O)) := by
  have HT : Hid (Table w b l) := hT
  have HO : Hid (Disks.ok l) := hok
  clear hT hok
  obtain ⟨hl30, hfo, hasc⟩ := (Disks.ok_iff l).1 HO.out
  have HF : Hid (∀ f ∈ l, Disks.fileOk f) := hfo
  have HA : Hid (Disks.asc l) := hasc
  clear hfo hasc
  go_enter Tryz.func32, Tryz.ntmps32
  go_wp2_with fail
  obtain ⟨W1, hW1⟩ : ∃ W1, W1 = w.alloc (Obj.cells #[Value.int .i64 3, Value.string M, Value.string O, Value.string X] 44) := ⟨_, rfl⟩
  rw [← hW1]
  have T1 : Hid (Table W1 b l) := by show Table W1 b l; rw [hW1]; exact HT.out.alloc _
  have hB1 : Below w.heap.size w W1 := by rw [hW1]; exact (Below.refl _ _).alloc (Nat.le_refl _) _
  clear hW1
  refine (tabMove_is l HA.out (by omega) (fun f hf => by have := (HF.out f hf).2.2; omega) M O (by omega) (by omega) b W1 T1.out).mono ?_
  rintro e w3 ⟨rfl, T3, g3⟩
  have T3' : Hid (Table w3 b _) := T3
  clear T3
  go_wp2
  go_ret
  exact tabPost_up hB1 ⟨rfl, T3'.out, g3⟩

set_option maxHeartbeats 1000000 in
set_option maxRecDepth 100000 in
theorem tabDo_4 (l : List FileL) (hok : Disks.ok l) (M O X : ByteArray) (hM : M.size ≤ 1048576) (hO : O.size ≤ 1048576) (hX : X.size ≤ 1048576) (b : Nat) (w : World) (hT : Table w b l) :
    Calls Tryz.prog 32 #[.map (some b), .agg #[.int .i64 4, .string M, .string O, .string X]] w (tabPost w b l (Disks.tdrop l M)) := by
  have HT : Hid (Table w b l) := hT
  have HO : Hid (Disks.ok l) := hok
  clear hT hok
  obtain ⟨hl30, hfo, hasc⟩ := (Disks.ok_iff l).1 HO.out
  have HF : Hid (∀ f ∈ l, Disks.fileOk f) := hfo
  have HA : Hid (Disks.asc l) := hasc
  clear hfo hasc
  go_enter Tryz.func32, Tryz.ntmps32
  go_wp2_with fail
  obtain ⟨W1, hW1⟩ : ∃ W1, W1 = w.alloc (Obj.cells #[Value.int .i64 4, Value.string M, Value.string O, Value.string X] 44) := ⟨_, rfl⟩
  rw [← hW1]
  have T1 : Hid (Table W1 b l) := by show Table W1 b l; rw [hW1]; exact HT.out.alloc _
  have hB1 : Below w.heap.size w W1 := by rw [hW1]; exact (Below.refl _ _).alloc (Nat.le_refl _) _
  clear hW1
  refine (tabDrop_is l M (by omega) b W1 T1.out).mono ?_
  rintro e w3 ⟨rfl, T3, g3⟩
  have T3' : Hid (Table w3 b _) := T3
  clear T3
  go_wp2
  go_ret
  exact tabPost_up hB1 ⟨rfl, T3'.out, g3⟩

set_option maxHeartbeats 1000000 in
set_option maxRecDepth 100000 in
theorem tabDo_o (l : List FileL) (hok : Disks.ok l) (K : Int) (M O X : ByteArray) (hM : M.size ≤ 1048576) (hO : O.size ≤ 1048576) (hX : X.size ≤ 1048576) (h1 : (K == 1) = false) (h2 : (K == 2) = false) (h3 : (K == 3) = false) (h4 : (K == 4) = false) (b : Nat) (w : World) (hT : Table w b l) :
    Calls Tryz.prog 32 #[.map (some b), .agg #[.int .i64 K, .string M, .string O, .string X]] w (tabPost w b l none) := by
  have HT : Hid (Table w b l) := hT
  have HO : Hid (Disks.ok l) := hok
  clear hT hok
  obtain ⟨hl30, hfo, hasc⟩ := (Disks.ok_iff l).1 HO.out
  have HF : Hid (∀ f ∈ l, Disks.fileOk f) := hfo
  have HA : Hid (Disks.asc l) := hasc
  clear hfo hasc
  go_enter Tryz.func32, Tryz.ntmps32
  go_wp2
  go_ret
  exact ⟨rfl, HT.out.alloc _, grown_of_pk ((Below.refl _ _).alloc (Nat.le_refl _) _)⟩

theorem tabDo_is (l : List FileL) (hok : Disks.ok l) (r : Disks.RawL) (hr : r.name.size ≤ 1048576 ∧ r.dst.size ≤ 1048576 ∧ r.text.size ≤ 1048576) (b : Nat) (w : World) (hT : Table w b l) :
    Calls Tryz.prog 32 #[.map (some b), rawV r] w (tabPost w b l (Disks.putRaw l r)) := by
  rw [← Disks.tdo_is hok]
  obtain ⟨K, M, O, X⟩ := r
  obtain ⟨hM, hO, hX⟩ := hr
  unfold Disks.tdo rawV
  simp only at hM hO hX ⊢
  by_cases k1 : K = 1
  · subst k1; rw [if_pos rfl]; exact tabDo_1 l hok M O X hM hO hX b w hT
  · rw [if_neg k1]
    by_cases k2 : K = 2
    · subst k2; rw [if_pos rfl]; exact tabDo_2 l hok M O X hM hO hX b w hT
    · rw [if_neg k2]
      by_cases k3 : K = 3
      · subst k3; rw [if_pos rfl]; exact tabDo_3 l hok M O X hM hO hX b w hT
      · rw [if_neg k3]
        by_cases k4 : K = 4
        · subst k4; rw [if_pos rfl]; exact tabDo_4 l hok M O X hM hO hX b w hT
        · rw [if_neg k4]; exact tabDo_o l hok K M O X hM hO hX (beq_eq_false_iff_ne.2 k1) (beq_eq_false_iff_ne.2 k2) (beq_eq_false_iff_ne.2 k3) (beq_eq_false_iff_ne.2 k4) b w hT

set_option maxHeartbeats 2000000 in
set_option maxRecDepth 100000 in
theorem filesOf_yes {a : Option Addr} {g off cap : Nat} (l : List FileL) (hok : Disks.ok l) (w : World) (hf : FilesAt w a g off l) :
    Calls Tryz.prog 31 #[.agg #[.slice a l.length cap]] w fun e w' => ∃ b, e = .returned (.tuple #[.map (some b), .bool true]) ∧ w.heap.size ≤ b ∧ Table w' b l ∧ Below w.heap.size w w' := by
  have HF : Hid (FilesAt w a g off l) := hf
  obtain ⟨hl30, hfo, hasc⟩ := (Disks.ok_iff l).1 hok
  have HS : Hid (∀ f ∈ l, f.1.size ≤ 1048576 ∧ f.2.size ≤ 1048576) := fun f hf => by obtain ⟨_, h1, h2⟩ := hfo f hf; omega
  have HK : Hid (Disks.ok l) := hok
  have HA : Hid (Disks.asc l) := hasc
  clear hf hfo hok hasc
  have hmk := make_tab
  go_enter Tryz.func31, Tryz.ntmps31
  go_wp2_with fail
  obtain ⟨W1, hW1⟩ : ∃ W1, W1 = w.alloc (Obj.cells #[Value.slice a l.length cap] 25) := ⟨_, rfl⟩
  rw [← hW1]
  have hB1 : Below w.heap.size w W1 := by rw [hW1]; exact (Below.refl _ _).alloc (Nat.le_refl _) _
  have c1 : W1.cell? ⟨w.heap.size, 0, none⟩ = some (.slice a l.length cap) := by rw [hW1]; exact cell_of_row _ _ 0 _ _ _ (heap_alloc_new w _)
  clear hW1
  refine (implDiskOk_any true l (by omega) W1 (HF.out.kept hB1) HS.out ⟨fun _ => HK.out, fun _ => rfl⟩).mono ?_
  rintro e w2 ⟨rfl, hb2⟩
  have hB2 : Below w.heap.size w w2 := hB1.trans (hb2.mono hB1.size)
  have c2 : w2.cell? ⟨w.heap.size, 0, none⟩ = some (.slice a l.length cap) := (hb2.cell (p := ⟨w.heap.size, 0, none⟩) (World.block_lt_of_cell? W1 _ c1)).trans c1
  have hz2 : w.heap.size < w2.heap.size := World.block_lt_of_cell? w2 _ c2
  clear hb2 c1 hB1
  go_wp2_with fail
  obtain ⟨W3, hW3⟩ : ∃ W3, W3 = w2.alloc (Obj.map #[] 0) := ⟨_, rfl⟩
  obtain ⟨B, hB⟩ : ∃ B, B = w2.heap.size := ⟨_, rfl⟩
  rw [← hW3, ← hB]
  have T3 : Hid (Table W3 B (l.take 0)) := by show Table W3 B _; rw [hW3, hB]; exact table_made w2
  have hB3 : Below w.heap.size w W3 := by rw [hW3]; exact hB2.alloc hB2.size _
  have hwB : w.heap.size ≤ B := by omega
  clear hW3 hB hB2 hz2 c2 hmk
  go_loopw [17] (fun i wr => ∃ k : Nat, k ≤ l.length ∧ i = .int .i64 (k : Int) ∧ Hid (Table wr B (l.take k)) ∧ Below w.heap.size w wr)
    (fun i _ => l.length - (intOf i).toNat)
  case atStart => exact ⟨0, Nat.zero_le _, rfl, T3, hB3⟩
  case round =>
    obtain ⟨k, hk, rfl, TR, hbel⟩ := hrel
    by_cases hlt : k < l.length
    · obtain ⟨c0, c1⟩ := (HF.out.kept hbel).2 k hlt
      have ea := HF.out.1 (by omega)
      subst ea
      obtain ⟨A, hA⟩ : ∃ A, A = l[k].1 := ⟨_, rfl⟩
      obtain ⟨T, hT⟩ : ∃ T, T = l[k].2 := ⟨_, rfl⟩
      obtain ⟨s0, s1⟩ := HS.out l[k] (List.getElem_mem _)
      rw [← hA] at c0 s0
      rw [← hT] at c1 s1
      have HP : Hid (Disks.put (l.take k) (A, T) = l.take (k + 1)) := by show _ = _; rw [hA, hT]; exact Disks.take_put HA.out hlt
      have hk0 : (0 : Int) ≤ (k : Int) := by omega
      have hk1 : (k : Int) < (l.length : Int) := by omega
      clear hA hT
      go_wp2_with (first | (at_mapUpdate; refine wpList_put_tab _ rfl _ _ _ rfl B (l.take k) (List.Pairwise.take HA.out) (by rw [List.length_take]; omega) A T (by unfold maxLen; omega) (TR.out.alloc _) (by rfl) (by rfl) (by rfl) ?_; intro w4 T4 g4 _; go_frame) | fail)
      have hB4 : Below w.heap.size w w4 := (hbel.alloc hbel.size _).grown g4 (by simp; have := hbel.size; omega) (fun j hj => by cases hj; exact hwB)
      rw [HP.out] at T4
      have T4' : Hid (Table w4 B (l.take (k + 1))) := T4
      clear T4 g4
      go_wp2
      go_roundw
      case rel => exact ⟨k + 1, by omega, by go_num, T4', hB4⟩
      case measure => simp [intOf]; omega
    · have hk1 : ¬ (k : Int) < (l.length : Int) := by omega
      have TR' : Hid (Table wr B l) := by show Table wr B l; have := TR.out; rwa [List.take_of_length_le (by omega)] at this
      go_wp2
      go_ret2
      exact ⟨B, rfl, hwB, TR'.out, hbel⟩

end Go.Proofs.YthcfnofhdbjemaaGreatDoor
