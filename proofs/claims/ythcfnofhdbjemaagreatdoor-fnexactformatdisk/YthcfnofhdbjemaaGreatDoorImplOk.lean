/- The program's fileOk and DiskOk, walked. -/
import Derived.Test.YthcfnofhdbjemaaGreatDoorFiles
import Derived.Test.YthcfnofhdbjemaaGreatDoorProg
import Derived.WalkKit
import Derived.WalkSpells
import Derived.WalkLawsBesides
import Derived.Laws.IdiomStrings
import Derived.Laws.BytesArg
import Derived.Laws.BitsAllLaws
import Derived.Test.YthcfnofhdbjemaaGreatDoorRows
import Derived.Test.YthcfnofhdbjemaaGreatDoorDiskEq
import Derived.Deep.RegionWith
import Derived.Deep.QuietTactic
import Derived.BigQuiet
import Derived.Deep.RegionHeld3
import Derived.Test.YthcfnofhdbjemaaGreatDoorConfOk
import Derived.Test.YthcfnofhdbjemaaGreatDoorMathDisk
import Derived.Test.YthcfnofhdbjemaaGreatDoorKit
namespace Go.Proofs.YthcfnofhdbjemaaGreatDoor
open Go.RowKit

set_option maxHeartbeats 400000 in
theorem fileOk_yes (n t : ByteArray) (h : Disks.fileOk (n, t)) (w : World) :
    Calls Tryz.prog 76 #[.agg #[.string n, .string t]] w fun e w' => e = .returned (.bool true) ∧ Below w.heap.size w w' := by
  obtain ⟨h1, h2, h3⟩ := h
  simp only at h1 h2 h3
  have a1 : (1 : Int) ≤ (n.size : Int) := by omega
  have a2 : (n.size : Int) ≤ 12 := by omega
  have a3 : (t.size : Int) ≤ 20000 := by omega
  go_enter Tryz.func76, Tryz.ntmps76
  go_wp2
  go_ret
  exact ⟨rfl, (Below.refl _ _).alloc (Nat.le_refl _) _⟩
set_option maxHeartbeats 400000 in
theorem fileOk_no (n t : ByteArray) (hn : n.size ≤ 2097152) (ht : t.size ≤ 2097152) (h : ¬ Disks.fileOk (n, t)) (w : World) :
    Calls Tryz.prog 76 #[.agg #[.string n, .string t]] w fun e w' => e = .returned (.bool false) ∧ Below w.heap.size w w' := by
  by_cases h1 : 1 ≤ n.size
  · by_cases h2 : n.size ≤ 12
    · have h3 : ¬ t.size ≤ 20000 := fun h3 => h ⟨h1, h2, h3⟩
      have a1 : (1 : Int) ≤ (n.size : Int) := by omega
      have a2 : (n.size : Int) ≤ 12 := by omega
      have a3 : ¬ (t.size : Int) ≤ 20000 := by omega
      clear h
      go_enter Tryz.func76, Tryz.ntmps76
      go_wp2
      go_ret
      exact ⟨rfl, (Below.refl _ _).alloc (Nat.le_refl _) _⟩
    · have a1 : (1 : Int) ≤ (n.size : Int) := by omega
      have a2 : ¬ (n.size : Int) ≤ 12 := by omega
      clear h
      go_enter Tryz.func76, Tryz.ntmps76
      go_wp2
      go_ret
      exact ⟨rfl, (Below.refl _ _).alloc (Nat.le_refl _) _⟩
  · have a1 : ¬ (1 : Int) ≤ (n.size : Int) := by omega
    clear h
    go_enter Tryz.func76, Tryz.ntmps76
    go_wp2
    go_ret
    exact ⟨rfl, (Below.refl _ _).alloc (Nat.le_refl _) _⟩

theorem file_is_ok {f : FileL} {A T : ByteArray} (h1 : A = f.1) (h2 : T = f.2) (h : Disks.fileOk (A, T)) : Disks.fileOk f := by subst h1 h2; exact h
theorem ok_is_file {f : FileL} {A T : ByteArray} (h1 : A = f.1) (h2 : T = f.2) (h : Disks.fileOk f) : Disks.fileOk (A, T) := by subst h1 h2; exact h

set_option maxHeartbeats 4000000 in
set_option maxRecDepth 100000 in
theorem implDiskOk_any (R : Bool) {a : Option Addr} {g off cap : Nat} (l : List FileL) (hlen : l.length ≤ 1048576) (w : World) (hf : FilesAt w a g off l) (hsz : ∀ f ∈ l, f.1.size ≤ 1048576 ∧ f.2.size ≤ 1048576) (hR : R = true ↔ Disks.ok l) :
    Calls Tryz.prog 55 #[.agg #[.slice a l.length cap]] w fun e w' => e = .returned (.bool R) ∧ Below w.heap.size w w' := by
  have HR : Hid (R = true ↔ Disks.ok l) := hR
  clear hR
  have HF : Hid (FilesAt w a g off l) := hf
  have HS : Hid (∀ f ∈ l, f.1.size ≤ 1048576 ∧ f.2.size ≤ 1048576) := hsz
  clear hf hsz
  by_cases h30 : 30 < l.length
  · have h1 : (30 : Int) < (l.length : Int) := by omega
    go_enter Tryz.func55, Tryz.ntmps55
    go_wp2
    go_ret
    exact ⟨by rw [ans_no HR.out (fun h => by have := h.1; omega)]; rfl, (Below.refl _ _).alloc (Nat.le_refl _) _⟩
  · have h1 : ¬ (30 : Int) < (l.length : Int) := by omega
    go_enter Tryz.func55, Tryz.ntmps55
    go_wp2
    go_loopw [12] (fun i wr => ∃ k : Nat, k ≤ l.length ∧ i = .int .i64 (k : Int) ∧ (∀ j, j < k → Disks.okAt l j) ∧ wr.cell? ⟨w.heap.size, 0, none⟩ = some (.slice a l.length cap) ∧ Below w.heap.size w wr ∧ w.heap.size < wr.heap.size)
      (fun i _ => l.length - (intOf i).toNat)
    case atStart => exact ⟨0, Nat.zero_le _, rfl, fun j hj => absurd hj (Nat.not_lt_zero _), cell_of_row _ _ _ _ _ _ (heap_alloc_new w _), (Below.refl _ _).alloc (Nat.le_refl _) _, by simp⟩
    case round =>
      obtain ⟨k, hk, rfl, hall, hd, hbel, hz⟩ := hrel
      have HA : Hid (∀ j, j < k → Disks.okAt l j) := hall
      clear hall
      by_cases hlt : k < l.length
      · obtain ⟨c0, c1⟩ := (HF.out.kept hbel).2 k hlt
        have ea := HF.out.1 (by omega)
        subst ea
        obtain ⟨A, hA⟩ : ∃ A, A = l[k].1 := ⟨_, rfl⟩
        obtain ⟨T, hT⟩ : ∃ T, T = l[k].2 := ⟨_, rfl⟩
        obtain ⟨s0, s1⟩ := HS.out l[k] (List.getElem_mem _)
        rw [← hA] at c0 s0
        rw [← hT] at c1 s1
        have HAA : Hid (A = l[k].1) := hA
        have HTT : Hid (T = l[k].2) := hT
        clear hA hT
        have hk0 : (0 : Int) ≤ (k : Int) := by omega
        have hk1 : (k : Int) < (l.length : Int) := by omega
        by_cases hn : Disks.fileOk (A, T)
        · rcases Nat.eq_zero_or_pos k with hz0 | hp
          · have hkd : decide (0 < k) = false := decide_eq_false (by omega)
            have HN : Hid (Disks.okAt l k) := ⟨hlt, file_is_ok HAA.out HTT.out hn, fun h => absurd h (by omega)⟩
            have HZ : Hid (k = 0) := hz0
            clear hz0
            go_wp2
            obtain ⟨W1, hW1⟩ : ∃ W1, W1 = wr.alloc (Obj.cells #[Value.string A, Value.string T] 41) := ⟨_, rfl⟩
            rw [← hW1]
            have hB1 : Below wr.heap.size wr W1 := by rw [hW1]; exact (Below.refl _ _).alloc (Nat.le_refl _) _
            have f0 : W1.cell? ⟨wr.heap.size, 0, none⟩ = some (.string A) := by rw [hW1]; exact cell_of_row _ _ 0 _ _ _ (heap_alloc_new wr _)
            have f1 : W1.cell? ⟨wr.heap.size, 1, none⟩ = some (.string T) := by rw [hW1]; exact cell_of_row _ _ 1 _ _ _ (heap_alloc_new wr _)
            have hz1 : wr.heap.size < W1.heap.size := World.block_lt_of_cell? W1 _ f0
            have hd1 : W1.cell? ⟨w.heap.size, 0, none⟩ = some (.slice (some ⟨g, off, none⟩) l.length cap) := by rw [hB1.cell (p := ⟨w.heap.size, 0, none⟩) hz]; exact hd
            have hw1 : Below w.heap.size w W1 := hbel.trans (hB1.mono hbel.size)
            have hzz : w.heap.size < W1.heap.size := Nat.lt_trans hz hz1
            clear hW1 hd c0 c1
            have NE := Abv.ne W1
            have F0 := fun x : Abv W1 => x.cell f0
            have F1 := fun x : Abv W1 => x.cell f1
            have FD := fun x : Abv W1 => x.cell hd1
            refine wp_region_above (by kernel_rfl) (by kernel_rfl) ?_
            repeat (go_big_quiet_step (first | (go_at_call 76; exact calls_above (fileOk_yes A T hn _))))
            refine wpQuiet_nil ?_
            rintro w1 ⟨⟨_, hb1⟩, rfl⟩
            go_wp2
            go_roundw
            case rel => exact ⟨k + 1, by omega, by go_num, Disks.ok_step HA.out HN.out, (hb1.cell (p := ⟨w.heap.size, 0, none⟩) hzz).trans hd1, hw1.trans (hb1.mono hw1.size), Nat.lt_of_lt_of_le hzz hb1.size⟩
            case measure => simp [intOf]; omega
          · obtain ⟨m, rfl⟩ : ∃ m, k = m + 1 := ⟨k - 1, by omega⟩
            obtain ⟨e0, _⟩ := (HF.out.kept hbel).2 m (by omega)
            obtain ⟨E, hE⟩ : ∃ E, E = l[m].1 := ⟨_, rfl⟩
            rw [← hE] at e0
            have HEE : Hid (E = l[m].1) := hE
            clear hE
            have hm1 : IntKind.i64.wrap ((m : Int) + 1 - 1) = (m : Int) := by rw [IntWalk.i64_in _ (by omega)]; omega
            have hm2 : decide ((0 : Int) < (m : Int) + 1) = true := decide_eq_true (by omega)
            have hm3 : (0 : Int) ≤ (m : Int) := by omega
            have hm4 : (m : Int) < (l.length : Int) := by omega
            have hg : g < wr.heap.size := World.block_lt_of_cell? wr _ e0
            go_wp2
            obtain ⟨W1, hW1⟩ : ∃ W1, W1 = wr.alloc (Obj.cells #[Value.string A, Value.string T] 41) := ⟨_, rfl⟩
            rw [← hW1]
            have hB1 : Below wr.heap.size wr W1 := by rw [hW1]; exact (Below.refl _ _).alloc (Nat.le_refl _) _
            have f0 : W1.cell? ⟨wr.heap.size, 0, none⟩ = some (.string A) := by rw [hW1]; exact cell_of_row _ _ 0 _ _ _ (heap_alloc_new wr _)
            have f1 : W1.cell? ⟨wr.heap.size, 1, none⟩ = some (.string T) := by rw [hW1]; exact cell_of_row _ _ 1 _ _ _ (heap_alloc_new wr _)
            have hz1 : wr.heap.size < W1.heap.size := World.block_lt_of_cell? W1 _ f0
            have hd1 : W1.cell? ⟨w.heap.size, 0, none⟩ = some (.slice (some ⟨g, off, none⟩) l.length cap) := by rw [hB1.cell (p := ⟨w.heap.size, 0, none⟩) hz]; exact hd
            have hw1 : Below w.heap.size w W1 := hbel.trans (hB1.mono hbel.size)
            have hzz : w.heap.size < W1.heap.size := Nat.lt_trans hz hz1
            clear hW1 hd c0 c1
            have e1 : W1.cell? ⟨g, off + m * 2, none⟩ = some (.string E) := by rw [hB1.cell (p := ⟨g, off + m * 2, none⟩) hg]; exact e0
            have hg1 : g < W1.heap.size := Nat.lt_of_lt_of_le hg hB1.size
            clear e0 hg
            by_cases hb : Op.bytesLess E.toList A.toList = true
            · have HN : Hid (Disks.okAt l (m + 1)) := ⟨hlt, file_is_ok HAA.out HTT.out hn, fun _ => ⟨by omega, by show Op.bytesLess _ _ = true; rw [← HAA.out]; simp only [Nat.add_sub_cancel]; rw [← HEE.out]; exact hb⟩⟩
              have NE := Abv.ne W1
              have F0 := fun x : Abv W1 => x.cell f0
              have F1 := fun x : Abv W1 => x.cell f1
              have FD := fun x : Abv W1 => x.cell hd1
              have FE := fun x : Abv W1 => x.cell e1
              refine wp_region_above (by kernel_rfl) (by kernel_rfl) ?_
              repeat (go_big_quiet_step (first | (go_at_call 76; exact calls_above (fileOk_yes A T hn _))))
              refine wpQuiet_nil ?_
              rintro w1 ⟨⟨_, hb1⟩, rfl⟩
              go_wp2
              go_roundw
              case rel => exact ⟨m + 1 + 1, by omega, by go_num, Disks.ok_step HA.out HN.out, (hb1.cell (p := ⟨w.heap.size, 0, none⟩) hzz).trans hd1, hw1.trans (hb1.mono hw1.size), Nat.lt_of_lt_of_le hzz hb1.size⟩
              case measure => simp [intOf]; omega
            · have hb' : Op.bytesLess E.toList A.toList = false := by simpa using hb
              have HN : Hid (¬ Disks.okAt l (m + 1)) := by
                show ¬ _
                rintro ⟨_, _, q⟩
                obtain ⟨_, q2⟩ := q (by omega)
                simp only [Nat.add_sub_cancel, Disks.lt] at q2
                rw [← HAA.out, ← HEE.out] at q2
                exact hb q2
              clear hb
              have NE := Abv.ne W1
              have F0 := fun x : Abv W1 => x.cell f0
              have F1 := fun x : Abv W1 => x.cell f1
              have FD := fun x : Abv W1 => x.cell hd1
              have FE := fun x : Abv W1 => x.cell e1
              refine wp_region_above (by kernel_rfl) (by kernel_rfl) ?_
              repeat (go_big_quiet_step (first | (go_at_call 76; exact calls_above (fileOk_yes A T hn _))))
              refine wpQuiet_nil ?_
              rintro w1 ⟨⟨_, hb1⟩, rfl⟩
              go_wp2
              go_ret
              exact ⟨by rw [ans_no HR.out (Disks.not_ok hlt HN.out)]; rfl, hw1.trans (hb1.mono hw1.size)⟩
        · have HN : Hid (¬ Disks.okAt l k) := by
            show ¬ _
            rintro ⟨_, q, _⟩
            exact hn (ok_is_file HAA.out HTT.out q)
          go_wp2
          obtain ⟨W1, hW1⟩ : ∃ W1, W1 = wr.alloc (Obj.cells #[Value.string A, Value.string T] 41) := ⟨_, rfl⟩
          rw [← hW1]
          have hB1 : Below wr.heap.size wr W1 := by rw [hW1]; exact (Below.refl _ _).alloc (Nat.le_refl _) _
          have f0 : W1.cell? ⟨wr.heap.size, 0, none⟩ = some (.string A) := by rw [hW1]; exact cell_of_row _ _ 0 _ _ _ (heap_alloc_new wr _)
          have f1 : W1.cell? ⟨wr.heap.size, 1, none⟩ = some (.string T) := by rw [hW1]; exact cell_of_row _ _ 1 _ _ _ (heap_alloc_new wr _)
          have hz1 : wr.heap.size < W1.heap.size := World.block_lt_of_cell? W1 _ f0
          have hd1 : W1.cell? ⟨w.heap.size, 0, none⟩ = some (.slice (some ⟨g, off, none⟩) l.length cap) := by rw [hB1.cell (p := ⟨w.heap.size, 0, none⟩) hz]; exact hd
          have hw1 : Below w.heap.size w W1 := hbel.trans (hB1.mono hbel.size)
          have hzz : w.heap.size < W1.heap.size := Nat.lt_trans hz hz1
          clear hW1 hd c0 c1
          have NE := Abv.ne W1
          have F0 := fun x : Abv W1 => x.cell f0
          have F1 := fun x : Abv W1 => x.cell f1
          have FD := fun x : Abv W1 => x.cell hd1
          refine wp_region_above (by kernel_rfl) (by kernel_rfl) ?_
          repeat (go_big_quiet_step (first | (go_at_call 76; exact calls_above (fileOk_no A T (by omega) (by omega) hn _))))
          refine wpQuiet_nil ?_
          rintro w1 ⟨⟨_, hb1⟩, rfl⟩
          go_wp2
          go_ret
          exact ⟨by rw [ans_no HR.out (Disks.not_ok hlt HN.out)]; rfl, hw1.trans (hb1.mono hw1.size)⟩
      · have hk1 : ¬ (k : Int) < (l.length : Int) := by omega
        go_wp2
        go_ret
        exact ⟨by rw [HR.out.2 ⟨by omega, fun j hj => HA.out j (by omega)⟩]; rfl, hbel⟩
end Go.Proofs.YthcfnofhdbjemaaGreatDoor
