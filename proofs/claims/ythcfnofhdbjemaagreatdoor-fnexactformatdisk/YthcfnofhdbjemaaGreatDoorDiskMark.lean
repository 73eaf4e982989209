/- Marks: markText, markFileS, heldFileS, markDisk, heldDisk, walked. -/
import Derived.Test.YthcfnofhdbjemaaGreatDoorKit
import Derived.Deep.RegionWith
import Derived.Deep.QuietTactic
import Derived.BigQuiet
import Derived.Deep.RegionHeld3
import Derived.Test.YthcfnofhdbjemaaGreatDoorFiles
import Derived.Test.YthcfnofhdbjemaaGreatDoorMarkText
namespace Go.Proofs.YthcfnofhdbjemaaGreatDoor.Words
end Go.Proofs.YthcfnofhdbjemaaGreatDoor.Words
namespace Go.Proofs.YthcfnofhdbjemaaGreatDoor
open Go.RowKit

/-- The mark of a number, as a text. -/
def mk_pk (k : Nat) : ByteArray := ⟨(mark k).toArray⟩
theorem markText_is_pk (k : Nat) (h0 : 0 < k) (hk : k ≤ 1000000000) (w : World) :
    Calls Tryz.prog 35 #[.int .i64 (k : Int)] w fun e w' => e = .returned (.string (mk_pk k)) ∧ Below w.heap.size w w' := markText_any k h0 hk w
theorem markText_succ (M : Nat) (hk : M + 1 ≤ 1000000000) (w : World) :
    Calls Tryz.prog 35 #[.int .i64 ((M : Int) + 1)] w fun e w' => e = .returned (.string (mk_pk (M + 1))) ∧ Below w.heap.size w w' := markText_any (M + 1) (Nat.succ_pos _) hk w
/-- Marked files: from k on, two numbers each. -/
def marksF (k n : Nat) : List FileL := (List.range n).map fun i => (mk_pk (k + 2 * i), mk_pk (k + 2 * i + 1))
theorem marksF_len (k n : Nat) : (marksF k n).length = n := by simp [marksF]
theorem marksF_at (k n j : Nat) (hj : j < (marksF k n).length) : (marksF k n)[j] = (mk_pk (k + 2 * j), mk_pk (k + 2 * j + 1)) := by simp [marksF]
/-- The row behind j marked files. -/
theorem own_below'_pk {w w' : World} {g : Nat} (h : Below w.heap.size w w') : w.grownBy w' (some g) := ⟨h.os, h.tape, h.output, h.size, fun k hk _ => h.block k hk⟩

set_option maxHeartbeats 2000000 in
set_option maxRecDepth 100000 in
theorem markFileS_is {B g cap : Nat} (l : List FileL) (hlen : l.length ≤ 1048576) (k : Nat) (h0 : 0 < k) (hk : k ≤ 100000000) (w : World) (hA : w.ownsRow B 41 2 (.slice (some ⟨g, 0, none⟩) l.length cap) l.length (cellsF l)) :
    Calls Tryz.prog 19 #[.slice (some ⟨g, 0, none⟩) l.length cap, .int .i64 (k : Int)] w fun e w' => e = .returned (.int .i64 ((k + 2 * l.length : Nat) : Int)) ∧ w'.ownsRow B 41 2 (.slice (some ⟨g, 0, none⟩) l.length cap) l.length (cellsF (marksF k l.length)) ∧ w.grownBy w' (some g) := by
  go_enter Tryz.func19, Tryz.ntmps19
  go_wp2
  go_loopw [1, 5] (fun x i wr => ∃ (j : Nat) (pre : List FileL), j ≤ l.length ∧ i = .int .i64 (j : Int) ∧ x = .int .i64 ((k + 2 * j : Nat) : Int) ∧ pre.length = l.length ∧ pre.take j = (marksF k l.length).take j ∧
      wr.ownsRow B 41 2 (.slice (some ⟨g, 0, none⟩) l.length cap) l.length (cellsF pre) ∧ w.grownBy wr (some g)) (fun _ i _ => l.length - (intOf i).toNat)
  case atStart => exact ⟨0, l, Nat.zero_le _, rfl, rfl, rfl, by simp, hA, World.grownBy.refl _ _⟩
  case round =>
    obtain ⟨j, pre, hj, rfl, rfl, hpl, hpt, hown, hgr⟩ := hrel
    have HL : Hid (pre.length = l.length) := hpl
    have HT : Hid (pre.take j = (marksF k l.length).take j) := hpt
    clear hpl hpt hA
    by_cases hlt : j < l.length
    · have hk0 : (0 : Int) ≤ (j : Int) := by omega
      have hk1 : (j : Int) < (l.length : Int) := by omega
      obtain ⟨M, hM⟩ : ∃ M : Nat, M = k + 2 * j := ⟨_, rfl⟩
      have hMb : 0 < M ∧ M ≤ 900000000 := by omega
      have HM : Hid (M = k + 2 * j) := hM
      rw [← hM]
      clear hM
      go_wp2_with fail
      refine (markText_is_pk M hMb.1 (by omega) _).mono ?_
      rintro e w1 ⟨rfl, hb1⟩
      have hown1 := own_kept hown hb1
      have hgr1 := hgr.trans (own_below'_pk hb1)
      have hf0 := hown1.frozenAt (j * 2)
      obtain ⟨u0, hu0⟩ : ∃ u0, w1.cell? ⟨g, j * 2, none⟩ = some u0 := by
        rw [hown1.cellAt (j * 2) (by omega)]
        exact ⟨_, (cellsF_at pre j (by rw [HL.out]; exact hlt)).1⟩
      have hs1 := hown1.stored (j * 2) (.string (mk_pk M))
      have HS1 : Hid (_ ∧ _) := hs1
      clear hs1 hown1 hown hb1 hgr
      go_wp2_with fail
      refine (markText_succ M (by omega) _).mono ?_
      rintro e w2 ⟨rfl, hb2⟩
      have hown2 := own_kept HS1.out.1 hb2
      have hgr2 := (hgr1.trans HS1.out.2).trans (own_below'_pk hb2)
      have hf1 := hown2.frozenAt (j * 2 + 1)
      obtain ⟨u1, hu1⟩ : ∃ u1, w2.cell? ⟨g, j * 2 + 1, none⟩ = some u1 := by
        rw [hown2.cellAt (j * 2 + 1) (by omega)]
        rw [List.getElem?_set_ne (by omega)]
        exact ⟨_, (cellsF_at pre j (by rw [HL.out]; exact hlt)).2⟩
      have hs2 := hown2.stored (j * 2 + 1) (.string (mk_pk (M + 1)))
      rw [← cellsF_set pre j (mk_pk M, mk_pk (M + 1))] at hs2
      have HS2 : Hid (_ ∧ _) := hs2
      clear hs2 hown2 hb2 hgr1
      go_wp2
      go_roundw
      case rel =>
        refine ⟨j + 1, pre.set j (mk_pk M, mk_pk (M + 1)), by omega, by go_num, ?_, by rw [List.length_set]; exact HL.out, ?_, HS2.out.1, hgr2.trans HS2.out.2⟩
        · rw [show k + 2 * (j + 1) = M + 1 + 1 by have := HM.out; omega]; rfl
        · refine take_set_step (by rw [marksF_len]; exact hlt) (by rw [marksF_len]; exact HL.out) HT.out ?_
          rw [marksF_at, ← HM.out]
      case measure => simp [intOf]; omega
    · have hk1 : ¬ (j : Int) < (l.length : Int) := by omega
      have HE : Hid (pre = marksF k l.length ∧ j = l.length) := by
        have h := HT.out
        rw [List.take_of_length_le (by rw [HL.out]; omega), List.take_of_length_le (by rw [marksF_len]; omega)] at h
        exact ⟨h, by omega⟩
      go_wp2
      go_ret
      refine ⟨by rw [← HE.out.2]; rfl, by rw [← HE.out.1]; exact hown, hgr⟩

set_option maxHeartbeats 2000000 in
set_option maxRecDepth 100000 in
theorem heldFileS_is {a : Option Addr} {g off cap : Nat} (n : Nat) (hlen : n ≤ 1048576) (k : Nat) (h0 : 0 < k) (hk : k ≤ 100000000) (w : World) (hf : FilesAt w a g off (marksF k n)) :
    Calls Tryz.prog 20 #[.slice a n cap, .int .i64 (k : Int)] w fun e w' => e = .returned (.int .i64 ((k + 2 * n : Nat) : Int)) ∧ Below w.heap.size w w' := by
  have HF : Hid (FilesAt w a g off (marksF k n)) := hf
  clear hf
  go_enter Tryz.func20, Tryz.ntmps20
  go_wp2
  go_loopw [1, 5] (fun x i wr => ∃ j : Nat, j ≤ n ∧ i = .int .i64 (j : Int) ∧ x = .int .i64 ((k + 2 * j : Nat) : Int) ∧ Below w.heap.size w wr) (fun _ i _ => n - (intOf i).toNat)
  case atStart => exact ⟨0, Nat.zero_le _, rfl, rfl, Below.refl _ _⟩
  case round =>
    obtain ⟨j, hj, rfl, rfl, hbel⟩ := hrel
    by_cases hlt : j < n
    · have hjl : j < (marksF k n).length := by rw [marksF_len]; exact hlt
      obtain ⟨c0, c1⟩ := (HF.out.kept hbel).2 j hjl
      have hgz := (HF.out.kept hbel).lt (by omega)
      rw [marksF_at] at c0 c1
      have ea := HF.out.1 (by omega)
      subst ea
      have hk0 : (0 : Int) ≤ (j : Int) := by omega
      have hk1 : (j : Int) < (n : Int) := by omega
      obtain ⟨M, hM⟩ : ∃ M : Nat, M = k + 2 * j := ⟨_, rfl⟩
      have hMb : 0 < M ∧ M ≤ 900000000 := by omega
      have HM : Hid (M = k + 2 * j) := hM
      rw [← hM] at c0 c1 ⊢
      clear hM hjl
      simp only at c0 c1
      go_wp2
      go_region_held3 (fun w' => w'.cell? ⟨g, off + j * 2, none⟩ = some (.string (mk_pk M)) ∧ w'.cell? ⟨g, off + j * 2 + 1, none⟩ = some (.string (mk_pk (M + 1)))) (first | go_keep | exact ⟨(hb1.cell (p := ⟨g, off + j * 2, none⟩) hgz).trans c0, (hb1.cell (p := ⟨g, off + j * 2 + 1, none⟩) hgz).trans c1⟩) (first | (go_at_call 35; refine (markText_is_pk M hMb.1 (by omega) _).mono ?_; rintro e w1 ⟨rfl, hb1⟩))
      all_goals
        have d1 := (hb1.cell (p := ⟨g, off + j * 2 + 1, none⟩) hgz).trans c1
        have hB1 : Below w.heap.size w w1 := (hbel.drew).trans (hb1.mono hbel.size)
        have hgz1 : g < w1.heap.size := Nat.lt_of_lt_of_le hgz hb1.size
        clear hb1 c0 c1
        go_wp2
        go_region_held3 (fun w' => w'.cell? ⟨g, off + j * 2 + 1, none⟩ = some (.string (mk_pk (M + 1)))) (first | go_keep | exact (hb2.cell (p := ⟨g, off + j * 2 + 1, none⟩) hgz1).trans d1) (first | (go_at_call 35; refine (markText_succ M (by omega) _).mono ?_; rintro e w2 ⟨rfl, hb2⟩))
        all_goals
          go_wp2
          go_roundw
          case rel =>
            refine ⟨j + 1, by omega, by go_num, ?_, (hB1.drew).trans (hb2.mono hB1.size)⟩
            rw [show k + 2 * (j + 1) = M + 1 + 1 by have := HM.out; omega]; rfl
          case measure => simp [intOf]; omega
    · have hk1 : ¬ (j : Int) < (n : Int) := by omega
      have HE : Hid (j = n) := by show _ = _; omega
      go_wp2
      go_ret
      exact ⟨by rw [← HE.out]; rfl, hbel⟩
end Go.Proofs.YthcfnofhdbjemaaGreatDoor
