/- The exact law of DiskOk, walked, out of the contract of the program's DiskOk. -/
import Derived.Test.YtpkkejpidlkmnaaSz
import Derived.Test.YtpkkejpidlkmnaaTo
import Derived.Test.YtpkkejpidlkmnaaEq
import Derived.Test.YtpkkejpidlkmnaaDiskOk
namespace Go.Proofs.Ytpkkejpidlkmnaa
open Go.RowKit

/-- What the program's DiskOk is to answer. -/
def ImplDiskOk : Prop := ∀ (R : Bool) (a : Option Addr) (g off cap : Nat) (l : List FileL) (w : World), l.length ≤ 1048576 → FilesAt w a g off l → (∀ f ∈ l, f.1.size ≤ 1048576 ∧ f.2.size ≤ 1048576) → (R = true ↔ Disks.ok l) →
    Calls Try.prog 22 #[.agg #[.slice a l.length cap]] w fun e w' => e = .returned (.bool R) ∧ Below w.heap.size w w'

theorem sizes_of_tot {l : List FileL} (h : tot l ≤ 1048576) : l.length ≤ 1048576 ∧ ∀ f ∈ l, f.1.size ≤ 1048576 ∧ f.2.size ≤ 1048576 :=
  ⟨Nat.le_trans (tot_len l) h, fun f hf => by have := tot_mem hf; omega⟩

set_option maxHeartbeats 4000000 in
set_option maxRecDepth 100000 in
theorem lawDiskOk_any (hi : ImplDiskOk) {a : Option Addr} {g off cap : Nat} (l : List FileL) (hlen : l.length ≤ maxLen) (hsz : ∀ f ∈ l, f.1.size ≤ maxLen ∧ f.2.size ≤ maxLen) (w : World) (hf : FilesAt w a g off l) :
    Calls Try.prog 6 #[.agg #[.slice a l.length cap]] w fun e w' => e = .returned (.bool true) ∧ Below w.heap.size w w' := by
  have HI : Hid ImplDiskOk := hi
  have HF : Hid (FilesAt w a g off l) := hf
  have HS : Hid (∀ f ∈ l, f.1.size ≤ maxLen ∧ f.2.size ≤ maxLen) := hsz
  have HL : Hid (l.length ≤ maxLen) := hlen
  clear hi hf hsz hlen
  go_enter Try.func6, Try.ntmps6
  go_wp2_with fail
  obtain ⟨W, hW⟩ : ∃ W, W = w.alloc (Obj.cells #[Value.slice a l.length cap] 29) := ⟨_, rfl⟩
  rw [← hW]
  have hWb : Below w.heap.size w W := by rw [hW]; exact (Below.refl _ _).alloc (Nat.le_refl _) _
  have hWc : W.cell? ⟨w.heap.size, 0, none⟩ = some (.slice a l.length cap) := by rw [hW]; exact cell_of_row _ _ _ _ _ _ (heap_alloc_new w _)
  have hWz : w.heap.size < W.heap.size := World.block_lt_of_cell? W _ hWc
  clear hW
  refine (szDisk_any l HL.out HS.out 1048576 (Nat.le_refl _) W (HF.out.kept hWb)).mono ?_
  rintro e w1 ⟨x, rfl, hx, hb1⟩
  have hB1 : Below w.heap.size w w1 := hWb.trans (hb1.mono hWb.size)
  have hc1 : w1.cell? ⟨w.heap.size, 0, none⟩ = some (.slice a l.length cap) := by rw [hb1.cell (p := ⟨w.heap.size, 0, none⟩) hWz]; exact hWc
  have hz1 : w.heap.size < w1.heap.size := Nat.lt_of_lt_of_le hWz hb1.size
  clear hWb hb1 hWc hWz
  rcases hx with ⟨hx1, hx2⟩ | ⟨hx1, hx2⟩
  · obtain ⟨Y, hY⟩ : ∃ Y : Nat, Y = 1048576 - tot l := ⟨_, rfl⟩
    rw [← hY] at hx2
    subst hx2
    clear hY
    obtain ⟨hl, hs⟩ := sizes_of_tot hx1
    have HSS : Hid (∀ f ∈ l, f.1.size ≤ 1048576 ∧ f.2.size ≤ 1048576) := hs
    clear hs hx1
    obtain ⟨R, hR⟩ : ∃ R : Bool, R = true ↔ Disks.ok l := by
      by_cases h : Disks.ok l
      · exact ⟨true, by simp [h]⟩
      · exact ⟨false, by simp [h]⟩
    have HR : Hid (R = true ↔ Disks.ok l) := hR
    clear hR
    go_wp2_with fail
    refine (toDisk_any l hl w1 (HF.out.kept hB1)).mono ?_
    rintro e w2 ⟨g2, rfl, hg2, hown2, hb2⟩
    have hB2 : Below w.heap.size w w2 := hB1.trans (hb2.mono hB1.size)
    have hc2 : w2.cell? ⟨w.heap.size, 0, none⟩ = some (.slice a l.length cap) := by rw [hb2.cell (p := ⟨w.heap.size, 0, none⟩) hz1]; exact hc1
    have hz2 : w.heap.size < w2.heap.size := Nat.lt_of_lt_of_le hz1 hb2.size
    have HF2 : Hid (FilesAt w2 (some ⟨g2, 0, none⟩) g2 0 l) := own_files rfl hown2
    clear hB1 hb2 hc1 hz1 hown2
    go_wp2_with fail
    refine (specDiskOk_any R l hl w2 HF2.out HSS.out HR.out).mono ?_
    rintro e w3 ⟨rfl, hb3⟩
    have hB3 : Below w.heap.size w w3 := hB2.trans (hb3.mono hB2.size)
    have hc3 : w3.cell? ⟨w.heap.size, 0, none⟩ = some (.slice a l.length cap) := by rw [hb3.cell (p := ⟨w.heap.size, 0, none⟩) hz2]; exact hc2
    have hz3 : w.heap.size < w3.heap.size := Nat.lt_of_lt_of_le hz2 hb3.size
    clear hB2 hb3 hc2 hz2 HF2
    go_wp2_with fail
    refine (toDisk_any l hl w3 (HF.out.kept hB3)).mono ?_
    rintro e w4 ⟨g4, rfl, hg4, hown4, hb4⟩
    have hB4 : Below w.heap.size w w4 := hB3.trans (hb4.mono hB3.size)
    have hc4 : w4.cell? ⟨w.heap.size, 0, none⟩ = some (.slice a l.length cap) := by rw [hb4.cell (p := ⟨w.heap.size, 0, none⟩) hz3]; exact hc3
    have hz4 : w.heap.size < w4.heap.size := Nat.lt_of_lt_of_le hz3 hb4.size
    have HF4 : Hid (FilesAt w4 (some ⟨g4, 0, none⟩) g4 0 l) := own_files rfl hown4
    clear hB3 hb4 hc3 hz3 hown4
    go_wp2_with fail
    obtain ⟨W5, hW5⟩ : ∃ W5, W5 = w4.alloc (Obj.cells #[Value.slice (some ⟨g4, 0, none⟩) l.length l.length] 34) := ⟨_, rfl⟩
    rw [← hW5]
    have hb5 : Below w4.heap.size w4 W5 := by rw [hW5]; exact (Below.refl _ _).alloc (Nat.le_refl _) _
    have hx5 : W5.cell? ⟨w4.heap.size, 0, none⟩ = some (.slice (some ⟨g4, 0, none⟩) l.length l.length) := by rw [hW5]; exact cell_of_row _ _ _ _ _ _ (heap_alloc_new w4 _)
    have hxz5 : w4.heap.size < W5.heap.size := World.block_lt_of_cell? W5 _ hx5
    have hB5 : Below w.heap.size w W5 := hB4.trans (hb5.mono hB4.size)
    have hc5 : W5.cell? ⟨w.heap.size, 0, none⟩ = some (.slice a l.length cap) := by rw [hb5.cell (p := ⟨w.heap.size, 0, none⟩) hz4]; exact hc4
    have HF5 : Hid (FilesAt W5 (some ⟨g4, 0, none⟩) g4 0 l) := HF4.out.kept hb5
    have hz5 : w.heap.size < W5.heap.size := Nat.lt_of_lt_of_le hz4 hb5.size
    clear hW5 hb5 hB4 hc4 hz4 HF4
    refine (HI.out R _ _ _ _ l W5 hl HF5.out HSS.out HR.out).mono ?_
    rintro e w6 ⟨rfl, hb6⟩
    have hx6 : w6.cell? ⟨w4.heap.size, 0, none⟩ = some (.slice (some ⟨g4, 0, none⟩) l.length l.length) := by rw [hb6.cell (p := ⟨w4.heap.size, 0, none⟩) hxz5]; exact hx5
    have hc6 : w6.cell? ⟨w.heap.size, 0, none⟩ = some (.slice a l.length cap) := by rw [hb6.cell (p := ⟨w.heap.size, 0, none⟩) hz5]; exact hc5
    have hxz6 : w4.heap.size < w6.heap.size := Nat.lt_of_lt_of_le hxz5 hb6.size
    have hz6 : w.heap.size < w6.heap.size := Nat.lt_of_lt_of_le hz5 hb6.size
    have hB6 : Below w.heap.size w w6 := hB5.trans (hb6.mono hB5.size)
    have HF6 : Hid (FilesAt w6 (some ⟨g4, 0, none⟩) g4 0 l) := HF5.out.kept hb6
    clear hx5 hxz5 hB5 hc5 HF5 hz5 hb6
    go_wp2_with fail
    go_region_held3 (fun w' => w'.cell? ⟨w4.heap.size, 0, none⟩ = some (.slice (some ⟨g4, 0, none⟩) l.length l.length) ∧ w'.cell? ⟨w.heap.size, 0, none⟩ = some (.slice a l.length cap)) (first | go_keep | exact ⟨(hb7.cell (p := ⟨w4.heap.size, 0, none⟩) hxz6).trans hx6, (hb7.cell (p := ⟨w.heap.size, 0, none⟩) hz6).trans hc6⟩ | exact ⟨(hb8.cell (p := ⟨w4.heap.size, 0, none⟩) (Nat.lt_of_lt_of_le hxz6 hb7.size)).trans ((hb7.cell (p := ⟨w4.heap.size, 0, none⟩) hxz6).trans hx6), (hb8.cell (p := ⟨w.heap.size, 0, none⟩) (Nat.lt_of_lt_of_le hz6 hb7.size)).trans ((hb7.cell (p := ⟨w.heap.size, 0, none⟩) hz6).trans hc6)⟩)
      (first | (go_at_call 21; refine (toDisk_any l hl _ (HF.out.kept hB6.drew)).mono ?_; rintro e w7 ⟨g7, rfl, hg7, hown7, hb7⟩) | (go_at_call 23; refine (eqDisk_same l hl _ (FilesAt.kept (w := w6.drew) HF6.out hb7) (own_files rfl hown7)).mono ?_; rintro e w8 ⟨rfl, hb8⟩))
    all_goals
      go_wp2
      go_ret
      have hB7 : Below w.heap.size w w7 := (hB6.drew).trans (hb7.mono hB6.size)
      exact ⟨rfl, hB7.trans (hb8.mono hB7.size)⟩
  · subst hx2
    go_wp2
    go_ret
    exact ⟨rfl, hB1⟩
end Go.Proofs.Ytpkkejpidlkmnaa
