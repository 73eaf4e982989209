/- The exact law of BatchOk, walked. -/
import Derived.Test.YtjheeeijikldpaaImplOk
import Derived.Deep.RegionHeld3
namespace Go.Proofs.Ytjheeeijikldpaa
open Go.RowKit

theorem below_undrew {w w' : World} (h : Below w.drew.heap.size w.drew w') : Below w.heap.size w w' := ((Below.refl _ _).drew).trans h
set_option maxHeartbeats 4000000 in
set_option maxRecDepth 100000 in
theorem lawOk_any {st : Int} {a : Option Addr} {g off cap : Nat} (l : List ChangeL) (hlen : l.length ≤ maxLen) (hsz : ∀ r ∈ l, smallChange maxLen r) (w : World) (hf : ChangeAt w a g off l) :
    Calls Try.prog 4 #[.agg #[.int .i64 st, .slice a l.length cap]] w fun e w' => e = .returned (.bool true) ∧ Below w.heap.size w w' := by
  have HF : Hid (ChangeAt w a g off l) := hf
  have HS : Hid (∀ r ∈ l, smallChange maxLen r) := hsz
  have HL : Hid (l.length ≤ maxLen) := hlen
  clear hf hsz hlen
  go_enter Try.func4, Try.ntmps4
  go_wp2_with fail
  obtain ⟨W, hW⟩ : ∃ W, W = w.alloc (Obj.cells #[Value.int IntKind.i64 st, Value.slice a l.length cap] 36) := ⟨_, rfl⟩
  rw [← hW]
  have hWb : Below w.heap.size w W := by rw [hW]; exact (Below.refl _ _).alloc (Nat.le_refl _) _
  have hWc0 : W.cell? ⟨w.heap.size, 0, none⟩ = some (.int .i64 st) := by rw [hW]; exact cell_of_row _ _ 0 _ _ _ (heap_alloc_new w _)
  have hWc : W.cell? ⟨w.heap.size, 1, none⟩ = some (.slice a l.length cap) := by rw [hW]; exact cell_of_row _ _ 1 _ _ _ (heap_alloc_new w _)
  have hWz : w.heap.size < W.heap.size := World.block_lt_of_cell? W _ hWc
  clear hW
  refine (szBatch_any l HL.out HS.out 1048576 (Nat.le_refl _) W (HF.out.kept hWb)).mono ?_
  rintro e w1 ⟨x, rfl, hx, hb1⟩
  have hB1 : Below w.heap.size w w1 := hWb.trans (hb1.mono hWb.size)
  have hC1 : Below W.heap.size W w1 := hb1
  have hz1 : W.heap.size ≤ w1.heap.size := hb1.size
  clear hWb hb1
  have HC : Hid (∀ w', Below W.heap.size W w' → w'.cell? ⟨w.heap.size, 0, none⟩ = some (.int .i64 st) ∧ w'.cell? ⟨w.heap.size, 1, none⟩ = some (.slice a l.length cap)) := fun w' h => ⟨(h.cell (p := ⟨w.heap.size, 0, none⟩) hWz).trans hWc0, (h.cell (p := ⟨w.heap.size, 1, none⟩) hWz).trans hWc⟩
  clear hWc hWc0 hWz
  rcases hx with ⟨hx1, hx2⟩ | ⟨hx1, hx2⟩
  · obtain ⟨Y, hY⟩ : ∃ Y : Nat, Y = 1048576 - totChange l := ⟨_, rfl⟩
    rw [← hY] at hx2
    subst hx2
    clear hY
    obtain ⟨hl, hs⟩ := totChange_small hx1
    have hl2 : l.length ≤ 2097152 := by omega
    have HSS : Hid (∀ r ∈ l, smallChange 2097152 r) := fun r hr => ⟨Nat.le_trans (hs r hr).1 (by omega), Nat.le_trans (hs r hr).2 (by omega)⟩
    clear hs hx1
    obtain ⟨R, hR⟩ : ∃ R : Bool, R = true ↔ Batches.ok st l := by
      by_cases h : Batches.ok st l
      · exact ⟨true, by simp [h]⟩
      · exact ⟨false, by simp [h]⟩
    have HR : Hid (R = true ↔ Batches.ok st l) := hR
    clear hR
    obtain ⟨q0, q1⟩ := HC.out w1 hC1
    go_wp2_with fail
    refine (toBatch_any l hl w1 (HF.out.kept hB1)).mono ?_
    rintro e w2 ⟨g2, rfl, hg2, hown2, hb2⟩
    have hB2 : Below w.heap.size w w2 := hB1.trans (hb2.mono hB1.size)
    have hC2 : Below W.heap.size W w2 := hC1.trans (hb2.mono hC1.size)
    have HF2 : Hid (ChangeAt w2 (some ⟨g2, 0, none⟩) g2 0 l) := cellsChange_own rfl hown2
    clear hB1 hb2 hown2 q0 q1 hC1 hz1
    go_wp2_with fail
    refine (specOk_any R st l hl2 w2 HF2.out HSS.out HR.out).mono ?_
    rintro e w3 ⟨rfl, hb3⟩
    have hB3 : Below w.heap.size w w3 := hB2.trans (hb3.mono hB2.size)
    have hC3 : Below W.heap.size W w3 := hC2.trans (hb3.mono hC2.size)
    clear hB2 hb3 HF2 hC2
    obtain ⟨q0, q1⟩ := HC.out w3 hC3
    go_wp2_with fail
    refine (toBatch_any l hl w3 (HF.out.kept hB3)).mono ?_
    rintro e w4 ⟨g4, rfl, hg4, hown4, hb4⟩
    have hB4 : Below w.heap.size w w4 := hB3.trans (hb4.mono hB3.size)
    have hC4 : Below W.heap.size W w4 := hC3.trans (hb4.mono hC3.size)
    have HF4 : Hid (ChangeAt w4 (some ⟨g4, 0, none⟩) g4 0 l) := cellsChange_own rfl hown4
    clear hB3 hb4 hown4 q0 q1 hC3
    go_wp2_with fail
    obtain ⟨W5, hW5⟩ : ∃ W5, W5 = w4.alloc (Obj.cells #[Value.int IntKind.i64 st, Value.slice (some ⟨g4, 0, none⟩) l.length l.length] 26) := ⟨_, rfl⟩
    rw [← hW5]
    have hb5 : Below w4.heap.size w4 W5 := by rw [hW5]; exact (Below.refl _ _).alloc (Nat.le_refl _) _
    have hx50 : W5.cell? ⟨w4.heap.size, 0, none⟩ = some (.int .i64 st) := by rw [hW5]; exact cell_of_row _ _ 0 _ _ _ (heap_alloc_new w4 _)
    have hx5 : W5.cell? ⟨w4.heap.size, 1, none⟩ = some (.slice (some ⟨g4, 0, none⟩) l.length l.length) := by rw [hW5]; exact cell_of_row _ _ 1 _ _ _ (heap_alloc_new w4 _)
    have hxz5 : w4.heap.size < W5.heap.size := World.block_lt_of_cell? W5 _ hx5
    have hB5 : Below w.heap.size w W5 := hB4.trans (hb5.mono hB4.size)
    have hC5 : Below W.heap.size W W5 := hC4.trans (hb5.mono hC4.size)
    have HF5 : Hid (ChangeAt W5 (some ⟨g4, 0, none⟩) g4 0 l) := HF4.out.kept hb5
    clear hW5 hb5 hB4 hC4 HF4
    refine (implOk_any R st l hl2 W5 HF5.out HSS.out HR.out).mono ?_
    rintro e w6 ⟨rfl, hb6⟩
    have hx60 : w6.cell? ⟨w4.heap.size, 0, none⟩ = some (.int .i64 st) := (hb6.cell (p := ⟨w4.heap.size, 0, none⟩) hxz5).trans hx50
    have hx6 : w6.cell? ⟨w4.heap.size, 1, none⟩ = some (.slice (some ⟨g4, 0, none⟩) l.length l.length) := (hb6.cell (p := ⟨w4.heap.size, 1, none⟩) hxz5).trans hx5
    have hxz6 : w4.heap.size < w6.heap.size := Nat.lt_of_lt_of_le hxz5 hb6.size
    have hB6 : Below w.heap.size w w6 := hB5.trans (hb6.mono hB5.size)
    have hC6 : Below W.heap.size W w6 := hC5.trans (hb6.mono hC5.size)
    have HF6 : Hid (ChangeAt w6 (some ⟨g4, 0, none⟩) g4 0 l) := HF5.out.kept hb6
    clear hx5 hx50 hxz5 hB5 hC5 HF5 hb6
    obtain ⟨hc60, hc6⟩ := HC.out w6 hC6
    have HX : Hid (∀ w', Below w6.heap.size w6 w' → (w'.cell? ⟨w4.heap.size, 0, none⟩ = some (.int .i64 st) ∧ w'.cell? ⟨w4.heap.size, 1, none⟩ = some (.slice (some ⟨g4, 0, none⟩) l.length l.length)) ∧ w'.cell? ⟨w.heap.size, 0, none⟩ = some (.int .i64 st) ∧ w'.cell? ⟨w.heap.size, 1, none⟩ = some (.slice a l.length cap)) := fun w' h => ⟨⟨(h.cell (p := ⟨w4.heap.size, 0, none⟩) hxz6).trans hx60, (h.cell (p := ⟨w4.heap.size, 1, none⟩) hxz6).trans hx6⟩, HC.out w' (hC6.trans (h.mono hC6.size))⟩
    go_wp2_with fail
    go_region_held3 (fun w' => (w'.cell? ⟨w4.heap.size, 0, none⟩ = some (.int .i64 st) ∧ w'.cell? ⟨w4.heap.size, 1, none⟩ = some (.slice (some ⟨g4, 0, none⟩) l.length l.length)) ∧ w'.cell? ⟨w.heap.size, 0, none⟩ = some (.int .i64 st) ∧ w'.cell? ⟨w.heap.size, 1, none⟩ = some (.slice a l.length cap)) (first | go_keep | exact HX.out _ (below_undrew hb7) | exact HX.out _ ((below_undrew hb7).trans (hb8.mono hb7.size)))
      (first | (go_at_call 15; refine (toBatch_any l hl _ (HF.out.kept hB6.drew)).mono ?_; rintro e w7 ⟨g7, rfl, hg7, hown7, hb7⟩) | (go_at_call 16; refine (eqBatch_same l hl _ (ChangeAt.kept (w := w6.drew) HF6.out hb7) (cellsChange_own rfl hown7)).mono ?_; rintro e w8 ⟨rfl, hb8⟩))
    all_goals
      go_wp2
      go_ret
      have hB7 : Below w.heap.size w w7 := (hB6.drew).trans (hb7.mono hB6.size)
      exact ⟨rfl, hB7.trans (hb8.mono hB7.size)⟩
  · subst hx2
    go_wp2
    go_ret
    exact ⟨rfl, hB1⟩
end Go.Proofs.Ytjheeeijikldpaa
