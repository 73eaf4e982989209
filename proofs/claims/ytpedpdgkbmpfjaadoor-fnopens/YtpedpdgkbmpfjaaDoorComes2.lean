/- The calls of the program's pairBehind, walked. -/
import Derived.Test.YtpedpdgkbmpfjaaDoorMapBetween
namespace Go.Proofs.YtpedpdgkbmpfjaaDoor
open Go.RowKit
set_option linter.unusedVariables false

namespace Maps
theorem left_len (c : ChangeL) : (left c).length ≤ 1 := by unfold left; split <;> simp
theorem doing_len : ∀ (a : List PairL) (b : List ChangeL), (doing a b).length ≤ a.length + b.length
  | [], [] => by simp [doing]
  | a :: xs, [] => by have := doing_len xs []; rw [doing]; simp only [List.length_cons, List.length_nil] at *; omega
  | [], b :: ys => by have := doing_len [] ys; have h := left_len b; rw [doing]; simp only [List.length_cons, List.length_nil, List.length_append] at *; omega
  | a :: xs, b :: ys => by
    have h1 := doing_len xs (b :: ys)
    have h2 := doing_len (a :: xs) ys
    have h3 := doing_len xs ys
    have h := left_len b
    rw [doing]
    simp only [List.length_cons] at *
    split
    · simp only [List.length_cons]; omega
    · split <;> (rw [List.length_append]; omega)
end Maps
theorem res2 {w w1 : World} (hb1 : Below (w.alloc (Obj.cells #[Value.string ⟨#[]⟩, Value.string ⟨#[]⟩] 48)).heap.size (w.alloc (Obj.cells #[Value.string ⟨#[]⟩, Value.string ⟨#[]⟩] 48)) w1) :
    Hid (w1.heap[w.heap.size]? = some (Obj.cells #[Value.string ⟨#[]⟩, Value.string ⟨#[]⟩] 48 (0, 0))) ∧ (w1.cell? ⟨w.heap.size, 0, none⟩ = some (.string ⟨#[]⟩) ∧ w1.cell? ⟨w.heap.size, 1, none⟩ = some (.string ⟨#[]⟩)) ∧
      (w1.frozen? ⟨w.heap.size, 0, none⟩ = false ∧ w1.frozen? ⟨w.heap.size, 1, none⟩ = false) := by
  have r1 := (hb1.block _ (by simp)).trans (heap_alloc_new w (Obj.cells #[Value.string ⟨#[]⟩, Value.string ⟨#[]⟩] 48))
  exact ⟨r1, ⟨cell_of_row _ _ 0 _ _ _ r1, cell_of_row _ _ 1 _ _ _ r1⟩, ⟨frozen_of_row _ _ 0 _ _ r1, frozen_of_row _ _ 1 _ _ r1⟩⟩
set_option maxHeartbeats 1000000 in
theorem pb_gone {h q : Nat} (lp : Option Addr) (w : World) (c2 : w.cell? ⟨h, q + 2, none⟩ = some (.bool true)) :
    Calls Tryd.prog 80 #[.pointer lp, .pointer (some ⟨h, q, none⟩)] w fun e w' => e = .returned (.tuple #[.agg #[.string ⟨#[]⟩, .string ⟨#[]⟩], .bool false]) ∧ Below w.heap.size w w' := by
  have hg : h < w.heap.size := World.block_lt_of_cell? w _ c2
  have hb0 : Below w.heap.size w (w.alloc (Obj.cells #[Value.string ⟨#[]⟩, Value.string ⟨#[]⟩] 48)) := (Below.refl _ _).alloc (Nat.le_refl _) _
  have d2 := (hb0.cell (p := ⟨h, q + 2, none⟩) hg).trans c2
  clear c2
  obtain ⟨HR, ⟨r0, r1⟩, f0, f1⟩ := res2 (w := w) (Below.refl _ _)
  go_enter Tryd.func80, Tryd.ntmps80
  go_wp2
  exact bodyPost_ret (v := .tuple #[.agg #[.string ⟨#[]⟩, .string ⟨#[]⟩], .bool false]) (by simp [results, Tryd.results80, go_sem]) rfl ⟨rfl, hb0⟩
set_option maxHeartbeats 2000000 in
set_option maxRecDepth 100000 in
theorem pb_keep {g o : Nat} (A V : ByteArray) (hA : A.size ≤ 2097152) (hV : V.size ≤ 2097152) (w : World) (c0 : w.cell? ⟨g, o, none⟩ = some (.string A)) (c1 : w.cell? ⟨g, o + 1, none⟩ = some (.string V)) :
    Calls Tryd.prog 80 #[.pointer (some ⟨g, o, none⟩), .pointer none] w fun e w' => e = .returned (.tuple #[.agg #[.string A, .string V], .bool true]) ∧ Below w.heap.size w w' := by
  have hg : g < w.heap.size := World.block_lt_of_cell? w _ c0
  have hb0 : Below w.heap.size w (w.alloc (Obj.cells #[Value.string ⟨#[]⟩, Value.string ⟨#[]⟩] 48)) := (Below.refl _ _).alloc (Nat.le_refl _) _
  go_enter Tryd.func80, Tryd.ntmps80
  go_wp2_with fail
  obtain ⟨W1, hW1⟩ : ∃ W1, W1 = w.alloc (Obj.cells #[Value.string ⟨#[]⟩, Value.string ⟨#[]⟩] 48) := ⟨_, rfl⟩
  have HRS : Hid (∀ w1, Below W1.heap.size W1 w1 → _) := fun w1 h => res2 (w := w) (w1 := w1) (by rw [← hW1]; exact h)
  have HB0 : Hid (Below w.heap.size w W1) := by rw [hW1]; exact hb0
  rw [← hW1]
  clear hW1 hb0
  have HX : Hid (∀ w', Below W1.heap.size W1 w' → w'.cell? ⟨g, o, none⟩ = some (.string A) ∧ w'.cell? ⟨g, o + 1, none⟩ = some (.string V)) := fun w' hh =>
    have hb := HB0.out.trans (hh.mono HB0.out.size)
    ⟨(hb.cell (p := ⟨g, o, none⟩) hg).trans c0, (hb.cell (p := ⟨g, o + 1, none⟩) hg).trans c1⟩
  have HK : Hid (∀ wc, Below W1.heap.size W1 wc → ∀ x y, ((wc.setCell ⟨w.heap.size, 0, none⟩ x).setCell ⟨w.heap.size, 1, none⟩ y).cell? ⟨g, o, none⟩ = some (.string A) ∧ ((wc.setCell ⟨w.heap.size, 0, none⟩ x).setCell ⟨w.heap.size, 1, none⟩ y).cell? ⟨g, o + 1, none⟩ = some (.string V)) := fun wc hh x y =>
    have hb : Below w.heap.size w ((wc.setCell ⟨w.heap.size, 0, none⟩ x).setCell ⟨w.heap.size, 1, none⟩ y) := ((HB0.out.trans (hh.mono HB0.out.size)).setCell (by simp) _).setCell (by simp) _
    ⟨(hb.cell (p := ⟨g, o, none⟩) hg).trans c0, (hb.cell (p := ⟨g, o + 1, none⟩) hg).trans c1⟩
  obtain ⟨p0, p1⟩ := HX.out W1 (Below.refl _ _)
  have hgs : g ≠ w.heap.size := by omega
  clear c0 c1
  go_region_held3 (fun w' => w'.cell? ⟨g, o, none⟩ = some (.string A) ∧ w'.cell? ⟨g, o + 1, none⟩ = some (.string V))
    (first | exact HX.out _ (by assumption) | exact HK.out _ (by assumption) _ _ | go_keep)
    (first | (go_at_call 65; refine (clone_from (W0 := W1) _ (by first | exact hA | exact hV) _ (by first | assumption | exact (Below.refl _ _).drew)).mono ?_; rintro e wc ⟨rfl, hbc⟩; obtain ⟨HR, ⟨d0, d1⟩, e0, e1⟩ := HRS.out _ hbc))
  all_goals
    go_wp2
    obtain ⟨l0, l1⟩ := two_cell HR.out (.string A) (.string V)
    have hB := HB0.out.trans (hbc.mono HB0.out.size)
    exact bodyPost_ret (v := .tuple #[.agg #[.string A, .string V], .bool true]) (by simp [results, Tryd.results80, go_sem, l0, l1]) rfl ⟨rfl, (hB.setCell (by simp) _).setCell (by simp) _⟩
set_option maxHeartbeats 2000000 in
set_option maxRecDepth 100000 in
theorem pb_put {h q : Nat} (lp : Option Addr) (B U : ByteArray) (hA : B.size ≤ 2097152) (hV : U.size ≤ 2097152) (w : World) (c0 : w.cell? ⟨h, q, none⟩ = some (.string B)) (c1 : w.cell? ⟨h, q + 1, none⟩ = some (.string U)) (c2 : w.cell? ⟨h, q + 2, none⟩ = some (.bool false)) :
    Calls Tryd.prog 80 #[.pointer lp, .pointer (some ⟨h, q, none⟩)] w fun e w' => e = .returned (.tuple #[.agg #[.string B, .string U], .bool true]) ∧ Below w.heap.size w w' := by
  have hg : h < w.heap.size := World.block_lt_of_cell? w _ c0
  have hb0 : Below w.heap.size w (w.alloc (Obj.cells #[Value.string ⟨#[]⟩, Value.string ⟨#[]⟩] 48)) := (Below.refl _ _).alloc (Nat.le_refl _) _
  have d2 := (hb0.cell (p := ⟨h, q + 2, none⟩) hg).trans c2
  go_enter Tryd.func80, Tryd.ntmps80
  go_wp2_with fail
  clear c2 d2
  obtain ⟨W1, hW1⟩ : ∃ W1, W1 = w.alloc (Obj.cells #[Value.string ⟨#[]⟩, Value.string ⟨#[]⟩] 48) := ⟨_, rfl⟩
  have HRS : Hid (∀ w1, Below W1.heap.size W1 w1 → _) := fun w1 h => res2 (w := w) (w1 := w1) (by rw [← hW1]; exact h)
  have HB0 : Hid (Below w.heap.size w W1) := by rw [hW1]; exact hb0
  rw [← hW1]
  clear hW1 hb0
  have HX : Hid (∀ w', Below W1.heap.size W1 w' → w'.cell? ⟨h, q, none⟩ = some (.string B) ∧ w'.cell? ⟨h, q + 1, none⟩ = some (.string U)) := fun w' hh =>
    have hb := HB0.out.trans (hh.mono HB0.out.size)
    ⟨(hb.cell (p := ⟨h, q, none⟩) hg).trans c0, (hb.cell (p := ⟨h, q + 1, none⟩) hg).trans c1⟩
  have HK : Hid (∀ wc, Below W1.heap.size W1 wc → ∀ x y, ((wc.setCell ⟨w.heap.size, 0, none⟩ x).setCell ⟨w.heap.size, 1, none⟩ y).cell? ⟨h, q, none⟩ = some (.string B) ∧ ((wc.setCell ⟨w.heap.size, 0, none⟩ x).setCell ⟨w.heap.size, 1, none⟩ y).cell? ⟨h, q + 1, none⟩ = some (.string U)) := fun wc hh x y =>
    have hb : Below w.heap.size w ((wc.setCell ⟨w.heap.size, 0, none⟩ x).setCell ⟨w.heap.size, 1, none⟩ y) := ((HB0.out.trans (hh.mono HB0.out.size)).setCell (by simp) _).setCell (by simp) _
    ⟨(hb.cell (p := ⟨h, q, none⟩) hg).trans c0, (hb.cell (p := ⟨h, q + 1, none⟩) hg).trans c1⟩
  obtain ⟨p0, p1⟩ := HX.out W1 (Below.refl _ _)
  have hgs : h ≠ w.heap.size := by omega
  clear c0 c1
  go_region_held3 (fun w' => w'.cell? ⟨h, q, none⟩ = some (.string B) ∧ w'.cell? ⟨h, q + 1, none⟩ = some (.string U))
    (first | exact HX.out _ (by assumption) | exact HK.out _ (by assumption) _ _ | go_keep)
    (first | (go_at_call 65; refine (clone_from (W0 := W1) _ (by first | exact hA | exact hV) _ (by first | assumption | exact (Below.refl _ _).drew)).mono ?_; rintro e wc ⟨rfl, hbc⟩; obtain ⟨HR, ⟨d0, d1⟩, e0, e1⟩ := HRS.out _ hbc))
  all_goals
    go_wp2
    obtain ⟨l0, l1⟩ := two_cell HR.out (.string B) (.string U)
    have hB := HB0.out.trans (hbc.mono HB0.out.size)
    exact bodyPost_ret (v := .tuple #[.agg #[.string B, .string U], .bool true]) (by simp [results, Tryd.results80, go_sem, l0, l1]) rfl ⟨rfl, (hB.setCell (by simp) _).setCell (by simp) _⟩
end Go.Proofs.YtpedpdgkbmpfjaaDoor
