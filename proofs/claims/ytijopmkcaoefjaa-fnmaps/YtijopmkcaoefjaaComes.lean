/- The calls of the program's orderToPair, orderToChange, changeBetween and pairBehind, walked. -/
import Derived.Test.YtijopmkcaoefjaaPut
namespace Go.Proofs.Ytijopmkcaoefjaa
open Go.RowKit
set_option linter.unusedVariables false

theorem cmp_list : ∀ a b : List UInt8, Lib.compareBytes a b = if a < b then -1 else if b < a then 1 else 0
  | [], [] => by simp [Lib.compareBytes]
  | _ :: _, [] => by simp [Lib.compareBytes]
  | [], _ :: _ => by simp [Lib.compareBytes]
  | x :: a, y :: b => by
    rw [Lib.compareBytes, cmp_list a b]
    simp only [List.cons_lt_cons_iff]
    by_cases h1 : x < y
    · simp [h1]
    · by_cases h2 : y < x
      · have h3 : ¬ x = y := fun e => by rw [e] at h2; exact UInt8.lt_irrefl _ h2
        simp [h1, h2, h3]
      · have h3 : x = y := UInt8.le_antisymm (UInt8.not_lt.1 h2) (UInt8.not_lt.1 h1)
        subst h3
        simp [h1]
/-- How two texts stand to each other. -/
def Cmp (A B : ByteArray) (x : Int) : Prop := (Batches.lt A B = true ∧ x = -1) ∨ (A = B ∧ x = 0) ∨ (Batches.lt B A = true ∧ x = 1)
theorem cmp_is {A B : ByteArray} {x : Int} (h : Cmp A B x) : Lib.compareBytes A.data.toList B.data.toList = x := by
  rw [cmp_list]
  rcases h with ⟨h, rfl⟩ | ⟨rfl, rfl⟩ | ⟨h, rfl⟩
  · rw [if_pos ((Batches.lt_iff _ _).1 h)]
  · rw [if_neg (List.lt_irrefl _), if_neg (List.lt_irrefl _)]
  · rw [if_neg (List.not_lt.2 (List.le_of_lt ((Batches.lt_iff _ _).1 h))), if_pos ((Batches.lt_iff _ _).1 h)]
set_option maxHeartbeats 1000000 in
theorem orderToPair_is (A V B U : ByteArray) (x : Int) (h : Cmp A B x) (w : World) :
    Calls Try.prog 38 #[.agg #[.string A, .string V], .agg #[.string B, .string U]] w fun e w' => e = .returned (.int .i64 x) ∧ Below w.heap.size w w' := by
  have HX : Hid (Lib.compareBytes A.data.toList B.data.toList = x) := cmp_is h
  clear h
  go_enter Try.func38, Try.ntmps38
  go_wp2_with (go_at_call 65; refine (Try.strings_Compare A B _).mono ?_; rintro e w1 ⟨rfl, rfl⟩; rw [HX.out])
  go_ret
  exact ⟨rfl, ((Below.refl _ _).alloc (Nat.le_refl _) _).alloc (by simp) _⟩
set_option maxHeartbeats 1000000 in
theorem orderToChange_is (A V B U : ByteArray) (G : Bool) (x : Int) (h : Cmp A B x) (w : World) :
    Calls Try.prog 42 #[.agg #[.string A, .string V], .agg #[.string B, .string U, .bool G]] w fun e w' => e = .returned (.int .i64 x) ∧ Below w.heap.size w w' := by
  have HX : Hid (Lib.compareBytes A.data.toList B.data.toList = x) := cmp_is h
  clear h
  go_enter Try.func42, Try.ntmps42
  go_wp2_with (go_at_call 65; refine (Try.strings_Compare A B _).mono ?_; rintro e w1 ⟨rfl, rfl⟩; rw [HX.out])
  go_ret
  exact ⟨rfl, ((Below.refl _ _).alloc (Nat.le_refl _) _).alloc (by simp) _⟩

theorem res3 {w w1 : World} (hb1 : Below (w.alloc (Obj.cells #[Value.string ⟨#[]⟩, Value.string ⟨#[]⟩, Value.bool false] 65)).heap.size (w.alloc (Obj.cells #[Value.string ⟨#[]⟩, Value.string ⟨#[]⟩, Value.bool false] 65)) w1) :
    Hid (w1.heap[w.heap.size]? = some (Obj.cells #[Value.string ⟨#[]⟩, Value.string ⟨#[]⟩, Value.bool false] 65 (0, 0))) ∧ (w1.cell? ⟨w.heap.size, 0, none⟩ = some (.string ⟨#[]⟩) ∧ w1.cell? ⟨w.heap.size, 1, none⟩ = some (.string ⟨#[]⟩) ∧ w1.cell? ⟨w.heap.size, 2, none⟩ = some (.bool false)) ∧
      (w1.frozen? ⟨w.heap.size, 0, none⟩ = false ∧ w1.frozen? ⟨w.heap.size, 1, none⟩ = false ∧ w1.frozen? ⟨w.heap.size, 2, none⟩ = false) := by
  have r1 := (hb1.block _ (by simp)).trans (heap_alloc_new w (Obj.cells #[Value.string ⟨#[]⟩, Value.string ⟨#[]⟩, Value.bool false] 65))
  exact ⟨r1, ⟨cell_of_row _ _ 0 _ _ _ r1, cell_of_row _ _ 1 _ _ _ r1, cell_of_row _ _ 2 _ _ _ r1⟩, ⟨frozen_of_row _ _ 0 _ _ r1, frozen_of_row _ _ 1 _ _ r1, frozen_of_row _ _ 2 _ _ r1⟩⟩
set_option maxHeartbeats 1000000 in
theorem cb_del {g o : Nat} (A V : ByteArray) (hA : A.size ≤ 2097152) (w : World) (c0 : w.cell? ⟨g, o, none⟩ = some (.string A)) :
    Calls Try.prog 39 #[.pointer (some ⟨g, o, none⟩), .pointer none] w fun e w' => e = .returned (.tuple #[.agg #[.string A, .string ⟨#[]⟩, .bool true], .bool true]) ∧ Below w.heap.size w w' := by
  have hg : g < w.heap.size := World.block_lt_of_cell? w _ c0
  have hb0 : Below w.heap.size w (w.alloc (Obj.cells #[Value.string ⟨#[]⟩, Value.string ⟨#[]⟩, Value.bool false] 65)) := (Below.refl _ _).alloc (Nat.le_refl _) _
  have d0 := (hb0.cell (p := ⟨g, o, none⟩) hg).trans c0
  clear c0
  go_enter Try.func39, Try.ntmps39
  go_wp2_with (go_at_call 46; refine (clone_any A (by omega) _).mono ?_; rintro e w1 ⟨rfl, hb1⟩; obtain ⟨HR, ⟨r0, r1, r2⟩, f0, f1, f2⟩ := res3 hb1)
  obtain ⟨l0, l1, l2⟩ := three_cell HR.out (.string A) (.string ⟨#[]⟩) (.bool true)
  have hB := hb0.trans (hb1.mono hb0.size)
  exact bodyPost_ret (v := .tuple #[.agg #[.string A, .string ⟨#[]⟩, .bool true], .bool true]) (by simp [results, Try.results39, go_sem, l0, l1, l2]) rfl ⟨rfl, ((hB.setCell (by simp) _).setCell (by simp) _).setCell (by simp) _⟩
set_option maxHeartbeats 1000000 in
theorem cb_put {h q : Nat} (B U : ByteArray) (hp : smallPair 2097152 ⟨B, U⟩) (w : World) (c0 : w.cell? ⟨h, q, none⟩ = some (.string B)) (c1 : w.cell? ⟨h, q + 1, none⟩ = some (.string U)) :
    Calls Try.prog 39 #[.pointer none, .pointer (some ⟨h, q, none⟩)] w fun e w' => e = .returned (.tuple #[.agg #[.string B, .string U, .bool false], .bool true]) ∧ Below w.heap.size w w' := by
  have hg : h < w.heap.size := World.block_lt_of_cell? w _ c0
  have hb0 : Below w.heap.size w (w.alloc (Obj.cells #[Value.string ⟨#[]⟩, Value.string ⟨#[]⟩, Value.bool false] 65)) := (Below.refl _ _).alloc (Nat.le_refl _) _
  have d0 := (hb0.cell (p := ⟨h, q, none⟩) hg).trans c0
  have d1 := (hb0.cell (p := ⟨h, q + 1, none⟩) hg).trans c1
  clear c0 c1
  go_enter Try.func39, Try.ntmps39
  go_wp2_with fail
  obtain ⟨W1, hW1⟩ : ∃ W1, W1 = w.alloc (Obj.cells #[Value.string ⟨#[]⟩, Value.string ⟨#[]⟩, Value.bool false] 65) := ⟨_, rfl⟩
  have HBW : Hid (∀ w1, Below W1.heap.size W1 w1 → Below (w.alloc (Obj.cells #[Value.string ⟨#[]⟩, Value.string ⟨#[]⟩, Value.bool false] 65)).heap.size (w.alloc (Obj.cells #[Value.string ⟨#[]⟩, Value.string ⟨#[]⟩, Value.bool false] 65)) w1) := fun w1 h => by rw [← hW1]; exact h
  rw [← hW1] at d0 d1 ⊢
  have hz1 : h < W1.heap.size := World.block_lt_of_cell? W1 _ d0
  clear hW1
  have NE := Abv.ne W1
  refine wp_region_above (by kernel_rfl) (by kernel_rfl) ?_
  repeat (go_big_quiet_step (fail))
  refine wpQuiet_nil ?_
  rintro wq ⟨⟨_, hbq⟩, rfl⟩
  clear NE
  have e0 := (hbq.cell (p := ⟨h, q, none⟩) hz1).trans d0
  have e1 := (hbq.cell (p := ⟨h, q + 1, none⟩) hz1).trans d1
  clear d0 d1
  go_wp2_with (go_at_call 45; refine (changePutting_is ⟨B, U⟩ hp _).mono ?_; rintro e w1 ⟨rfl, hb1⟩; have hb2 := HBW.out _ (hbq.trans (hb1.mono hbq.size)); obtain ⟨HR, ⟨r0, r1, r2⟩, f0, f1, f2⟩ := res3 hb2; unfold changeV Maps.put)
  obtain ⟨l0, l1, l2⟩ := three_cell HR.out (.string B) (.string U) (.bool false)
  have hB := hb0.trans (hb2.mono hb0.size)
  exact bodyPost_ret (v := .tuple #[.agg #[.string B, .string U, .bool false], .bool true]) (by simp [results, Try.results39, go_sem, l0, l1, l2]) rfl ⟨rfl, ((hB.setCell (by simp) _).setCell (by simp) _).setCell (by simp) _⟩
set_option maxHeartbeats 1000000 in
theorem cb_both {g o h q : Nat} (V B U : ByteArray) (hp : smallPair 2097152 ⟨B, U⟩) (w : World) (a1 : w.cell? ⟨g, o + 1, none⟩ = some (.string V)) (c0 : w.cell? ⟨h, q, none⟩ = some (.string B)) (c1 : w.cell? ⟨h, q + 1, none⟩ = some (.string U)) (hne : Maps.same V U = false) :
    Calls Try.prog 39 #[.pointer (some ⟨g, o, none⟩), .pointer (some ⟨h, q, none⟩)] w fun e w' => e = .returned (.tuple #[.agg #[.string B, .string U, .bool false], .bool true]) ∧ Below w.heap.size w w' := by
  have hg : h < w.heap.size := World.block_lt_of_cell? w _ c0
  have hg2 : g < w.heap.size := World.block_lt_of_cell? w _ a1
  have hb0 : Below w.heap.size w (w.alloc (Obj.cells #[Value.string ⟨#[]⟩, Value.string ⟨#[]⟩, Value.bool false] 65)) := (Below.refl _ _).alloc (Nat.le_refl _) _
  have d0 := (hb0.cell (p := ⟨h, q, none⟩) hg).trans c0
  have d1 := (hb0.cell (p := ⟨h, q + 1, none⟩) hg).trans c1
  have b1 := (hb0.cell (p := ⟨g, o + 1, none⟩) hg2).trans a1
  clear c0 c1 a1
  unfold Maps.same at hne
  go_enter Try.func39, Try.ntmps39
  go_wp2_with fail
  obtain ⟨W1, hW1⟩ : ∃ W1, W1 = w.alloc (Obj.cells #[Value.string ⟨#[]⟩, Value.string ⟨#[]⟩, Value.bool false] 65) := ⟨_, rfl⟩
  have HBW : Hid (∀ w1, Below W1.heap.size W1 w1 → Below (w.alloc (Obj.cells #[Value.string ⟨#[]⟩, Value.string ⟨#[]⟩, Value.bool false] 65)).heap.size (w.alloc (Obj.cells #[Value.string ⟨#[]⟩, Value.string ⟨#[]⟩, Value.bool false] 65)) w1) := fun w1 h => by rw [← hW1]; exact h
  rw [← hW1] at d0 d1 b1 ⊢
  have hz1 : h < W1.heap.size := World.block_lt_of_cell? W1 _ d0
  clear hW1
  have NE := Abv.ne W1
  have F0 := fun x : Abv W1 => x.cell b1
  have F1 := fun x : Abv W1 => x.cell d1
  refine wp_region_above (by kernel_rfl) (by kernel_rfl) ?_
  repeat (go_big_quiet_step (fail))
  refine wpQuiet_nil ?_
  rintro wq ⟨⟨_, hbq⟩, rfl⟩
  clear NE F0 F1
  have e0 := (hbq.cell (p := ⟨h, q, none⟩) hz1).trans d0
  have e1 := (hbq.cell (p := ⟨h, q + 1, none⟩) hz1).trans d1
  clear d0 d1 b1
  go_wp2_with (go_at_call 45; refine (changePutting_is ⟨B, U⟩ hp _).mono ?_; rintro e w1 ⟨rfl, hb1⟩; have hb2 := HBW.out _ (hbq.trans (hb1.mono hbq.size)); obtain ⟨HR, ⟨r0, r1, r2⟩, f0, f1, f2⟩ := res3 hb2; unfold changeV Maps.put)
  obtain ⟨l0, l1, l2⟩ := three_cell HR.out (.string B) (.string U) (.bool false)
  have hB := hb0.trans (hb2.mono hb0.size)
  exact bodyPost_ret (v := .tuple #[.agg #[.string B, .string U, .bool false], .bool true]) (by simp [results, Try.results39, go_sem, l0, l1, l2]) rfl ⟨rfl, ((hB.setCell (by simp) _).setCell (by simp) _).setCell (by simp) _⟩
set_option maxHeartbeats 1000000 in
theorem cb_same {g o h q : Nat} (V U : ByteArray) (w : World) (a1 : w.cell? ⟨g, o + 1, none⟩ = some (.string V)) (c1 : w.cell? ⟨h, q + 1, none⟩ = some (.string U)) (he : Maps.same V U = true) :
    Calls Try.prog 39 #[.pointer (some ⟨g, o, none⟩), .pointer (some ⟨h, q, none⟩)] w fun e w' => e = .returned (.tuple #[.agg #[.string ⟨#[]⟩, .string ⟨#[]⟩, .bool false], .bool false]) ∧ Below w.heap.size w w' := by
  have hg : h < w.heap.size := World.block_lt_of_cell? w _ c1
  have hg2 : g < w.heap.size := World.block_lt_of_cell? w _ a1
  have hb0 : Below w.heap.size w (w.alloc (Obj.cells #[Value.string ⟨#[]⟩, Value.string ⟨#[]⟩, Value.bool false] 65)) := (Below.refl _ _).alloc (Nat.le_refl _) _
  have d1 := (hb0.cell (p := ⟨h, q + 1, none⟩) hg).trans c1
  have b1 := (hb0.cell (p := ⟨g, o + 1, none⟩) hg2).trans a1
  clear c1 a1
  unfold Maps.same at he
  go_enter Try.func39, Try.ntmps39
  go_wp2_with fail
  obtain ⟨W1, hW1⟩ : ∃ W1, W1 = w.alloc (Obj.cells #[Value.string ⟨#[]⟩, Value.string ⟨#[]⟩, Value.bool false] 65) := ⟨_, rfl⟩
  have HBW : Hid (∀ w1, Below W1.heap.size W1 w1 → Below (w.alloc (Obj.cells #[Value.string ⟨#[]⟩, Value.string ⟨#[]⟩, Value.bool false] 65)).heap.size (w.alloc (Obj.cells #[Value.string ⟨#[]⟩, Value.string ⟨#[]⟩, Value.bool false] 65)) w1) := fun w1 h => by rw [← hW1]; exact h
  rw [← hW1] at d1 b1 ⊢
  clear hW1
  have NE := Abv.ne W1
  have F0 := fun x : Abv W1 => x.cell b1
  have F1 := fun x : Abv W1 => x.cell d1
  refine wp_region_above (by kernel_rfl) (by kernel_rfl) ?_
  repeat (go_big_quiet_step (fail))
  refine wpQuiet_nil ?_
  rintro wq ⟨⟨_, hbq⟩, rfl⟩
  clear NE F0 F1 d1 b1
  have hb2 := HBW.out _ hbq
  obtain ⟨HR, ⟨r0, r1, r2⟩, f0, f1, f2⟩ := res3 hb2
  go_wp2
  obtain ⟨l0, l1, l2⟩ := three_cell HR.out (.string ⟨#[]⟩) (.string ⟨#[]⟩) (.bool false)
  have hB := hb0.trans (hb2.mono hb0.size)
  exact bodyPost_ret (v := .tuple #[.agg #[.string ⟨#[]⟩, .string ⟨#[]⟩, .bool false], .bool false]) (by simp [results, Try.results39, go_sem, l0, l1, l2]) rfl ⟨rfl, ((hB.setCell (by simp) _).setCell (by simp) _).setCell (by simp) _⟩
end Go.Proofs.Ytijopmkcaoefjaa
