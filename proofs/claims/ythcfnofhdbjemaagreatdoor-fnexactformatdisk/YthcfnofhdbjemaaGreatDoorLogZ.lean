/- The file of an empty log, of the program and of the specification, walked. Made by program. -/
import Derived.Test.YthcfnofhdbjemaaGreatDoorFormat
import Derived.Test.YthcfnofhdbjemaaGreatDoorFrame
namespace Go.Proofs.YthcfnofhdbjemaaGreatDoor
open Go.RowKit
set_option linter.unusedVariables false
set_option linter.unusedSimpArgs false
def recZ : ByteArray := (⟨#[83]⟩ : ByteArray) ++ varS 0 ++ varS 0
def fileZ : ByteArray := frameB recZ
theorem recZ_size : recZ.size = 3 := by decide +kernel
theorem fileZ_size : fileZ.size = 8 := by decide +kernel
theorem inz (lo hi : Int) (h1 : lo ≤ 0) (h2 : 0 ≤ hi) (w : World) : Calls Tryz.prog 39 #[.int .i64 0, .int .i64 lo, .int .i64 hi] w fun e w' => e = .returned (.bool true) ∧ w' = w := in_is 0 lo hi true (by simp [h1, h2]) w
set_option maxHeartbeats 2000000 in
set_option maxRecDepth 100000 in
theorem specOkZ (w : World) : Calls Tryz.prog 23 #[.agg #[.int .i64 0, .int .i64 0, .slice none 0 0]] w fun e w' => e = .returned (.bool true) ∧ Below w.heap.size w w' := by
  obtain ⟨W, hW⟩ : ∃ W, W = w.alloc (.cells #[.int .i64 0, .int .i64 0, .slice none 0 0] 38) := ⟨_, rfl⟩
  have hb : Below w.heap.size w W := by rw [hW]; exact (Below.refl _ _).alloc (Nat.le_refl _) _
  have p0 : W.cell? ⟨w.heap.size, 0, none⟩ = some (.int .i64 0) := by rw [hW]; exact cell_of_row _ _ 0 _ _ _ (heap_alloc_new w _)
  have p1 : W.cell? ⟨w.heap.size, 1, none⟩ = some (.int .i64 0) := by rw [hW]; exact cell_of_row _ _ 1 _ _ _ (heap_alloc_new w _)
  have p2 : W.cell? ⟨w.heap.size, 2, none⟩ = some (.slice none 0 0) := by rw [hW]; exact cell_of_row _ _ 2 _ _ _ (heap_alloc_new w _)
  have HX : Hid (∀ w', Below W.heap.size W w' → w'.cell? ⟨w.heap.size, 0, none⟩ = some (.int .i64 0) ∧ w'.cell? ⟨w.heap.size, 1, none⟩ = some (.int .i64 0) ∧ w'.cell? ⟨w.heap.size, 2, none⟩ = some (.slice none 0 0)) := fun w' h => by
    have hz : w.heap.size < W.heap.size := by rw [hW]; simp
    exact ⟨(h.cell (p := ⟨w.heap.size, 0, none⟩) hz).trans p0, (h.cell (p := ⟨w.heap.size, 1, none⟩) hz).trans p1, (h.cell (p := ⟨w.heap.size, 2, none⟩) hz).trans p2⟩
  have HB : Hid (Below w.heap.size w W) := hb
  rw [hW] at p0 p1 p2
  clear hW hb HX
  go_enter Tryz.func23, Tryz.ntmps23
  go_wp2_with (go_at_call 39; refine (inz _ _ (by decide) (by decide) _).mono ?_; rintro e w' ⟨rfl, rfl⟩)
  refine wp_loop_rounds 1 ?_
  rw [rounds_succ]
  go_wp2
  go_ret
  exact ⟨rfl, (Below.refl _ _).alloc (Nat.le_refl _) _⟩
theorem stampZ (w : World) : Calls Tryz.prog 49 #[.int .i64 0] w fun e w' => e = .returned (.bool true) ∧ w' = w := by
  go_enter Tryz.func49, Tryz.ntmps49
  go_wp2
  go_ret
  exact ⟨rfl, rfl⟩
theorem termZ (w : World) : Calls Tryz.prog 50 #[.int .i64 0] w fun e w' => e = .returned (.bool true) ∧ w' = w := by
  go_enter Tryz.func50, Tryz.ntmps50
  go_wp2
  go_ret
  exact ⟨rfl, rfl⟩
theorem entsZ (w : World) : Calls Tryz.prog 51 #[.slice none 0 0, .int .i64 0] w fun e w' => e = .returned (.bool true) ∧ w' = w := by
  go_enter Tryz.func51, Tryz.ntmps51
  go_wp2
  refine wp_loop_rounds 1 ?_
  rw [rounds_succ]
  go_wp2
  go_ret
  exact ⟨rfl, rfl⟩
set_option maxHeartbeats 2000000 in
set_option maxRecDepth 100000 in
theorem implOkZ (w : World) : Calls Tryz.prog 28 #[.agg #[.int .i64 0, .int .i64 0, .slice none 0 0]] w fun e w' => e = .returned (.bool true) ∧ Below w.heap.size w w' := by
  obtain ⟨W, hW⟩ : ∃ W, W = w.alloc (.cells #[.int .i64 0, .int .i64 0, .slice none 0 0] 38) := ⟨_, rfl⟩
  have hb : Below w.heap.size w W := by rw [hW]; exact (Below.refl _ _).alloc (Nat.le_refl _) _
  have p0 : W.cell? ⟨w.heap.size, 0, none⟩ = some (.int .i64 0) := by rw [hW]; exact cell_of_row _ _ 0 _ _ _ (heap_alloc_new w _)
  have p1 : W.cell? ⟨w.heap.size, 1, none⟩ = some (.int .i64 0) := by rw [hW]; exact cell_of_row _ _ 1 _ _ _ (heap_alloc_new w _)
  have p2 : W.cell? ⟨w.heap.size, 2, none⟩ = some (.slice none 0 0) := by rw [hW]; exact cell_of_row _ _ 2 _ _ _ (heap_alloc_new w _)
  have HX : Hid (∀ w', Below W.heap.size W w' → w'.cell? ⟨w.heap.size, 0, none⟩ = some (.int .i64 0) ∧ w'.cell? ⟨w.heap.size, 1, none⟩ = some (.int .i64 0) ∧ w'.cell? ⟨w.heap.size, 2, none⟩ = some (.slice none 0 0)) := fun w' h => by
    have hz : w.heap.size < W.heap.size := by rw [hW]; simp
    exact ⟨(h.cell (p := ⟨w.heap.size, 0, none⟩) hz).trans p0, (h.cell (p := ⟨w.heap.size, 1, none⟩) hz).trans p1, (h.cell (p := ⟨w.heap.size, 2, none⟩) hz).trans p2⟩
  have HB : Hid (Below w.heap.size w W) := hb
  rw [hW] at p0 p1 p2
  clear hW hb HX
  go_enter Tryz.func28, Tryz.ntmps28
  go_wp2_with (first | (go_at_call 49; refine (stampZ _).mono ?_; rintro e w' ⟨rfl, rfl⟩) | (go_at_call 50; refine (termZ _).mono ?_; rintro e w' ⟨rfl, rfl⟩) | (go_at_call 51; refine (entsZ _).mono ?_; rintro e w' ⟨rfl, rfl⟩) | fail)
  go_ret
  exact ⟨rfl, (Below.refl _ _).alloc (Nat.le_refl _) _⟩
theorem partZ (w : World) : Calls Tryz.prog 53 #[.slice none 0 0, .int .i64 0, .int .i64 0] w fun e w' => e = .returned (.slice none 0 0) ∧ w' = w := by
  go_enter Tryz.func53, Tryz.ntmps53
  go_wp2
  go_ret
  exact ⟨rfl, rfl⟩
set_option maxHeartbeats 2000000 in
set_option maxRecDepth 100000 in
theorem implFramesZ (w : World) : Calls Tryz.prog 30 #[.agg #[.int .i64 0, .int .i64 0, .slice none 0 0], .int .i64 0] w fun e w' => e = .returned (.string ⟨#[]⟩) ∧ Below w.heap.size w w' := by
  obtain ⟨W, hW⟩ : ∃ W, W = w.alloc (.cells #[.int .i64 0, .int .i64 0, .slice none 0 0] 38) := ⟨_, rfl⟩
  have hb : Below w.heap.size w W := by rw [hW]; exact (Below.refl _ _).alloc (Nat.le_refl _) _
  have p0 : W.cell? ⟨w.heap.size, 0, none⟩ = some (.int .i64 0) := by rw [hW]; exact cell_of_row _ _ 0 _ _ _ (heap_alloc_new w _)
  have p1 : W.cell? ⟨w.heap.size, 1, none⟩ = some (.int .i64 0) := by rw [hW]; exact cell_of_row _ _ 1 _ _ _ (heap_alloc_new w _)
  have p2 : W.cell? ⟨w.heap.size, 2, none⟩ = some (.slice none 0 0) := by rw [hW]; exact cell_of_row _ _ 2 _ _ _ (heap_alloc_new w _)
  have HX : Hid (∀ w', Below W.heap.size W w' → w'.cell? ⟨w.heap.size, 0, none⟩ = some (.int .i64 0) ∧ w'.cell? ⟨w.heap.size, 1, none⟩ = some (.int .i64 0) ∧ w'.cell? ⟨w.heap.size, 2, none⟩ = some (.slice none 0 0)) := fun w' h => by
    have hz : w.heap.size < W.heap.size := by rw [hW]; simp
    exact ⟨(h.cell (p := ⟨w.heap.size, 0, none⟩) hz).trans p0, (h.cell (p := ⟨w.heap.size, 1, none⟩) hz).trans p1, (h.cell (p := ⟨w.heap.size, 2, none⟩) hz).trans p2⟩
  have HB : Hid (Below w.heap.size w W) := hb
  rw [hW] at p0 p1 p2
  clear hW hb HX
  go_enter Tryz.func30, Tryz.ntmps30
  go_wp2_with (first | (go_at_call 53; refine (partZ _).mono ?_; rintro e w' ⟨rfl, rfl⟩) | fail)
  refine wp_loop_rounds 1 ?_
  rw [rounds_succ]
  go_wp2
  go_ret
  exact ⟨rfl, (Below.refl _ _).alloc (Nat.le_refl _) _⟩
set_option maxHeartbeats 2000000 in
set_option maxRecDepth 100000 in
theorem specFramesZ (w : World) : Calls Tryz.prog 25 #[.agg #[.int .i64 0, .int .i64 0, .slice none 0 0], .int .i64 0] w fun e w' => e = .returned (.string ⟨#[]⟩) ∧ Below w.heap.size w w' := by
  obtain ⟨W, hW⟩ : ∃ W, W = w.alloc (.cells #[.int .i64 0, .int .i64 0, .slice none 0 0] 38) := ⟨_, rfl⟩
  have hb : Below w.heap.size w W := by rw [hW]; exact (Below.refl _ _).alloc (Nat.le_refl _) _
  have p0 : W.cell? ⟨w.heap.size, 0, none⟩ = some (.int .i64 0) := by rw [hW]; exact cell_of_row _ _ 0 _ _ _ (heap_alloc_new w _)
  have p1 : W.cell? ⟨w.heap.size, 1, none⟩ = some (.int .i64 0) := by rw [hW]; exact cell_of_row _ _ 1 _ _ _ (heap_alloc_new w _)
  have p2 : W.cell? ⟨w.heap.size, 2, none⟩ = some (.slice none 0 0) := by rw [hW]; exact cell_of_row _ _ 2 _ _ _ (heap_alloc_new w _)
  have HX : Hid (∀ w', Below W.heap.size W w' → w'.cell? ⟨w.heap.size, 0, none⟩ = some (.int .i64 0) ∧ w'.cell? ⟨w.heap.size, 1, none⟩ = some (.int .i64 0) ∧ w'.cell? ⟨w.heap.size, 2, none⟩ = some (.slice none 0 0)) := fun w' h => by
    have hz : w.heap.size < W.heap.size := by rw [hW]; simp
    exact ⟨(h.cell (p := ⟨w.heap.size, 0, none⟩) hz).trans p0, (h.cell (p := ⟨w.heap.size, 1, none⟩) hz).trans p1, (h.cell (p := ⟨w.heap.size, 2, none⟩) hz).trans p2⟩
  have HB : Hid (Below w.heap.size w W) := hb
  rw [hW] at p0 p1 p2
  clear hW hb HX
  have hcv : (convert 67 9 (.slice (some ⟨w.heap.size + 1, 0, none⟩) 0 0)).run Tryz.prog ((w.alloc (Obj.cells #[.int .i64 0, .int .i64 0, .slice none 0 0] 38)).alloc (Obj.cells #[] 5)) = .ok (.string ⟨#[]⟩) ((w.alloc (Obj.cells #[.int .i64 0, .int .i64 0, .slice none 0 0] 38)).alloc (Obj.cells #[] 5)) := by
    have ho := World.ownsRow_lit (base := 0) (e := 5) (size := 1) (w.alloc (Obj.cells #[.int .i64 0, .int .i64 0, .slice none 0 0] 38)) #[] 0 (by simp) (by unfold maxLen; omega) rfl
    have := string_own (l := []) ho
    simpa using this
  go_enter Tryz.func25, Tryz.ntmps25
  go_wp2
  refine wp_loop_rounds 1 ?_
  rw [rounds_succ]
  go_wp2
  go_ret
  exact ⟨rfl, ((Below.refl _ _).alloc (Nat.le_refl _) _).alloc (by simp) _⟩
set_option maxHeartbeats 2000000 in
set_option maxRecDepth 100000 in
theorem specHeadZ (w : World) : Calls Tryz.prog 24 #[.agg #[.int .i64 0, .int .i64 0, .slice none 0 0]] w fun e w' => e = .returned (.string fileZ) ∧ Below w.heap.size w w' := by
  obtain ⟨W, hW⟩ : ∃ W, W = w.alloc (.cells #[.int .i64 0, .int .i64 0, .slice none 0 0] 38) := ⟨_, rfl⟩
  have hb : Below w.heap.size w W := by rw [hW]; exact (Below.refl _ _).alloc (Nat.le_refl _) _
  have p0 : W.cell? ⟨w.heap.size, 0, none⟩ = some (.int .i64 0) := by rw [hW]; exact cell_of_row _ _ 0 _ _ _ (heap_alloc_new w _)
  have p1 : W.cell? ⟨w.heap.size, 1, none⟩ = some (.int .i64 0) := by rw [hW]; exact cell_of_row _ _ 1 _ _ _ (heap_alloc_new w _)
  have p2 : W.cell? ⟨w.heap.size, 2, none⟩ = some (.slice none 0 0) := by rw [hW]; exact cell_of_row _ _ 2 _ _ _ (heap_alloc_new w _)
  have HX : Hid (∀ w', Below W.heap.size W w' → w'.cell? ⟨w.heap.size, 0, none⟩ = some (.int .i64 0) ∧ w'.cell? ⟨w.heap.size, 1, none⟩ = some (.int .i64 0) ∧ w'.cell? ⟨w.heap.size, 2, none⟩ = some (.slice none 0 0)) := fun w' h => by
    have hz : w.heap.size < W.heap.size := by rw [hW]; simp
    exact ⟨(h.cell (p := ⟨w.heap.size, 0, none⟩) hz).trans p0, (h.cell (p := ⟨w.heap.size, 1, none⟩) hz).trans p1, (h.cell (p := ⟨w.heap.size, 2, none⟩) hz).trans p2⟩
  have HB : Hid (Below w.heap.size w W) := hb
  rw [hW] at p0 p1 p2
  have HF : Hid (∀ X : World, Calls Tryz.prog 42 #[.string recZ] X fun e w' => e = .returned (.tuple #[.string fileZ, .bool true]) ∧ Below X.heap.size X w') := fun X => specFrame_yes recZ (by rw [recZ_size]; decide) (by rw [recZ_size]; decide) X
  obtain ⟨V, hV⟩ : ∃ V, V = varS 0 := ⟨_, rfl⟩
  have HV : Hid (∀ X : World, Calls Tryz.prog 37 #[.int .i64 0] X fun e w' => e = .returned (.string V) ∧ Below X.heap.size X w') := fun X => by rw [hV]; exact l01Var_q 0 (by decide) (by decide) X
  have HVS : V.size ≤ 5 := by rw [hV]; exact varS_five 0 (by decide)
  have HRZ : Hid ((⟨#[83]⟩ : ByteArray) ++ V ++ V = recZ) := by show _ = _; rw [hV]; rfl
  obtain ⟨FZ, hFZ⟩ : ∃ FZ, FZ = fileZ := ⟨_, rfl⟩
  rw [← hFZ] at HF ⊢
  clear hb hV hFZ
  have HF2 : Hid (∀ X : World, Calls Tryz.prog 42 #[.string ((⟨#[83]⟩ : ByteArray) ++ V ++ V)] X fun e w' => e = .returned (.tuple #[.string FZ, .bool true]) ∧ Below X.heap.size X w') := fun X => by rw [HRZ.out]; exact HF.out X
  clear HF HRZ
  go_enter Tryz.func24, Tryz.ntmps24
  go_wp2_with fail
  rw [← hW]
  clear hW p0 p1 p2
  have NE := Abv.ne W
  obtain ⟨y0, y1, y2⟩ := HX.out W (Below.refl _ _)
  have C0 := fun x : Abv W => x.cell y0
  have C1 := fun x : Abv W => x.cell y1
  have C2 := fun x : Abv W => x.cell y2
  clear y0 y1 y2 HX
  refine wp_region_above (by kernel_rfl) (by kernel_rfl) ?_
  repeat (go_big_quiet_step (first | (go_at_call 37; with_reducible exact calls_above (HV.out _)) | (go_at_call 42; with_reducible exact calls_above (HF2.out _)) | fail))
  refine wpQuiet_nil ?_
  rintro w9 ⟨⟨_, hb9⟩, rfl⟩
  have H9 : Hid (Below W.heap.size W w9) := hb9
  clear NE C0 C1 C2 hb9
  go_wp2
  go_ret
  exact ⟨rfl, HB.out.trans (H9.out.mono HB.out.size)⟩
set_option maxHeartbeats 2000000 in
set_option maxRecDepth 100000 in
theorem implHeadZ (w : World) : Calls Tryz.prog 29 #[.agg #[.int .i64 0, .int .i64 0, .slice none 0 0]] w fun e w' => e = .returned (.string fileZ) ∧ Below w.heap.size w w' := by
  obtain ⟨W, hW⟩ : ∃ W, W = w.alloc (.cells #[.int .i64 0, .int .i64 0, .slice none 0 0] 38) := ⟨_, rfl⟩
  have hb : Below w.heap.size w W := by rw [hW]; exact (Below.refl _ _).alloc (Nat.le_refl _) _
  have p0 : W.cell? ⟨w.heap.size, 0, none⟩ = some (.int .i64 0) := by rw [hW]; exact cell_of_row _ _ 0 _ _ _ (heap_alloc_new w _)
  have p1 : W.cell? ⟨w.heap.size, 1, none⟩ = some (.int .i64 0) := by rw [hW]; exact cell_of_row _ _ 1 _ _ _ (heap_alloc_new w _)
  have p2 : W.cell? ⟨w.heap.size, 2, none⟩ = some (.slice none 0 0) := by rw [hW]; exact cell_of_row _ _ 2 _ _ _ (heap_alloc_new w _)
  have HX : Hid (∀ w', Below W.heap.size W w' → w'.cell? ⟨w.heap.size, 0, none⟩ = some (.int .i64 0) ∧ w'.cell? ⟨w.heap.size, 1, none⟩ = some (.int .i64 0) ∧ w'.cell? ⟨w.heap.size, 2, none⟩ = some (.slice none 0 0)) := fun w' h => by
    have hz : w.heap.size < W.heap.size := by rw [hW]; simp
    exact ⟨(h.cell (p := ⟨w.heap.size, 0, none⟩) hz).trans p0, (h.cell (p := ⟨w.heap.size, 1, none⟩) hz).trans p1, (h.cell (p := ⟨w.heap.size, 2, none⟩) hz).trans p2⟩
  have HB : Hid (Below w.heap.size w W) := hb
  rw [hW] at p0 p1 p2
  have HF : Hid (∀ X : World, Calls Tryz.prog 52 #[.string recZ] X fun e w' => e = .returned (.tuple #[.string fileZ, .bool true]) ∧ Below X.heap.size X w') := fun X => implFrame_yes recZ (by rw [recZ_size]; decide) (by rw [recZ_size]; decide) X
  obtain ⟨V, hV⟩ : ∃ V, V = varS 0 := ⟨_, rfl⟩
  have HV : Hid (∀ X : World, Calls Tryz.prog 47 #[.int .i64 0] X fun e w' => e = .returned (.string V) ∧ Below X.heap.size X w') := fun X => by rw [hV]; exact varOf_q 0 (by decide) (by decide) X
  have HVS : V.size ≤ 5 := by rw [hV]; exact varS_five 0 (by decide)
  have HRZ : Hid ((⟨#[83]⟩ : ByteArray) ++ V ++ V = recZ) := by show _ = _; rw [hV]; rfl
  obtain ⟨FZ, hFZ⟩ : ∃ FZ, FZ = fileZ := ⟨_, rfl⟩
  rw [← hFZ] at HF ⊢
  clear hb hV hFZ
  have HF2 : Hid (∀ X : World, Calls Tryz.prog 52 #[.string ((⟨#[83]⟩ : ByteArray) ++ V ++ V)] X fun e w' => e = .returned (.tuple #[.string FZ, .bool true]) ∧ Below X.heap.size X w') := fun X => by rw [HRZ.out]; exact HF.out X
  clear HF HRZ
  go_enter Tryz.func29, Tryz.ntmps29
  go_wp2_with fail
  rw [← hW]
  clear hW p0 p1 p2
  have NE := Abv.ne W
  obtain ⟨y0, y1, y2⟩ := HX.out W (Below.refl _ _)
  have C0 := fun x : Abv W => x.cell y0
  have C1 := fun x : Abv W => x.cell y1
  have C2 := fun x : Abv W => x.cell y2
  clear y0 y1 y2 HX
  refine wp_region_above (by kernel_rfl) (by kernel_rfl) ?_
  repeat (go_big_quiet_step (first | (go_at_call 47; with_reducible exact calls_above (HV.out _)) | (go_at_call 52; with_reducible exact calls_above (HF2.out _)) | fail))
  refine wpQuiet_nil ?_
  rintro w9 ⟨⟨_, hb9⟩, rfl⟩
  have H9 : Hid (Below W.heap.size W w9) := hb9
  clear NE C0 C1 C2 hb9
  go_wp2
  go_ret
  exact ⟨rfl, HB.out.trans (H9.out.mono HB.out.size)⟩
set_option maxHeartbeats 2000000 in
set_option maxRecDepth 100000 in
theorem specFileZ (w : World) : Calls Tryz.prog 13 #[.agg #[.int .i64 0, .int .i64 0, .slice none 0 0]] w fun e w' => e = .returned (.tuple #[.string fileZ, .bool true]) ∧ Below w.heap.size w w' := by
  obtain ⟨W, hW⟩ : ∃ W, W = w.alloc (.cells #[.int .i64 0, .int .i64 0, .slice none 0 0] 38) := ⟨_, rfl⟩
  have hb : Below w.heap.size w W := by rw [hW]; exact (Below.refl _ _).alloc (Nat.le_refl _) _
  have p0 : W.cell? ⟨w.heap.size, 0, none⟩ = some (.int .i64 0) := by rw [hW]; exact cell_of_row _ _ 0 _ _ _ (heap_alloc_new w _)
  have p1 : W.cell? ⟨w.heap.size, 1, none⟩ = some (.int .i64 0) := by rw [hW]; exact cell_of_row _ _ 1 _ _ _ (heap_alloc_new w _)
  have p2 : W.cell? ⟨w.heap.size, 2, none⟩ = some (.slice none 0 0) := by rw [hW]; exact cell_of_row _ _ 2 _ _ _ (heap_alloc_new w _)
  have HX : Hid (∀ w', Below W.heap.size W w' → w'.cell? ⟨w.heap.size, 0, none⟩ = some (.int .i64 0) ∧ w'.cell? ⟨w.heap.size, 1, none⟩ = some (.int .i64 0) ∧ w'.cell? ⟨w.heap.size, 2, none⟩ = some (.slice none 0 0)) := fun w' h => by
    have hz : w.heap.size < W.heap.size := by rw [hW]; simp
    exact ⟨(h.cell (p := ⟨w.heap.size, 0, none⟩) hz).trans p0, (h.cell (p := ⟨w.heap.size, 1, none⟩) hz).trans p1, (h.cell (p := ⟨w.heap.size, 2, none⟩) hz).trans p2⟩
  have HB : Hid (Below w.heap.size w W) := hb
  rw [hW] at p0 p1 p2
  have HH : Hid (∀ X : World, Calls Tryz.prog 24 #[.agg #[.int .i64 0, .int .i64 0, .slice none 0 0]] X fun e w' => e = .returned (.string fileZ) ∧ Below X.heap.size X w') := fun X => specHeadZ X
  obtain ⟨FZ, hFZ⟩ : ∃ FZ, FZ = fileZ := ⟨_, rfl⟩
  have HS : FZ.size = 8 := by rw [hFZ]; exact fileZ_size
  have HE : Hid (FZ ++ (⟨#[]⟩ : ByteArray) = FZ) := by show _ = _; apply ByteArray.ext; simp
  rw [← hFZ] at HH ⊢
  clear hb hFZ
  go_enter Tryz.func13, Tryz.ntmps13
  go_wp2_with fail
  rw [← hW]
  clear hW p0 p1 p2
  refine Calls.mono (specOkZ W) ?_
  rintro e w1 ⟨rfl, hb1⟩
  have H1 : Hid (Below W.heap.size W w1) := hb1
  clear hb1
  go_wp2_with fail
  have NE := Abv.ne w1
  obtain ⟨y0, y1, y2⟩ := HX.out w1 H1.out
  have C0 := fun x : Abv w1 => x.cell y0
  have C1 := fun x : Abv w1 => x.cell y1
  have C2 := fun x : Abv w1 => x.cell y2
  clear y0 y1 y2
  refine wp_region_above (by kernel_rfl) (by kernel_rfl) ?_
  repeat (go_big_quiet_step (first | (go_at_call 24; with_reducible exact calls_above (HH.out _)) | (go_at_call 25; with_reducible exact calls_above (specFramesZ _)) | fail))
  refine wpQuiet_nil ?_
  rintro w9 ⟨⟨_, hb9⟩, rfl⟩
  have H9 : Hid (Below W.heap.size W w9) := H1.out.trans (hb9.mono H1.out.size)
  clear NE C0 C1 C2 hb9 H1
  try rw [HE.out]
  go_wp2
  go_ret2
  exact ⟨by first | rfl | (rw [HE.out]; rfl), HB.out.trans (H9.out.mono HB.out.size)⟩
set_option maxHeartbeats 2000000 in
set_option maxRecDepth 100000 in
theorem implFileZ (w : World) : Calls Tryz.prog 16 #[.agg #[.int .i64 0, .int .i64 0, .slice none 0 0]] w fun e w' => e = .returned (.tuple #[.string fileZ, .bool true]) ∧ Below w.heap.size w w' := by
  obtain ⟨W, hW⟩ : ∃ W, W = w.alloc (.cells #[.int .i64 0, .int .i64 0, .slice none 0 0] 38) := ⟨_, rfl⟩
  have hb : Below w.heap.size w W := by rw [hW]; exact (Below.refl _ _).alloc (Nat.le_refl _) _
  have p0 : W.cell? ⟨w.heap.size, 0, none⟩ = some (.int .i64 0) := by rw [hW]; exact cell_of_row _ _ 0 _ _ _ (heap_alloc_new w _)
  have p1 : W.cell? ⟨w.heap.size, 1, none⟩ = some (.int .i64 0) := by rw [hW]; exact cell_of_row _ _ 1 _ _ _ (heap_alloc_new w _)
  have p2 : W.cell? ⟨w.heap.size, 2, none⟩ = some (.slice none 0 0) := by rw [hW]; exact cell_of_row _ _ 2 _ _ _ (heap_alloc_new w _)
  have HX : Hid (∀ w', Below W.heap.size W w' → w'.cell? ⟨w.heap.size, 0, none⟩ = some (.int .i64 0) ∧ w'.cell? ⟨w.heap.size, 1, none⟩ = some (.int .i64 0) ∧ w'.cell? ⟨w.heap.size, 2, none⟩ = some (.slice none 0 0)) := fun w' h => by
    have hz : w.heap.size < W.heap.size := by rw [hW]; simp
    exact ⟨(h.cell (p := ⟨w.heap.size, 0, none⟩) hz).trans p0, (h.cell (p := ⟨w.heap.size, 1, none⟩) hz).trans p1, (h.cell (p := ⟨w.heap.size, 2, none⟩) hz).trans p2⟩
  have HB : Hid (Below w.heap.size w W) := hb
  rw [hW] at p0 p1 p2
  have HH : Hid (∀ X : World, Calls Tryz.prog 29 #[.agg #[.int .i64 0, .int .i64 0, .slice none 0 0]] X fun e w' => e = .returned (.string fileZ) ∧ Below X.heap.size X w') := fun X => implHeadZ X
  obtain ⟨FZ, hFZ⟩ : ∃ FZ, FZ = fileZ := ⟨_, rfl⟩
  have HS : FZ.size = 8 := by rw [hFZ]; exact fileZ_size
  have HE : Hid (FZ ++ (⟨#[]⟩ : ByteArray) = FZ) := by show _ = _; apply ByteArray.ext; simp
  rw [← hFZ] at HH ⊢
  clear hb hFZ
  go_enter Tryz.func16, Tryz.ntmps16
  go_wp2_with fail
  rw [← hW]
  clear hW p0 p1 p2
  refine Calls.mono (implOkZ W) ?_
  rintro e w1 ⟨rfl, hb1⟩
  have H1 : Hid (Below W.heap.size W w1) := hb1
  clear hb1
  go_wp2_with fail
  have NE := Abv.ne w1
  obtain ⟨y0, y1, y2⟩ := HX.out w1 H1.out
  have C0 := fun x : Abv w1 => x.cell y0
  have C1 := fun x : Abv w1 => x.cell y1
  have C2 := fun x : Abv w1 => x.cell y2
  clear y0 y1 y2
  refine wp_region_above (by kernel_rfl) (by kernel_rfl) ?_
  repeat (go_big_quiet_step (first | (go_at_call 29; with_reducible exact calls_above (HH.out _)) | (go_at_call 30; with_reducible exact calls_above (implFramesZ _)) | fail))
  refine wpQuiet_nil ?_
  rintro w9 ⟨⟨_, hb9⟩, rfl⟩
  have H9 : Hid (Below W.heap.size W w9) := H1.out.trans (hb9.mono H1.out.size)
  clear NE C0 C1 C2 hb9 H1
  try rw [HE.out]
  go_wp2
  go_ret2
  exact ⟨by first | rfl | (rw [HE.out]; rfl), HB.out.trans (H9.out.mono HB.out.size)⟩
end Go.Proofs.YthcfnofhdbjemaaGreatDoor
