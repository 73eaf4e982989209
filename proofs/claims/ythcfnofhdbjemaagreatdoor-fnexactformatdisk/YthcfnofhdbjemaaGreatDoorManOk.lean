/- The calls of both ManifestOk, walked. -/
import Derived.Test.YthcfnofhdbjemaaGreatDoorValue
namespace Go.Proofs.YthcfnofhdbjemaaGreatDoor
open Go.RowKit
set_option linter.unusedVariables false

theorem neq_no (n : Nat) (hn : 1 ≤ n) (x y z : Int) (k : Nat) (A : Array Value) (h : Ints17 n x y z k A) (wx : World) : (binOp .neq 91 (.agg A) (.agg #[.int .i64 0, .int .i64 0, .int .i64 0, .int .i64 0, .int .i64 0, .int .i64 0, .int .i64 0, .int .i64 0, .int .i64 0, .int .i64 0, .int .i64 0, .int .i64 0, .int .i64 0, .int .i64 0, .int .i64 0, .int .i64 0, .int .i64 0])).run Tryz.prog wx = .ok (.bool true) wx := by
  obtain ⟨x5, x6, x7, x8, x9, x10, x11, x12, x13, x14, x15, x16, rfl⟩ := h
  obtain ⟨m, rfl⟩ : ∃ m, n = m + 1 := ⟨n - 1, by omega⟩
  kernel_rfl
theorem neq_yes (wx : World) : (binOp .neq 91 (.agg zero17) (.agg #[.int .i64 0, .int .i64 0, .int .i64 0, .int .i64 0, .int .i64 0, .int .i64 0, .int .i64 0, .int .i64 0, .int .i64 0, .int .i64 0, .int .i64 0, .int .i64 0, .int .i64 0, .int .i64 0, .int .i64 0, .int .i64 0, .int .i64 0])).run Tryz.prog wx = .ok (.bool false) wx := by kernel_rfl
set_option maxHeartbeats 1000000 in
theorem implMan_is {a b : Option Addr} {ga oa ca gb ob cb : Nat} (l l' : List Int) (x y z : Int) (hs : l.length ≤ 1048576) (hc : l'.length ≤ 1048576) (R : Bool) (hR : R = true ↔ Mans.ok ⟨l, x, y, z, l'⟩) (w : World) (hA : IntAt w a ga oa l) (hB : IntAt w b gb ob l') :
    Calls Tryz.prog 44 #[manV ⟨l, x, y, z, l'⟩ a ca b cb] w fun e w' => e = .returned (.bool R) ∧ Below w.heap.size w w' := by
  have hb0 : Below w.heap.size w (w.alloc (.cells #[.slice a l.length ca, .int .i64 x, .int .i64 y, .int .i64 z, .slice b l'.length cb] 49)) := (Below.refl _ _).alloc (Nat.le_refl _) _
  have HA : Hid (IntAt _ a ga oa l) := hA.kept hb0
  have HB : Hid (IntAt _ b gb ob l') := hB.kept hb0
  have HB0 : Hid (Below _ _ _) := hb0
  by_cases ho : Mans.ok ⟨l, x, y, z, l'⟩
  · obtain rfl : R = true := hR.2 ho
    have HO : Hid (Mans.ok ⟨l, x, y, z, l'⟩) := ho
    clear hR ho hA hB hb0
    unfold manV
    simp only
    go_enter Tryz.func44, Tryz.ntmps44
    go_wp2_with fail
    have hq := valueOf_yes (ca := ca) (cb := cb) l l' x y z hs hc _ HA.out HB.out HO.out
    unfold manV at hq
    refine hq.mono ?_
    rintro e w1 ⟨⟨A, hA, rfl⟩, hb1⟩
    have hn := neq_no l.length HO.out.1.1 x y z l'.length A hA
    have HB1 : Hid (Below w.heap.size w w1) := HB0.out.trans (hb1.mono HB0.out.size)
    clear hA hb1 hq
    go_wp2
    go_ret
    exact ⟨rfl, HB1.out⟩
  · obtain rfl : R = false := ans_no hR ho
    have HO : Hid (¬ Mans.ok ⟨l, x, y, z, l'⟩) := ho
    clear hR ho hA hB hb0
    unfold manV
    simp only
    go_enter Tryz.func44, Tryz.ntmps44
    go_wp2_with fail
    have hq := valueOf_no (ca := ca) (cb := cb) l l' x y z hs hc _ HA.out HB.out HO.out
    unfold manV at hq
    refine hq.mono ?_
    rintro e w1 ⟨rfl, hb1⟩
    have hn := neq_yes
    have HB1 : Hid (Below w.heap.size w w1) := HB0.out.trans (hb1.mono HB0.out.size)
    clear hb1 hq
    go_wp2
    go_ret
    exact ⟨rfl, HB1.out⟩
theorem inq_yes (n lo hi : Int) (h : lo ≤ n ∧ n ≤ hi) (w : World) : Calls Tryz.prog 39 #[.int .i64 n, .int .i64 lo, .int .i64 hi] w fun e w' => e = .returned (.bool true) ∧ w = w' := (in_is n lo hi true (by simp [h]) w).mono fun _ _ ⟨h1, h2⟩ => ⟨h1, h2.symm⟩
theorem inq_no (n lo hi : Int) (h : n < lo ∨ hi < n) (w : World) : Calls Tryz.prog 39 #[.int .i64 n, .int .i64 lo, .int .i64 hi] w fun e w' => e = .returned (.bool false) ∧ w = w' := (in_is n lo hi false (by simp; omega) w).mono fun _ _ ⟨h1, h2⟩ => ⟨h1, h2.symm⟩
set_option maxHeartbeats 4000000 in
theorem specMan_is {a b : Option Addr} {ga oa ca gb ob cb : Nat} (l l' : List Int) (x y z : Int) (hs : l.length ≤ 1048576) (hc : l'.length ≤ 1048576) (R : Bool) (hR : R = true ↔ Mans.ok ⟨l, x, y, z, l'⟩) (w : World) (hA : IntAt w a ga oa l) (hB : IntAt w b gb ob l') :
    Calls Tryz.prog 36 #[manV ⟨l, x, y, z, l'⟩ a ca b cb] w fun e w' => e = .returned (.bool R) ∧ Below w.heap.size w w' := by
  obtain ⟨W, hW⟩ : ∃ W, W = w.alloc (.cells #[.slice a l.length ca, .int .i64 x, .int .i64 y, .int .i64 z, .slice b l'.length cb] 49) := ⟨_, rfl⟩
  have hb0 : Below w.heap.size w W := by rw [hW]; exact (Below.refl _ _).alloc (Nat.le_refl _) _
  have hp0 : W.heap[w.heap.size]? = some (.cells #[.slice a l.length ca, .int .i64 x, .int .i64 y, .int .i64 z, .slice b l'.length cb] 49 (0, 0)) := by rw [hW]; exact heap_alloc_new w _
  have HP : Hid (_ = _) := hp0
  have p0 := cell_of_row _ _ 0 _ _ _ hp0
  have p1 := cell_of_row _ _ 1 _ _ _ hp0
  have p2 := cell_of_row _ _ 2 _ _ _ hp0
  have p3 := cell_of_row _ _ 3 _ _ _ hp0
  have p4 := cell_of_row _ _ 4 _ _ _ hp0
  simp at p0 p1 p2 p3 p4
  have HA : Hid (IntAt W a ga oa l) := hA.kept hb0
  have HB : Hid (IntAt W b gb ob l') := hB.kept hb0
  have HB0 : Hid (Below w.heap.size w W) := hb0
  have hlt : w.heap.size < W.heap.size := World.block_lt_of_cell? W _ p0
  unfold manV
  simp only
  by_cases h1 : 1 ≤ l.length ∧ l.length ≤ 8
  · by_cases h2 : 0 ≤ x ∧ x ≤ 1000
    · by_cases h3 : Mans.asc 0 (x - 1) l = true
      · have H3 : Hid (Mans.asc 0 (x - 1) l = true) := h3
        by_cases h4 : 0 ≤ y ∧ y ≤ 100000
        · by_cases h5 : 0 ≤ z ∧ z ≤ 100000
          · have HC : Hid (Mans.confOk l' = R) := by
                show _ = _
                cases hq : Mans.confOk l' with
                | false => exact (ans_no hR (fun h => by have h6 : Mans.confOk l' = true := h.2.2.2.2.2; rw [hq] at h6; cases h6)).symm
                | true => exact (hR.2 ⟨h1, h2, h3, h4, h5, hq⟩).symm
            clear hR h3 hA hB hb0 hp0
            go_enter Tryz.func36, Tryz.ntmps36
            go_wp2_with fail
            rw [← hW]
            clear hW
            refine (inq_yes _ _ _ (by omega) W).mono ?_
            rintro e w0 ⟨rfl, rfl⟩
            go_wp2_with (first | (go_at_call 39; refine (inq_yes _ _ _ (by omega) _).mono ?_; rintro e w0 ⟨rfl, rfl⟩))
            refine (rise_is l hs 0 (x - 1) true H3.out W HA.out).mono ?_
            rintro e w1 ⟨rfl, hb1⟩
            have HB1 : Hid (Below w.heap.size w w1) := HB0.out.trans (hb1.mono HB0.out.size)
            have HBB : Hid (IntAt w1 b gb ob l') := HB.out.kept hb1
            have hp1 := (hb1.block _ hlt).trans HP.out
            have r0 := cell_of_row _ _ 0 _ _ _ hp1
            have r1 := cell_of_row _ _ 1 _ _ _ hp1
            have r2 := cell_of_row _ _ 2 _ _ _ hp1
            have r3 := cell_of_row _ _ 3 _ _ _ hp1
            have r4 := cell_of_row _ _ 4 _ _ _ hp1
            simp at r0 r1 r2 r3 r4
            clear hb1 hp1 p0 p1 p2 p3 p4
            go_wp2_with (first | (go_at_call 39; refine (inq_yes _ _ _ (by omega) _).mono ?_; rintro e w0 ⟨rfl, rfl⟩))
            refine (specConf_is l' hc R HC.out w1 HBB.out).mono ?_
            rintro e w2 ⟨rfl, hb2⟩
            have HB2 : Hid (Below w.heap.size w w2) := HB1.out.trans (hb2.mono HB1.out.size)
            go_wp2
            go_ret
            exact ⟨rfl, HB2.out⟩
          · obtain rfl : R = false := ans_no hR (fun h => h5 h.2.2.2.2.1)
            clear hR h3 hA hB hb0 hp0
            go_enter Tryz.func36, Tryz.ntmps36
            go_wp2_with fail
            rw [← hW]
            clear hW
            refine (inq_yes _ _ _ (by omega) W).mono ?_
            rintro e w0 ⟨rfl, rfl⟩
            go_wp2_with (first | (go_at_call 39; refine (inq_yes _ _ _ (by omega) _).mono ?_; rintro e w0 ⟨rfl, rfl⟩))
            refine (rise_is l hs 0 (x - 1) true H3.out W HA.out).mono ?_
            rintro e w1 ⟨rfl, hb1⟩
            have HB1 : Hid (Below w.heap.size w w1) := HB0.out.trans (hb1.mono HB0.out.size)
            have HBB : Hid (IntAt w1 b gb ob l') := HB.out.kept hb1
            have hp1 := (hb1.block _ hlt).trans HP.out
            have r0 := cell_of_row _ _ 0 _ _ _ hp1
            have r1 := cell_of_row _ _ 1 _ _ _ hp1
            have r2 := cell_of_row _ _ 2 _ _ _ hp1
            have r3 := cell_of_row _ _ 3 _ _ _ hp1
            have r4 := cell_of_row _ _ 4 _ _ _ hp1
            simp at r0 r1 r2 r3 r4
            clear hb1 hp1 p0 p1 p2 p3 p4
            go_wp2_with (first | (go_at_call 39; refine (inq_yes _ _ _ (by omega) _).mono ?_; rintro e w0 ⟨rfl, rfl⟩) | (go_at_call 39; refine (inq_no _ _ _ (by omega) _).mono ?_; rintro e w0 ⟨rfl, rfl⟩))
            go_ret
            exact ⟨rfl, HB1.out⟩
        · obtain rfl : R = false := ans_no hR (fun h => h4 h.2.2.2.1)
          clear hR h3 hA hB hb0 hp0
          go_enter Tryz.func36, Tryz.ntmps36
          go_wp2_with fail
          rw [← hW]
          clear hW
          refine (inq_yes _ _ _ (by omega) W).mono ?_
          rintro e w0 ⟨rfl, rfl⟩
          go_wp2_with (first | (go_at_call 39; refine (inq_yes _ _ _ (by omega) _).mono ?_; rintro e w0 ⟨rfl, rfl⟩))
          refine (rise_is l hs 0 (x - 1) true H3.out W HA.out).mono ?_
          rintro e w1 ⟨rfl, hb1⟩
          have HB1 : Hid (Below w.heap.size w w1) := HB0.out.trans (hb1.mono HB0.out.size)
          have HBB : Hid (IntAt w1 b gb ob l') := HB.out.kept hb1
          have hp1 := (hb1.block _ hlt).trans HP.out
          have r0 := cell_of_row _ _ 0 _ _ _ hp1
          have r1 := cell_of_row _ _ 1 _ _ _ hp1
          have r2 := cell_of_row _ _ 2 _ _ _ hp1
          have r3 := cell_of_row _ _ 3 _ _ _ hp1
          have r4 := cell_of_row _ _ 4 _ _ _ hp1
          simp at r0 r1 r2 r3 r4
          clear hb1 hp1 p0 p1 p2 p3 p4
          go_wp2_with (first | (go_at_call 39; refine (inq_no _ _ _ (by omega) _).mono ?_; rintro e w0 ⟨rfl, rfl⟩))
          go_ret
          exact ⟨rfl, HB1.out⟩
      · have H3 : Hid (Mans.asc 0 (x - 1) l = false) := by show _ = _; simpa using h3
        obtain rfl : R = false := ans_no hR (fun h => h3 h.2.2.1)
        clear hR h3 hA hB hb0 hp0
        go_enter Tryz.func36, Tryz.ntmps36
        go_wp2_with fail
        rw [← hW]
        clear hW
        refine (inq_yes _ _ _ (by omega) W).mono ?_
        rintro e w0 ⟨rfl, rfl⟩
        go_wp2_with (first | (go_at_call 39; refine (inq_yes _ _ _ (by omega) _).mono ?_; rintro e w0 ⟨rfl, rfl⟩))
        refine (rise_is l hs 0 (x - 1) false H3.out W HA.out).mono ?_
        rintro e w1 ⟨rfl, hb1⟩
        have HB1 : Hid (Below w.heap.size w w1) := HB0.out.trans (hb1.mono HB0.out.size)
        go_wp2
        go_ret
        exact ⟨rfl, HB1.out⟩
    · obtain rfl : R = false := ans_no hR (fun h => h2 h.2.1)
      clear hR hA hB hb0 hp0
      go_enter Tryz.func36, Tryz.ntmps36
      go_wp2_with fail
      rw [← hW]
      clear hW
      refine (inq_yes _ _ _ (by omega) W).mono ?_
      rintro e w0 ⟨rfl, rfl⟩
      go_wp2_with (first | (go_at_call 39; refine (inq_no _ _ _ (by omega) _).mono ?_; rintro e w0 ⟨rfl, rfl⟩))
      go_ret
      exact ⟨rfl, HB0.out⟩
  · obtain rfl : R = false := ans_no hR (fun h => h1 h.1)
    clear hR hA hB hb0 hp0
    go_enter Tryz.func36, Tryz.ntmps36
    go_wp2_with fail
    rw [← hW]
    clear hW
    refine (inq_no _ _ _ (by omega) W).mono ?_
    rintro e w0 ⟨rfl, rfl⟩
    go_wp2
    go_ret
    exact ⟨rfl, HB0.out⟩
end Go.Proofs.YthcfnofhdbjemaaGreatDoor
