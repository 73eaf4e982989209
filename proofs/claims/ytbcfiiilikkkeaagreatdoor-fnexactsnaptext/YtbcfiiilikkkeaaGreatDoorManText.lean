/- The calls of both ManifestOk, walked. Manifests as the laws measure, copy and compare them: szManifest, toManifest, eqManifest, sameMan, walked. The calls of listText and of both ManifestText, walked. -/
import Derived.Test.YtbcfiiilikkkeaaGreatDoorValue
import Derived.Test.YtbcfiiilikkkeaaGreatDoorScanOf
import Derived.Test.YtbcfiiilikkkeaaGreatDoorImplSeal
namespace Go.Proofs.YtbcfiiilikkkeaaGreatDoor
open Go.RowKit
set_option linter.unusedVariables false

theorem neq_no (n : Nat) (hn : 1 ≤ n) (x y z : Int) (k : Nat) (A : Array Value) (h : Ints17 n x y z k A) (wx : World) : (binOp .neq 231 (.agg A) (.agg #[.int .i64 0, .int .i64 0, .int .i64 0, .int .i64 0, .int .i64 0, .int .i64 0, .int .i64 0, .int .i64 0, .int .i64 0, .int .i64 0, .int .i64 0, .int .i64 0, .int .i64 0, .int .i64 0, .int .i64 0, .int .i64 0, .int .i64 0])).run Tryz.prog wx = .ok (.bool true) wx := by
  obtain ⟨x5, x6, x7, x8, x9, x10, x11, x12, x13, x14, x15, x16, rfl⟩ := h
  obtain ⟨m, rfl⟩ : ∃ m, n = m + 1 := ⟨n - 1, by omega⟩
  kernel_rfl
theorem neq_yes (wx : World) : (binOp .neq 231 (.agg zero17) (.agg #[.int .i64 0, .int .i64 0, .int .i64 0, .int .i64 0, .int .i64 0, .int .i64 0, .int .i64 0, .int .i64 0, .int .i64 0, .int .i64 0, .int .i64 0, .int .i64 0, .int .i64 0, .int .i64 0, .int .i64 0, .int .i64 0, .int .i64 0])).run Tryz.prog wx = .ok (.bool false) wx := by kernel_rfl
set_option maxHeartbeats 1000000 in
theorem implMan_is {a b : Option Addr} {ga oa ca gb ob cb : Nat} (l l' : List Int) (x y z : Int) (hs : l.length ≤ 1048576) (hc : l'.length ≤ 1048576) (R : Bool) (hR : R = true ↔ Mans.ok ⟨l, x, y, z, l'⟩) (w : World) (hA : IntAt w a ga oa l) (hB : IntAt w b gb ob l') :
    Calls Tryz.prog 204 #[manV ⟨l, x, y, z, l'⟩ a ca b cb] w fun e w' => e = .returned (.bool R) ∧ Below w.heap.size w w' := by
  have hb0 : Below w.heap.size w (w.alloc (.cells #[.slice a l.length ca, .int .i64 x, .int .i64 y, .int .i64 z, .slice b l'.length cb] 37)) := (Below.refl _ _).alloc (Nat.le_refl _) _
  have HA : Hid (IntAt _ a ga oa l) := hA.kept hb0
  have HB : Hid (IntAt _ b gb ob l') := hB.kept hb0
  have HB0 : Hid (Below _ _ _) := hb0
  by_cases ho : Mans.ok ⟨l, x, y, z, l'⟩
  · obtain rfl : R = true := hR.2 ho
    have HO : Hid (Mans.ok ⟨l, x, y, z, l'⟩) := ho
    clear hR ho hA hB hb0
    unfold manV
    simp only
    go_enter Tryz.func204, Tryz.ntmps204
    go_wp2_with fail
    have hq := valueOf_yes (ca := ca) (cb := cb) l l' x y z hs hc _ HA.out HB.out HO.out
    unfold manV at hq
    refine hq.mono ?_
    rintro e w1 ⟨⟨A, hA, rfl⟩, hb1⟩
    have hn := neq_no l.length HO.out.1.1 x y z l'.length A hA
    have HB1 : Hid (Below w.heap.size w w1) := HB0.out.trans (hb1.mono HB0.out.size)
    clear hA hb1 hq
    go_wp2
    go_ret
    exact ⟨rfl, HB1.out⟩
  · obtain rfl : R = false := ans_no hR ho
    have HO : Hid (¬ Mans.ok ⟨l, x, y, z, l'⟩) := ho
    clear hR ho hA hB hb0
    unfold manV
    simp only
    go_enter Tryz.func204, Tryz.ntmps204
    go_wp2_with fail
    have hq := valueOf_no (ca := ca) (cb := cb) l l' x y z hs hc _ HA.out HB.out HO.out
    unfold manV at hq
    refine hq.mono ?_
    rintro e w1 ⟨rfl, hb1⟩
    have hn := neq_yes
    have HB1 : Hid (Below w.heap.size w w1) := HB0.out.trans (hb1.mono HB0.out.size)
    clear hb1 hq
    go_wp2
    go_ret
    exact ⟨rfl, HB1.out⟩
theorem inq_yes (n lo hi : Int) (h : lo ≤ n ∧ n ≤ hi) (w : World) : Calls Tryz.prog 130 #[.int .i64 n, .int .i64 lo, .int .i64 hi] w fun e w' => e = .returned (.bool true) ∧ w = w' := (in_is n lo hi true (by simp [h]) w).mono fun _ _ ⟨h1, h2⟩ => ⟨h1, h2.symm⟩
theorem inq_no (n lo hi : Int) (h : n < lo ∨ hi < n) (w : World) : Calls Tryz.prog 130 #[.int .i64 n, .int .i64 lo, .int .i64 hi] w fun e w' => e = .returned (.bool false) ∧ w = w' := (in_is n lo hi false (by simp; omega) w).mono fun _ _ ⟨h1, h2⟩ => ⟨h1, h2.symm⟩
set_option maxHeartbeats 4000000 in
theorem specMan_is {a b : Option Addr} {ga oa ca gb ob cb : Nat} (l l' : List Int) (x y z : Int) (hs : l.length ≤ 1048576) (hc : l'.length ≤ 1048576) (R : Bool) (hR : R = true ↔ Mans.ok ⟨l, x, y, z, l'⟩) (w : World) (hA : IntAt w a ga oa l) (hB : IntAt w b gb ob l') :
    Calls Tryz.prog 180 #[manV ⟨l, x, y, z, l'⟩ a ca b cb] w fun e w' => e = .returned (.bool R) ∧ Below w.heap.size w w' := by
  obtain ⟨W, hW⟩ : ∃ W, W = w.alloc (.cells #[.slice a l.length ca, .int .i64 x, .int .i64 y, .int .i64 z, .slice b l'.length cb] 37) := ⟨_, rfl⟩
  have hb0 : Below w.heap.size w W := by rw [hW]; exact (Below.refl _ _).alloc (Nat.le_refl _) _
  have hp0 : W.heap[w.heap.size]? = some (.cells #[.slice a l.length ca, .int .i64 x, .int .i64 y, .int .i64 z, .slice b l'.length cb] 37 (0, 0)) := by rw [hW]; exact heap_alloc_new w _
  have HP : Hid (_ = _) := hp0
  have p0 := cell_of_row _ _ 0 _ _ _ hp0
  have p1 := cell_of_row _ _ 1 _ _ _ hp0
  have p2 := cell_of_row _ _ 2 _ _ _ hp0
  have p3 := cell_of_row _ _ 3 _ _ _ hp0
  have p4 := cell_of_row _ _ 4 _ _ _ hp0
  simp at p0 p1 p2 p3 p4
  have HA : Hid (IntAt W a ga oa l) := hA.kept hb0
  have HB : Hid (IntAt W b gb ob l') := hB.kept hb0
  have HB0 : Hid (Below w.heap.size w W) := hb0
  have hlt : w.heap.size < W.heap.size := World.block_lt_of_cell? W _ p0
  unfold manV
  simp only
  by_cases h1 : 1 ≤ l.length ∧ l.length ≤ 8
  · by_cases h2 : 0 ≤ x ∧ x ≤ 1000
    · by_cases h3 : Mans.asc 0 (x - 1) l = true
      · have H3 : Hid (Mans.asc 0 (x - 1) l = true) := h3
        by_cases h4 : 0 ≤ y ∧ y ≤ 100000
        · by_cases h5 : 0 ≤ z ∧ z ≤ 100000
          · have HC : Hid (Mans.confOk l' = R) := by
                show _ = _
                cases hq : Mans.confOk l' with
                | false => exact (ans_no hR (fun h => by have h6 : Mans.confOk l' = true := h.2.2.2.2.2; rw [hq] at h6; cases h6)).symm
                | true => exact (hR.2 ⟨h1, h2, h3, h4, h5, hq⟩).symm
            clear hR h3 hA hB hb0 hp0
            go_enter Tryz.func180, Tryz.ntmps180
            go_wp2_with fail
            rw [← hW]
            clear hW
            refine (inq_yes _ _ _ (by omega) W).mono ?_
            rintro e w0 ⟨rfl, rfl⟩
            go_wp2_with (first | (go_at_call 130; refine (inq_yes _ _ _ (by omega) _).mono ?_; rintro e w0 ⟨rfl, rfl⟩))
            refine (rise_is l hs 0 (x - 1) true H3.out W HA.out).mono ?_
            rintro e w1 ⟨rfl, hb1⟩
            have HB1 : Hid (Below w.heap.size w w1) := HB0.out.trans (hb1.mono HB0.out.size)
            have HBB : Hid (IntAt w1 b gb ob l') := HB.out.kept hb1
            have hp1 := (hb1.block _ hlt).trans HP.out
            have r0 := cell_of_row _ _ 0 _ _ _ hp1
            have r1 := cell_of_row _ _ 1 _ _ _ hp1
            have r2 := cell_of_row _ _ 2 _ _ _ hp1
            have r3 := cell_of_row _ _ 3 _ _ _ hp1
            have r4 := cell_of_row _ _ 4 _ _ _ hp1
            simp at r0 r1 r2 r3 r4
            clear hb1 hp1 p0 p1 p2 p3 p4
            go_wp2_with (first | (go_at_call 130; refine (inq_yes _ _ _ (by omega) _).mono ?_; rintro e w0 ⟨rfl, rfl⟩))
            refine (specConf_is l' hc R HC.out w1 HBB.out).mono ?_
            rintro e w2 ⟨rfl, hb2⟩
            have HB2 : Hid (Below w.heap.size w w2) := HB1.out.trans (hb2.mono HB1.out.size)
            go_wp2
            go_ret
            exact ⟨rfl, HB2.out⟩
          · obtain rfl : R = false := ans_no hR (fun h => h5 h.2.2.2.2.1)
            clear hR h3 hA hB hb0 hp0
            go_enter Tryz.func180, Tryz.ntmps180
            go_wp2_with fail
            rw [← hW]
            clear hW
            refine (inq_yes _ _ _ (by omega) W).mono ?_
            rintro e w0 ⟨rfl, rfl⟩
            go_wp2_with (first | (go_at_call 130; refine (inq_yes _ _ _ (by omega) _).mono ?_; rintro e w0 ⟨rfl, rfl⟩))
            refine (rise_is l hs 0 (x - 1) true H3.out W HA.out).mono ?_
            rintro e w1 ⟨rfl, hb1⟩
            have HB1 : Hid (Below w.heap.size w w1) := HB0.out.trans (hb1.mono HB0.out.size)
            have HBB : Hid (IntAt w1 b gb ob l') := HB.out.kept hb1
            have hp1 := (hb1.block _ hlt).trans HP.out
            have r0 := cell_of_row _ _ 0 _ _ _ hp1
            have r1 := cell_of_row _ _ 1 _ _ _ hp1
            have r2 := cell_of_row _ _ 2 _ _ _ hp1
            have r3 := cell_of_row _ _ 3 _ _ _ hp1
            have r4 := cell_of_row _ _ 4 _ _ _ hp1
            simp at r0 r1 r2 r3 r4
            clear hb1 hp1 p0 p1 p2 p3 p4
            go_wp2_with (first | (go_at_call 130; refine (inq_yes _ _ _ (by omega) _).mono ?_; rintro e w0 ⟨rfl, rfl⟩) | (go_at_call 130; refine (inq_no _ _ _ (by omega) _).mono ?_; rintro e w0 ⟨rfl, rfl⟩))
            go_ret
            exact ⟨rfl, HB1.out⟩
        · obtain rfl : R = false := ans_no hR (fun h => h4 h.2.2.2.1)
          clear hR h3 hA hB hb0 hp0
          go_enter Tryz.func180, Tryz.ntmps180
          go_wp2_with fail
          rw [← hW]
          clear hW
          refine (inq_yes _ _ _ (by omega) W).mono ?_
          rintro e w0 ⟨rfl, rfl⟩
          go_wp2_with (first | (go_at_call 130; refine (inq_yes _ _ _ (by omega) _).mono ?_; rintro e w0 ⟨rfl, rfl⟩))
          refine (rise_is l hs 0 (x - 1) true H3.out W HA.out).mono ?_
          rintro e w1 ⟨rfl, hb1⟩
          have HB1 : Hid (Below w.heap.size w w1) := HB0.out.trans (hb1.mono HB0.out.size)
          have HBB : Hid (IntAt w1 b gb ob l') := HB.out.kept hb1
          have hp1 := (hb1.block _ hlt).trans HP.out
          have r0 := cell_of_row _ _ 0 _ _ _ hp1
          have r1 := cell_of_row _ _ 1 _ _ _ hp1
          have r2 := cell_of_row _ _ 2 _ _ _ hp1
          have r3 := cell_of_row _ _ 3 _ _ _ hp1
          have r4 := cell_of_row _ _ 4 _ _ _ hp1
          simp at r0 r1 r2 r3 r4
          clear hb1 hp1 p0 p1 p2 p3 p4
          go_wp2_with (first | (go_at_call 130; refine (inq_no _ _ _ (by omega) _).mono ?_; rintro e w0 ⟨rfl, rfl⟩))
          go_ret
          exact ⟨rfl, HB1.out⟩
      · have H3 : Hid (Mans.asc 0 (x - 1) l = false) := by show _ = _; simpa using h3
        obtain rfl : R = false := ans_no hR (fun h => h3 h.2.2.1)
        clear hR h3 hA hB hb0 hp0
        go_enter Tryz.func180, Tryz.ntmps180
        go_wp2_with fail
        rw [← hW]
        clear hW
        refine (inq_yes _ _ _ (by omega) W).mono ?_
        rintro e w0 ⟨rfl, rfl⟩
        go_wp2_with (first | (go_at_call 130; refine (inq_yes _ _ _ (by omega) _).mono ?_; rintro e w0 ⟨rfl, rfl⟩))
        refine (rise_is l hs 0 (x - 1) false H3.out W HA.out).mono ?_
        rintro e w1 ⟨rfl, hb1⟩
        have HB1 : Hid (Below w.heap.size w w1) := HB0.out.trans (hb1.mono HB0.out.size)
        go_wp2
        go_ret
        exact ⟨rfl, HB1.out⟩
    · obtain rfl : R = false := ans_no hR (fun h => h2 h.2.1)
      clear hR hA hB hb0 hp0
      go_enter Tryz.func180, Tryz.ntmps180
      go_wp2_with fail
      rw [← hW]
      clear hW
      refine (inq_yes _ _ _ (by omega) W).mono ?_
      rintro e w0 ⟨rfl, rfl⟩
      go_wp2_with (first | (go_at_call 130; refine (inq_no _ _ _ (by omega) _).mono ?_; rintro e w0 ⟨rfl, rfl⟩))
      go_ret
      exact ⟨rfl, HB0.out⟩
  · obtain rfl : R = false := ans_no hR (fun h => h1 h.1)
    clear hR hA hB hb0 hp0
    go_enter Tryz.func180, Tryz.ntmps180
    go_wp2_with fail
    rw [← hW]
    clear hW
    refine (inq_no _ _ _ (by omega) W).mono ?_
    rintro e w0 ⟨rfl, rfl⟩
    go_wp2
    go_ret
    exact ⟨rfl, HB0.out⟩
end Go.Proofs.YtbcfiiilikkkeaaGreatDoor
namespace Go.Proofs.YtbcfiiilikkkeaaGreatDoor
open Go.RowKit
set_option linter.unusedVariables false

theorem five_cell {W : World} {Z : Nat} {a0 a1 a2 a3 a4 : Value} {t : TypeId} (h : W.heap[Z]? = some (.cells #[a0, a1, a2, a3, a4] t (0, 0))) (v0 v1 v2 v3 v4 : Value) :
    let L := ((((W.setCell ⟨Z, 0, none⟩ v0).setCell ⟨Z, 1, none⟩ v1).setCell ⟨Z, 2, none⟩ v2).setCell ⟨Z, 3, none⟩ v3).setCell ⟨Z, 4, none⟩ v4
    L.cell? ⟨Z, 0, none⟩ = some v0 ∧ L.cell? ⟨Z, 1, none⟩ = some v1 ∧ L.cell? ⟨Z, 2, none⟩ = some v2 ∧ L.cell? ⟨Z, 3, none⟩ = some v3 ∧ L.cell? ⟨Z, 4, none⟩ = some v4 :=
  have h4 := five_set h v0 v1 v2 v3 v4
  ⟨cell_of_row _ _ 0 _ _ _ h4, cell_of_row _ _ 1 _ _ _ h4, cell_of_row _ _ 2 _ _ _ h4, cell_of_row _ _ 3 _ _ _ h4, cell_of_row _ _ 4 _ _ _ h4⟩

set_option maxHeartbeats 1000000 in
theorem szMan_is {a b : Option Addr} {ca cb : Nat} (m : ManL) (h1 : m.segs.length ≤ maxLen) (h2 : m.conf.length ≤ maxLen) (left : Nat) (hl : left ≤ 1048576) (w : World) :
    Calls Tryz.prog 55 #[manV m a ca b cb, .int .i64 (left : Int)] w fun e w' => ∃ x : Int, e = .returned (.int .i64 x) ∧ Left left (m.segs.length + m.conf.length) x ∧ Below w.heap.size w w' := by
  obtain ⟨l, x, y, z, l'⟩ := m
  unfold manV
  simp only at h1 h2 ⊢
  obtain ⟨W, hW⟩ : ∃ W, W = w.alloc (.cells #[.slice a l.length ca, .int .i64 x, .int .i64 y, .int .i64 z, .slice b l'.length cb] 27) := ⟨_, rfl⟩
  have hWb : Below w.heap.size w W := by rw [hW]; exact (Below.refl _ _).alloc (Nat.le_refl _) _
  have hp : W.heap[w.heap.size]? = some (.cells #[.slice a l.length ca, .int .i64 x, .int .i64 y, .int .i64 z, .slice b l'.length cb] 27 (0, 0)) := by rw [hW]; exact heap_alloc_new w _
  have hlt : w.heap.size < W.heap.size := (Array.getElem?_eq_some_iff.1 hp).1
  have HP : Hid (_ = _) := hp
  have HL1 : Hid (l.length ≤ maxLen) := h1
  have HL2 : Hid (l'.length ≤ maxLen) := h2
  clear hp h1 h2
  go_enter Tryz.func55, Tryz.ntmps55
  go_wp2_with fail
  rw [← hW]
  clear hW
  refine (szIntS_is HL1.out hl _).mono ?_
  rintro e w1 ⟨x1, rfl, hx, hb1⟩
  have HB1 : Hid (Below w.heap.size w w1) := hWb.trans (hb1.mono hWb.size)
  have hp1 := (hb1.block _ hlt).trans HP.out
  have c0 := cell_of_row _ _ 0 _ _ _ hp1
  have c1 := cell_of_row _ _ 1 _ _ _ hp1
  have c2 := cell_of_row _ _ 2 _ _ _ hp1
  have c3 := cell_of_row _ _ 3 _ _ _ hp1
  have c4 := cell_of_row _ _ 4 _ _ _ hp1
  simp at c0 c1 c2 c3 c4
  clear hp1 hb1 hWb
  rcases hx with ⟨hx1, hx2⟩ | ⟨hx1, hx2⟩
  · obtain ⟨Y, hY⟩ : ∃ Y : Nat, Y = left - l.length := ⟨_, rfl⟩
    rw [← hY] at hx2
    subst hx2
    have HY : Hid (Y = left - l.length) := hY
    have hYl : Y ≤ 1048576 := by omega
    clear hY
    go_wp2_with fail
    refine (szIntS_is HL2.out hYl _).mono ?_
    rintro e w2 ⟨x2, rfl, hx, hb2⟩
    have HB2 : Hid (Below w.heap.size w w2) := HB1.out.trans (hb2.mono HB1.out.size)
    clear hb2
    rcases hx with ⟨hy1, hy2⟩ | ⟨hy1, hy2⟩
    · obtain ⟨V, hV⟩ : ∃ V : Nat, V = Y - l'.length := ⟨_, rfl⟩
      rw [← hV] at hy2
      subst hy2
      have HV : Hid (V = Y - l'.length) := hV
      clear hV
      go_wp2
      go_ret
      exact ⟨_, rfl, Or.inl ⟨by have := HY.out; omega, by rw [HV.out, HY.out]; congr 1; omega⟩, HB2.out⟩
    · subst hy2
      go_wp2
      go_ret
      exact ⟨_, rfl, Or.inr ⟨by have := HY.out; omega, rfl⟩, HB2.out⟩
  · subst hx2
    go_wp2
    go_ret
    exact ⟨_, rfl, Or.inr ⟨by omega, rfl⟩, HB1.out⟩
theorem to_start (w : World) (P : Array Value) : ∃ W, W = ((w.alloc (.cells P 27)).alloc (.cells #[.slice none 0 0, .int .i64 0, .int .i64 0, .int .i64 0, .slice none 0 0] 37)).alloc (.cells #[.slice none 0 0, .int .i64 0, .int .i64 0, .int .i64 0, .slice none 0 0] 37) ∧ W.heap[w.heap.size]? = some (.cells P 27 (0, 0)) ∧ W.heap[w.heap.size + 1]? = some (.cells #[.slice none 0 0, .int .i64 0, .int .i64 0, .int .i64 0, .slice none 0 0] 37 (0, 0)) ∧ W.heap[w.heap.size + 1 + 1]? = some (.cells #[.slice none 0 0, .int .i64 0, .int .i64 0, .int .i64 0, .slice none 0 0] 37 (0, 0)) ∧ Below w.heap.size w W ∧ W.heap.size = w.heap.size + 3 := by
  refine ⟨_, rfl, ?_, ?_, ?_, (((Below.refl _ _).alloc (Nat.le_refl _) _).alloc (by simp) _).alloc (by simp; omega) _, by simp⟩
  · rw [Below.heap_alloc _ _ _ (by simp; omega), Below.heap_alloc _ _ _ (by simp)]
    exact heap_alloc_new w _
  · rw [Below.heap_alloc _ _ _ (by simp)]
    have := heap_alloc_new (w.alloc (.cells P 27)) (.cells #[.slice none 0 0, .int .i64 0, .int .i64 0, .int .i64 0, .slice none 0 0] 37)
    simpa using this
  · have := heap_alloc_new ((w.alloc (.cells P 27)).alloc (.cells #[.slice none 0 0, .int .i64 0, .int .i64 0, .int .i64 0, .slice none 0 0] 37)) (.cells #[.slice none 0 0, .int .i64 0, .int .i64 0, .int .i64 0, .slice none 0 0] 37)
    simpa using this
set_option maxHeartbeats 2000000 in
theorem eqMan_same {a b a' b' : Option Addr} {ga oa ca gb ob cb ga' oa' ca' gb' ob' cb' : Nat} (m : ManL) (h1 : m.segs.length ≤ 1048576) (h2 : m.conf.length ≤ 1048576) (w : World) (hA : IntAt w a ga oa m.segs) (hB : IntAt w b gb ob m.conf) (hA' : IntAt w a' ga' oa' m.segs) (hB' : IntAt w b' gb' ob' m.conf) :
    Calls Tryz.prog 75 #[manV m a ca b cb, manV m a' ca' b' cb'] w fun e w' => e = .returned (.bool true) ∧ Below w.heap.size w w' := by
  obtain ⟨l, x, y, z, l'⟩ := m
  unfold manV
  simp only at h1 h2 hA hB hA' hB' ⊢
  obtain ⟨W, hW⟩ : ∃ W, W = (w.alloc (.cells #[.slice a l.length ca, .int .i64 x, .int .i64 y, .int .i64 z, .slice b l'.length cb] 37)).alloc (.cells #[.slice a' l.length ca', .int .i64 x, .int .i64 y, .int .i64 z, .slice b' l'.length cb'] 37) := ⟨_, rfl⟩
  have hb : Below w.heap.size w W := by rw [hW]; exact ((Below.refl _ _).alloc (Nat.le_refl _) _).alloc (by simp) _
  have hp0 : W.heap[w.heap.size]? = some (.cells #[.slice a l.length ca, .int .i64 x, .int .i64 y, .int .i64 z, .slice b l'.length cb] 37 (0, 0)) := by
    rw [hW, Below.heap_alloc _ _ _ (by simp)]; exact heap_alloc_new w _
  have hp1 : W.heap[w.heap.size + 1]? = some (.cells #[.slice a' l.length ca', .int .i64 x, .int .i64 y, .int .i64 z, .slice b' l'.length cb'] 37 (0, 0)) := by
    rw [hW]; have := heap_alloc_new (w.alloc (.cells #[.slice a l.length ca, .int .i64 x, .int .i64 y, .int .i64 z, .slice b l'.length cb] 37)) (.cells #[.slice a' l.length ca', .int .i64 x, .int .i64 y, .int .i64 z, .slice b' l'.length cb'] 37); simpa using this
  have hlt : w.heap.size + 1 < W.heap.size := (Array.getElem?_eq_some_iff.1 hp1).1
  have HP0 : Hid (_ = _) := hp0
  have HP1 : Hid (_ = _) := hp1
  have HA : Hid (IntAt w a ga oa l) := hA
  have HB : Hid (IntAt w b gb ob l') := hB
  have HA' : Hid (IntAt w a' ga' oa' l) := hA'
  have HB' : Hid (IntAt w b' gb' ob' l') := hB'
  have c0 := cell_of_row _ _ 0 _ _ _ hp0
  have c1 := cell_of_row _ _ 1 _ _ _ hp0
  have c2 := cell_of_row _ _ 2 _ _ _ hp0
  have c3 := cell_of_row _ _ 3 _ _ _ hp0
  have c4 := cell_of_row _ _ 4 _ _ _ hp0
  simp at c0 c1 c2 c3 c4
  have d0 := cell_of_row _ _ 0 _ _ _ hp1
  have d1 := cell_of_row _ _ 1 _ _ _ hp1
  have d2 := cell_of_row _ _ 2 _ _ _ hp1
  have d3 := cell_of_row _ _ 3 _ _ _ hp1
  have d4 := cell_of_row _ _ 4 _ _ _ hp1
  simp at d0 d1 d2 d3 d4
  clear hp0 hp1 hA hB hA' hB'
  go_enter Tryz.func75, Tryz.ntmps75
  go_wp2_with fail
  rw [← hW]
  clear hW
  refine (eqIntS_same l h1 W (HA.out.kept hb) (HA'.out.kept hb)).mono ?_
  rintro e w1 ⟨rfl, hb1⟩
  have hB1 : Below w.heap.size w w1 := hb.trans (hb1.mono hb.size)
  have HB1 : Hid (Below w.heap.size w w1) := hB1
  have q0 := (hb1.block _ (by omega)).trans HP0.out
  have q1 := (hb1.block _ hlt).trans HP1.out
  have e0 := cell_of_row _ _ 0 _ _ _ q0
  have e1 := cell_of_row _ _ 1 _ _ _ q0
  have e2 := cell_of_row _ _ 2 _ _ _ q0
  have e3 := cell_of_row _ _ 3 _ _ _ q0
  have e4 := cell_of_row _ _ 4 _ _ _ q0
  simp at e0 e1 e2 e3 e4
  have f0 := cell_of_row _ _ 0 _ _ _ q1
  have f1 := cell_of_row _ _ 1 _ _ _ q1
  have f2 := cell_of_row _ _ 2 _ _ _ q1
  have f3 := cell_of_row _ _ 3 _ _ _ q1
  have f4 := cell_of_row _ _ 4 _ _ _ q1
  simp at f0 f1 f2 f3 f4
  clear q0 q1 hb1 hb hB1
  clear c0 c1 c2 c3 c4 d0 d1 d2 d3 d4
  go_wp2_with fail
  refine (eqIntS_same l' h2 w1 (HB.out.kept HB1.out) (HB'.out.kept HB1.out)).mono ?_
  rintro e w2 ⟨rfl, hb2⟩
  have HB2 : Hid (Below w.heap.size w w2) := HB1.out.trans (hb2.mono HB1.out.size)
  clear hb2
  go_wp2
  go_ret
  exact ⟨rfl, HB2.out⟩
end Go.Proofs.YtbcfiiilikkkeaaGreatDoor
namespace Go.Proofs.YtbcfiiilikkkeaaGreatDoor
open Go.RowKit
set_option linter.unusedVariables false

theorem varS_five (x : Int) (h : x ≤ 1000000) : (varS x).size ≤ 5 := by rw [(varS_is x).size]; exact Mans.var_five _ (by omega)
/-- A text that goes on with the first k numbers of a list. -/
def UptoL (pre : List UInt8) (l : List Int) (k : Nat) (S : ByteArray) : Prop := Is S (pre ++ Mans.many (l.take k))
theorem UptoL.zero {pre : List UInt8} {l : List Int} {S : ByteArray} (h : Is S pre) : UptoL pre l 0 S := by unfold UptoL; simpa [Mans.many] using h
theorem UptoL.step {pre : List UInt8} {l : List Int} {k : Nat} {S : ByteArray} {X : Int} (hk : k < l.length) (h : UptoL pre l k S) (hX : l[k] = X) : UptoL pre l (k + 1) (S ++ varS X) := by
  have := Is.app h (varS_is X)
  unfold UptoL
  rw [Mans.many_take hk, hX]
  simpa using this
theorem UptoL.all {pre : List UInt8} {l : List Int} {k : Nat} {S : ByteArray} (hk : l.length ≤ k) (h : UptoL pre l k S) : Is S (pre ++ Mans.many l) := by
  unfold UptoL at h
  rwa [List.take_of_length_le hk] at h
def sealedS (m : ManL) : ByteArray := ⟨(Mans.sealed (Mans.text m)).toArray⟩
theorem sealed_of {S : ByteArray} {m : ManL} (h : Is S (Mans.text m)) : S ++ ⟨(Sums.four (Sums.sumOf S.data.toList)).toArray⟩ = sealedS m := by
  unfold Is at h
  unfold sealedS Mans.sealed
  rw [app_bytes, h]
theorem ok_million {m : ManL} (h : Mans.ok m) : (∀ x ∈ m.segs, 0 ≤ x ∧ x ≤ 1000000) ∧ (∀ x ∈ m.conf, 0 ≤ x ∧ x ≤ 1000000) := by
  obtain ⟨h1, h2, h3, h4, h5, h6⟩ := h
  obtain ⟨g1, g2⟩ := Mans.confOk_iff.1 h6
  exact ⟨fun x hx => by have := Mans.asc_in _ _ _ h3 x hx; omega, fun x hx => by have := Mans.asc_in _ _ _ g2 x hx; omega⟩
end Go.Proofs.YtbcfiiilikkkeaaGreatDoor
