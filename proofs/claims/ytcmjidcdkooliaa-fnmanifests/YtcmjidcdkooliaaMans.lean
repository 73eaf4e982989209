/- Manifests as the laws measure, copy and compare them: szManifest, toManifest, eqManifest, sameMan, walked. -/
import Derived.Test.YtcmjidcdkooliaaManOk
namespace Go.Proofs.Ytcmjidcdkooliaa
open Go.RowKit
set_option linter.unusedVariables false

theorem five_set {W : World} {Z : Nat} {a0 a1 a2 a3 a4 : Value} {t : TypeId} (h : W.heap[Z]? = some (.cells #[a0, a1, a2, a3, a4] t (0, 0))) (v0 v1 v2 v3 v4 : Value) :
    (((((W.setCell ⟨Z, 0, none⟩ v0).setCell ⟨Z, 1, none⟩ v1).setCell ⟨Z, 2, none⟩ v2).setCell ⟨Z, 3, none⟩ v3).setCell ⟨Z, 4, none⟩ v4).heap[Z]? = some (.cells #[v0, v1, v2, v3, v4] t (0, 0)) := by
  have h1 := heap_setCell_same W Z 0 _ t v0 h
  have h2 := heap_setCell_same _ Z 1 _ t v1 h1
  have h3 := heap_setCell_same _ Z 2 _ t v2 h2
  have h4 := heap_setCell_same _ Z 3 _ t v3 h3
  have h5 := heap_setCell_same _ Z 4 _ t v4 h4
  simpa using h5
theorem five_cell {W : World} {Z : Nat} {a0 a1 a2 a3 a4 : Value} {t : TypeId} (h : W.heap[Z]? = some (.cells #[a0, a1, a2, a3, a4] t (0, 0))) (v0 v1 v2 v3 v4 : Value) :
    let L := ((((W.setCell ⟨Z, 0, none⟩ v0).setCell ⟨Z, 1, none⟩ v1).setCell ⟨Z, 2, none⟩ v2).setCell ⟨Z, 3, none⟩ v3).setCell ⟨Z, 4, none⟩ v4
    L.cell? ⟨Z, 0, none⟩ = some v0 ∧ L.cell? ⟨Z, 1, none⟩ = some v1 ∧ L.cell? ⟨Z, 2, none⟩ = some v2 ∧ L.cell? ⟨Z, 3, none⟩ = some v3 ∧ L.cell? ⟨Z, 4, none⟩ = some v4 :=
  have h4 := five_set h v0 v1 v2 v3 v4
  ⟨cell_of_row _ _ 0 _ _ _ h4, cell_of_row _ _ 1 _ _ _ h4, cell_of_row _ _ 2 _ _ _ h4, cell_of_row _ _ 3 _ _ _ h4, cell_of_row _ _ 4 _ _ _ h4⟩

theorem below_undrew {w w' : World} (h : Below w.drew.heap.size w.drew w') : Below w.heap.size w w' := ((Below.refl _ _).drew).trans h
set_option maxHeartbeats 1000000 in
theorem szMan_is {a b : Option Addr} {ca cb : Nat} (m : ManL) (h1 : m.segs.length ≤ maxLen) (h2 : m.conf.length ≤ maxLen) (left : Nat) (hl : left ≤ 1048576) (w : World) :
    Calls Try.prog 19 #[manV m a ca b cb, .int .i64 (left : Int)] w fun e w' => ∃ x : Int, e = .returned (.int .i64 x) ∧ Left left (m.segs.length + m.conf.length) x ∧ Below w.heap.size w w' := by
  obtain ⟨l, x, y, z, l'⟩ := m
  unfold manV
  simp only at h1 h2 ⊢
  obtain ⟨W, hW⟩ : ∃ W, W = w.alloc (.cells #[.slice a l.length ca, .int .i64 x, .int .i64 y, .int .i64 z, .slice b l'.length cb] 38) := ⟨_, rfl⟩
  have hWb : Below w.heap.size w W := by rw [hW]; exact (Below.refl _ _).alloc (Nat.le_refl _) _
  have hp : W.heap[w.heap.size]? = some (.cells #[.slice a l.length ca, .int .i64 x, .int .i64 y, .int .i64 z, .slice b l'.length cb] 38 (0, 0)) := by rw [hW]; exact heap_alloc_new w _
  have hlt : w.heap.size < W.heap.size := (Array.getElem?_eq_some_iff.1 hp).1
  have HP : Hid (_ = _) := hp
  have HL1 : Hid (l.length ≤ maxLen) := h1
  have HL2 : Hid (l'.length ≤ maxLen) := h2
  clear hp h1 h2
  go_enter Try.func19, Try.ntmps19
  go_wp2_with fail
  rw [← hW]
  clear hW
  refine (szIntS_is HL1.out hl _).mono ?_
  rintro e w1 ⟨x1, rfl, hx, hb1⟩
  have HB1 : Hid (Below w.heap.size w w1) := hWb.trans (hb1.mono hWb.size)
  have hp1 := (hb1.block _ hlt).trans HP.out
  have c0 := cell_of_row _ _ 0 _ _ _ hp1
  have c1 := cell_of_row _ _ 1 _ _ _ hp1
  have c2 := cell_of_row _ _ 2 _ _ _ hp1
  have c3 := cell_of_row _ _ 3 _ _ _ hp1
  have c4 := cell_of_row _ _ 4 _ _ _ hp1
  simp at c0 c1 c2 c3 c4
  clear hp1 hb1 hWb
  rcases hx with ⟨hx1, hx2⟩ | ⟨hx1, hx2⟩
  · obtain ⟨Y, hY⟩ : ∃ Y : Nat, Y = left - l.length := ⟨_, rfl⟩
    rw [← hY] at hx2
    subst hx2
    have HY : Hid (Y = left - l.length) := hY
    have hYl : Y ≤ 1048576 := by omega
    clear hY
    go_wp2_with fail
    refine (szIntS_is HL2.out hYl _).mono ?_
    rintro e w2 ⟨x2, rfl, hx, hb2⟩
    have HB2 : Hid (Below w.heap.size w w2) := HB1.out.trans (hb2.mono HB1.out.size)
    clear hb2
    rcases hx with ⟨hy1, hy2⟩ | ⟨hy1, hy2⟩
    · obtain ⟨V, hV⟩ : ∃ V : Nat, V = Y - l'.length := ⟨_, rfl⟩
      rw [← hV] at hy2
      subst hy2
      have HV : Hid (V = Y - l'.length) := hV
      clear hV
      go_wp2
      go_ret
      exact ⟨_, rfl, Or.inl ⟨by have := HY.out; omega, by rw [HV.out, HY.out]; congr 1; omega⟩, HB2.out⟩
    · subst hy2
      go_wp2
      go_ret
      exact ⟨_, rfl, Or.inr ⟨by have := HY.out; omega, rfl⟩, HB2.out⟩
  · subst hx2
    go_wp2
    go_ret
    exact ⟨_, rfl, Or.inr ⟨by omega, rfl⟩, HB1.out⟩
theorem to_start (w : World) (P : Array Value) : ∃ W, W = ((w.alloc (.cells P 38)).alloc (.cells #[.slice none 0 0, .int .i64 0, .int .i64 0, .int .i64 0, .slice none 0 0] 26)).alloc (.cells #[.slice none 0 0, .int .i64 0, .int .i64 0, .int .i64 0, .slice none 0 0] 26) ∧ W.heap[w.heap.size]? = some (.cells P 38 (0, 0)) ∧ W.heap[w.heap.size + 1]? = some (.cells #[.slice none 0 0, .int .i64 0, .int .i64 0, .int .i64 0, .slice none 0 0] 26 (0, 0)) ∧ W.heap[w.heap.size + 1 + 1]? = some (.cells #[.slice none 0 0, .int .i64 0, .int .i64 0, .int .i64 0, .slice none 0 0] 26 (0, 0)) ∧ Below w.heap.size w W ∧ W.heap.size = w.heap.size + 3 := by
  refine ⟨_, rfl, ?_, ?_, ?_, (((Below.refl _ _).alloc (Nat.le_refl _) _).alloc (by simp) _).alloc (by simp; omega) _, by simp⟩
  · rw [Below.heap_alloc _ _ _ (by simp; omega), Below.heap_alloc _ _ _ (by simp)]
    exact heap_alloc_new w _
  · rw [Below.heap_alloc _ _ _ (by simp)]
    have := heap_alloc_new (w.alloc (.cells P 38)) (.cells #[.slice none 0 0, .int .i64 0, .int .i64 0, .int .i64 0, .slice none 0 0] 26)
    simpa using this
  · have := heap_alloc_new ((w.alloc (.cells P 38)).alloc (.cells #[.slice none 0 0, .int .i64 0, .int .i64 0, .int .i64 0, .slice none 0 0] 26)) (.cells #[.slice none 0 0, .int .i64 0, .int .i64 0, .int .i64 0, .slice none 0 0] 26)
    simpa using this
set_option maxHeartbeats 4000000 in
set_option maxRecDepth 100000 in
theorem toMan_is {a b : Option Addr} {ga oa ca gb ob cb : Nat} (m : ManL) (h1 : m.segs.length ≤ 1048576) (h2 : m.conf.length ≤ 1048576) (w : World) (hA : IntAt w a ga oa m.segs) (hB : IntAt w b gb ob m.conf) :
    Calls Try.prog 20 #[manV m a ca b cb] w fun e w' => ∃ g1 g2 : Nat, e = .returned (manV m (some ⟨g1, 0, none⟩) m.segs.length (some ⟨g2, 0, none⟩) m.conf.length) ∧
      IntAt w' (some ⟨g1, 0, none⟩) g1 0 m.segs ∧ IntAt w' (some ⟨g2, 0, none⟩) g2 0 m.conf ∧ Below w.heap.size w w' := by
  obtain ⟨l, x, y, z, l'⟩ := m
  unfold manV
  simp only at h1 h2 hA hB ⊢
  have HA : Hid (IntAt w a ga oa l) := hA
  have HB : Hid (IntAt w b gb ob l') := hB
  obtain ⟨W, hW, p0, p1, p2, hb, hz⟩ := to_start w #[.slice a l.length ca, .int .i64 x, .int .i64 y, .int .i64 z, .slice b l'.length cb]
  have HP0 : Hid (_ = _) := p0
  have HP1 : Hid (_ = _) := p1
  have HP2 : Hid (_ = _) := p2
  clear hA hB p0 p1 p2
  go_enter Try.func20, Try.ntmps20
  go_wp2_with fail
  rw [← hW]
  clear hW
  refine (toIntS_is l h1 W (HA.out.kept hb)).mono ?_
  rintro e w1 ⟨rfl, hown1, hb1⟩
  obtain ⟨G1, hG1⟩ : ∃ G1, G1 = W.heap.size := ⟨_, rfl⟩
  rw [← hG1] at hown1 ⊢
  have hB1 : Below w.heap.size w w1 := hb.trans (hb1.mono hb.size)
  have HB1 : Hid (Below w.heap.size w w1) := hB1
  have HO1 : Hid (w1.ownsRow G1 3 1 (.slice (some ⟨G1, 0, none⟩) l.length l.length) l.length (cellsI l)) := hown1
  have q0 := (hb1.block _ (by omega)).trans HP0.out
  have q1 := (hb1.block _ (by omega)).trans HP1.out
  have q2 := (hb1.block _ (by omega)).trans HP2.out
  have HQ0 : Hid (_ = _) := q0
  have HQ1 : Hid (_ = _) := q1
  have HQ2 : Hid (_ = _) := q2
  have c0 := cell_of_row _ _ 0 _ _ _ q0
  have c1 := cell_of_row _ _ 1 _ _ _ q0
  have c2 := cell_of_row _ _ 2 _ _ _ q0
  have c3 := cell_of_row _ _ 3 _ _ _ q0
  have c4 := cell_of_row _ _ 4 _ _ _ q0
  simp at c0 c1 c2 c3 c4
  have d0 := cell_of_row _ _ 0 _ _ _ q2
  have d1 := cell_of_row _ _ 1 _ _ _ q2
  have d2 := cell_of_row _ _ 2 _ _ _ q2
  have d3 := cell_of_row _ _ 3 _ _ _ q2
  have d4 := cell_of_row _ _ 4 _ _ _ q2
  simp at d0 d1 d2 d3 d4
  have df0 := frozen_of_row _ _ 0 _ _ q2
  have df1 := frozen_of_row _ _ 1 _ _ q2
  have df2 := frozen_of_row _ _ 2 _ _ q2
  have df3 := frozen_of_row _ _ 3 _ _ q2
  have df4 := frozen_of_row _ _ 4 _ _ q2
  have hG : w.heap.size + 3 = G1 := by omega
  clear hown1 hb1 hb q0 q1 q2 HP0 HP1 HP2 hB1
  clear hG1 hz
  go_wp2_with fail
  obtain ⟨X, hX⟩ : ∃ X, X = (((w1.setCell ⟨w.heap.size + 1 + 1, 0, none⟩ (.slice (some ⟨G1, 0, none⟩) l.length l.length)).setCell ⟨w.heap.size + 1 + 1, 1, none⟩ (.int .i64 x)).setCell ⟨w.heap.size + 1 + 1, 2, none⟩ (.int .i64 y)).setCell ⟨w.heap.size + 1 + 1, 3, none⟩ (.int .i64 z) := ⟨_, rfl⟩
  rw [← hX]
  have hX2 : X.heap[w.heap.size + 1 + 1]? = some (.cells #[.slice (some ⟨G1, 0, none⟩) l.length l.length, .int .i64 x, .int .i64 y, .int .i64 z, .slice none 0 0] 26 (0, 0)) := by
    rw [hX]
    have e1 := heap_setCell_same _ _ 0 _ _ (.slice (some ⟨G1, 0, none⟩) l.length l.length) HQ2.out
    have e2 := heap_setCell_same _ _ 1 _ _ (.int .i64 x) e1
    have e3 := heap_setCell_same _ _ 2 _ _ (.int .i64 y) e2
    have e4 := heap_setCell_same _ _ 3 _ _ (.int .i64 z) e3
    simpa using e4
  have hX0 : X.heap[w.heap.size]? = some (.cells #[.slice a l.length ca, .int .i64 x, .int .i64 y, .int .i64 z, .slice b l'.length cb] 38 (0, 0)) := by rw [hX]; exact set_far (set_far (set_far (set_far HQ0.out (by omega) _ _) (by omega) _ _) (by omega) _ _) (by omega) _ _
  have hX1 : X.heap[w.heap.size + 1]? = some (.cells #[.slice none 0 0, .int .i64 0, .int .i64 0, .int .i64 0, .slice none 0 0] 26 (0, 0)) := by rw [hX]; exact set_far (set_far (set_far (set_far HQ1.out (by omega) _ _) (by omega) _ _) (by omega) _ _) (by omega) _ _
  have hXb : Below w.heap.size w X := by rw [hX]; exact (((HB1.out.setCell (by simp; omega) _).setCell (by simp; omega) _).setCell (by simp; omega) _).setCell (by simp; omega) _
  have hXo : X.ownsRow G1 3 1 (.slice (some ⟨G1, 0, none⟩) l.length l.length) l.length (cellsI l) := by
    rw [hX]
    exact own_set (own_set (own_set (own_set HO1.out _ _ _ (by simp [Value.ownBlock]; omega)) _ _ _ (by simp [Value.ownBlock]; omega)) _ _ _ (by simp [Value.ownBlock]; omega)) _ _ _ (by simp [Value.ownBlock]; omega)
  have HX0 : Hid (_ = _) := hX0
  have HX1 : Hid (_ = _) := hX1
  have HX2 : Hid (_ = _) := hX2
  have HXB : Hid (Below w.heap.size w X) := hXb
  have HXO : Hid (X.ownsRow G1 3 1 (.slice (some ⟨G1, 0, none⟩) l.length l.length) l.length (cellsI l)) := hXo
  clear hX hX0 hX1 hX2 hXb hXo HQ0 HQ1 HQ2 HO1 HB1
  clear c0 c1 c2 c3 c4 d0 d1 d2 d3 d4 df0 df1 df2 df3 df4
  refine (toIntS_is l' h2 X (HB.out.kept HXB.out)).mono ?_
  rintro e w2 ⟨rfl, hown2, hb2⟩
  have hsz2 : w.heap.size + 1 + 1 < X.heap.size := (Array.getElem?_eq_some_iff.1 HX2.out).1
  obtain ⟨G2, hG2⟩ : ∃ G2, G2 = X.heap.size := ⟨_, rfl⟩
  rw [← hG2] at hown2 ⊢
  have HB2 : Hid (Below w.heap.size w w2) := HXB.out.trans (hb2.mono HXB.out.size)
  have HO2 : Hid (w2.ownsRow G2 3 1 (.slice (some ⟨G2, 0, none⟩) l'.length l'.length) l'.length (cellsI l')) := hown2
  have HO1 : Hid (w2.ownsRow G1 3 1 (.slice (some ⟨G1, 0, none⟩) l.length l.length) l.length (cellsI l)) := own_kept HXO.out hb2
  have r1 := (hb2.block _ (by omega)).trans HX1.out
  have r2 := (hb2.block _ (by omega)).trans HX2.out
  have HR1 : Hid (_ = _) := r1
  have HR2 : Hid (_ = _) := r2
  have s0 := cell_of_row _ _ 0 _ _ _ r1
  have s1 := cell_of_row _ _ 1 _ _ _ r1
  have s2 := cell_of_row _ _ 2 _ _ _ r1
  have s3 := cell_of_row _ _ 3 _ _ _ r1
  have s4 := cell_of_row _ _ 4 _ _ _ r1
  simp at s0 s1 s2 s3 s4
  have sf0 := frozen_of_row _ _ 0 _ _ r1
  have sf1 := frozen_of_row _ _ 1 _ _ r1
  have sf2 := frozen_of_row _ _ 2 _ _ r1
  have sf3 := frozen_of_row _ _ 3 _ _ r1
  have sf4 := frozen_of_row _ _ 4 _ _ r1
  have t0 := cell_of_row _ _ 0 _ _ _ r2
  have t1 := cell_of_row _ _ 1 _ _ _ r2
  have t2 := cell_of_row _ _ 2 _ _ _ r2
  have t3 := cell_of_row _ _ 3 _ _ _ r2
  have t4 := cell_of_row _ _ 4 _ _ _ r2
  simp at t0 t1 t2 t3 t4
  have tf0 := frozen_of_row _ _ 0 _ _ r2
  have tf1 := frozen_of_row _ _ 1 _ _ r2
  have tf2 := frozen_of_row _ _ 2 _ _ r2
  have tf3 := frozen_of_row _ _ 3 _ _ r2
  have tf4 := frozen_of_row _ _ 4 _ _ r2
  have hgg : w.heap.size + 1 + 1 < G2 := by omega
  clear hown2 hb2 r1 r2 HX0 HX1 HX2 hG2
  go_wp2
  have hfar := set_far (R := w.heap.size + 1 + 1) HR1.out (by omega) 4 (.slice (some ⟨G2, 0, none⟩) l'.length l'.length)
  obtain ⟨k0, k1, k2, k3, k4⟩ := five_cell hfar (.slice (some ⟨G1, 0, none⟩) l.length l.length) (.int .i64 x) (.int .i64 y) (.int .i64 z) (.slice (some ⟨G2, 0, none⟩) l'.length l'.length)
  refine bodyPost_ret (v := .agg #[.slice (some ⟨G1, 0, none⟩) l.length l.length, .int .i64 x, .int .i64 y, .int .i64 z, .slice (some ⟨G2, 0, none⟩) l'.length l'.length]) (by simp [results, Try.results20, go_sem, k0, k1, k2, k3, k4]) rfl ⟨G1, G2, rfl, ?_, ?_, ?_⟩
  · exact cellsI_own (base := G1) rfl (own_set (own_set (own_set (own_set (own_set (own_set HO1.out _ _ _ (by simp [Value.ownBlock]; omega)) _ _ _ (by simp [Value.ownBlock]; omega)) _ _ _ (by simp [Value.ownBlock]; omega)) _ _ _ (by simp [Value.ownBlock]; omega)) _ _ _ (by simp [Value.ownBlock]; omega)) _ _ _ (by simp [Value.ownBlock]; omega))
  · exact cellsI_own (base := G2) rfl (own_set (own_set (own_set (own_set (own_set (own_set HO2.out _ _ _ (by simp [Value.ownBlock]; omega)) _ _ _ (by simp [Value.ownBlock]; omega)) _ _ _ (by simp [Value.ownBlock]; omega)) _ _ _ (by simp [Value.ownBlock]; omega)) _ _ _ (by simp [Value.ownBlock]; omega)) _ _ _ (by simp [Value.ownBlock]; omega))
  · exact (((((HB2.out.setCell (by simp; omega) _).setCell (by simp) _).setCell (by simp) _).setCell (by simp) _).setCell (by simp) _).setCell (by simp) _
set_option maxHeartbeats 2000000 in
theorem eqMan_same {a b a' b' : Option Addr} {ga oa ca gb ob cb ga' oa' ca' gb' ob' cb' : Nat} (m : ManL) (h1 : m.segs.length ≤ 1048576) (h2 : m.conf.length ≤ 1048576) (w : World) (hA : IntAt w a ga oa m.segs) (hB : IntAt w b gb ob m.conf) (hA' : IntAt w a' ga' oa' m.segs) (hB' : IntAt w b' gb' ob' m.conf) :
    Calls Try.prog 22 #[manV m a ca b cb, manV m a' ca' b' cb'] w fun e w' => e = .returned (.bool true) ∧ Below w.heap.size w w' := by
  obtain ⟨l, x, y, z, l'⟩ := m
  unfold manV
  simp only at h1 h2 hA hB hA' hB' ⊢
  obtain ⟨W, hW⟩ : ∃ W, W = (w.alloc (.cells #[.slice a l.length ca, .int .i64 x, .int .i64 y, .int .i64 z, .slice b l'.length cb] 26)).alloc (.cells #[.slice a' l.length ca', .int .i64 x, .int .i64 y, .int .i64 z, .slice b' l'.length cb'] 26) := ⟨_, rfl⟩
  have hb : Below w.heap.size w W := by rw [hW]; exact ((Below.refl _ _).alloc (Nat.le_refl _) _).alloc (by simp) _
  have hp0 : W.heap[w.heap.size]? = some (.cells #[.slice a l.length ca, .int .i64 x, .int .i64 y, .int .i64 z, .slice b l'.length cb] 26 (0, 0)) := by
    rw [hW, Below.heap_alloc _ _ _ (by simp)]; exact heap_alloc_new w _
  have hp1 : W.heap[w.heap.size + 1]? = some (.cells #[.slice a' l.length ca', .int .i64 x, .int .i64 y, .int .i64 z, .slice b' l'.length cb'] 26 (0, 0)) := by
    rw [hW]; have := heap_alloc_new (w.alloc (.cells #[.slice a l.length ca, .int .i64 x, .int .i64 y, .int .i64 z, .slice b l'.length cb] 26)) (.cells #[.slice a' l.length ca', .int .i64 x, .int .i64 y, .int .i64 z, .slice b' l'.length cb'] 26); simpa using this
  have hlt : w.heap.size + 1 < W.heap.size := (Array.getElem?_eq_some_iff.1 hp1).1
  have HP0 : Hid (_ = _) := hp0
  have HP1 : Hid (_ = _) := hp1
  have HA : Hid (IntAt w a ga oa l) := hA
  have HB : Hid (IntAt w b gb ob l') := hB
  have HA' : Hid (IntAt w a' ga' oa' l) := hA'
  have HB' : Hid (IntAt w b' gb' ob' l') := hB'
  have c0 := cell_of_row _ _ 0 _ _ _ hp0
  have c1 := cell_of_row _ _ 1 _ _ _ hp0
  have c2 := cell_of_row _ _ 2 _ _ _ hp0
  have c3 := cell_of_row _ _ 3 _ _ _ hp0
  have c4 := cell_of_row _ _ 4 _ _ _ hp0
  simp at c0 c1 c2 c3 c4
  have d0 := cell_of_row _ _ 0 _ _ _ hp1
  have d1 := cell_of_row _ _ 1 _ _ _ hp1
  have d2 := cell_of_row _ _ 2 _ _ _ hp1
  have d3 := cell_of_row _ _ 3 _ _ _ hp1
  have d4 := cell_of_row _ _ 4 _ _ _ hp1
  simp at d0 d1 d2 d3 d4
  clear hp0 hp1 hA hB hA' hB'
  go_enter Try.func22, Try.ntmps22
  go_wp2_with fail
  rw [← hW]
  clear hW
  refine (eqIntS_same l h1 W (HA.out.kept hb) (HA'.out.kept hb)).mono ?_
  rintro e w1 ⟨rfl, hb1⟩
  have hB1 : Below w.heap.size w w1 := hb.trans (hb1.mono hb.size)
  have HB1 : Hid (Below w.heap.size w w1) := hB1
  have q0 := (hb1.block _ (by omega)).trans HP0.out
  have q1 := (hb1.block _ hlt).trans HP1.out
  have e0 := cell_of_row _ _ 0 _ _ _ q0
  have e1 := cell_of_row _ _ 1 _ _ _ q0
  have e2 := cell_of_row _ _ 2 _ _ _ q0
  have e3 := cell_of_row _ _ 3 _ _ _ q0
  have e4 := cell_of_row _ _ 4 _ _ _ q0
  simp at e0 e1 e2 e3 e4
  have f0 := cell_of_row _ _ 0 _ _ _ q1
  have f1 := cell_of_row _ _ 1 _ _ _ q1
  have f2 := cell_of_row _ _ 2 _ _ _ q1
  have f3 := cell_of_row _ _ 3 _ _ _ q1
  have f4 := cell_of_row _ _ 4 _ _ _ q1
  simp at f0 f1 f2 f3 f4
  clear q0 q1 hb1 hb hB1
  clear c0 c1 c2 c3 c4 d0 d1 d2 d3 d4
  go_wp2_with fail
  refine (eqIntS_same l' h2 w1 (HB.out.kept HB1.out) (HB'.out.kept HB1.out)).mono ?_
  rintro e w2 ⟨rfl, hb2⟩
  have HB2 : Hid (Below w.heap.size w w2) := HB1.out.trans (hb2.mono HB1.out.size)
  clear hb2
  go_wp2
  go_ret
  exact ⟨rfl, HB2.out⟩
set_option maxHeartbeats 2000000 in
theorem sameMan_same {a b a' b' : Option Addr} {ga oa ca gb ob cb ga' oa' ca' gb' ob' cb' : Nat} (m : ManL) (h1 : m.segs.length ≤ 1048576) (h2 : m.conf.length ≤ 1048576) (w : World) (hA : IntAt w a ga oa m.segs) (hB : IntAt w b gb ob m.conf) (hA' : IntAt w a' ga' oa' m.segs) (hB' : IntAt w b' gb' ob' m.conf) :
    Calls Try.prog 13 #[manV m a ca b cb, manV m a' ca' b' cb'] w fun e w' => e = .returned (.bool true) ∧ Below w.heap.size w w' := by
  obtain ⟨l, x, y, z, l'⟩ := m
  unfold manV
  simp only at h1 h2 hA hB hA' hB' ⊢
  obtain ⟨W, hW⟩ : ∃ W, W = (w.alloc (.cells #[.slice a l.length ca, .int .i64 x, .int .i64 y, .int .i64 z, .slice b l'.length cb] 26)).alloc (.cells #[.slice a' l.length ca', .int .i64 x, .int .i64 y, .int .i64 z, .slice b' l'.length cb'] 26) := ⟨_, rfl⟩
  have hb : Below w.heap.size w W := by rw [hW]; exact ((Below.refl _ _).alloc (Nat.le_refl _) _).alloc (by simp) _
  have hp0 : W.heap[w.heap.size]? = some (.cells #[.slice a l.length ca, .int .i64 x, .int .i64 y, .int .i64 z, .slice b l'.length cb] 26 (0, 0)) := by
    rw [hW, Below.heap_alloc _ _ _ (by simp)]; exact heap_alloc_new w _
  have hp1 : W.heap[w.heap.size + 1]? = some (.cells #[.slice a' l.length ca', .int .i64 x, .int .i64 y, .int .i64 z, .slice b' l'.length cb'] 26 (0, 0)) := by
    rw [hW]; have := heap_alloc_new (w.alloc (.cells #[.slice a l.length ca, .int .i64 x, .int .i64 y, .int .i64 z, .slice b l'.length cb] 26)) (.cells #[.slice a' l.length ca', .int .i64 x, .int .i64 y, .int .i64 z, .slice b' l'.length cb'] 26); simpa using this
  have hlt : w.heap.size + 1 < W.heap.size := (Array.getElem?_eq_some_iff.1 hp1).1
  have HP0 : Hid (_ = _) := hp0
  have HP1 : Hid (_ = _) := hp1
  have HA : Hid (IntAt w a ga oa l) := hA
  have HB : Hid (IntAt w b gb ob l') := hB
  have HA' : Hid (IntAt w a' ga' oa' l) := hA'
  have HB' : Hid (IntAt w b' gb' ob' l') := hB'
  have c0 := cell_of_row _ _ 0 _ _ _ hp0
  have c1 := cell_of_row _ _ 1 _ _ _ hp0
  have c2 := cell_of_row _ _ 2 _ _ _ hp0
  have c3 := cell_of_row _ _ 3 _ _ _ hp0
  have c4 := cell_of_row _ _ 4 _ _ _ hp0
  simp at c0 c1 c2 c3 c4
  have d0 := cell_of_row _ _ 0 _ _ _ hp1
  have d1 := cell_of_row _ _ 1 _ _ _ hp1
  have d2 := cell_of_row _ _ 2 _ _ _ hp1
  have d3 := cell_of_row _ _ 3 _ _ _ hp1
  have d4 := cell_of_row _ _ 4 _ _ _ hp1
  simp at d0 d1 d2 d3 d4
  clear hp0 hp1 hA hB hA' hB'
  go_enter Try.func13, Try.ntmps13
  go_wp2_with fail
  rw [← hW]
  clear hW
  refine (sameInts_same l h1 W (HA.out.kept hb) (HA'.out.kept hb)).mono ?_
  rintro e w1 ⟨rfl, hb1⟩
  have hB1 : Below w.heap.size w w1 := hb.trans (hb1.mono hb.size)
  have HB1 : Hid (Below w.heap.size w w1) := hB1
  have q0 := (hb1.block _ (by omega)).trans HP0.out
  have q1 := (hb1.block _ hlt).trans HP1.out
  have e0 := cell_of_row _ _ 0 _ _ _ q0
  have e1 := cell_of_row _ _ 1 _ _ _ q0
  have e2 := cell_of_row _ _ 2 _ _ _ q0
  have e3 := cell_of_row _ _ 3 _ _ _ q0
  have e4 := cell_of_row _ _ 4 _ _ _ q0
  simp at e0 e1 e2 e3 e4
  have f0 := cell_of_row _ _ 0 _ _ _ q1
  have f1 := cell_of_row _ _ 1 _ _ _ q1
  have f2 := cell_of_row _ _ 2 _ _ _ q1
  have f3 := cell_of_row _ _ 3 _ _ _ q1
  have f4 := cell_of_row _ _ 4 _ _ _ q1
  simp at f0 f1 f2 f3 f4
  clear q0 q1 hb1 hb hB1
  clear c0 c1 c2 c3 c4 d0 d1 d2 d3 d4
  go_wp2_with fail
  refine (sameInts_same l' h2 w1 (HB.out.kept HB1.out) (HB'.out.kept HB1.out)).mono ?_
  rintro e w2 ⟨rfl, hb2⟩
  have HB2 : Hid (Below w.heap.size w w2) := HB1.out.trans (hb2.mono HB1.out.size)
  clear hb2
  go_wp2
  go_ret
  exact ⟨rfl, HB2.out⟩
end Go.Proofs.Ytcmjidcdkooliaa
