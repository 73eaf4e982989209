/- Manifests as the laws mark them: markManifest, heldManifest, walked. Shelves held against each other, marked, found marked; raw writes found marked; how small what OpenShelf answers is. A shelf that is handed in: how great it is, taken over, held against another, marked. -/
import Derived.Test.YtbcfiiilikkkeaaGreatDoorManText
import Derived.Test.YtbcfiiilikkkeaaGreatDoorWholeM
import Derived.Test.YtbcfiiilikkkeaaGreatDoorSpecOpen
import Derived.Test.YtbcfiiilikkkeaaGreatDoorRdDir
import Derived.Deep.RegionHeld3
import Derived.Test.YtbcfiiilikkkeaaGreatDoorMathComes2
import Derived.Test.YtbcfiiilikkkeaaGreatDoorReader
import Derived.Test.YtbcfiiilikkkeaaGreatDoorKit
import Derived.Test.YtbcfiiilikkkeaaGreatDoorMathScan
import Derived.Laws.AppendOwnNone
import Derived.Deep.DeepCutAuto
namespace Go.Proofs.YtbcfiiilikkkeaaGreatDoor
open Go.RowKit
set_option linter.unusedVariables false

theorem apart_ne {v1 v2 : Value} (h : Apart v1 v2) : v1.ownBlock = none ∨ v1.ownBlock ≠ v2.ownBlock := by
  cases e : v1.ownBlock with
  | none => exact Or.inl rfl
  | some g => exact Or.inr (fun e2 => h g e e2.symm)
end Go.Proofs.YtbcfiiilikkkeaaGreatDoor
namespace Go.Proofs.YtbcfiiilikkkeaaGreatDoor
open Go.RowKit
set_option linter.unusedVariables false
set_option linter.unusedSimpArgs false

namespace Shelves
theorem open_small {l : List FileL} {s : ShelfL} {rs : List Disks.RawL} {c : Int} (h : OpenIs l s rs c) : s.man.segs.length ≤ 100 ∧ s.man.conf.length ≤ 100 ∧ s.dir.length ≤ 100 ∧ rs.length ≤ 100 := by
  obtain ⟨e, h1, h2⟩ := open_load h
  rcases h2 with ⟨rfl, rfl⟩ | ⟨_, rfl, _, rfl⟩
  · rcases h1 with ⟨h1, _⟩ | ⟨_, h1, _⟩
    · have L := load_iff.1 h1
      obtain ⟨t, _, q⟩ := L.man
      have q1 : s.man.segs.length ≤ 8 := q.2.1.2
      have q2 : s.man.conf.length ≤ 4 := ((Mans.confOk_iff).1 q.2.2.2.2.2.2).1.2
      have q3 := L.right.1
      have q4 := L.disk.1
      refine ⟨by omega, by omega, by omega, ?_⟩
      unfold cleans
      have h3 := List.length_filter_le (stray s.man) l
      simp only [List.length_append, List.length_map]
      have k1 : ∀ (p : Prop) [Decidable p] (r : Disks.RawL), (if p then [r] else []).length ≤ 1 := fun p _ r => by split <;> simp
      have k2 := k1 ((Disks.fileAt l nameNew).isSome = true) (drop1 nameNew)
      have k3 := k1 (e < (textAt l (lastOf s.man)).length) (put1 (segName (lastOf s.man)) (upTo (textAt l (lastOf s.man)) e))
      omega
    · omega
  · simp [zeroS]
end Shelves
end Go.Proofs.YtbcfiiilikkkeaaGreatDoor
namespace Go.Proofs.YtbcfiiilikkkeaaGreatDoor
open Go.RowKit
set_option linter.unusedVariables false
set_option linter.unusedSimpArgs false

theorem seven_cells' {W : World} {b : Nat} {t : TypeId} {v0 v1 v2 v3 v4 v5 v6 : Value} (h : W.heap[b]? = some (.cells #[v0, v1, v2, v3, v4, v5, v6] t (0, 0))) : (W.cell? ⟨b, 0, none⟩ = some v0 ∧ W.cell? ⟨b, 1, none⟩ = some v1 ∧ W.cell? ⟨b, 2, none⟩ = some v2 ∧ W.cell? ⟨b, 3, none⟩ = some v3 ∧ W.cell? ⟨b, 4, none⟩ = some v4 ∧ W.cell? ⟨b, 5, none⟩ = some v5 ∧ W.cell? ⟨b, 6, none⟩ = some v6) ∧ True :=
  ⟨⟨cell_of_row _ _ 0 _ _ _ h, cell_of_row _ _ 1 _ _ _ h, cell_of_row _ _ 2 _ _ _ h, cell_of_row _ _ 3 _ _ _ h, cell_of_row _ _ 4 _ _ _ h, cell_of_row _ _ 5 _ _ _ h, cell_of_row _ _ 6 _ _ _ h⟩, trivial⟩
set_option maxHeartbeats 8000000 in
set_option maxRecDepth 100000 in
theorem szShelf_any {sa ca da : Option Addr} {sc cc dg dof dc : Nat} (s : ShelfL) (h1 : s.man.segs.length ≤ maxLen) (h2 : s.man.conf.length ≤ maxLen) (h3 : s.dir.length ≤ maxLen) (hsz : ∀ r ∈ s.dir, smallSpot maxLen r) (left : Nat) (hl : left ≤ 1048576) (w : World) (hf : SpotAt w da dg dof s.dir) :
    Calls Tryz.prog 12 #[.agg #[.slice sa s.man.segs.length sc, .int .i64 s.man.next, .int .i64 s.man.base, .int .i64 s.man.term, .slice ca s.man.conf.length cc, .slice da s.dir.length dc, .int .i64 s.stamp], .int .i64 (left : Int)] w fun e w' => ∃ x : Int, e = .returned (.int .i64 x) ∧ Left left (s.man.segs.length + s.man.conf.length + totSpot s.dir) x ∧ Below w.heap.size w w' := by
  obtain ⟨W, hW⟩ : ∃ W, W = w.alloc (.cells #[.slice sa s.man.segs.length sc, .int .i64 s.man.next, .int .i64 s.man.base, .int .i64 s.man.term, .slice ca s.man.conf.length cc, .slice da s.dir.length dc, .int .i64 s.stamp] 30) := ⟨_, rfl⟩
  have hb : Below w.heap.size w W := by rw [hW]; exact (Below.refl _ _).alloc (Nat.le_refl _) _
  have hp : W.heap[w.heap.size]? = some (.cells #[.slice sa s.man.segs.length sc, .int .i64 s.man.next, .int .i64 s.man.base, .int .i64 s.man.term, .slice ca s.man.conf.length cc, .slice da s.dir.length dc, .int .i64 s.stamp] 30 (0, 0)) := by rw [hW]; exact heap_alloc_new w _
  have HP : Hid (∀ W', Below W.heap.size W W' → W'.heap[w.heap.size]? = some (.cells #[.slice sa s.man.segs.length sc, .int .i64 s.man.next, .int .i64 s.man.base, .int .i64 s.man.term, .slice ca s.man.conf.length cc, .slice da s.dir.length dc, .int .i64 s.stamp] 30 (0, 0))) := fun W' h => (h.block _ (Array.getElem?_eq_some_iff.1 hp).1).trans hp
  have HB : Hid (Below w.heap.size w W) := hb
  have HM : Hid (Calls Tryz.prog 55 #[.agg #[.slice sa s.man.segs.length sc, .int .i64 s.man.next, .int .i64 s.man.base, .int .i64 s.man.term, .slice ca s.man.conf.length cc], .int .i64 (left : Int)] W fun e w' => ∃ x : Int, e = .returned (.int .i64 x) ∧ Left left (s.man.segs.length + s.man.conf.length) x ∧ Below W.heap.size W w') := szMan_is s.man h1 h2 left hl W
  have HS : Hid (∀ (Y : Nat) W', Y ≤ 1048576 → Below W.heap.size W W' → Calls Tryz.prog 56 #[.slice da s.dir.length dc, .int .i64 (Y : Int)] W' fun e w' => ∃ x : Int, e = .returned (.int .i64 x) ∧ Left Y (totSpot s.dir) x ∧ Below W'.heap.size W' w') := fun Y W' hY h => szSpotS_is s.dir h3 hsz Y hY W' ((hf.kept hb).kept h)
  obtain ⟨⟨c0, c1, c2, c3, c4, c5, c6⟩, _⟩ := seven_cells' hp
  rw [hW] at c0 c1 c2 c3 c4 c5 c6
  clear hf hb hp hsz
  go_enter Tryz.func12, Tryz.ntmps12
  go_wp2_with fail
  rw [← hW]
  clear hW c0 c1 c2 c3 c4 c5 c6
  refine Calls.mono HM.out ?_
  rintro e w1 ⟨x1, rfl, hx, hb1⟩
  have HB1 : Hid (Below W.heap.size W w1) := hb1
  obtain ⟨⟨c0, c1, c2, c3, c4, c5, c6⟩, _⟩ := seven_cells' (HP.out _ hb1)
  clear hb1 HM
  rcases hx with ⟨hx1, hx2⟩ | ⟨hx1, hx2⟩
  · obtain ⟨Y, hY⟩ : ∃ Y : Nat, Y = left - (s.man.segs.length + s.man.conf.length) := ⟨_, rfl⟩
    rw [← hY] at hx2
    subst hx2
    have HY : Hid (Y = left - (s.man.segs.length + s.man.conf.length)) := hY
    have HX1 : Hid _ := hx1
    have hYl : Y ≤ 1048576 := by omega
    have hY0 : ¬ (Y : Int) < 0 := by omega
    clear hY hx1
    go_wp2_with fail
    refine Calls.mono (HS.out Y _ hYl HB1.out) ?_
    rintro e w2 ⟨x2, rfl, hx, hb2⟩
    have HB2 : Hid (Below w.heap.size w w2) := HB.out.trans ((HB1.out.trans (hb2.mono HB1.out.size)).mono HB.out.size)
    clear hb2 c0 c1 c2 c3 c4 c5 c6
    rcases hx with ⟨hy1, hy2⟩ | ⟨hy1, hy2⟩
    · obtain ⟨V, hV⟩ : ∃ V : Nat, V = Y - totSpot s.dir := ⟨_, rfl⟩
      rw [← hV] at hy2
      subst hy2
      have HV : Hid (V = Y - totSpot s.dir) := hV
      have HY1 : Hid _ := hy1
      have hV0 : ¬ (V : Int) < 0 := by omega
      clear hV hy1
      go_wp2
      go_ret
      exact ⟨_, rfl, Or.inl ⟨by have := HY.out; have h1 : _ ≤ _ := HX1.out; have h2 : _ ≤ _ := HY1.out; omega, by rw [HV.out, HY.out]; congr 1; omega⟩, HB2.out⟩
    · subst hy2
      have HY1 : Hid _ := hy1
      clear hy1
      go_wp2
      go_ret
      exact ⟨_, rfl, Or.inr ⟨by have := HY.out; have h1 : _ ≤ _ := HX1.out; have h2 : ¬ _ ≤ _ := HY1.out; omega, rfl⟩, HB2.out⟩
  · subst hx2
    have HX1 : Hid _ := hx1
    have HB2 : Hid (Below w.heap.size w w1) := HB.out.trans (HB1.out.mono HB.out.size)
    clear hx1
    go_wp2
    go_ret
    exact ⟨_, rfl, Or.inr ⟨by have h1 : ¬ _ ≤ _ := HX1.out; omega, rfl⟩, HB2.out⟩
set_option maxHeartbeats 8000000 in
set_option maxRecDepth 100000 in
theorem toMan_own {a b : Option Addr} {ga oa ca gb ob cb : Nat} (m : ManL) (h1 : m.segs.length ≤ 1048576) (h2 : m.conf.length ≤ 1048576) (w : World) (hA : IntAt w a ga oa m.segs) (hB : IntAt w b gb ob m.conf) :
    Calls Tryz.prog 67 #[manV m a ca b cb] w fun e w' => ∃ g1 g2 : Nat, e = .returned (manV m (some ⟨g1, 0, none⟩) m.segs.length (some ⟨g2, 0, none⟩) m.conf.length) ∧
      w'.ownsRow w.heap.size 3 1 (.slice (some ⟨g1, 0, none⟩) m.segs.length m.segs.length) m.segs.length (cellsI m.segs) ∧ w'.ownsRow w.heap.size 3 1 (.slice (some ⟨g2, 0, none⟩) m.conf.length m.conf.length) m.conf.length (cellsI m.conf) ∧ g1 ≠ g2 ∧ Below w.heap.size w w' := by
  obtain ⟨l, x, y, z, l'⟩ := m
  unfold manV
  simp only at h1 h2 hA hB ⊢
  have HA : Hid (IntAt w a ga oa l) := hA
  have HB : Hid (IntAt w b gb ob l') := hB
  obtain ⟨W, hW, p0, p1, p2, hb, hz⟩ := to_start w #[.slice a l.length ca, .int .i64 x, .int .i64 y, .int .i64 z, .slice b l'.length cb]
  have HP0 : Hid (_ = _) := p0
  have HP1 : Hid (_ = _) := p1
  have HP2 : Hid (_ = _) := p2
  clear hA hB p0 p1 p2
  go_enter Tryz.func67, Tryz.ntmps67
  go_wp2_with fail
  rw [← hW]
  clear hW
  refine (toIntS_is l h1 W (HA.out.kept hb)).mono ?_
  rintro e w1 ⟨rfl, hown1, hb1⟩
  obtain ⟨G1, hG1⟩ : ∃ G1, G1 = W.heap.size := ⟨_, rfl⟩
  rw [← hG1] at hown1 ⊢
  have hB1 : Below w.heap.size w w1 := hb.trans (hb1.mono hb.size)
  have HB1 : Hid (Below w.heap.size w w1) := hB1
  have HO1 : Hid (w1.ownsRow G1 3 1 (.slice (some ⟨G1, 0, none⟩) l.length l.length) l.length (cellsI l)) := hown1
  have q0 := (hb1.block _ (by omega)).trans HP0.out
  have q1 := (hb1.block _ (by omega)).trans HP1.out
  have q2 := (hb1.block _ (by omega)).trans HP2.out
  have HQ0 : Hid (_ = _) := q0
  have HQ1 : Hid (_ = _) := q1
  have HQ2 : Hid (_ = _) := q2
  have c0 := cell_of_row _ _ 0 _ _ _ q0
  have c1 := cell_of_row _ _ 1 _ _ _ q0
  have c2 := cell_of_row _ _ 2 _ _ _ q0
  have c3 := cell_of_row _ _ 3 _ _ _ q0
  have c4 := cell_of_row _ _ 4 _ _ _ q0
  simp at c0 c1 c2 c3 c4
  have d0 := cell_of_row _ _ 0 _ _ _ q2
  have d1 := cell_of_row _ _ 1 _ _ _ q2
  have d2 := cell_of_row _ _ 2 _ _ _ q2
  have d3 := cell_of_row _ _ 3 _ _ _ q2
  have d4 := cell_of_row _ _ 4 _ _ _ q2
  simp at d0 d1 d2 d3 d4
  have df0 := frozen_of_row _ _ 0 _ _ q2
  have df1 := frozen_of_row _ _ 1 _ _ q2
  have df2 := frozen_of_row _ _ 2 _ _ q2
  have df3 := frozen_of_row _ _ 3 _ _ q2
  have df4 := frozen_of_row _ _ 4 _ _ q2
  have hG : w.heap.size + 3 = G1 := by omega
  clear hown1 hb1 hb q0 q1 q2 HP0 HP1 HP2 hB1
  clear hG1 hz
  go_wp2_with fail
  obtain ⟨X, hX⟩ : ∃ X, X = (((w1.setCell ⟨w.heap.size + 1 + 1, 0, none⟩ (.slice (some ⟨G1, 0, none⟩) l.length l.length)).setCell ⟨w.heap.size + 1 + 1, 1, none⟩ (.int .i64 x)).setCell ⟨w.heap.size + 1 + 1, 2, none⟩ (.int .i64 y)).setCell ⟨w.heap.size + 1 + 1, 3, none⟩ (.int .i64 z) := ⟨_, rfl⟩
  rw [← hX]
  have hX2 : X.heap[w.heap.size + 1 + 1]? = some (.cells #[.slice (some ⟨G1, 0, none⟩) l.length l.length, .int .i64 x, .int .i64 y, .int .i64 z, .slice none 0 0] 37 (0, 0)) := by
    rw [hX]
    have e1 := heap_setCell_same _ _ 0 _ _ (.slice (some ⟨G1, 0, none⟩) l.length l.length) HQ2.out
    have e2 := heap_setCell_same _ _ 1 _ _ (.int .i64 x) e1
    have e3 := heap_setCell_same _ _ 2 _ _ (.int .i64 y) e2
    have e4 := heap_setCell_same _ _ 3 _ _ (.int .i64 z) e3
    simpa using e4
  have hX0 : X.heap[w.heap.size]? = some (.cells #[.slice a l.length ca, .int .i64 x, .int .i64 y, .int .i64 z, .slice b l'.length cb] 27 (0, 0)) := by rw [hX]; exact set_far (set_far (set_far (set_far HQ0.out (by omega) _ _) (by omega) _ _) (by omega) _ _) (by omega) _ _
  have hX1 : X.heap[w.heap.size + 1]? = some (.cells #[.slice none 0 0, .int .i64 0, .int .i64 0, .int .i64 0, .slice none 0 0] 37 (0, 0)) := by rw [hX]; exact set_far (set_far (set_far (set_far HQ1.out (by omega) _ _) (by omega) _ _) (by omega) _ _) (by omega) _ _
  have hXb : Below w.heap.size w X := by rw [hX]; exact (((HB1.out.setCell (by simp; omega) _).setCell (by simp; omega) _).setCell (by simp; omega) _).setCell (by simp; omega) _
  have hXo : X.ownsRow G1 3 1 (.slice (some ⟨G1, 0, none⟩) l.length l.length) l.length (cellsI l) := by
    rw [hX]
    exact own_set (own_set (own_set (own_set HO1.out _ _ _ (by simp [Value.ownBlock]; omega)) _ _ _ (by simp [Value.ownBlock]; omega)) _ _ _ (by simp [Value.ownBlock]; omega)) _ _ _ (by simp [Value.ownBlock]; omega)
  have HX0 : Hid (_ = _) := hX0
  have HX1 : Hid (_ = _) := hX1
  have HX2 : Hid (_ = _) := hX2
  have HXB : Hid (Below w.heap.size w X) := hXb
  have HXO : Hid (X.ownsRow G1 3 1 (.slice (some ⟨G1, 0, none⟩) l.length l.length) l.length (cellsI l)) := hXo
  clear hX hX0 hX1 hX2 hXb hXo HQ0 HQ1 HQ2 HO1 HB1
  clear c0 c1 c2 c3 c4 d0 d1 d2 d3 d4 df0 df1 df2 df3 df4
  refine (toIntS_is l' h2 X (HB.out.kept HXB.out)).mono ?_
  rintro e w2 ⟨rfl, hown2, hb2⟩
  have hsz2 : w.heap.size + 1 + 1 < X.heap.size := (Array.getElem?_eq_some_iff.1 HX2.out).1
  obtain ⟨G2, hG2⟩ : ∃ G2, G2 = X.heap.size := ⟨_, rfl⟩
  rw [← hG2] at hown2 ⊢
  have HB2 : Hid (Below w.heap.size w w2) := HXB.out.trans (hb2.mono HXB.out.size)
  have HO2 : Hid (w2.ownsRow G2 3 1 (.slice (some ⟨G2, 0, none⟩) l'.length l'.length) l'.length (cellsI l')) := hown2
  have HO1 : Hid (w2.ownsRow G1 3 1 (.slice (some ⟨G1, 0, none⟩) l.length l.length) l.length (cellsI l)) := own_kept HXO.out hb2
  have r1 := (hb2.block _ (by omega)).trans HX1.out
  have r2 := (hb2.block _ (by omega)).trans HX2.out
  have HR1 : Hid (_ = _) := r1
  have HR2 : Hid (_ = _) := r2
  have s0 := cell_of_row _ _ 0 _ _ _ r1
  have s1 := cell_of_row _ _ 1 _ _ _ r1
  have s2 := cell_of_row _ _ 2 _ _ _ r1
  have s3 := cell_of_row _ _ 3 _ _ _ r1
  have s4 := cell_of_row _ _ 4 _ _ _ r1
  simp at s0 s1 s2 s3 s4
  have sf0 := frozen_of_row _ _ 0 _ _ r1
  have sf1 := frozen_of_row _ _ 1 _ _ r1
  have sf2 := frozen_of_row _ _ 2 _ _ r1
  have sf3 := frozen_of_row _ _ 3 _ _ r1
  have sf4 := frozen_of_row _ _ 4 _ _ r1
  have t0 := cell_of_row _ _ 0 _ _ _ r2
  have t1 := cell_of_row _ _ 1 _ _ _ r2
  have t2 := cell_of_row _ _ 2 _ _ _ r2
  have t3 := cell_of_row _ _ 3 _ _ _ r2
  have t4 := cell_of_row _ _ 4 _ _ _ r2
  simp at t0 t1 t2 t3 t4
  have tf0 := frozen_of_row _ _ 0 _ _ r2
  have tf1 := frozen_of_row _ _ 1 _ _ r2
  have tf2 := frozen_of_row _ _ 2 _ _ r2
  have tf3 := frozen_of_row _ _ 3 _ _ r2
  have tf4 := frozen_of_row _ _ 4 _ _ r2
  have hgg : w.heap.size + 1 + 1 < G2 := by omega
  have HNE : Hid (G1 ≠ G2) := by
    have h1 := (HXO.out.lt G1 rfl).2
    show G1 ≠ G2
    omega
  clear hown2 hb2 r1 r2 HX0 HX1 HX2 hG2
  go_wp2
  have hfar := set_far (R := w.heap.size + 1 + 1) HR1.out (by omega) 4 (.slice (some ⟨G2, 0, none⟩) l'.length l'.length)
  obtain ⟨k0, k1, k2, k3, k4⟩ := five_cell hfar (.slice (some ⟨G1, 0, none⟩) l.length l.length) (.int .i64 x) (.int .i64 y) (.int .i64 z) (.slice (some ⟨G2, 0, none⟩) l'.length l'.length)
  refine bodyPost_ret (v := .agg #[.slice (some ⟨G1, 0, none⟩) l.length l.length, .int .i64 x, .int .i64 y, .int .i64 z, .slice (some ⟨G2, 0, none⟩) l'.length l'.length]) (by simp [results, Tryz.results67, go_sem, k0, k1, k2, k3, k4]) rfl ⟨G1, G2, rfl, ?_, ?_, ?_, ?_⟩
  · exact own_mono (own_set (own_set (own_set (own_set (own_set (own_set HO1.out _ _ _ (by simp [Value.ownBlock]; omega)) _ _ _ (by simp [Value.ownBlock]; omega)) _ _ _ (by simp [Value.ownBlock]; omega)) _ _ _ (by simp [Value.ownBlock]; omega)) _ _ _ (by simp [Value.ownBlock]; omega)) _ _ _ (by simp [Value.ownBlock]; omega)) (by omega)
  · exact own_mono (own_set (own_set (own_set (own_set (own_set (own_set HO2.out _ _ _ (by simp [Value.ownBlock]; omega)) _ _ _ (by simp [Value.ownBlock]; omega)) _ _ _ (by simp [Value.ownBlock]; omega)) _ _ _ (by simp [Value.ownBlock]; omega)) _ _ _ (by simp [Value.ownBlock]; omega)) _ _ _ (by simp [Value.ownBlock]; omega)) (by omega)
  · have := HNE.out; exact this
  · exact (((((HB2.out.setCell (by simp; omega) _).setCell (by simp) _).setCell (by simp) _).setCell (by simp) _).setCell (by simp) _).setCell (by simp) _
set_option maxHeartbeats 8000000 in
set_option maxRecDepth 100000 in
theorem eqShelf_any {b b' : Nat} {va vc vd va' vc' vd' : Value} (s : ShelfL) (h1 : s.man.segs.length ≤ 1048576) (h2 : s.man.conf.length ≤ 1048576) (h3 : s.dir.length ≤ 1048576) (w : World) (hA : ShOwn b s va vc vd w) (hB : ShOwn b' s va' vc' vd' w) :
    Calls Tryz.prog 19 #[shV s va vc vd, shV s va' vc' vd'] w fun e w' => e = .returned (.bool true) ∧ Below w.heap.size w w' := by
  obtain ⟨⟨l, x, y, z, l'⟩, d, st⟩ := s
  obtain ⟨sa, sg, sc, e1, i1⟩ := cellsI_slice hA.segs
  obtain ⟨ca, cg, cc, e2, i2⟩ := cellsI_slice hA.conf
  obtain ⟨da, dg, dc, e3, i3⟩ := cellsSpot_slice hA.dir
  obtain ⟨sa', sg', sc', e4, j1⟩ := cellsI_slice hB.segs
  obtain ⟨ca', cg', cc', e5, j2⟩ := cellsI_slice hB.conf
  obtain ⟨da', dg', dc', e6, j3⟩ := cellsSpot_slice hB.dir
  subst e1 e2 e3 e4 e5 e6
  unfold shV cells7
  simp only at h1 h2 h3 i1 i2 i3 j1 j2 j3 ⊢
  obtain ⟨W, hW⟩ : ∃ W, W = (w.alloc (.cells #[.slice sa l.length sc, .int .i64 x, .int .i64 y, .int .i64 z, .slice ca l'.length cc, .slice da d.length dc, .int .i64 st] 40)).alloc (.cells #[.slice sa' l.length sc', .int .i64 x, .int .i64 y, .int .i64 z, .slice ca' l'.length cc', .slice da' d.length dc', .int .i64 st] 40) := ⟨_, rfl⟩
  have hb : Below w.heap.size w W := by rw [hW]; exact ((Below.refl _ _).alloc (Nat.le_refl _) _).alloc (by simp) _
  have hp0 : W.heap[w.heap.size]? = some (.cells #[.slice sa l.length sc, .int .i64 x, .int .i64 y, .int .i64 z, .slice ca l'.length cc, .slice da d.length dc, .int .i64 st] 40 (0, 0)) := by
    rw [hW, Below.heap_alloc _ _ _ (by simp)]; exact heap_alloc_new w _
  have hp1 : W.heap[w.heap.size + 1]? = some (.cells #[.slice sa' l.length sc', .int .i64 x, .int .i64 y, .int .i64 z, .slice ca' l'.length cc', .slice da' d.length dc', .int .i64 st] 40 (0, 0)) := by
    rw [hW]; have := heap_alloc_new (w.alloc (.cells #[.slice sa l.length sc, .int .i64 x, .int .i64 y, .int .i64 z, .slice ca l'.length cc, .slice da d.length dc, .int .i64 st] 40)) (.cells #[.slice sa' l.length sc', .int .i64 x, .int .i64 y, .int .i64 z, .slice ca' l'.length cc', .slice da' d.length dc', .int .i64 st] 40); simpa using this
  have HP0 : Hid (W.heap[w.heap.size]? = some (.cells #[.slice sa l.length sc, .int .i64 x, .int .i64 y, .int .i64 z, .slice ca l'.length cc, .slice da d.length dc, .int .i64 st] 40 (0, 0))) := hp0
  have HP1 : Hid (W.heap[w.heap.size + 1]? = some (.cells #[.slice sa' l.length sc', .int .i64 x, .int .i64 y, .int .i64 z, .slice ca' l'.length cc', .slice da' d.length dc', .int .i64 st] 40 (0, 0))) := hp1
  have HB : Hid (Below w.heap.size w W) := hb
  have HM : Hid (Calls Tryz.prog 75 #[manV ⟨l, x, y, z, l'⟩ sa sc ca cc, manV ⟨l, x, y, z, l'⟩ sa' sc' ca' cc'] W fun e w' => e = .returned (.bool true) ∧ Below W.heap.size W w') := eqMan_same ⟨l, x, y, z, l'⟩ (by simp only; omega) (by simp only; omega) W (i1.kept hb) (i2.kept hb) (j1.kept hb) (j2.kept hb)
  have HD : Hid (∀ W1, Below W.heap.size W W1 → Calls Tryz.prog 76 #[.slice da d.length dc, .slice da' d.length dc'] W1 fun e w' => e = .returned (.bool true) ∧ Below W1.heap.size W1 w') := fun W1 h => eqSpotS_same d (by omega) W1 ((i3.kept hb).kept h) ((j3.kept hb).kept h)
  unfold manV at HM
  clear hA hB i1 i2 i3 j1 j2 j3 hb
  obtain ⟨⟨c0, c1, c2, c3, c4, c5, c6⟩, _⟩ := seven_cells hp0
  obtain ⟨⟨d0, d1, d2, d3, d4, d5, d6⟩, _⟩ := seven_cells hp1
  clear hp0 hp1
  rw [hW] at c0 c1 c2 c3 c4 c5 c6 d0 d1 d2 d3 d4 d5 d6
  go_enter Tryz.func19, Tryz.ntmps19
  go_wp2_with fail
  rw [← hW]
  clear hW c0 c1 c2 c3 c4 c5 c6 d0 d1 d2 d3 d4 d5 d6
  refine Calls.mono HM.out ?_
  rintro e w1 ⟨rfl, hb1⟩
  have q0 := (hb1.block _ (Array.getElem?_eq_some_iff.1 HP0.out).1).trans HP0.out
  have q1 := (hb1.block _ (Array.getElem?_eq_some_iff.1 HP1.out).1).trans HP1.out
  obtain ⟨⟨c0, c1, c2, c3, c4, c5, c6⟩, _⟩ := seven_cells q0
  obtain ⟨⟨d0, d1, d2, d3, d4, d5, d6⟩, _⟩ := seven_cells q1
  have HQ0 : Hid _ := q0
  have HQ1 : Hid _ := q1
  have HB1 : Hid (Below W.heap.size W w1) := hb1
  clear q0 q1 hb1 HP0 HP1 HM
  go_wp2_with fail
  refine Calls.mono (HD.out _ HB1.out) ?_
  rintro e w2 ⟨rfl, hb2⟩
  have q0 := (hb2.block _ (Array.getElem?_eq_some_iff.1 HQ0.out).1).trans HQ0.out
  have q1 := (hb2.block _ (Array.getElem?_eq_some_iff.1 HQ1.out).1).trans HQ1.out
  clear c0 c1 c2 c3 c4 c5 c6 d0 d1 d2 d3 d4 d5 d6 HQ0 HQ1
  obtain ⟨⟨c0, c1, c2, c3, c4, c5, c6⟩, _⟩ := seven_cells q0
  obtain ⟨⟨d0, d1, d2, d3, d4, d5, d6⟩, _⟩ := seven_cells q1
  have HB2 : Hid (Below w.heap.size w w2) := HB.out.trans ((HB1.out.trans (hb2.mono HB1.out.size)).mono HB.out.size)
  clear q0 q1 hb2
  go_wp2
  go_ret
  exact ⟨rfl, HB2.out⟩
structure TS (w : World) (P cs : Array Value) (W : World) : Prop where
  box : W.heap[w.heap.size]? = some (.cells P 30 (0, 0))
  res : W.heap[w.heap.size + 1]? = some (.cells #[.slice none 0 0, .int .i64 0, .int .i64 0, .int .i64 0, .slice none 0 0, .slice none 0 0, .int .i64 0] 40 (0, 0))
  out : W.heap[w.heap.size + 1 + 1]? = some (.cells cs 40 (0, 0))
  bel : Below w.heap.size w W
theorem TS.same {w W W' : World} {P cs : Array Value} (h : TS w P cs W) (hb : Below W.heap.size W W') : TS w P cs W' :=
  ⟨(hb.block _ (Array.getElem?_eq_some_iff.1 h.box).1).trans h.box, (hb.block _ (Array.getElem?_eq_some_iff.1 h.res).1).trans h.res, (hb.block _ (Array.getElem?_eq_some_iff.1 h.out).1).trans h.out, h.bel.trans (hb.mono h.bel.size)⟩
theorem TS.set {w W : World} {P cs : Array Value} (h : TS w P cs W) (j : Nat) (v : Value) : TS w P (cs.setIfInBounds j v) (W.setCell ⟨w.heap.size + 1 + 1, j, none⟩ v) :=
  ⟨set_far h.box (by omega) _ _, set_far h.res (by omega) _ _, heap_setCell_same W _ j cs 40 v h.out, h.bel.setCell (by show w.heap.size ≤ w.heap.size + 1 + 1; omega) _⟩
theorem frozen7 {W : World} {b : Nat} {t : TypeId} {cs : Array Value} (h : W.heap[b]? = some (.cells cs t (0, 0))) : W.frozen? ⟨b, 0, none⟩ = false ∧ W.frozen? ⟨b, 1, none⟩ = false ∧ W.frozen? ⟨b, 2, none⟩ = false ∧ W.frozen? ⟨b, 3, none⟩ = false ∧ W.frozen? ⟨b, 4, none⟩ = false ∧ W.frozen? ⟨b, 5, none⟩ = false ∧ W.frozen? ⟨b, 6, none⟩ = false :=
  ⟨frozen_of_row _ _ 0 _ _ h, frozen_of_row _ _ 1 _ _ h, frozen_of_row _ _ 2 _ _ h, frozen_of_row _ _ 3 _ _ h, frozen_of_row _ _ 4 _ _ h, frozen_of_row _ _ 5 _ _ h, frozen_of_row _ _ 6 _ _ h⟩
set_option maxHeartbeats 8000000 in
set_option maxRecDepth 100000 in
theorem toShelf_any {sa ca da : Option Addr} {sg so sc cg co cc dg dof dc : Nat} (s : ShelfL) (h1 : s.man.segs.length ≤ 1048576) (h2 : s.man.conf.length ≤ 1048576) (h3 : s.dir.length ≤ 1048576) (w : World) (hA : IntAt w sa sg so s.man.segs) (hB : IntAt w ca cg co s.man.conf) (hD : SpotAt w da dg dof s.dir) :
    Calls Tryz.prog 16 #[.agg #[.slice sa s.man.segs.length sc, .int .i64 s.man.next, .int .i64 s.man.base, .int .i64 s.man.term, .slice ca s.man.conf.length cc, .slice da s.dir.length dc, .int .i64 s.stamp]] w fun e w' => ∃ g1 g2 g3 : Nat, e = .returned (.agg #[.slice (some ⟨g1, 0, none⟩) s.man.segs.length s.man.segs.length, .int .i64 s.man.next, .int .i64 s.man.base, .int .i64 s.man.term, .slice (some ⟨g2, 0, none⟩) s.man.conf.length s.man.conf.length, .slice (some ⟨g3, 0, none⟩) s.dir.length s.dir.length, .int .i64 s.stamp]) ∧ ShOwn w.heap.size s (.slice (some ⟨g1, 0, none⟩) s.man.segs.length s.man.segs.length) (.slice (some ⟨g2, 0, none⟩) s.man.conf.length s.man.conf.length) (.slice (some ⟨g3, 0, none⟩) s.dir.length s.dir.length) w' ∧ Apart (.slice (some ⟨g1, 0, none⟩) s.man.segs.length s.man.segs.length) (.slice (some ⟨g2, 0, none⟩) s.man.conf.length s.man.conf.length) ∧ Below w.heap.size w w' := by
  obtain ⟨W, hW⟩ : ∃ W, W = ((w.alloc (.cells #[.slice sa s.man.segs.length sc, .int .i64 s.man.next, .int .i64 s.man.base, .int .i64 s.man.term, .slice ca s.man.conf.length cc, .slice da s.dir.length dc, .int .i64 s.stamp] 30)).alloc (.cells #[.slice none 0 0, .int .i64 0, .int .i64 0, .int .i64 0, .slice none 0 0, .slice none 0 0, .int .i64 0] 40)).alloc (.cells #[.slice none 0 0, .int .i64 0, .int .i64 0, .int .i64 0, .slice none 0 0, .slice none 0 0, .int .i64 0] 40) := ⟨_, rfl⟩
  have hb : Below w.heap.size w W := by rw [hW]; exact (((Below.refl _ _).alloc (Nat.le_refl _) _).alloc (by simp) _).alloc (by simp; omega) _
  have T0 : TS w #[.slice sa s.man.segs.length sc, .int .i64 s.man.next, .int .i64 s.man.base, .int .i64 s.man.term, .slice ca s.man.conf.length cc, .slice da s.dir.length dc, .int .i64 s.stamp] #[.slice none 0 0, .int .i64 0, .int .i64 0, .int .i64 0, .slice none 0 0, .slice none 0 0, .int .i64 0] W := ⟨by rw [hW, Below.heap_alloc _ _ _ (by simp; omega), Below.heap_alloc _ _ _ (by simp)]; exact heap_alloc_new w _, by rw [hW, Below.heap_alloc _ _ _ (by simp)]; have := heap_alloc_new (w.alloc (.cells #[.slice sa s.man.segs.length sc, .int .i64 s.man.next, .int .i64 s.man.base, .int .i64 s.man.term, .slice ca s.man.conf.length cc, .slice da s.dir.length dc, .int .i64 s.stamp] 30)) (.cells #[.slice none 0 0, .int .i64 0, .int .i64 0, .int .i64 0, .slice none 0 0, .slice none 0 0, .int .i64 0] 40); simpa using this, by rw [hW]; have := heap_alloc_new ((w.alloc (.cells #[.slice sa s.man.segs.length sc, .int .i64 s.man.next, .int .i64 s.man.base, .int .i64 s.man.term, .slice ca s.man.conf.length cc, .slice da s.dir.length dc, .int .i64 s.stamp] 30)).alloc (.cells #[.slice none 0 0, .int .i64 0, .int .i64 0, .int .i64 0, .slice none 0 0, .slice none 0 0, .int .i64 0] 40)) (.cells #[.slice none 0 0, .int .i64 0, .int .i64 0, .int .i64 0, .slice none 0 0, .slice none 0 0, .int .i64 0] 40); simpa using this, hb⟩
  have HT0 : Hid (TS w #[.slice sa s.man.segs.length sc, .int .i64 s.man.next, .int .i64 s.man.base, .int .i64 s.man.term, .slice ca s.man.conf.length cc, .slice da s.dir.length dc, .int .i64 s.stamp] #[.slice none 0 0, .int .i64 0, .int .i64 0, .int .i64 0, .slice none 0 0, .slice none 0 0, .int .i64 0] W) := T0
  have HM : Hid (Calls Tryz.prog 67 #[.agg #[.slice sa s.man.segs.length sc, .int .i64 s.man.next, .int .i64 s.man.base, .int .i64 s.man.term, .slice ca s.man.conf.length cc]] W fun e w' => ∃ g1 g2 : Nat, e = .returned (.agg #[.slice (some ⟨g1, 0, none⟩) s.man.segs.length s.man.segs.length, .int .i64 s.man.next, .int .i64 s.man.base, .int .i64 s.man.term, .slice (some ⟨g2, 0, none⟩) s.man.conf.length s.man.conf.length]) ∧ w'.ownsRow W.heap.size 3 1 (.slice (some ⟨g1, 0, none⟩) s.man.segs.length s.man.segs.length) s.man.segs.length (cellsI s.man.segs) ∧ w'.ownsRow W.heap.size 3 1 (.slice (some ⟨g2, 0, none⟩) s.man.conf.length s.man.conf.length) s.man.conf.length (cellsI s.man.conf) ∧ g1 ≠ g2 ∧ Below W.heap.size W w') := by
    have := toMan_own (ca := sc) (cb := cc) s.man h1 h2 W (hA.kept hb) (hB.kept hb)
    unfold manV at this
    exact this
  have HS : Hid (∀ W', Below w.heap.size w W' → Calls Tryz.prog 68 #[.slice da s.dir.length dc] W' fun e w' => e = .returned (.slice (some ⟨W'.heap.size, 0, none⟩) s.dir.length s.dir.length) ∧ w'.ownsRow W'.heap.size 134 4 (.slice (some ⟨W'.heap.size, 0, none⟩) s.dir.length s.dir.length) s.dir.length (cellsSpot s.dir) ∧ Below W'.heap.size W' w') := fun W' h => toSpotS_is s.dir h3 W' (hD.kept h)
  obtain ⟨⟨c0, c1, c2, c3, c4, c5, c6⟩, _⟩ := seven_cells' T0.box
  rw [hW] at c0 c1 c2 c3 c4 c5 c6
  clear hA hB hD hb T0
  go_enter Tryz.func16, Tryz.ntmps16
  go_wp2_with fail
  rw [← hW]
  clear hW c0 c1 c2 c3 c4 c5 c6
  refine Calls.mono HM.out ?_
  rintro e w1 ⟨g1, g2, rfl, o1, o2, hne, hb1⟩
  have T1 := HT0.out.same hb1
  have q1 := own_mono o1 HT0.out.bel.size
  have q2 := own_mono o2 HT0.out.bel.size
  obtain ⟨X, hX⟩ : ∃ X, X = ((((w1.setCell ⟨w.heap.size + 1 + 1, 0, none⟩ (.slice (some ⟨g1, 0, none⟩) s.man.segs.length s.man.segs.length)).setCell ⟨w.heap.size + 1 + 1, 1, none⟩ (.int .i64 s.man.next)).setCell ⟨w.heap.size + 1 + 1, 2, none⟩ (.int .i64 s.man.base)).setCell ⟨w.heap.size + 1 + 1, 3, none⟩ (.int .i64 s.man.term)).setCell ⟨w.heap.size + 1 + 1, 4, none⟩ (.slice (some ⟨g2, 0, none⟩) s.man.conf.length s.man.conf.length) := ⟨_, rfl⟩
  have TX : TS w #[.slice sa s.man.segs.length sc, .int .i64 s.man.next, .int .i64 s.man.base, .int .i64 s.man.term, .slice ca s.man.conf.length cc, .slice da s.dir.length dc, .int .i64 s.stamp] #[.slice (some ⟨g1, 0, none⟩) s.man.segs.length s.man.segs.length, .int .i64 s.man.next, .int .i64 s.man.base, .int .i64 s.man.term, .slice (some ⟨g2, 0, none⟩) s.man.conf.length s.man.conf.length, .slice none 0 0, .int .i64 0] X := by rw [hX]; simpa using ((((T1.set 0 (.slice (some ⟨g1, 0, none⟩) s.man.segs.length s.man.segs.length)).set 1 (.int .i64 s.man.next)).set 2 (.int .i64 s.man.base)).set 3 (.int .i64 s.man.term)).set 4 (.slice (some ⟨g2, 0, none⟩) s.man.conf.length s.man.conf.length)
  have X1 : X.ownsRow w.heap.size 3 1 (.slice (some ⟨g1, 0, none⟩) s.man.segs.length s.man.segs.length) s.man.segs.length (cellsI s.man.segs) := by
    have n := own_not q1 T1.out (by decide)
    rw [hX]; exact own_set (own_set (own_set (own_set (own_set q1 _ _ _ n) _ _ _ n) _ _ _ n) _ _ _ n) _ _ _ n
  have X2 : X.ownsRow w.heap.size 3 1 (.slice (some ⟨g2, 0, none⟩) s.man.conf.length s.man.conf.length) s.man.conf.length (cellsI s.man.conf) := by
    have n := own_not q2 T1.out (by decide)
    rw [hX]; exact own_set (own_set (own_set (own_set (own_set q2 _ _ _ n) _ _ _ n) _ _ _ n) _ _ _ n) _ _ _ n
  have HTX : Hid (TS w #[.slice sa s.man.segs.length sc, .int .i64 s.man.next, .int .i64 s.man.base, .int .i64 s.man.term, .slice ca s.man.conf.length cc, .slice da s.dir.length dc, .int .i64 s.stamp] #[.slice (some ⟨g1, 0, none⟩) s.man.segs.length s.man.segs.length, .int .i64 s.man.next, .int .i64 s.man.base, .int .i64 s.man.term, .slice (some ⟨g2, 0, none⟩) s.man.conf.length s.man.conf.length, .slice none 0 0, .int .i64 0] X) := TX
  have HX1 : Hid (X.ownsRow w.heap.size 3 1 (.slice (some ⟨g1, 0, none⟩) s.man.segs.length s.man.segs.length) s.man.segs.length (cellsI s.man.segs)) := X1
  have HX2 : Hid (X.ownsRow w.heap.size 3 1 (.slice (some ⟨g2, 0, none⟩) s.man.conf.length s.man.conf.length) s.man.conf.length (cellsI s.man.conf)) := X2
  have HNE : Hid (g1 ≠ g2) := hne
  obtain ⟨⟨d0, d1, d2, d3, d4, d5, d6⟩, _⟩ := seven_cells' T1.out
  obtain ⟨f0, f1, f2, f3, f4, f5, f6⟩ := frozen7 T1.out
  have e5 := cell_of_row _ _ 5 _ _ _ TX.box
  simp at e5
  rw [hX] at e5
  clear o1 o2 hne hb1 T1 q1 q2 TX X1 X2 HM HT0
  go_wp2_with fail
  rw [← hX]
  clear hX d0 d1 d2 d3 d4 d5 d6 f0 f1 f2 f3 f4 f5 f6 e5
  refine Calls.mono (HS.out _ HTX.out.bel) ?_
  rintro e w2 ⟨rfl, o3, hb2⟩
  obtain ⟨g3, hg3⟩ : ∃ g3, g3 = X.heap.size := ⟨_, rfl⟩
  rw [← hg3] at o3 ⊢
  have T2 := HTX.out.same hb2
  have Y1 := own_kept HX1.out hb2
  have Y2 := own_kept HX2.out hb2
  have Y3 : w2.ownsRow w.heap.size 134 4 (.slice (some ⟨g3, 0, none⟩) s.dir.length s.dir.length) s.dir.length (cellsSpot s.dir) := own_mono o3 (by rw [hg3]; exact HTX.out.bel.size)
  obtain ⟨Y, hY⟩ : ∃ Y, Y = (w2.setCell ⟨w.heap.size + 1 + 1, 5, none⟩ (.slice (some ⟨g3, 0, none⟩) s.dir.length s.dir.length)).setCell ⟨w.heap.size + 1 + 1, 6, none⟩ (.int .i64 s.stamp) := ⟨_, rfl⟩
  have TY : TS w #[.slice sa s.man.segs.length sc, .int .i64 s.man.next, .int .i64 s.man.base, .int .i64 s.man.term, .slice ca s.man.conf.length cc, .slice da s.dir.length dc, .int .i64 s.stamp] #[.slice (some ⟨g1, 0, none⟩) s.man.segs.length s.man.segs.length, .int .i64 s.man.next, .int .i64 s.man.base, .int .i64 s.man.term, .slice (some ⟨g2, 0, none⟩) s.man.conf.length s.man.conf.length, .slice (some ⟨g3, 0, none⟩) s.dir.length s.dir.length, .int .i64 s.stamp] Y := by rw [hY]; simpa using (T2.set 5 (.slice (some ⟨g3, 0, none⟩) s.dir.length s.dir.length)).set 6 (.int .i64 s.stamp)
  have Z1 : Y.ownsRow w.heap.size 3 1 (.slice (some ⟨g1, 0, none⟩) s.man.segs.length s.man.segs.length) s.man.segs.length (cellsI s.man.segs) := by
    have n := own_not Y1 T2.out (by decide)
    rw [hY]; exact own_set (own_set Y1 _ _ _ n) _ _ _ n
  have Z2 : Y.ownsRow w.heap.size 3 1 (.slice (some ⟨g2, 0, none⟩) s.man.conf.length s.man.conf.length) s.man.conf.length (cellsI s.man.conf) := by
    have n := own_not Y2 T2.out (by decide)
    rw [hY]; exact own_set (own_set Y2 _ _ _ n) _ _ _ n
  have Z3 : Y.ownsRow w.heap.size 134 4 (.slice (some ⟨g3, 0, none⟩) s.dir.length s.dir.length) s.dir.length (cellsSpot s.dir) := by
    have n := own_not Y3 T2.out (by decide)
    rw [hY]; exact own_set (own_set Y3 _ _ _ n) _ _ _ n
  have HY7 := res7 TY.res (.slice (some ⟨g1, 0, none⟩) s.man.segs.length s.man.segs.length) (.int .i64 s.man.next) (.int .i64 s.man.base) (.int .i64 s.man.term) (.slice (some ⟨g2, 0, none⟩) s.man.conf.length s.man.conf.length) (.slice (some ⟨g3, 0, none⟩) s.dir.length s.dir.length) (.int .i64 s.stamp)
  have HSH : Hid (ShOwn w.heap.size s (.slice (some ⟨g1, 0, none⟩) s.man.segs.length s.man.segs.length) (.slice (some ⟨g2, 0, none⟩) s.man.conf.length s.man.conf.length) (.slice (some ⟨g3, 0, none⟩) s.dir.length s.dir.length) (set7 Y (w.heap.size + 1) (.slice (some ⟨g1, 0, none⟩) s.man.segs.length s.man.segs.length) (.int .i64 s.man.next) (.int .i64 s.man.base) (.int .i64 s.man.term) (.slice (some ⟨g2, 0, none⟩) s.man.conf.length s.man.conf.length) (.slice (some ⟨g3, 0, none⟩) s.dir.length s.dir.length) (.int .i64 s.stamp))) := set7_sh ⟨Z1, Z2, Z3⟩ TY.res (by decide) (by decide) _ _ _ _ _ _ _
  have HAP : Hid (Apart (.slice (some ⟨g1, 0, none⟩) s.man.segs.length s.man.segs.length) (.slice (some ⟨g2, 0, none⟩) s.man.conf.length s.man.conf.length)) := fun k e1 e2 => HNE.out (by simp [Value.ownBlock] at e1 e2; omega)
  have HBL : Hid (Below w.heap.size w (set7 Y (w.heap.size + 1) (.slice (some ⟨g1, 0, none⟩) s.man.segs.length s.man.segs.length) (.int .i64 s.man.next) (.int .i64 s.man.base) (.int .i64 s.man.term) (.slice (some ⟨g2, 0, none⟩) s.man.conf.length s.man.conf.length) (.slice (some ⟨g3, 0, none⟩) s.dir.length s.dir.length) (.int .i64 s.stamp))) := set7_below TY.bel (by omega) _ _ _ _ _ _ _
  obtain ⟨⟨d0, d1, d2, d3, d4, d5, d6⟩, _⟩ := seven_cells' T2.out
  obtain ⟨f0, f1, f2, f3, f4, f5, f6⟩ := frozen7 T2.out
  have T3 := T2.set 5 (.slice (some ⟨g3, 0, none⟩) s.dir.length s.dir.length)
  have x6 := cell_of_row _ _ 6 _ _ _ T3.out
  have k6 := cell_of_row _ _ 6 _ _ _ T3.box
  simp at x6 k6
  have x6f := frozen_of_row _ _ 6 _ _ T3.out
  obtain ⟨⟨a0, a1, a2, a3, a4, a5, a6⟩, _⟩ := seven_cells' TY.out
  obtain ⟨⟨z0, z1, z2, z3, z4, z5, z6⟩, _⟩ := seven_cells' TY.res
  obtain ⟨y0, y1, y2, y3, y4, y5, y6⟩ := frozen7 TY.res
  rw [hY] at a0 a1 a2 a3 a4 a5 a6 z0 z1 z2 z3 z4 z5 z6 y0 y1 y2 y3 y4 y5 y6
  clear o3 hb2 T2 T3 Y1 Y2 Y3 TY Z1 Z2 Z3 HTX HX1 HX2 hg3 HS
  go_wp2
  rw [← hY]
  obtain ⟨u0, u1, u2, u3, u4, u5, u6⟩ := HY7
  unfold set7 at u0 u1 u2 u3 u4 u5 u6
  exact bodyPost_ret (v := .agg #[.slice (some ⟨g1, 0, none⟩) s.man.segs.length s.man.segs.length, .int .i64 s.man.next, .int .i64 s.man.base, .int .i64 s.man.term, .slice (some ⟨g2, 0, none⟩) s.man.conf.length s.man.conf.length, .slice (some ⟨g3, 0, none⟩) s.dir.length s.dir.length, .int .i64 s.stamp]) (by simp [results, Tryz.results16, go_sem, u0, u1, u2, u3, u4, u5, u6]) rfl ⟨g1, g2, g3, rfl, HSH.out, HAP.out, HBL.out⟩
end Go.Proofs.YtbcfiiilikkkeaaGreatDoor
