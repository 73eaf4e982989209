/- The exact law of ManifestOk, walked. Made by program. -/
import Derived.Test.YtcmjidcdkooliaaMans
import Derived.Deep.RegionHeld3
namespace Go.Proofs.Ytcmjidcdkooliaa
open Go.RowKit
set_option linter.unusedVariables false

theorem toMan_call {a b : Option Addr} {ga oa ca gb ob cb : Nat} {l l' : List Int} {x y z : Int} (h1 : l.length ≤ 1048576) (h2 : l'.length ≤ 1048576) (w : World) (hA : IntAt w a ga oa l) (hB : IntAt w b gb ob l') :
    Calls Try.prog 20 #[.agg #[.slice a l.length ca, .int .i64 x, .int .i64 y, .int .i64 z, .slice b l'.length cb]] w fun e w' => ∃ g1 g2 : Nat, e = .returned (.agg #[.slice (some ⟨g1, 0, none⟩) l.length l.length, .int .i64 x, .int .i64 y, .int .i64 z, .slice (some ⟨g2, 0, none⟩) l'.length l'.length]) ∧
      IntAt w' (some ⟨g1, 0, none⟩) g1 0 l ∧ IntAt w' (some ⟨g2, 0, none⟩) g2 0 l' ∧ Below w.heap.size w w' :=
  toMan_is ⟨l, x, y, z, l'⟩ h1 h2 w hA hB
theorem eqMan_call {a b a' b' : Option Addr} {ga oa ca gb ob cb ga' oa' ca' gb' ob' cb' : Nat} {l l' : List Int} {x y z : Int} (h1 : l.length ≤ 1048576) (h2 : l'.length ≤ 1048576) (w : World) (hA : IntAt w a ga oa l) (hB : IntAt w b gb ob l') (hA' : IntAt w a' ga' oa' l) (hB' : IntAt w b' gb' ob' l') :
    Calls Try.prog 22 #[.agg #[.slice a l.length ca, .int .i64 x, .int .i64 y, .int .i64 z, .slice b l'.length cb], .agg #[.slice a' l.length ca', .int .i64 x, .int .i64 y, .int .i64 z, .slice b' l'.length cb']] w fun e w' => e = .returned (.bool true) ∧ Below w.heap.size w w' :=
  eqMan_same ⟨l, x, y, z, l'⟩ h1 h2 w hA hB hA' hB'
set_option maxHeartbeats 4000000 in
set_option maxRecDepth 100000 in
theorem lawManOk_any {a b : Option Addr} {ga oa ca gb ob cb : Nat} (m : ManL) (h1 : m.segs.length ≤ maxLen) (h2 : m.conf.length ≤ maxLen) (w : World) (hA : IntAt w a ga oa m.segs) (hB : IntAt w b gb ob m.conf) :
    Calls Try.prog 5 #[manV m a ca b cb] w fun e w' => e = .returned (.bool true) ∧ Below w.heap.size w w' := by
  have hsz := szMan_is (a := a) (b := b) (ca := ca) (cb := cb) m h1 h2 1048576 (Nat.le_refl _)
  obtain ⟨l, x, y, z, l'⟩ := m
  unfold manV at hsz ⊢
  simp only at h1 h2 hA hB hsz ⊢
  have HSZ : Hid (∀ w : World, _) := hsz
  have HA : Hid (IntAt w a ga oa l) := hA
  have HB : Hid (IntAt w b gb ob l') := hB
  obtain ⟨W, hW⟩ : ∃ W, W = w.alloc (.cells #[.slice a l.length ca, .int .i64 x, .int .i64 y, .int .i64 z, .slice b l'.length cb] 38) := ⟨_, rfl⟩
  have hWb : Below w.heap.size w W := by rw [hW]; exact (Below.refl _ _).alloc (Nat.le_refl _) _
  have hp : W.heap[w.heap.size]? = some (.cells #[.slice a l.length ca, .int .i64 x, .int .i64 y, .int .i64 z, .slice b l'.length cb] 38 (0, 0)) := by rw [hW]; exact heap_alloc_new w _
  have hWz : w.heap.size < W.heap.size := (Array.getElem?_eq_some_iff.1 hp).1
  have HC : Hid (∀ w', Below W.heap.size W w' → w'.heap[w.heap.size]? = some (.cells #[.slice a l.length ca, .int .i64 x, .int .i64 y, .int .i64 z, .slice b l'.length cb] 38 (0, 0))) := fun w' h => (h.block _ hWz).trans hp
  clear hA hB h1 h2 hsz hp
  go_enter Try.func5, Try.ntmps5
  go_wp2_with fail
  rw [← hW]
  clear hW
  refine (HSZ.out W).mono ?_
  rintro e w1 ⟨x1, rfl, hx, hb1⟩
  have HB1 : Hid (Below w.heap.size w w1) := hWb.trans (hb1.mono hWb.size)
  have HC1 : Hid (Below W.heap.size W w1) := hb1
  clear hWb hb1 hWz
  rcases hx with ⟨hx1, hx2⟩ | ⟨hx1, hx2⟩
  · obtain ⟨Y, hY⟩ : ∃ Y : Nat, Y = 1048576 - (l.length + l'.length) := ⟨_, rfl⟩
    rw [← hY] at hx2
    subst hx2
    clear hY
    have hl1 : l.length ≤ 1048576 := by omega
    have hl2 : l'.length ≤ 1048576 := by omega
    clear hx1
    obtain ⟨R, hR⟩ : ∃ R : Bool, R = true ↔ Mans.ok ⟨l, x, y, z, l'⟩ := by
      by_cases h : Mans.ok ⟨l, x, y, z, l'⟩
      · exact ⟨true, by simp [h]⟩
      · exact ⟨false, by simp [h]⟩
    have HR : Hid (R = true ↔ Mans.ok ⟨l, x, y, z, l'⟩) := hR
    clear hR
    have hc := HC.out w1 HC1.out
    have c0 := cell_of_row _ _ 0 _ _ _ hc
    have c1 := cell_of_row _ _ 1 _ _ _ hc
    have c2 := cell_of_row _ _ 2 _ _ _ hc
    have c3 := cell_of_row _ _ 3 _ _ _ hc
    have c4 := cell_of_row _ _ 4 _ _ _ hc
    simp at c0 c1 c2 c3 c4
    clear hc
    go_wp2_with fail
    have ht1 := toMan_is (ca := ca) (cb := cb) ⟨l, x, y, z, l'⟩ hl1 hl2 w1 (HA.out.kept HB1.out) (HB.out.kept HB1.out)
    unfold manV at ht1
    refine ht1.mono ?_
    rintro e w2 ⟨g1, g2, rfl, ha2, hb2, hbel2⟩
    simp only at ha2 hb2
    have HA2 : Hid (IntAt w2 (some ⟨g1, 0, none⟩) g1 0 l) := ha2
    have HBB2 : Hid (IntAt w2 (some ⟨g2, 0, none⟩) g2 0 l') := hb2
    have HB2 : Hid (Below w.heap.size w w2) := HB1.out.trans (hbel2.mono HB1.out.size)
    have HC2 : Hid (Below W.heap.size W w2) := HC1.out.trans (hbel2.mono HC1.out.size)
    clear ht1 ha2 hb2 hbel2 HB1 HC1
    clear c0 c1 c2 c3 c4
    go_wp2_with fail
    have hq2 := specMan_is (ca := l.length) (cb := l'.length) l l' x y z hl1 hl2 R HR.out w2 HA2.out HBB2.out
    unfold manV at hq2
    refine hq2.mono ?_
    rintro e w3 ⟨rfl, hb3⟩
    clear hq2
    have HB3 : Hid (Below w.heap.size w w3) := HB2.out.trans (hb3.mono HB2.out.size)
    have HC3 : Hid (Below W.heap.size W w3) := HC2.out.trans (hb3.mono HC2.out.size)
    clear hb3 HB2 HC2 HA2 HBB2
    have hc := HC.out w3 HC3.out
    have c0 := cell_of_row _ _ 0 _ _ _ hc
    have c1 := cell_of_row _ _ 1 _ _ _ hc
    have c2 := cell_of_row _ _ 2 _ _ _ hc
    have c3 := cell_of_row _ _ 3 _ _ _ hc
    have c4 := cell_of_row _ _ 4 _ _ _ hc
    simp at c0 c1 c2 c3 c4
    clear hc
    go_wp2_with fail
    have ht3 := toMan_is (ca := ca) (cb := cb) ⟨l, x, y, z, l'⟩ hl1 hl2 w3 (HA.out.kept HB3.out) (HB.out.kept HB3.out)
    unfold manV at ht3
    refine ht3.mono ?_
    rintro e w4 ⟨g3, g4, rfl, ha4, hb4, hbel4⟩
    simp only at ha4 hb4
    have HA4 : Hid (IntAt w4 (some ⟨g3, 0, none⟩) g3 0 l) := ha4
    have HBB4 : Hid (IntAt w4 (some ⟨g4, 0, none⟩) g4 0 l') := hb4
    have HB4 : Hid (Below w.heap.size w w4) := HB3.out.trans (hbel4.mono HB3.out.size)
    have HC4 : Hid (Below W.heap.size W w4) := HC3.out.trans (hbel4.mono HC3.out.size)
    clear ht3 ha4 hb4 hbel4 HB3 HC3
    clear c0 c1 c2 c3 c4
    go_wp2_with fail
    obtain ⟨W5, hW5⟩ : ∃ W5, W5 = w4.alloc (.cells #[.slice (some ⟨g3, 0, none⟩) l.length l.length, .int .i64 x, .int .i64 y, .int .i64 z, .slice (some ⟨g4, 0, none⟩) l'.length l'.length] 26) := ⟨_, rfl⟩
    rw [← hW5]
    have hb5 : Below w4.heap.size w4 W5 := by rw [hW5]; exact (Below.refl _ _).alloc (Nat.le_refl _) _
    have hp5 : W5.heap[w4.heap.size]? = some (.cells #[.slice (some ⟨g3, 0, none⟩) l.length l.length, .int .i64 x, .int .i64 y, .int .i64 z, .slice (some ⟨g4, 0, none⟩) l'.length l'.length] 26 (0, 0)) := by rw [hW5]; exact heap_alloc_new w4 _
    have hlt5 : w4.heap.size < W5.heap.size := (Array.getElem?_eq_some_iff.1 hp5).1
    obtain ⟨xb, hxb⟩ : ∃ xb, xb = w4.heap.size := ⟨_, rfl⟩
    have HB5 : Hid (Below w.heap.size w W5) := HB4.out.trans (hb5.mono HB4.out.size)
    have HC5 : Hid (Below W.heap.size W W5) := HC4.out.trans (hb5.mono HC4.out.size)
    have HA5 : Hid (IntAt W5 (some ⟨g3, 0, none⟩) g3 0 l) := HA4.out.kept hb5
    have HBB5 : Hid (IntAt W5 (some ⟨g4, 0, none⟩) g4 0 l') := HBB4.out.kept hb5
    rw [← hxb] at hp5 hlt5 ⊢
    have HP5 : Hid (_ = _) := hp5
    clear hW5 hb5 hp5 HB4 HC4 HA4 HBB4 hxb
    have hq5 := implMan_is (ca := l.length) (cb := l'.length) l l' x y z hl1 hl2 R HR.out W5 HA5.out HBB5.out
    unfold manV at hq5
    refine hq5.mono ?_
    rintro e w6 ⟨rfl, hb6⟩
    clear hq5
    have HB6 : Hid (Below w.heap.size w w6) := HB5.out.trans (hb6.mono HB5.out.size)
    have HC6 : Hid (Below W.heap.size W w6) := HC5.out.trans (hb6.mono HC5.out.size)
    have HA6 : Hid (IntAt w6 (some ⟨g3, 0, none⟩) g3 0 l) := HA5.out.kept hb6
    have HBB6 : Hid (IntAt w6 (some ⟨g4, 0, none⟩) g4 0 l') := HBB5.out.kept hb6
    have hp6 := (hb6.block _ hlt5).trans HP5.out
    have hlt6 : xb < w6.heap.size := (Array.getElem?_eq_some_iff.1 hp6).1
    have HP6 : Hid (_ = _) := hp6
    have hc6 := HC.out w6 HC6.out
    have d0 := cell_of_row _ _ 0 _ _ _ hp6
    have d1 := cell_of_row _ _ 1 _ _ _ hp6
    have d2 := cell_of_row _ _ 2 _ _ _ hp6
    have d3 := cell_of_row _ _ 3 _ _ _ hp6
    have d4 := cell_of_row _ _ 4 _ _ _ hp6
    simp at d0 d1 d2 d3 d4
    have c0 := cell_of_row _ _ 0 _ _ _ hc6
    have c1 := cell_of_row _ _ 1 _ _ _ hc6
    have c2 := cell_of_row _ _ 2 _ _ _ hc6
    have c3 := cell_of_row _ _ 3 _ _ _ hc6
    have c4 := cell_of_row _ _ 4 _ _ _ hc6
    simp at c0 c1 c2 c3 c4
    have HX : Hid (∀ w', Below w6.heap.size w6 w' → (w'.cell? ⟨xb, 0, none⟩ = some (.slice (some ⟨g3, 0, none⟩) l.length l.length) ∧ w'.cell? ⟨xb, 1, none⟩ = some (.int .i64 x) ∧ w'.cell? ⟨xb, 2, none⟩ = some (.int .i64 y) ∧ w'.cell? ⟨xb, 3, none⟩ = some (.int .i64 z) ∧ w'.cell? ⟨xb, 4, none⟩ = some (.slice (some ⟨g4, 0, none⟩) l'.length l'.length)) ∧ (w'.cell? ⟨w.heap.size, 0, none⟩ = some (.slice a l.length ca) ∧ w'.cell? ⟨w.heap.size, 1, none⟩ = some (.int .i64 x) ∧ w'.cell? ⟨w.heap.size, 2, none⟩ = some (.int .i64 y) ∧ w'.cell? ⟨w.heap.size, 3, none⟩ = some (.int .i64 z) ∧ w'.cell? ⟨w.heap.size, 4, none⟩ = some (.slice b l'.length cb))) := fun w' h => by
      have e1 := (h.block _ hlt6).trans HP6.out
      have e2 := HC.out w' (HC6.out.trans (h.mono HC6.out.size))
      exact ⟨⟨by simpa using cell_of_row _ _ 0 _ _ _ e1, by simpa using cell_of_row _ _ 1 _ _ _ e1, by simpa using cell_of_row _ _ 2 _ _ _ e1, by simpa using cell_of_row _ _ 3 _ _ _ e1, by simpa using cell_of_row _ _ 4 _ _ _ e1⟩, ⟨by simpa using cell_of_row _ _ 0 _ _ _ e2, by simpa using cell_of_row _ _ 1 _ _ _ e2, by simpa using cell_of_row _ _ 2 _ _ _ e2, by simpa using cell_of_row _ _ 3 _ _ _ e2, by simpa using cell_of_row _ _ 4 _ _ _ e2⟩⟩
    clear hb6 hp6 hc6 HB5 HC5 HA5 HBB5 HP5 hlt5
    go_wp2_with fail
    go_region_held3 (fun w' => (w'.cell? ⟨xb, 0, none⟩ = some (.slice (some ⟨g3, 0, none⟩) l.length l.length) ∧ w'.cell? ⟨xb, 1, none⟩ = some (.int .i64 x) ∧ w'.cell? ⟨xb, 2, none⟩ = some (.int .i64 y) ∧ w'.cell? ⟨xb, 3, none⟩ = some (.int .i64 z) ∧ w'.cell? ⟨xb, 4, none⟩ = some (.slice (some ⟨g4, 0, none⟩) l'.length l'.length)) ∧ (w'.cell? ⟨w.heap.size, 0, none⟩ = some (.slice a l.length ca) ∧ w'.cell? ⟨w.heap.size, 1, none⟩ = some (.int .i64 x) ∧ w'.cell? ⟨w.heap.size, 2, none⟩ = some (.int .i64 y) ∧ w'.cell? ⟨w.heap.size, 3, none⟩ = some (.int .i64 z) ∧ w'.cell? ⟨w.heap.size, 4, none⟩ = some (.slice b l'.length cb))) (first | go_keep | exact HX.out _ (below_undrew hb7) | exact HX.out _ ((below_undrew hb7).trans (hb8.mono hb7.size)))
      (first | (go_at_call 20; refine (toMan_call hl1 hl2 _ (HA.out.kept HB6.out.drew) (HB.out.kept HB6.out.drew)).mono ?_; rintro e w7 ⟨g5, g6, rfl, ha7, hbb7, hb7⟩) | (go_at_call 22; refine (eqMan_call hl1 hl2 w7 (IntAt.kept (w := w6.drew) HA6.out hb7) (IntAt.kept (w := w6.drew) HBB6.out hb7) ha7 hbb7).mono ?_; rintro e w8 ⟨rfl, hb8⟩))
    all_goals
      go_wp2
      go_ret
      have hB7 : Below w.heap.size w w7 := (HB6.out.drew).trans (hb7.mono HB6.out.size)
      exact ⟨rfl, hB7.trans (hb8.mono hB7.size)⟩
  · subst hx2
    go_wp2
    go_ret
    exact ⟨rfl, HB1.out⟩
end Go.Proofs.Ytcmjidcdkooliaa
