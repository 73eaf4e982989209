/- The exact law of ReadManifest, walked. -/
import Derived.Test.YtcmjidcdkooliaaSpecRM
import Derived.Test.YtcmjidcdkooliaaMarkMan
namespace Go.Proofs.Ytcmjidcdkooliaa
open Go.RowKit
set_option linter.unusedVariables false

/-- What the law holds: w0 and g0, their rows; g0's lie behind all of w0's. -/
structure St7 (w : World) (bw bg bG : Nat) (a1 a2 c1 c2 : Value) (x y z : Int) (l l' L L' : List Int) (W : World) : Prop where
  w0 : W.heap[bw]? = some (.cells #[a1, .int .i64 x, .int .i64 y, .int .i64 z, a2] 26 (0, 0))
  g0 : W.heap[bg]? = some (.cells #[c1, .int .i64 x, .int .i64 y, .int .i64 z, c2] 26 (0, 0))
  oa1 : W.ownsRow w.heap.size 3 1 a1 l.length (cellsI l)
  oa2 : W.ownsRow w.heap.size 3 1 a2 l'.length (cellsI l')
  oc1 : W.ownsRow bG 3 1 c1 l.length (cellsI L)
  oc2 : W.ownsRow bG 3 1 c2 l'.length (cellsI L')
  lo1 : ∀ g, a1.ownBlock = some g → g < bG
  lo2 : ∀ g, a2.ownBlock = some g → g < bG
  bel : Below w.heap.size w W
  up : w.heap.size ≤ bG
section
variable {w W W' W1 : World} {bw bg bG : Nat} {a1 a2 c1 c2 : Value} {x y z : Int} {l l' L L' M M' : List Int}
theorem St7.same (h : St7 w bw bg bG a1 a2 c1 c2 x y z l l' L L' W) (hb : Below W.heap.size W W') : St7 w bw bg bG a1 a2 c1 c2 x y z l l' L L' W' :=
  ⟨(hb.block _ (Array.getElem?_eq_some_iff.1 h.w0).1).trans h.w0, (hb.block _ (Array.getElem?_eq_some_iff.1 h.g0).1).trans h.g0, own_kept h.oa1 hb, own_kept h.oa2 hb, own_kept h.oc1 hb, own_kept h.oc2 hb, h.lo1, h.lo2, h.bel.trans (hb.mono h.bel.size), h.up⟩
theorem low_apart {v c : Value} {n : Nat} {xs : List Value} (hlo : ∀ g, v.ownBlock = some g → g < bG) (ho : W.ownsRow bG 3 1 c n xs) : v.ownBlock = none ∨ v.ownBlock ≠ c.ownBlock := by
  cases e : v.ownBlock with
  | none => exact Or.inl rfl
  | some r => exact Or.inr (fun e2 => by have := hlo r e; have := (ho.lt r e2.symm).1; omega)
theorem St7.mark (h : St7 w bw bg bG a1 a2 c1 c2 x y z l l' L L' W) (h1 : W'.ownsRow bG 3 1 c1 l.length (cellsI M)) (h2 : W'.ownsRow bG 3 1 c2 l'.length (cellsI M')) (g1 : W.grownBy W1 c1.ownBlock) (g2 : W1.grownBy W' c2.ownBlock) (ho : W1.ownsRow bG 3 1 c2 l'.length (cellsI L')) : St7 w bw bg bG a1 a2 c1 c2 x y z l l' M M' W' := by
  have e1 := grown_keep' h.w0 g1 (own_not h.oc1 h.w0 (by decide))
  have e2 := grown_keep' h.g0 g1 (own_not h.oc1 h.g0 (by decide))
  refine ⟨grown_keep' e1 g2 (own_not ho e1 (by decide)), grown_keep' e2 g2 (own_not ho e2 (by decide)), (h.oa1.kept g1 (low_apart h.lo1 h.oc1)).kept g2 (low_apart h.lo1 h.oc2), (h.oa2.kept g1 (low_apart h.lo2 h.oc1)).kept g2 (low_apart h.lo2 h.oc2), h1, h2, h.lo1, h.lo2, ?_, h.up⟩
  have b1 := h.bel.grown g1 h.bel.size (fun k e => by have := (h.oc1.lt k e).1; have := h.up; omega)
  exact b1.grown g2 b1.size (fun k e => by have := (ho.lt k e).1; have := h.up; omega)
end
theorem eqRows {W : World} {b1 b2 b3 b4 : Nat} {a1 a2 c1 c2 : Value} {x y z : Int} {l l' : List Int} (h1 : l.length ≤ 1000) (h2 : l'.length ≤ 1000) (o1 : W.ownsRow b1 3 1 a1 l.length (cellsI l)) (o2 : W.ownsRow b2 3 1 a2 l'.length (cellsI l')) (o3 : W.ownsRow b3 3 1 c1 l.length (cellsI l)) (o4 : W.ownsRow b4 3 1 c2 l'.length (cellsI l')) :
    Calls Try.prog 22 #[.agg #[c1, .int .i64 x, .int .i64 y, .int .i64 z, c2], .agg #[a1, .int .i64 x, .int .i64 y, .int .i64 z, a2]] W fun e w' => e = .returned (.bool true) ∧ Below W.heap.size W w' := by
  obtain ⟨_, _, _, rfl, t1⟩ := cellsI_slice o1
  obtain ⟨_, _, _, rfl, t2⟩ := cellsI_slice o2
  obtain ⟨_, _, _, rfl, t3⟩ := cellsI_slice o3
  obtain ⟨_, _, _, rfl, t4⟩ := cellsI_slice o4
  exact eqMan_same ⟨l, x, y, z, l'⟩ (by show l.length ≤ _; omega) (by show l'.length ≤ _; omega) W t3 t4 t1 t2
set_option maxHeartbeats 4000000 in
set_option maxRecDepth 100000 in
theorem lawRM_any (t : ByteArray) (ht : t.size ≤ maxLen) (w : World) :
    Calls Try.prog 7 #[.string t] w fun e w' => e = .returned (.bool true) ∧ Below w.heap.size w w' := by
  unfold maxLen at ht
  by_cases hbig : 1048576 < t.size
  · have h1 : (1048576 : Int) < (t.size : Int) := by omega
    go_enter Try.func7, Try.ntmps7
    go_wp2
    go_ret
    exact ⟨rfl, Below.refl _ _⟩
  · have h1 : ¬ (1048576 : Int) < (t.size : Int) := by omega
    have hs : t.size ≤ 1048576 := by omega
    obtain ⟨m, R, hA⟩ := ans_ex t
    have hl := ans_len hA
    have HSP := specRM_ans hs hA
    have HIM := implRM_ans hs hA
    obtain ⟨l, x, y, z, l'⟩ := m
    simp only at hl HSP HIM
    have HS : Hid (∀ w : World, _) := HSP
    have HI : Hid (∀ w : World, _) := HIM
    clear HSP HIM hA
    go_enter Try.func7, Try.ntmps7
    go_wp2_with fail
    refine Calls.mono (HS.out _) ?_
    rintro e w1 ⟨a1, a2, rfl, oa1, oa2, hb1⟩
    obtain ⟨ra1, rc1, hv1⟩ := own_slice oa1
    obtain ⟨ra2, rc2, hv2⟩ := own_slice oa2
    subst hv1 hv2
    have HO1 : Hid (w1.ownsRow w.heap.size 3 1 (.slice ra1 l.length rc1) l.length (cellsI l)) := oa1
    have HO2 : Hid (w1.ownsRow w.heap.size 3 1 (.slice ra2 l'.length rc2) l'.length (cellsI l')) := oa2
    have HB1 : Hid (Below w.heap.size w w1) := hb1
    clear oa1 oa2 hb1
    go_wp2_with fail
    obtain ⟨W1, hW1⟩ : ∃ W1, W1 = w1.alloc (.cells #[(.slice ra1 l.length rc1), .int .i64 x, .int .i64 y, .int .i64 z, (.slice ra2 l'.length rc2)] 26) := ⟨_, rfl⟩
    rw [← hW1]
    have hbW : Below w1.heap.size w1 W1 := by rw [hW1]; exact (Below.refl _ _).alloc (Nat.le_refl _) _
    have hw0 : W1.heap[w1.heap.size]? = some (.cells #[(.slice ra1 l.length rc1), .int .i64 x, .int .i64 y, .int .i64 z, (.slice ra2 l'.length rc2)] 26 (0, 0)) := by rw [hW1]; exact heap_alloc_new w1 _
    obtain ⟨bw, hbw⟩ : ∃ bw, bw = w1.heap.size := ⟨_, rfl⟩
    rw [← hbw] at hw0 ⊢
    have HW0 : Hid (_ = _) := hw0
    have HP1 : Hid (W1.ownsRow w.heap.size 3 1 (.slice ra1 l.length rc1) l.length (cellsI l)) := own_kept HO1.out hbW
    have HP2 : Hid (W1.ownsRow w.heap.size 3 1 (.slice ra2 l'.length rc2) l'.length (cellsI l')) := own_kept HO2.out hbW
    have HBW : Hid (Below w.heap.size w W1) := HB1.out.trans (hbW.mono HB1.out.size)
    clear hW1 hbW hw0 hbw HO1 HO2 HB1
    refine Calls.mono (HI.out _) ?_
    rintro e w2 ⟨c1, c2, rfl, oc1, oc2, hap, hb2⟩
    obtain ⟨sa1, sc1, hv1⟩ := own_slice oc1
    obtain ⟨sa2, sc2, hv2⟩ := own_slice oc2
    subst hv1 hv2
    have HAP : Hid (Apart (.slice sa1 l.length sc1) (.slice sa2 l'.length sc2)) := hap
    have HS2 : Hid (St7 w bw w2.heap.size W1.heap.size (.slice ra1 l.length rc1) (.slice ra2 l'.length rc2) (.slice sa1 l.length sc1) (.slice sa2 l'.length sc2) x y z l l' l l' (w2.alloc (.cells #[(.slice sa1 l.length sc1), .int .i64 x, .int .i64 y, .int .i64 z, (.slice sa2 l'.length sc2)] 26))) := by
      have hba : Below w2.heap.size w2 (w2.alloc (.cells #[(.slice sa1 l.length sc1), .int .i64 x, .int .i64 y, .int .i64 z, (.slice sa2 l'.length sc2)] 26)) := (Below.refl _ _).alloc (Nat.le_refl _) _
      have hbb := hb2.trans (hba.mono hb2.size)
      exact ⟨(hbb.block _ (Array.getElem?_eq_some_iff.1 HW0.out).1).trans HW0.out, heap_alloc_new w2 _, own_kept HP1.out hbb, own_kept HP2.out hbb, own_kept oc1 hba, own_kept oc2 hba, fun g e => (HP1.out.lt g e).2, fun g e => (HP2.out.lt g e).2, HBW.out.trans (hbb.mono HBW.out.size), HBW.out.size⟩
    clear oc1 oc2 hap hb2 HW0 HP1 HP2 HBW
    have pxa0 := cell_of_row _ _ 0 _ _ _ HS2.out.w0
    have pxa1 := cell_of_row _ _ 1 _ _ _ HS2.out.w0
    have pxa2 := cell_of_row _ _ 2 _ _ _ HS2.out.w0
    have pxa3 := cell_of_row _ _ 3 _ _ _ HS2.out.w0
    have pxa4 := cell_of_row _ _ 4 _ _ _ HS2.out.w0
    simp at pxa0 pxa1 pxa2 pxa3 pxa4
    have pxb0 := cell_of_row _ _ 0 _ _ _ HS2.out.g0
    have pxb1 := cell_of_row _ _ 1 _ _ _ HS2.out.g0
    have pxb2 := cell_of_row _ _ 2 _ _ _ HS2.out.g0
    have pxb3 := cell_of_row _ _ 3 _ _ _ HS2.out.g0
    have pxb4 := cell_of_row _ _ 4 _ _ _ HS2.out.g0
    simp at pxb0 pxb1 pxb2 pxb3 pxb4
    go_wp2_with fail
    refine (eqRows (by omega) (by omega) HS2.out.oa1 HS2.out.oa2 HS2.out.oc1 HS2.out.oc2).mono ?_
    rintro e w3 ⟨rfl, hb3⟩
    have hS3 := HS2.out.same hb3
    obtain ⟨bg, hbg⟩ : ∃ bg, bg = w2.heap.size := ⟨_, rfl⟩
    obtain ⟨bG, hbG⟩ : ∃ bG, bG = W1.heap.size := ⟨_, rfl⟩
    rw [← hbg, ← hbG] at hS3
    rw [← hbg]
    have HS3 : Hid (St7 w bw bg bG (.slice ra1 l.length rc1) (.slice ra2 l'.length rc2) (.slice sa1 l.length sc1) (.slice sa2 l'.length sc2) x y z l l' l l' w3) := hS3
    clear hb3 HS2 hS3 hbg hbG pxa0 pxa1 pxa2 pxa3 pxa4 pxb0 pxb1 pxb2 pxb3 pxb4
    have qxa0 := cell_of_row _ _ 0 _ _ _ HS3.out.w0
    have qxa1 := cell_of_row _ _ 1 _ _ _ HS3.out.w0
    have qxa2 := cell_of_row _ _ 2 _ _ _ HS3.out.w0
    have qxa3 := cell_of_row _ _ 3 _ _ _ HS3.out.w0
    have qxa4 := cell_of_row _ _ 4 _ _ _ HS3.out.w0
    simp at qxa0 qxa1 qxa2 qxa3 qxa4
    have qxb0 := cell_of_row _ _ 0 _ _ _ HS3.out.g0
    have qxb1 := cell_of_row _ _ 1 _ _ _ HS3.out.g0
    have qxb2 := cell_of_row _ _ 2 _ _ _ HS3.out.g0
    have qxb3 := cell_of_row _ _ 3 _ _ _ HS3.out.g0
    have qxb4 := cell_of_row _ _ 4 _ _ _ HS3.out.g0
    simp at qxb0 qxb1 qxb2 qxb3 qxb4
    go_wp2_with fail
    refine (markMan_is l l' (by omega) (by omega) w3 HS3.out.oc1 HS3.out.oc2 HAP.out).mono ?_
    rintro e w4 ⟨rfl, om1, om2, w4', hg1, hg2⟩
    have HS4 : Hid (St7 w bw bg bG (.slice ra1 l.length rc1) (.slice ra2 l'.length rc2) (.slice sa1 l.length sc1) (.slice sa2 l'.length sc2) x y z l l' (marksI 1 l.length) (marksI (1 + l.length) l'.length) w4) := HS3.out.mark om1 om2 hg1 hg2 (HS3.out.oc2.kept hg1 (apart_ne' HAP.out))
    clear om1 om2 hg1 hg2 HS3 qxa0 qxa1 qxa2 qxa3 qxa4 qxb0 qxb1 qxb2 qxb3 qxb4
    obtain ⟨K, hK⟩ : ∃ K : Nat, K = 1 + l.length + l'.length := ⟨_, rfl⟩
    rw [← hK]
    have HK : Hid (K = 1 + l.length + l'.length) := hK
    clear hK
    have rxa0 := cell_of_row _ _ 0 _ _ _ HS4.out.w0
    have rxa1 := cell_of_row _ _ 1 _ _ _ HS4.out.w0
    have rxa2 := cell_of_row _ _ 2 _ _ _ HS4.out.w0
    have rxa3 := cell_of_row _ _ 3 _ _ _ HS4.out.w0
    have rxa4 := cell_of_row _ _ 4 _ _ _ HS4.out.w0
    simp at rxa0 rxa1 rxa2 rxa3 rxa4
    have rxb0 := cell_of_row _ _ 0 _ _ _ HS4.out.g0
    have rxb1 := cell_of_row _ _ 1 _ _ _ HS4.out.g0
    have rxb2 := cell_of_row _ _ 2 _ _ _ HS4.out.g0
    have rxb3 := cell_of_row _ _ 3 _ _ _ HS4.out.g0
    have rxb4 := cell_of_row _ _ 4 _ _ _ HS4.out.g0
    simp at rxb0 rxb1 rxb2 rxb3 rxb4
    go_wp2_with fail
    refine (heldMan_is l.length l'.length (by omega) (by omega) w4 HS4.out.oc1 HS4.out.oc2).mono ?_
    rintro e w5 ⟨rfl, hb5⟩
    have HS5 : Hid (St7 w bw bg bG (.slice ra1 l.length rc1) (.slice ra2 l'.length rc2) (.slice sa1 l.length sc1) (.slice sa2 l'.length sc2) x y z l l' (marksI 1 l.length) (marksI (1 + l.length) l'.length) w5) := HS4.out.same hb5
    clear hb5 HS4 rxa0 rxa1 rxa2 rxa3 rxa4 rxb0 rxb1 rxb2 rxb3 rxb4
    rw [← HK.out]
    have hKp : (0 : Int) ≤ (K : Int) := by omega
    go_wp2_with fail
    refine Calls.mono (HI.out _) ?_
    rintro e w6 ⟨d1, d2, rfl, od1, od2, _, hb6⟩
    obtain ⟨ta1, tc1, hv1⟩ := own_slice od1
    obtain ⟨ta2, tc2, hv2⟩ := own_slice od2
    subst hv1 hv2
    have HS6 : Hid (St7 w bw bg bG (.slice ra1 l.length rc1) (.slice ra2 l'.length rc2) (.slice sa1 l.length sc1) (.slice sa2 l'.length sc2) x y z l l' (marksI 1 l.length) (marksI (1 + l.length) l'.length) (w6.alloc (.cells #[(.slice ta1 l.length tc1), .int .i64 x, .int .i64 y, .int .i64 z, (.slice ta2 l'.length tc2)] 26))) := HS5.out.same (hb6.alloc hb6.size _)
    have HD1 : Hid ((w6.alloc (.cells #[(.slice ta1 l.length tc1), .int .i64 x, .int .i64 y, .int .i64 z, (.slice ta2 l'.length tc2)] 26)).ownsRow w5.heap.size 3 1 (.slice ta1 l.length tc1) l.length (cellsI l)) := own_kept od1 ((Below.refl _ _).alloc (Nat.le_refl _) _)
    have HD2 : Hid ((w6.alloc (.cells #[(.slice ta1 l.length tc1), .int .i64 x, .int .i64 y, .int .i64 z, (.slice ta2 l'.length tc2)] 26)).ownsRow w5.heap.size 3 1 (.slice ta2 l'.length tc2) l'.length (cellsI l')) := own_kept od2 ((Below.refl _ _).alloc (Nat.le_refl _) _)
    clear od1 od2 hb6 HS5
    have sxa0 := cell_of_row _ _ 0 _ _ _ HS6.out.w0
    have sxa1 := cell_of_row _ _ 1 _ _ _ HS6.out.w0
    have sxa2 := cell_of_row _ _ 2 _ _ _ HS6.out.w0
    have sxa3 := cell_of_row _ _ 3 _ _ _ HS6.out.w0
    have sxa4 := cell_of_row _ _ 4 _ _ _ HS6.out.w0
    simp at sxa0 sxa1 sxa2 sxa3 sxa4
    have sxb0 := cell_of_row _ _ 0 _ _ _ HS6.out.g0
    have sxb1 := cell_of_row _ _ 1 _ _ _ HS6.out.g0
    have sxb2 := cell_of_row _ _ 2 _ _ _ HS6.out.g0
    have sxb3 := cell_of_row _ _ 3 _ _ _ HS6.out.g0
    have sxb4 := cell_of_row _ _ 4 _ _ _ HS6.out.g0
    simp at sxb0 sxb1 sxb2 sxb3 sxb4
    go_wp2_with fail
    refine (eqRows (by omega) (by omega) HS6.out.oa1 HS6.out.oa2 HD1.out HD2.out).mono ?_
    rintro e w7 ⟨rfl, hb7⟩
    have HS7 : Hid (St7 w bw bg bG (.slice ra1 l.length rc1) (.slice ra2 l'.length rc2) (.slice sa1 l.length sc1) (.slice sa2 l'.length sc2) x y z l l' (marksI 1 l.length) (marksI (1 + l.length) l'.length) w7) := HS6.out.same hb7
    clear hb7 HS6 HD1 HD2 sxa0 sxa1 sxa2 sxa3 sxa4 sxb0 sxb1 sxb2 sxb3 sxb4
    have uxa0 := cell_of_row _ _ 0 _ _ _ HS7.out.w0
    have uxa1 := cell_of_row _ _ 1 _ _ _ HS7.out.w0
    have uxa2 := cell_of_row _ _ 2 _ _ _ HS7.out.w0
    have uxa3 := cell_of_row _ _ 3 _ _ _ HS7.out.w0
    have uxa4 := cell_of_row _ _ 4 _ _ _ HS7.out.w0
    simp at uxa0 uxa1 uxa2 uxa3 uxa4
    have uxb0 := cell_of_row _ _ 0 _ _ _ HS7.out.g0
    have uxb1 := cell_of_row _ _ 1 _ _ _ HS7.out.g0
    have uxb2 := cell_of_row _ _ 2 _ _ _ HS7.out.g0
    have uxb3 := cell_of_row _ _ 3 _ _ _ HS7.out.g0
    have uxb4 := cell_of_row _ _ 4 _ _ _ HS7.out.g0
    simp at uxb0 uxb1 uxb2 uxb3 uxb4
    go_wp2_with fail
    refine (heldMan_is l.length l'.length (by omega) (by omega) w7 HS7.out.oc1 HS7.out.oc2).mono ?_
    rintro e w8 ⟨rfl, hb8⟩
    have HS8 : Hid (Below w.heap.size w w8) := (HS7.out.same hb8).bel
    clear hb8
    rw [← HK.out]
    go_wp2
    go_ret
    exact ⟨rfl, HS8.out⟩
end Go.Proofs.Ytcmjidcdkooliaa
