/- The law FnManifests, walked: it answers true at all bytes. -/
import Derived.Test.YtcmjidcdkooliaaDrawMan
import Derived.Test.YtcmjidcdkooliaaDrawPlaces
import Derived.Test.YtcmjidcdkooliaaSpecRM
namespace Go.Proofs.Ytcmjidcdkooliaa
open Go.RowKit
set_option linter.unusedVariables false

theorem bytes_of (w : World) (T : ByteArray) : ∃ (C : Nat) (W : World), (convert 9 22 (.string T)).run Try.prog w = .ok (.slice (some ⟨w.heap.size, 0, none⟩) T.size C) W ∧
    (∀ j (hj : j < T.size), W.cell? ⟨w.heap.size, j, none⟩ = some (.int .u8 (T[j].toNat : Int))) ∧ (∀ j, j < T.size → W.frozen? ⟨w.heap.size, j, none⟩ = false) ∧ Below w.heap.size w W := by
  refine ⟨_, _, run_bytes_of_string w 9 22 5 T Try.underlying9 Try.underlying22 Try.underlying5, fun j hj => ?_, fun j hj => ?_, ?_⟩
  · unfold World.cell?
    rw [show w.heap.size = w.drew.heap.size from rfl, heap_alloc_new]
    exact bytesRow_at T _ j hj
  · unfold World.frozen?
    rw [show w.heap.size = w.drew.heap.size from rfl, heap_alloc_new]
    have h := bytesRow_at T (grownCap w T.size 0 5) j hj
    have := (Array.getElem?_eq_some_iff.1 h).1
    simp only [Bool.and_eq_false_iff, decide_eq_false_iff_not]
    left
    omega
  · exact ((Below.refl _ _).drew).alloc (Nat.le_refl _) _

theorem nth_place {w : World} {base g cp : Nat} {l : List Int} (hown : w.ownsRow base 3 1 (.slice (some ⟨g, 0, none⟩) 12 cp) 12 (cellsI l)) (hl : l.length = 12) (hb : ∀ x ∈ l, 0 ≤ x ∧ x < 10000) (j : Nat) (hj : j < 12) :
    ∃ P0 : Nat, w.cell? ⟨g, j, none⟩ = some (.int .i64 (P0 : Int)) ∧ 0 ≤ P0 ∧ P0 < 10000 := by
  have h := hb l[j] (List.getElem_mem _)
  refine ⟨l[j].toNat, ?_, by omega, by omega⟩
  rw [hown.cellAt j (by omega), Int.toNat_of_nonneg h.1]
  simp [cellsI, hl, hj]

theorem turned_string {w : World} {g C : Nat} {T : ByteArray} {i : Nat} {c : UInt8} (hi : i < T.size) (hcell : ∀ j (hj : j < T.size), w.cell? ⟨g, j, none⟩ = some (.int .u8 (T[j].toNat : Int))) :
    (convert 22 9 (.slice (some ⟨g, 0, none⟩) T.size C)).run Try.prog ((w.setCell ⟨g, i, none⟩ (.int .u8 (c.toNat : Int))).drew) = .ok (.string ⟨(T.data.toList.set i c).toArray⟩) ((w.setCell ⟨g, i, none⟩ (.int .u8 (c.toNat : Int))).drew) := by
  have hl : (T.data.toList.set i c).length = T.size := by rw [List.length_set]; rfl
  have := run_convert_bytes_back (P := Try.prog) ((w.setCell ⟨g, i, none⟩ (.int .u8 (c.toNat : Int))).drew) 22 9 5 ⟨g, 0, none⟩ C (T.data.toList.set i c) Try.underlying22 Try.underlying5 Try.underlying9 fun j hj => ?_
  · rw [hl] at this
    exact this
  · have hj' : j < T.size := by rw [hl] at hj; exact hj
    rw [Addr.add_lit, Nat.zero_add]
    show (w.setCell ⟨g, i, none⟩ (.int .u8 (c.toNat : Int))).cell? ⟨g, j, none⟩ = _
    by_cases e : j = i
    · subst e
      rw [World.cell?_setCell_same w _ _ (hcell j hj')]
      simp
    · rw [World.cell?_setCell_other w _ _ _ (by intro h; cases h; exact e rfl), hcell j hj']
      rw [List.getElem_set_ne (by omega)]
      rfl

set_option maxHeartbeats 1000000 in
theorem drawText_any {B cap len b off : Nat} {a : Option Addr} {z : Nat → Int} (w : World) (hB : B ≤ w.heap.size) (hc : Code B w a len b off z) :
    Calls Try.prog 9 #[.slice a len cap] w fun e w' => ∃ (m : ManL) (va1 : Option Addr) (vc1 : Nat) (va2 : Option Addr) (vc2 g1 g2 : Nat), e = .returned (manV m va1 vc1 va2 vc2) ∧ m.segs.length ≤ 20 ∧ m.conf.length ≤ 20 ∧ IntAt w' va1 g1 0 m.segs ∧ IntAt w' va2 g2 0 m.conf ∧ Below w.heap.size w w' := by
  obtain ⟨W, hW⟩ : ∃ W, W = w.alloc (.cells #[.slice none 0 0, .int .i64 0, .int .i64 0, .int .i64 0, .slice none 0 0] 26) := ⟨_, rfl⟩
  have hbW : Below w.heap.size w W := by rw [hW]; exact (Below.refl _ _).alloc (Nat.le_refl _) _
  have HZ : Hid (W.heap[w.heap.size]? = some (.cells #[.slice none 0 0, .int .i64 0, .int .i64 0, .int .i64 0, .slice none 0 0] 26 (0, 0))) := by show _ = _; rw [hW]; exact heap_alloc_new w _
  have HC : Hid (Code B W a len b off z) := hc.below (hbW.mono hB)
  have HW : Hid (Below w.heap.size w W) := hbW
  have hWB : B ≤ W.heap.size := Nat.le_trans hB hbW.size
  have hlt : w.heap.size < W.heap.size := (Array.getElem?_eq_some_iff.1 HZ.out).1
  clear hc hbW
  go_enter Try.func9, Try.ntmps9
  go_wp2_with fail
  rw [← hW]
  clear hW
  refine (new_any W hWB HC.out).mono ?_
  rintro e w1 ⟨rfl, hc1, hb1⟩
  have HC1 : Hid (Cur B w1 W.heap.size a len cap b off z) := hc1
  have HB1 : Hid (Below w.heap.size w w1) := HW.out.trans (hb1.mono HW.out.size)
  have HZ1 : Hid (_ = _) := (hb1.block _ hlt).trans HZ.out
  clear hc1 hb1
  go_wp2_with fail
  refine (drawMan_any w1 HC1.out).mono ?_
  rintro e w2 ⟨m, v1, v2, rfl, h1, h2, o1, o2, hg⟩
  obtain ⟨va1, vc1, rfl⟩ := own_slice o1
  obtain ⟨va2, vc2, rfl⟩ := own_slice o2
  obtain ⟨l, x, y, z', l'⟩ := m
  simp only at h1 h2 o1 o2 ⊢
  have HX : Hid (w2.ownsRow w1.heap.size 3 1 (.slice va1 l.length vc1) l.length (cellsI l)) := o1
  have HY : Hid (w2.ownsRow w1.heap.size 3 1 (.slice va2 l'.length vc2) l'.length (cellsI l')) := o2
  have HB2 : Hid (Below w.heap.size w w2) := HB1.out.grown hg HB1.out.size (fun k e => by cases e; omega)
  have hz2 := grown_keep HZ1.out hg (by omega)
  have HZ2 : Hid (_ = _) := hz2
  have z0 := cell_of_row _ _ 0 _ _ _ hz2
  have z1 := cell_of_row _ _ 1 _ _ _ hz2
  have z2 := cell_of_row _ _ 2 _ _ _ hz2
  have z3 := cell_of_row _ _ 3 _ _ _ hz2
  have z4 := cell_of_row _ _ 4 _ _ _ hz2
  have zf0 := frozen_of_row _ _ 0 _ _ hz2
  have zf1 := frozen_of_row _ _ 1 _ _ hz2
  have zf2 := frozen_of_row _ _ 2 _ _ hz2
  have zf3 := frozen_of_row _ _ 3 _ _ hz2
  have zf4 := frozen_of_row _ _ 4 _ _ hz2
  simp at z0 z1 z2 z3 z4
  clear o1 o2 hg hz2
  go_wp2
  obtain ⟨k0, k1, k2, k3, k4⟩ := five_cell HZ2.out (.slice va1 l.length vc1) (.int .i64 x) (.int .i64 y) (.int .i64 z') (.slice va2 l'.length vc2)
  have n1 := own_not HX.out HZ2.out (by decide)
  have n2 := own_not HY.out HZ2.out (by decide)
  have q1 := own_set (own_set (own_set (own_set (own_set HX.out w.heap.size 0 (.slice va1 l.length vc1) n1) w.heap.size 1 (.int .i64 x) n1) w.heap.size 2 (.int .i64 y) n1) w.heap.size 3 (.int .i64 z') n1) w.heap.size 4 (.slice va2 l'.length vc2) n1
  have q2 := own_set (own_set (own_set (own_set (own_set HY.out w.heap.size 0 (.slice va1 l.length vc1) n2) w.heap.size 1 (.int .i64 x) n2) w.heap.size 2 (.int .i64 y) n2) w.heap.size 3 (.int .i64 z') n2) w.heap.size 4 (.slice va2 l'.length vc2) n2
  obtain ⟨ba1, g1, bc1, e1, at1⟩ := cellsI_slice q1
  obtain ⟨ba2, g2, bc2, e2, at2⟩ := cellsI_slice q2
  simp only [Value.slice.injEq, true_and] at e1 e2
  obtain ⟨rfl, rfl⟩ := e1
  obtain ⟨rfl, rfl⟩ := e2
  exact bodyPost_ret (v := .agg #[.slice va1 l.length vc1, .int .i64 x, .int .i64 y, .int .i64 z', .slice va2 l'.length vc2]) (by simp [results, Try.results9, go_sem, k0, k1, k2, k3, k4]) rfl ⟨⟨l, x, y, z', l'⟩, va1, vc1, va2, vc2, g1, g2, rfl, h1, h2, at1, at2, ((((HB2.out.setCell (by simp) _).setCell (by simp) _).setCell (by simp) _).setCell (by simp) _).setCell (by simp) _⟩
theorem seal_size {m : ManL} (h : Mans.ok m) : 4 ≤ (sealedS m).size ∧ (sealedS m).size ≤ 1200 := by
  have h1 := Mans.text_len (Mans.ok_small h)
  have h2 : (sealedS m).size = (Mans.text m).length + 4 := by
    show (Mans.sealed (Mans.text m)).toArray.size = _
    simp [Mans.sealed, Sums.four_len]
  omega
theorem turned_none {m : ManL} (h : Mans.ok m) (I : Nat) (c : UInt8) (hI : I < (sealedS m).size) (hc : (sealedS m).data.toList[I]? ≠ some c) : Sums.unsealed ((sealedS m).data.toList.set I c) = none := by
  have e : (sealedS m).data.toList = Mans.text m ++ Sums.four (Sums.sumOf (Mans.text m)) := by simp [sealedS, Mans.sealed]
  have h2 : (sealedS m).size = (Mans.text m).length + 4 := by
    show (Mans.sealed (Mans.text m)).toArray.size = _
    simp [Mans.sealed, Sums.four_len]
  rw [e] at hc ⊢
  exact Sums.unsealed_turned _ I c (by omega) hc
set_option maxHeartbeats 8000000 in
set_option maxRecDepth 100000 in
theorem lawMans_any {cap len b off : Nat} {a : Option Addr} {z : Nat → Int} (w : World) (hc : Code w.heap.size w a len b off z) :
    Calls Try.prog 3 #[.slice a len cap] w fun e w' => e = .returned (.bool true) ∧ Below w.heap.size w w' := by
  have HC : Hid (Code w.heap.size w a len b off z) := hc
  have hlen := hc.2.1
  clear hc
  go_enter Try.func3, Try.ntmps3
  go_wp2_with fail
  refine (big_no a len cap hlen _).mono ?_
  rintro e w0 ⟨rfl, rfl⟩
  go_wp2_with fail
  refine (drawText_any _ (Nat.le_refl _) HC.out).mono ?_
  rintro e w1 ⟨m, va1, vc1, va2, vc2, g1, g2, rfl, hl1, hl2, at1, at2, hb1⟩
  obtain ⟨l, x, y, z', l'⟩ := m
  unfold manV
  simp only at hl1 hl2 at1 at2 ⊢
  obtain ⟨W1, hW1⟩ : ∃ W1, W1 = w1.alloc (.cells #[.slice va1 l.length vc1, .int .i64 x, .int .i64 y, .int .i64 z', .slice va2 l'.length vc2] 26) := ⟨_, rfl⟩
  have hbW : Below w1.heap.size w1 W1 := by rw [hW1]; exact (Below.refl _ _).alloc (Nat.le_refl _) _
  have hm1 : W1.heap[w1.heap.size]? = some (.cells #[.slice va1 l.length vc1, .int .i64 x, .int .i64 y, .int .i64 z', .slice va2 l'.length vc2] 26 (0, 0)) := by rw [hW1]; exact heap_alloc_new w1 _
  have hlt1 : w1.heap.size < W1.heap.size := (Array.getElem?_eq_some_iff.1 hm1).1
  have HB1 : Hid (Below w.heap.size w W1) := hb1.trans (hbW.mono hb1.size)
  have HA1 : Hid (IntAt W1 va1 g1 0 l) := at1.kept hbW
  have HA2 : Hid (IntAt W1 va2 g2 0 l') := at2.kept hbW
  have HM1 : Hid (_ = _) := hm1
  clear hb1 at1 at2 hbW hm1
  go_wp2_with fail
  rw [← hW1]
  obtain ⟨mb, hmb⟩ : ∃ mb, mb = w1.heap.size := ⟨_, rfl⟩
  rw [← hmb] at HM1 hlt1 ⊢
  clear hW1 hmb
  by_cases ho : Mans.ok ⟨l, x, y, z', l'⟩
  · have HO : Hid (Mans.ok ⟨l, x, y, z', l'⟩) := ho
    obtain ⟨T, hT⟩ : ∃ T, T = sealedS ⟨l, x, y, z', l'⟩ := ⟨_, rfl⟩
    have HT : Hid (T = sealedS ⟨l, x, y, z', l'⟩) := hT
    have hTs := seal_size ho
    have hq := implText_yes (ca := vc1) (cb := vc2) l l' x y z' (by omega) (by omega) W1 HA1.out HA2.out ho
    rw [← hT] at hq hTs
    unfold manV at hq
    refine hq.mono ?_
    rintro e w2 ⟨rfl, hb2⟩
    have HB2 : Hid (Below w.heap.size w w2) := HB1.out.trans (hb2.mono HB1.out.size)
    have HM2 : Hid (w2.heap[mb]? = some (.cells #[.slice va1 l.length vc1, .int .i64 x, .int .i64 y, .int .i64 z', .slice va2 l'.length vc2] 26 (0, 0))) := (hb2.block _ hlt1).trans HM1.out
    have HA3 : Hid (IntAt w2 va1 g1 0 l) := HA1.out.kept hb2
    have HA4 : Hid (IntAt w2 va2 g2 0 l') := HA2.out.kept hb2
    have HANS : Hid (Ans T ⟨l, x, y, z', l'⟩ true) := Or.inl ⟨⟨by rw [HT.out]; rfl, HO.out⟩, rfl⟩
    clear hq hb2 hlt1 ho hT HM1 HA1 HA2 HB1
    go_wp2_with fail
    refine (implRM_ans (by omega) HANS.out w2).mono ?_
    rintro e w3 ⟨v3, v4, rfl, o3, o4, _, hb3⟩
    obtain ⟨ra1, g3, rc1, rfl, at3⟩ := cellsI_slice o3
    obtain ⟨ra2, g4, rc2, rfl, at4⟩ := cellsI_slice o4
    simp only at at3 at4 ⊢
    obtain ⟨W3, hW3⟩ : ∃ W3, W3 = w3.alloc (.cells #[.slice ra1 l.length rc1, .int .i64 x, .int .i64 y, .int .i64 z', .slice ra2 l'.length rc2] 26) := ⟨_, rfl⟩
    have hbW3 : Below w3.heap.size w3 W3 := by rw [hW3]; exact (Below.refl _ _).alloc (Nat.le_refl _) _
    have hbb := hb3.trans (hbW3.mono hb3.size)
    have HB3 : Hid (Below w.heap.size w W3) := HB2.out.trans (hbb.mono HB2.out.size)
    have hm3 : W3.heap[mb]? = some (.cells #[.slice va1 l.length vc1, .int .i64 x, .int .i64 y, .int .i64 z', .slice va2 l'.length vc2] 26 (0, 0)) := (hbb.block _ (Array.getElem?_eq_some_iff.1 HM2.out).1).trans HM2.out
    have hr3 : W3.heap[w3.heap.size]? = some (.cells #[.slice ra1 l.length rc1, .int .i64 x, .int .i64 y, .int .i64 z', .slice ra2 l'.length rc2] 26 (0, 0)) := by rw [hW3]; exact heap_alloc_new w3 _
    have HM3 : Hid (_ = _) := hm3
    have HR3 : Hid (_ = _) := hr3
    have HA5 : Hid (IntAt W3 va1 g1 0 l) := HA3.out.kept hbb
    have HA6 : Hid (IntAt W3 va2 g2 0 l') := HA4.out.kept hbb
    have HA7 : Hid (IntAt W3 ra1 g3 0 l) := at3.kept hbW3
    have HA8 : Hid (IntAt W3 ra2 g4 0 l') := at4.kept hbW3
    have m0 := cell_of_row _ _ 0 _ _ _ hm3
    have m1 := cell_of_row _ _ 1 _ _ _ hm3
    have m2 := cell_of_row _ _ 2 _ _ _ hm3
    have m3 := cell_of_row _ _ 3 _ _ _ hm3
    have m4 := cell_of_row _ _ 4 _ _ _ hm3
    simp at m0 m1 m2 m3 m4
    rw [hW3] at m0 m1 m2 m3 m4
    clear o3 o4 at3 at4 hb3 hbW3 hbb hm3 hr3 HA3 HA4 HB2 HM2
    go_wp2_with fail
    rw [← hW3]
    obtain ⟨ab, hab⟩ : ∃ ab, ab = w3.heap.size := ⟨_, rfl⟩
    rw [← hab] at HR3
    rw [← hab]
    clear m0 m1 m2 m3 m4 hW3 hab
    have hq := specMan_is (ca := vc1) (cb := vc2) l l' x y z' (by omega) (by omega) true (by simp [HO.out]) W3 HA5.out HA6.out
    unfold manV at hq
    refine hq.mono ?_
    rintro e w4 ⟨rfl, hb4⟩
    have HB4 : Hid (Below w.heap.size w w4) := HB3.out.trans (hb4.mono HB3.out.size)
    have hm4 := (hb4.block _ (Array.getElem?_eq_some_iff.1 HM3.out).1).trans HM3.out
    have hr4 := (hb4.block _ (Array.getElem?_eq_some_iff.1 HR3.out).1).trans HR3.out
    have HS4 := sameMan_same (ca := rc1) (cb := rc2) (ca' := vc1) (cb' := vc2) ⟨l, x, y, z', l'⟩ (by show l.length ≤ _; omega) (by show l'.length ≤ _; omega) w4 (HA7.out.kept hb4) (HA8.out.kept hb4) (HA5.out.kept hb4) (HA6.out.kept hb4)
    unfold manV at HS4
    simp only at HS4
    have HS : Hid _ := HS4
    have n0 := cell_of_row _ _ 0 _ _ _ hm4
    have n1 := cell_of_row _ _ 1 _ _ _ hm4
    have n2 := cell_of_row _ _ 2 _ _ _ hm4
    have n3 := cell_of_row _ _ 3 _ _ _ hm4
    have n4 := cell_of_row _ _ 4 _ _ _ hm4
    simp at n0 n1 n2 n3 n4
    have r0 := cell_of_row _ _ 0 _ _ _ hr4
    have r1 := cell_of_row _ _ 1 _ _ _ hr4
    have r2 := cell_of_row _ _ 2 _ _ _ hr4
    have r3 := cell_of_row _ _ 3 _ _ _ hr4
    have r4 := cell_of_row _ _ 4 _ _ _ hr4
    simp at r0 r1 r2 r3 r4
    clear hq hb4 hm4 hr4 HS4 HA5 HA6 HA7 HA8 HM3 HR3 HB3
    go_wp2_with fail
    refine Calls.mono HS.out ?_
    rintro e w5 ⟨rfl, hb5⟩
    have HB5 : Hid (Below w.heap.size w w5) := HB4.out.trans (hb5.mono HB4.out.size)
    clear hb5 HS HB4 n0 n1 n2 n3 n4 r0 r1 r2 r3 r4
    go_wp2_with fail
    refine (drawPlaces_any _ HB5.out.size (HC.out.below HB5.out)).mono ?_
    rintro e w6 ⟨v, lp, rfl, hlp, hlb, hown, hb6⟩
    rcases hown.2 with ⟨_, hz⟩ | ⟨g, cp, cur, rfl, hg, hh, hnc, hcp, hcs, htake⟩
    · omega
    obtain ⟨P0, hp0, hP00, hP01⟩ : ∃ P0 : Nat, w6.cell? ⟨g, 0, none⟩ = some (.int .i64 (P0 : Int)) ∧ 0 ≤ P0 ∧ P0 < 10000 := nth_place hown hlp hlb 0 (by omega)
    obtain ⟨P1, hp1, hP10, hP11⟩ : ∃ P0 : Nat, w6.cell? ⟨g, 1, none⟩ = some (.int .i64 (P0 : Int)) ∧ 0 ≤ P0 ∧ P0 < 10000 := nth_place hown hlp hlb 1 (by omega)
    have hg4 : g < w6.heap.size := (Array.getElem?_eq_some_iff.1 hh).1
    have hB6 : Below w.heap.size w w6 := HB5.out.trans (hb6.mono HB5.out.size)
    clear hown hh hnc hcp hcs htake hlb hlp hb6 hP00 hP10 HB5
    obtain ⟨C, w7, hcv, hcell, hfz, hb7⟩ := bytes_of w6 T
    have hp0 : w7.cell? ⟨g, 0, none⟩ = some (.int .i64 (P0 : Int)) := by rw [hb7.cell (p := ⟨g, 0, none⟩) hg4]; exact hp0
    have hp1 : w7.cell? ⟨g, 1, none⟩ = some (.int .i64 (P1 : Int)) := by rw [hb7.cell (p := ⟨g, 1, none⟩) hg4]; exact hp1
    have hB7 : Below w.heap.size w w7 := hB6.trans (hb7.mono hB6.size)
    have HCE : Hid (∀ j (hj : j < T.size), w7.cell? ⟨w6.heap.size, j, none⟩ = some (.int .u8 (T[j].toNat : Int))) := hcell
    have HFZ : Hid (∀ j, j < T.size → w7.frozen? ⟨w6.heap.size, j, none⟩ = false) := hfz
    have hs4 := hB6.size
    have hT0 : ¬ (T.size : Int) = 0 := by omega
    clear hB6 hcell hfz hb7
    go_wp2_with fail
    obtain ⟨I, hI, hIlt⟩ : ∃ I : Nat, (P0 : Int) % (T.size : Int) = (I : Int) ∧ I < T.size :=
      ⟨P0 % T.size, (Int.natCast_emod _ _).symm, Nat.mod_lt _ (by omega)⟩
    rw [hI]
    clear hI hp0
    obtain ⟨x8, hx8⟩ : ∃ x8 : UInt8, x8 = T[I] := ⟨_, rfl⟩
    have hci : w7.cell? ⟨w6.heap.size, I, none⟩ = some (.int .u8 (x8.toNat : Int)) := by rw [hx8]; exact HCE.out I hIlt
    have hfi := HFZ.out I hIlt
    obtain ⟨M, hM, hMlt⟩ : ∃ M : Nat, Int.tmod (P1 : Int) 255 = (M : Int) ∧ M < 255 := ⟨P1 % 255, by rw [Int.tmod_eq_emod_of_nonneg (by omega)]; omega, Nat.mod_lt _ (by omega)⟩
    have hxb := x8.toNat_lt
    obtain ⟨c, hc⟩ : ∃ c : UInt8, c.toNat = x8.toNat ^^^ (1 + M) := ⟨UInt8.ofNat (x8.toNat ^^^ (1 + M)), Words.ofNat_toNat _ (Nat.xor_lt_two_pow (n := 8) hxb (by omega))⟩
    have q1 : IntKind.i64.wrap (1 + (M : Int)) = 1 + (M : Int) := IntWalk.i64_in _ (by omega)
    have q2 : IntKind.u8.wrap (1 + (M : Int)) = 1 + (M : Int) := by simp [IntKind.wrap, IntKind.signed, IntKind.bits]; omega
    have q3 : bits .xor .u8 (x8.toNat : Int) (1 + (M : Int)) = (c.toNat : Int) := by
      rw [show (1 + (M : Int)) = ((1 + M : Nat) : Int) by omega, u8_xor_nat _ _ hxb (by omega), hc]
    have HX : Hid (x8 = T[I]) := hx8
    have HCX : Hid (c.toNat = x8.toNat ^^^ (1 + M)) := hc
    have hI0 : (0 : Int) ≤ (I : Int) := by omega
    have hI1 : (I : Int) < (T.size : Int) := by omega
    clear hx8 hc
    go_big_region
    have hcs := turned_string (w := w7) (g := w6.heap.size) (C := C) (T := T) (i := I) (c := c) (by omega) HCE.out
    have HTN : Hid (Sums.unsealed (T.data.toList.set I c) = none) := by
      show _ = _
      have hn := turned_none HO.out I c (by rw [← HT.out]; exact hIlt) (by
        rw [← HT.out]
        intro e
        have e1 : T.data.toList[I]? = some x8 := by rw [HX.out, List.getElem?_eq_getElem (by rw [Words.size_list]; exact hIlt)]; rfl
        rw [e1] at e
        have e2 : x8 = c := Option.some.inj e
        have e3 := HCX.out
        rw [← e2] at e3
        have e4 := congrArg (fun y => x8.toNat ^^^ y) e3
        simp only [← Nat.xor_assoc, Nat.xor_self, Nat.zero_xor] at e4
        omega)
      rw [← HT.out] at hn
      exact hn
    obtain ⟨U, hU⟩ : ∃ U : ByteArray, U = ⟨(T.data.toList.set I c).toArray⟩ := ⟨_, rfl⟩
    rw [← hU] at hcs
    have hUs : U.size ≤ 1048576 := by rw [hU, ← Words.size_list, List.length_set, Words.size_list]; omega
    have HUN : Hid (∀ wx, Calls Try.prog 11 #[.string U] wx fun e w' => e = .returned (.tuple #[.agg #[.slice none 0 0, .int .i64 0, .int .i64 0, .int .i64 0, .slice none 0 0], .bool false]) ∧ Below wx.heap.size wx w') := fun wx =>
      implRM_unsealed hUs wx (by rw [hU]; exact HTN.out)
    clear hU hci hfi hp1
    have hB8 : Below w.heap.size w ((w7.setCell ⟨w6.heap.size, I, none⟩ (.int .u8 (c.toNat : Int))).drew) := (hB7.setCell hs4 _).drew
    go_wp2_with fail
    refine Calls.mono (HUN.out _) ?_
    rintro e w9 ⟨rfl, hb9⟩
    have HB9 : Hid (Below w.heap.size w w9) := hB8.trans (hb9.mono hB8.size)
    clear hB7 hB8 hb9 hcs
    go_wp2
    go_ret
    exact ⟨rfl, HB9.out.alloc HB9.out.size _⟩
  · have HO : Hid (¬ Mans.ok ⟨l, x, y, z', l'⟩) := ho
    have hq := implText_no (ca := vc1) (cb := vc2) l l' x y z' (by omega) (by omega) W1 HA1.out HA2.out ho
    unfold manV at hq
    refine hq.mono ?_
    rintro e w2 ⟨rfl, hb2⟩
    have HB2 : Hid (Below w.heap.size w w2) := HB1.out.trans (hb2.mono HB1.out.size)
    have HM2 : Hid (w2.heap[mb]? = some (.cells #[.slice va1 l.length vc1, .int .i64 x, .int .i64 y, .int .i64 z', .slice va2 l'.length vc2] 26 (0, 0))) := (hb2.block _ hlt1).trans HM1.out
    have HA3 : Hid (IntAt w2 va1 g1 0 l) := HA1.out.kept hb2
    have HA4 : Hid (IntAt w2 va2 g2 0 l') := HA2.out.kept hb2
    obtain ⟨m9, R9, hA9⟩ := ans_ex ⟨#[]⟩
    have HANS : Hid (Ans ⟨#[]⟩ m9 R9) := hA9
    clear hq hb2 hlt1 ho hA9 HM1 HA1 HA2 HB1
    go_wp2_with fail
    refine (implRM_ans (by decide) HANS.out w2).mono ?_
    rintro e w3 ⟨v3, v4, rfl, o3, o4, _, hb3⟩
    obtain ⟨ra1, rc1, rfl⟩ := own_slice o3
    obtain ⟨ra2, rc2, rfl⟩ := own_slice o4
    obtain ⟨W3, hW3⟩ : ∃ W3, W3 = w3.alloc (.cells #[.slice ra1 m9.segs.length rc1, .int .i64 m9.next, .int .i64 m9.base, .int .i64 m9.term, .slice ra2 m9.conf.length rc2] 26) := ⟨_, rfl⟩
    have hbW3 : Below w3.heap.size w3 W3 := by rw [hW3]; exact (Below.refl _ _).alloc (Nat.le_refl _) _
    have hbb := hb3.trans (hbW3.mono hb3.size)
    have HB3 : Hid (Below w.heap.size w W3) := HB2.out.trans (hbb.mono HB2.out.size)
    have hm3 : W3.heap[mb]? = some (.cells #[.slice va1 l.length vc1, .int .i64 x, .int .i64 y, .int .i64 z', .slice va2 l'.length vc2] 26 (0, 0)) := (hbb.block _ (Array.getElem?_eq_some_iff.1 HM2.out).1).trans HM2.out
    have HA5 : Hid (IntAt W3 va1 g1 0 l) := HA3.out.kept hbb
    have HA6 : Hid (IntAt W3 va2 g2 0 l') := HA4.out.kept hbb
    have m0 := cell_of_row _ _ 0 _ _ _ hm3
    have m1 := cell_of_row _ _ 1 _ _ _ hm3
    have m2 := cell_of_row _ _ 2 _ _ _ hm3
    have m3 := cell_of_row _ _ 3 _ _ _ hm3
    have m4 := cell_of_row _ _ 4 _ _ _ hm3
    simp at m0 m1 m2 m3 m4
    rw [hW3] at m0 m1 m2 m3 m4
    clear o3 o4 hb3 hbW3 hbb hm3 HA3 HA4 HB2 HM2
    go_wp2_with fail
    rw [← hW3]
    clear m0 m1 m2 m3 m4 hW3
    have hq := specMan_is (ca := vc1) (cb := vc2) l l' x y z' (by omega) (by omega) false (by simp [HO.out]) W3 HA5.out HA6.out
    unfold manV at hq
    refine hq.mono ?_
    rintro e w4 ⟨rfl, hb4⟩
    have HB4 : Hid (Below w.heap.size w w4) := HB3.out.trans (hb4.mono HB3.out.size)
    clear hq hb4 HA5 HA6 HB3
    go_wp2_with fail
    refine (drawPlaces_any _ HB4.out.size (HC.out.below HB4.out)).mono ?_
    rintro e w6 ⟨v, lp, rfl, hlp, hlb, hown, hb6⟩
    have HB6 : Hid (Below w.heap.size w w6) := HB4.out.trans (hb6.mono HB4.out.size)
    obtain ⟨C, w7, hcv, _, _, hb7⟩ := bytes_of w6 ⟨#[]⟩
    have HB7 : Hid (Below w.heap.size w w7) := HB6.out.trans (hb7.mono HB6.out.size)
    clear hown hlb hlp hb6 hb7 HB4 HB6
    go_wp2
    go_ret
    exact ⟨rfl, HB7.out⟩
set_option maxHeartbeats 400000 in
theorem lawMans_big {cap len : Nat} {a : Option Addr} (w : World) (h : 1048576 < len) :
    Calls Try.prog 3 #[.slice a len cap] w fun e w' => e = .returned (.bool true) ∧ Below w.heap.size w w' := by
  go_enter Try.func3, Try.ntmps3
  go_wp2_with (go_at_call 8; refine (big_yes a len cap h _).mono ?_; rintro e w' ⟨rfl, rfl⟩)
  go_ret
  exact ⟨rfl, Below.refl _ _⟩
end Go.Proofs.Ytcmjidcdkooliaa
