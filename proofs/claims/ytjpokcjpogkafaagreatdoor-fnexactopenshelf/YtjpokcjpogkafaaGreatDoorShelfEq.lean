/- Shelves held against each other, marked, found marked; raw writes found marked; how small what OpenShelf answers is. -/
import Derived.Test.YtjpokcjpogkafaaGreatDoorSpecOpen
import Derived.Test.YtjpokcjpogkafaaGreatDoorMarkSpot
import Derived.Test.YtjpokcjpogkafaaGreatDoorRdList
import Derived.Test.YtjpokcjpogkafaaGreatDoorMathComes2
namespace Go.Proofs.YtjpokcjpogkafaaGreatDoor
open Go.RowKit
set_option linter.unusedVariables false
set_option linter.unusedSimpArgs false

namespace Shelves
theorem open_small {l : List FileL} {s : ShelfL} {rs : List Disks.RawL} {c : Int} (h : OpenIs l s rs c) : s.man.segs.length ≤ 100 ∧ s.man.conf.length ≤ 100 ∧ s.dir.length ≤ 100 ∧ rs.length ≤ 100 := by
  obtain ⟨e, h1, h2⟩ := open_load h
  rcases h2 with ⟨rfl, rfl⟩ | ⟨_, rfl, _, rfl⟩
  · rcases h1 with ⟨h1, _⟩ | ⟨_, h1, _⟩
    · have L := load_iff.1 h1
      obtain ⟨t, _, q⟩ := L.man
      have q1 : s.man.segs.length ≤ 8 := q.2.1.2
      have q2 : s.man.conf.length ≤ 4 := ((Mans.confOk_iff).1 q.2.2.2.2.2.2).1.2
      have q3 := L.right.1
      have q4 := L.disk.1
      refine ⟨by omega, by omega, by omega, ?_⟩
      unfold cleans
      have h3 := List.length_filter_le (stray s.man) l
      simp only [List.length_append, List.length_map]
      have k1 : ∀ (p : Prop) [Decidable p] (r : Disks.RawL), (if p then [r] else []).length ≤ 1 := fun p _ r => by split <;> simp
      have k2 := k1 ((Disks.fileAt l nameNew).isSome = true) (drop1 nameNew)
      have k3 := k1 (e < (textAt l (lastOf s.man)).length) (put1 (segName (lastOf s.man)) (upTo (textAt l (lastOf s.man)) e))
      omega
    · omega
  · simp [zeroS]
end Shelves
set_option maxHeartbeats 4000000 in
set_option maxRecDepth 100000 in
theorem heldRawS_is {a : Option Addr} {g off cap : Nat} (n : Nat) (hlen : n ≤ 1048576) (k : Nat) (h0 : 0 < k) (hk : k ≤ 100000000) (w : World) (hf : RawsAt w a g off (marksRaw k n)) :
    Calls Tryz.prog 18 #[.slice a n cap, .int .i64 (k : Int)] w fun e w' => e = .returned (.int .i64 ((k + 4 * n : Nat) : Int)) ∧ Below w.heap.size w w' := by
  have HF : Hid (RawsAt w a g off (marksRaw k n)) := hf
  clear hf
  go_enter Tryz.func18, Tryz.ntmps18
  go_wp2
  go_loopw [1, 5] (fun x i wr => ∃ j : Nat, j ≤ n ∧ i = .int .i64 (j : Int) ∧ x = .int .i64 ((k + 4 * j : Nat) : Int) ∧ Below w.heap.size w wr) (fun _ i _ => n - (intOf i).toNat)
  case atStart => exact ⟨0, Nat.zero_le _, rfl, rfl, Below.refl _ _⟩
  case round =>
    obtain ⟨j, hj, rfl, rfl, hbel⟩ := hrel
    by_cases hlt : j < n
    · have hjl : j < (marksRaw k n).length := by rw [marksRaw_len]; exact hlt
      obtain ⟨c0, c1, c2, c3⟩ := (HF.out.kept hbel).2 j hjl
      have hgz := (HF.out.kept hbel).lt (by omega)
      rw [marksRaw_at] at c0 c1 c2 c3
      have ea := HF.out.1 (by omega)
      subst ea
      have hk0 : (0 : Int) ≤ (j : Int) := by omega
      have hk1 : (j : Int) < (n : Int) := by omega
      obtain ⟨M, hM⟩ : ∃ M : Nat, M = k + 4 * j := ⟨_, rfl⟩
      have hMb : 0 < M ∧ M ≤ 900000000 := by omega
      have HM : Hid (M = k + 4 * j) := hM
      rw [← hM] at c0 c1 c2 c3 ⊢
      clear hM hjl
      simp only [markRaw1] at c0 c1 c2 c3
      go_wp2
      go_region_held3 (fun w' => w'.cell? ⟨g, off + j * 4 + 1, none⟩ = some (.string (mk_pk (M + 1)))) (first | go_keep | exact (hb1.cell (p := ⟨g, off + j * 4 + 1, none⟩) hgz).trans c1) (first | (go_at_call 55; refine (markText_at_pk M 1 _ (by omega) (by omega) (by omega) _).mono ?_; rintro e w1 ⟨rfl, hb1⟩))
      all_goals
        have d2 := (hb1.cell (p := ⟨g, off + j * 4 + 2, none⟩) hgz).trans c2
        have d3 := (hb1.cell (p := ⟨g, off + j * 4 + 3, none⟩) hgz).trans c3
        have hB1 : Below w.heap.size w w1 := (hbel.drew).trans (hb1.mono hbel.size)
        have hgz1 : g < w1.heap.size := Nat.lt_of_lt_of_le hgz hb1.size
        clear hb1 c0 c1 c2 c3
        go_wp2
        go_region_held3 (fun w' => w'.cell? ⟨g, off + j * 4 + 2, none⟩ = some (.string (mk_pk (M + 2)))) (first | go_keep | exact (hb2.cell (p := ⟨g, off + j * 4 + 2, none⟩) hgz1).trans d2) (first | (go_at_call 55; refine (markText_at_pk M 2 _ (by omega) (by omega) (by omega) _).mono ?_; rintro e w2 ⟨rfl, hb2⟩))
        all_goals
          have e3 := (hb2.cell (p := ⟨g, off + j * 4 + 3, none⟩) hgz1).trans d3
          have hB2 : Below w.heap.size w w2 := (hB1.drew).trans (hb2.mono hB1.size)
          have hgz2 : g < w2.heap.size := Nat.lt_of_lt_of_le hgz1 hb2.size
          clear hb2 d2 d3
          go_wp2
          go_region_held3 (fun w' => w'.cell? ⟨g, off + j * 4 + 3, none⟩ = some (.string (mk_pk (M + 3)))) (first | go_keep | exact (hb3.cell (p := ⟨g, off + j * 4 + 3, none⟩) hgz2).trans e3) (first | (go_at_call 55; refine (markText_at_pk M 3 _ (by omega) (by omega) (by omega) _).mono ?_; rintro e w3 ⟨rfl, hb3⟩))
          all_goals
            go_wp2
            go_roundw
            case rel =>
              refine ⟨j + 1, by omega, by go_num, ?_, (hB2.drew).trans (hb3.mono hB2.size)⟩
              refine congrArg (Value.int .i64) ?_
              have := HM.out
              omega
            case measure => simp [intOf]; omega
    · have hk1 : ¬ (j : Int) < (n : Int) := by omega
      have HE : Hid (j = n) := by show _ = _; omega
      go_wp2
      go_ret
      exact ⟨by rw [← HE.out]; rfl, hbel⟩
theorem heldRawS_own {B n : Nat} {v : Value} (hlen : n ≤ 1048576) (k : Nat) (h0 : 0 < k) (hk : k ≤ 100000000) (w : World) (h : w.ownsRow B 86 4 v n (cellsRaw (marksRaw k n))) :
    Calls Tryz.prog 18 #[v, .int .i64 (k : Int)] w fun e w' => e = .returned (.int .i64 ((k + 4 * n : Nat) : Int)) ∧ Below w.heap.size w w' := by
  have h2 : w.ownsRow B 86 4 v (marksRaw k n).length (cellsRaw (marksRaw k n)) := by rw [marksRaw_len]; exact h
  obtain ⟨a, g, cap, h3, h4⟩ := cellsRaw_slice h2
  rw [marksRaw_len] at h3
  subst h3
  exact heldRawS_is n hlen k h0 hk w h4
set_option maxHeartbeats 4000000 in
set_option maxRecDepth 100000 in
theorem eqShelf_same {b b' : Nat} {va vc vd va' vc' vd' : Value} (s : ShelfL) (h1 : s.man.segs.length ≤ 100) (h2 : s.man.conf.length ≤ 100) (h3 : s.dir.length ≤ 100) (w : World) (hA : ShOwn b s va vc vd w) (hB : ShOwn b' s va' vc' vd' w) :
    Calls Tryz.prog 11 #[shV s va vc vd, shV s va' vc' vd'] w fun e w' => e = .returned (.bool true) ∧ Below w.heap.size w w' := by
  obtain ⟨⟨l, x, y, z, l'⟩, d, st⟩ := s
  obtain ⟨sa, sg, sc, e1, i1⟩ := cellsI_slice hA.segs
  obtain ⟨ca, cg, cc, e2, i2⟩ := cellsI_slice hA.conf
  obtain ⟨da, dg, dc, e3, i3⟩ := cellsSpot_slice hA.dir
  obtain ⟨sa', sg', sc', e4, j1⟩ := cellsI_slice hB.segs
  obtain ⟨ca', cg', cc', e5, j2⟩ := cellsI_slice hB.conf
  obtain ⟨da', dg', dc', e6, j3⟩ := cellsSpot_slice hB.dir
  subst e1 e2 e3 e4 e5 e6
  unfold shV cells7
  simp only at h1 h2 h3 i1 i2 i3 j1 j2 j3 ⊢
  obtain ⟨W, hW⟩ : ∃ W, W = (w.alloc (.cells #[.slice sa l.length sc, .int .i64 x, .int .i64 y, .int .i64 z, .slice ca l'.length cc, .slice da d.length dc, .int .i64 st] 31)).alloc (.cells #[.slice sa' l.length sc', .int .i64 x, .int .i64 y, .int .i64 z, .slice ca' l'.length cc', .slice da' d.length dc', .int .i64 st] 31) := ⟨_, rfl⟩
  have hb : Below w.heap.size w W := by rw [hW]; exact ((Below.refl _ _).alloc (Nat.le_refl _) _).alloc (by simp) _
  have hp0 : W.heap[w.heap.size]? = some (.cells #[.slice sa l.length sc, .int .i64 x, .int .i64 y, .int .i64 z, .slice ca l'.length cc, .slice da d.length dc, .int .i64 st] 31 (0, 0)) := by
    rw [hW, Below.heap_alloc _ _ _ (by simp)]; exact heap_alloc_new w _
  have hp1 : W.heap[w.heap.size + 1]? = some (.cells #[.slice sa' l.length sc', .int .i64 x, .int .i64 y, .int .i64 z, .slice ca' l'.length cc', .slice da' d.length dc', .int .i64 st] 31 (0, 0)) := by
    rw [hW]; have := heap_alloc_new (w.alloc (.cells #[.slice sa l.length sc, .int .i64 x, .int .i64 y, .int .i64 z, .slice ca l'.length cc, .slice da d.length dc, .int .i64 st] 31)) (.cells #[.slice sa' l.length sc', .int .i64 x, .int .i64 y, .int .i64 z, .slice ca' l'.length cc', .slice da' d.length dc', .int .i64 st] 31); simpa using this
  have HP0 : Hid (W.heap[w.heap.size]? = some (.cells #[.slice sa l.length sc, .int .i64 x, .int .i64 y, .int .i64 z, .slice ca l'.length cc, .slice da d.length dc, .int .i64 st] 31 (0, 0))) := hp0
  have HP1 : Hid (W.heap[w.heap.size + 1]? = some (.cells #[.slice sa' l.length sc', .int .i64 x, .int .i64 y, .int .i64 z, .slice ca' l'.length cc', .slice da' d.length dc', .int .i64 st] 31 (0, 0))) := hp1
  have HB : Hid (Below w.heap.size w W) := hb
  have HM : Hid (Calls Tryz.prog 48 #[manV ⟨l, x, y, z, l'⟩ sa sc ca cc, manV ⟨l, x, y, z, l'⟩ sa' sc' ca' cc'] W fun e w' => e = .returned (.bool true) ∧ Below W.heap.size W w') := eqMan_same ⟨l, x, y, z, l'⟩ (by simp only; omega) (by simp only; omega) W (i1.kept hb) (i2.kept hb) (j1.kept hb) (j2.kept hb)
  have HD : Hid (∀ W1, Below W.heap.size W W1 → Calls Tryz.prog 49 #[.slice da d.length dc, .slice da' d.length dc'] W1 fun e w' => e = .returned (.bool true) ∧ Below W1.heap.size W1 w') := fun W1 h => eqSpotS_same d (by omega) W1 ((i3.kept hb).kept h) ((j3.kept hb).kept h)
  unfold manV at HM
  clear hA hB i1 i2 i3 j1 j2 j3 hb
  obtain ⟨⟨c0, c1, c2, c3, c4, c5, c6⟩, _⟩ := seven_cells hp0
  obtain ⟨⟨d0, d1, d2, d3, d4, d5, d6⟩, _⟩ := seven_cells hp1
  clear hp0 hp1
  rw [hW] at c0 c1 c2 c3 c4 c5 c6 d0 d1 d2 d3 d4 d5 d6
  go_enter Tryz.func11, Tryz.ntmps11
  go_wp2_with fail
  rw [← hW]
  clear hW c0 c1 c2 c3 c4 c5 c6 d0 d1 d2 d3 d4 d5 d6
  refine Calls.mono HM.out ?_
  rintro e w1 ⟨rfl, hb1⟩
  have q0 := (hb1.block _ (Array.getElem?_eq_some_iff.1 HP0.out).1).trans HP0.out
  have q1 := (hb1.block _ (Array.getElem?_eq_some_iff.1 HP1.out).1).trans HP1.out
  obtain ⟨⟨c0, c1, c2, c3, c4, c5, c6⟩, _⟩ := seven_cells q0
  obtain ⟨⟨d0, d1, d2, d3, d4, d5, d6⟩, _⟩ := seven_cells q1
  have HQ0 : Hid _ := q0
  have HQ1 : Hid _ := q1
  have HB1 : Hid (Below W.heap.size W w1) := hb1
  clear q0 q1 hb1 HP0 HP1 HM
  go_wp2_with fail
  refine Calls.mono (HD.out _ HB1.out) ?_
  rintro e w2 ⟨rfl, hb2⟩
  have q0 := (hb2.block _ (Array.getElem?_eq_some_iff.1 HQ0.out).1).trans HQ0.out
  have q1 := (hb2.block _ (Array.getElem?_eq_some_iff.1 HQ1.out).1).trans HQ1.out
  clear c0 c1 c2 c3 c4 c5 c6 d0 d1 d2 d3 d4 d5 d6 HQ0 HQ1
  obtain ⟨⟨c0, c1, c2, c3, c4, c5, c6⟩, _⟩ := seven_cells q0
  obtain ⟨⟨d0, d1, d2, d3, d4, d5, d6⟩, _⟩ := seven_cells q1
  have HB2 : Hid (Below w.heap.size w w2) := HB.out.trans ((HB1.out.trans (hb2.mono HB1.out.size)).mono HB.out.size)
  clear q0 q1 hb2
  go_wp2
  go_ret
  exact ⟨rfl, HB2.out⟩
set_option maxHeartbeats 2000000 in
theorem markMan_two {v1 v2 : Value} {B : Nat} {x y z : Int} (l l' : List Int) (h1 : l.length ≤ 1000) (h2 : l'.length ≤ 1000) (w : World) (hA : w.ownsRow B 3 1 v1 l.length (cellsI l)) (hB : w.ownsRow B 3 1 v2 l'.length (cellsI l')) (hap : Apart v1 v2) :
    Calls Tryz.prog 53 #[.agg #[v1, .int .i64 x, .int .i64 y, .int .i64 z, v2], .int .i64 1] w fun e w' => e = .returned (.int .i64 ((1 + l.length + l'.length : Nat) : Int)) ∧ w'.ownsRow B 3 1 v1 l.length (cellsI (marksI 1 l.length)) ∧ w'.ownsRow B 3 1 v2 l'.length (cellsI (marksI (1 + l.length) l'.length)) ∧ ∃ w1, w.grownBy w1 v1.ownBlock ∧ w1.ownsRow B 3 1 v1 l.length (cellsI (marksI 1 l.length)) ∧ w1.grownBy w' v2.ownBlock := by
  obtain ⟨va1, vc1, hv1⟩ := own_slice hA
  obtain ⟨va2, vc2, hv2⟩ := own_slice hB
  subst hv1 hv2
  obtain ⟨W, hW⟩ : ∃ W, W = w.alloc (.cells #[.slice va1 l.length vc1, .int .i64 x, .int .i64 y, .int .i64 z, .slice va2 l'.length vc2] 28) := ⟨_, rfl⟩
  have hb : Below w.heap.size w W := by rw [hW]; exact (Below.refl _ _).alloc (Nat.le_refl _) _
  have hp : W.heap[w.heap.size]? = some (.cells #[.slice va1 l.length vc1, .int .i64 x, .int .i64 y, .int .i64 z, .slice va2 l'.length vc2] 28 (0, 0)) := by rw [hW]; exact heap_alloc_new w _
  have HA : Hid (W.ownsRow B 3 1 (.slice va1 l.length vc1) l.length (cellsI l)) := own_kept hA hb
  have HB : Hid (W.ownsRow B 3 1 (.slice va2 l'.length vc2) l'.length (cellsI l')) := own_kept hB hb
  have HP : Hid (_ = _) := hp
  have HAP : Hid (Apart (.slice va1 l.length vc1) (.slice va2 l'.length vc2)) := hap
  have HG : Hid (Below w.heap.size w W) := hb
  have hk1 := markIntS_own l (by omega) 1 (by omega) W HA.out
  clear hA hB hap hp hb
  go_enter Tryz.func53, Tryz.ntmps53
  go_wp2_with fail
  rw [← hW]
  clear hW
  refine hk1.mono ?_
  rintro e w1 ⟨rfl, ho1, hg1⟩
  have hp1 := grown_keep' HP.out hg1 (own_not HA.out HP.out (by decide))
  have HO1 : Hid (w1.ownsRow B 3 1 (.slice va1 l.length vc1) l.length (cellsI (marksI 1 l.length))) := ho1
  have HB1 : Hid (w1.ownsRow B 3 1 (.slice va2 l'.length vc2) l'.length (cellsI l')) := HB.out.kept hg1 (apart_ne' HAP.out)
  have HG1 : Hid (w.grownBy w1 (Value.slice va1 l.length vc1).ownBlock) := (grown_of HG.out _).trans hg1
  have c4 := cell_of_row _ _ 4 _ _ _ hp1
  simp at c4
  have hk2 := markIntS_own l' (by omega) (1 + l.length) (by omega) w1 HB1.out
  have HK2 : Hid _ := hk2
  clear hk1 hk2 ho1 hg1 hp1
  go_wp2_with fail
  refine Calls.mono HK2.out ?_
  rintro e w2 ⟨rfl, ho2, hg2⟩
  have HO2 : Hid (w2.ownsRow B 3 1 (.slice va2 l'.length vc2) l'.length (cellsI (marksI (1 + l.length) l'.length))) := ho2
  have HG2 : Hid (w1.grownBy w2 (Value.slice va2 l'.length vc2).ownBlock) := hg2
  have HO3 : Hid (w2.ownsRow B 3 1 (.slice va1 l.length vc1) l.length (cellsI (marksI 1 l.length))) := HO1.out.kept hg2 (apart_ne HAP.out)
  clear ho2 hg2 HK2
  go_wp2
  go_ret
  exact ⟨rfl, HO3.out, HO2.out, w1, HG1.out, HO1.out, HG2.out⟩
/-- The three rows of a shelf, marked one behind the other. -/
def Marked (B : Nat) (nl nc nd : Nat) (va vc vd : Value) (w w' : World) : Prop := ∃ w1 w2, w.grownBy w1 va.ownBlock ∧ w1.ownsRow B 3 1 va nl (cellsI (marksI 1 nl)) ∧ w1.grownBy w2 vc.ownBlock ∧ w2.ownsRow B 3 1 vc nc (cellsI (marksI (1 + nl) nc)) ∧ w2.grownBy w' vd.ownBlock ∧ w'.ownsRow B 135 4 vd nd (cellsSpot (marksSpot (1 + nl + nc) nd))
set_option maxHeartbeats 4000000 in
set_option maxRecDepth 100000 in
theorem markShelf_is {B : Nat} {va vc vd : Value} (s : ShelfL) (h1 : s.man.segs.length ≤ 100) (h2 : s.man.conf.length ≤ 100) (h3 : s.dir.length ≤ 100) (w : World) (hA : ShOwn B s va vc vd w) (hap : Apart va vc) :
    Calls Tryz.prog 15 #[shV s va vc vd, .int .i64 1] w fun e w' => e = .returned (.int .i64 ((1 + s.man.segs.length + s.man.conf.length + 4 * s.dir.length : Nat) : Int)) ∧ Marked B s.man.segs.length s.man.conf.length s.dir.length va vc vd w w' := by
  obtain ⟨⟨l, x, y, z, l'⟩, d, st⟩ := s
  have hS := hA.segs
  have hC := hA.conf
  have hD := hA.dir
  obtain ⟨sa, sc, e1⟩ := own_slice hS
  obtain ⟨ca, cc, e2⟩ := own_slice hC
  obtain ⟨da, dc, e3⟩ := own_slice hD
  subst e1 e2 e3
  unfold shV cells7
  simp only at h1 h2 h3 hS hC hD hap ⊢
  obtain ⟨W, hW⟩ : ∃ W, W = w.alloc (.cells #[.slice sa l.length sc, .int .i64 x, .int .i64 y, .int .i64 z, .slice ca l'.length cc, .slice da d.length dc, .int .i64 st] 31) := ⟨_, rfl⟩
  have hb : Below w.heap.size w W := by rw [hW]; exact (Below.refl _ _).alloc (Nat.le_refl _) _
  have hp : W.heap[w.heap.size]? = some (.cells #[.slice sa l.length sc, .int .i64 x, .int .i64 y, .int .i64 z, .slice ca l'.length cc, .slice da d.length dc, .int .i64 st] 31 (0, 0)) := by rw [hW]; exact heap_alloc_new w _
  have HP : Hid (W.heap[w.heap.size]? = some (.cells #[.slice sa l.length sc, .int .i64 x, .int .i64 y, .int .i64 z, .slice ca l'.length cc, .slice da d.length dc, .int .i64 st] 31 (0, 0))) := hp
  have HS : Hid (W.ownsRow B 3 1 (.slice sa l.length sc) l.length (cellsI l)) := own_kept hS hb
  have HC : Hid (W.ownsRow B 3 1 (.slice ca l'.length cc) l'.length (cellsI l')) := own_kept hC hb
  have HD : Hid (W.ownsRow B 135 4 (.slice da d.length dc) d.length (cellsSpot d)) := own_kept hD hb
  have HAP : Hid (Apart (.slice sa l.length sc) (.slice ca l'.length cc)) := hap
  have HG : Hid (Below w.heap.size w W) := hb
  clear hA hS hC hD hap hb
  obtain ⟨⟨c0, c1, c2, c3, c4, c5, c6⟩, _⟩ := seven_cells hp
  clear hp
  rw [hW] at c0 c1 c2 c3 c4 c5 c6
  go_enter Tryz.func15, Tryz.ntmps15
  go_wp2_with fail
  rw [← hW]
  clear hW c0 c1 c2 c3 c4 c5 c6
  refine Calls.mono (markMan_two l l' (by omega) (by omega) W HS.out HC.out HAP.out) ?_
  rintro e w2 ⟨rfl, o1, o2, w1, g1, o1', g2⟩
  have p1 := grown_keep' HP.out g1 (own_not HS.out HP.out (by decide))
  have p2 := grown_keep' p1 g2 (own_not (HC.out.kept g1 (apart_ne' HAP.out)) p1 (by decide))
  obtain ⟨⟨c0, c1, c2, c3, c4, c5, c6⟩, _⟩ := seven_cells p2
  have D1 := own_other HD.out HS.out (by decide) g1
  have D2 := own_other D1 (HC.out.kept g1 (apart_ne' HAP.out)) (by decide) g2
  have HF : Hid (∀ w3, w2.grownBy w3 (Value.slice da d.length dc).ownBlock → w3.ownsRow B 135 4 (.slice da d.length dc) d.length (cellsSpot (marksSpot (1 + l.length + l'.length) d.length)) → Marked B l.length l'.length d.length (.slice sa l.length sc) (.slice ca l'.length cc) (.slice da d.length dc) w w3) := fun w3 h4 h5 => ⟨w1, w2, (grown_of HG.out _).trans g1, o1', g2, o2, h4, h5⟩
  have HK : Hid _ := markSpotS_own d (by omega) (1 + l.length + l'.length) (by omega) (by omega) w2 D2
  clear o1 o2 g1 o1' g2 p1 p2 D1 D2
  go_wp2_with fail
  refine Calls.mono HK.out ?_
  rintro e w3 ⟨rfl, o3, g3⟩
  have HFin := HF.out w3 g3 o3
  clear o3 g3 HK HF
  go_wp2
  go_ret
  exact ⟨rfl, HFin⟩
set_option maxHeartbeats 4000000 in
set_option maxRecDepth 100000 in
theorem heldShelf_is {B : Nat} {va vc vd : Value} {x y z st : Int} (nl nc nd : Nat) (h1 : nl ≤ 100) (h2 : nc ≤ 100) (h3 : nd ≤ 100) (w : World) (hS : w.ownsRow B 3 1 va nl (cellsI (marksI 1 nl))) (hC : w.ownsRow B 3 1 vc nc (cellsI (marksI (1 + nl) nc))) (hD : w.ownsRow B 135 4 vd nd (cellsSpot (marksSpot (1 + nl + nc) nd))) :
    Calls Tryz.prog 17 #[.agg #[va, .int .i64 x, .int .i64 y, .int .i64 z, vc, vd, .int .i64 st], .int .i64 1] w fun e w' => e = .returned (.int .i64 ((1 + nl + nc + 4 * nd : Nat) : Int)) ∧ Below w.heap.size w w' := by
  obtain ⟨sa, sc, e1⟩ := own_slice hS
  obtain ⟨ca, cc, e2⟩ := own_slice hC
  have hD2 : w.ownsRow B 135 4 vd (marksSpot (1 + nl + nc) nd).length (cellsSpot (marksSpot (1 + nl + nc) nd)) := by rw [marksSpot_len]; exact hD
  obtain ⟨da, dg, dc, e3, i3⟩ := cellsSpot_slice hD2
  rw [marksSpot_len] at e3
  subst e1 e2 e3
  obtain ⟨W, hW⟩ : ∃ W, W = w.alloc (.cells #[.slice sa nl sc, .int .i64 x, .int .i64 y, .int .i64 z, .slice ca nc cc, .slice da nd dc, .int .i64 st] 31) := ⟨_, rfl⟩
  have hb : Below w.heap.size w W := by rw [hW]; exact (Below.refl _ _).alloc (Nat.le_refl _) _
  have hp : W.heap[w.heap.size]? = some (.cells #[.slice sa nl sc, .int .i64 x, .int .i64 y, .int .i64 z, .slice ca nc cc, .slice da nd dc, .int .i64 st] 31 (0, 0)) := by rw [hW]; exact heap_alloc_new w _
  have HP : Hid (W.heap[w.heap.size]? = some (.cells #[.slice sa nl sc, .int .i64 x, .int .i64 y, .int .i64 z, .slice ca nc cc, .slice da nd dc, .int .i64 st] 31 (0, 0))) := hp
  have HM : Hid (Calls Tryz.prog 56 #[.agg #[.slice sa nl sc, .int .i64 x, .int .i64 y, .int .i64 z, .slice ca nc cc], .int .i64 1] W fun e w' => e = .returned (.int .i64 ((1 + nl + nc : Nat) : Int)) ∧ Below W.heap.size W w') := heldMan_is nl nc (by omega) (by omega) W (own_kept hS hb) (own_kept hC hb)
  have HD : Hid (∀ W1, Below W.heap.size W W1 → Calls Tryz.prog 57 #[.slice da nd dc, .int .i64 ((1 + nl + nc : Nat) : Int)] W1 fun e w' => e = .returned (.int .i64 ((1 + nl + nc + 4 * nd : Nat) : Int)) ∧ Below W1.heap.size W1 w') := fun W1 h => heldSpotS_is nd (by omega) (1 + nl + nc) (by omega) (by omega) W1 ((i3.kept hb).kept h)
  have HB : Hid (Below w.heap.size w W) := hb
  clear hS hC hD hD2 i3 hb
  obtain ⟨⟨c0, c1, c2, c3, c4, c5, c6⟩, _⟩ := seven_cells hp
  clear hp
  rw [hW] at c0 c1 c2 c3 c4 c5 c6
  go_enter Tryz.func17, Tryz.ntmps17
  go_wp2_with fail
  rw [← hW]
  clear hW c0 c1 c2 c3 c4 c5 c6
  refine Calls.mono HM.out ?_
  rintro e w1 ⟨rfl, hb1⟩
  have q0 := (hb1.block _ (Array.getElem?_eq_some_iff.1 HP.out).1).trans HP.out
  obtain ⟨⟨c0, c1, c2, c3, c4, c5, c6⟩, _⟩ := seven_cells q0
  have HB1 : Hid (Below W.heap.size W w1) := hb1
  have hn : ¬ ((1 + nl + nc : Nat) : Int) < 0 := by omega
  clear q0 hb1 HM HP
  go_wp2_with fail
  refine Calls.mono (HD.out _ HB1.out) ?_
  rintro e w2 ⟨rfl, hb2⟩
  have hn2 : ¬ ((1 + nl + nc + 4 * nd : Nat) : Int) < 0 := by omega
  have HB2 : Hid (Below w.heap.size w w2) := HB.out.trans ((HB1.out.trans (hb2.mono HB1.out.size)).mono HB.out.size)
  clear hb2 c0 c1 c2 c3 c4 c5 c6
  go_wp2
  go_ret
  exact ⟨rfl, HB2.out⟩
end Go.Proofs.YtjpokcjpogkafaaGreatDoor
