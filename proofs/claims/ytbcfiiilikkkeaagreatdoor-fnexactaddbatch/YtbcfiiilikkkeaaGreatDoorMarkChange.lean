/- Manifests as the laws mark them: markManifest, heldManifest, walked. Spots are found marked: heldSpotS, walked. Shelves held against each other, marked, found marked; raw writes found marked; how small what OpenShelf answers is. Lists of changes in memory, 3 cells each; measured, copied, held against each other, marked. Made by program. Changes are marked, and found marked: markChangeS, heldChangeS, markBatch, heldBatch, walked. -/
import Derived.Test.YtbcfiiilikkkeaaGreatDoorManText
import Derived.Test.YtbcfiiilikkkeaaGreatDoorWholeM
import Derived.Test.YtbcfiiilikkkeaaGreatDoorLSpot
import Derived.Deep.RegionHeld3
import Derived.Test.YtbcfiiilikkkeaaGreatDoorSpecOpen
import Derived.Test.YtbcfiiilikkkeaaGreatDoorMathComes2
import Derived.Test.YtbcfiiilikkkeaaGreatDoorLChange
import Derived.Test.YtbcfiiilikkkeaaGreatDoorMathDir
import Derived.Laws.AppendOwnNone
import Derived.Deep.DeepCutAuto
namespace Go.Proofs.YtbcfiiilikkkeaaGreatDoor
open Go.RowKit
set_option linter.unusedVariables false

theorem apart_ne {v1 v2 : Value} (h : Apart v1 v2) : v1.ownBlock = none ∨ v1.ownBlock ≠ v2.ownBlock := by
  cases e : v1.ownBlock with
  | none => exact Or.inl rfl
  | some g => exact Or.inr (fun e2 => h g e e2.symm)
theorem apart_ne' {v1 v2 : Value} (h : Apart v1 v2) : v2.ownBlock = none ∨ v2.ownBlock ≠ v1.ownBlock := by
  cases e : v2.ownBlock with
  | none => exact Or.inl rfl
  | some g => exact Or.inr (fun e2 => h g e2.symm e)
set_option maxHeartbeats 2000000 in
theorem heldMan_is {v1 v2 : Value} {B1 B2 : Nat} {x y z : Int} (n n' : Nat) (h1 : n ≤ 1000) (h2 : n' ≤ 1000) (w : World) (hA : w.ownsRow B1 3 1 v1 n (cellsI (marksI 1 n))) (hB : w.ownsRow B2 3 1 v2 n' (cellsI (marksI (1 + n) n'))) :
    Calls Tryz.prog 85 #[.agg #[v1, .int .i64 x, .int .i64 y, .int .i64 z, v2], .int .i64 1] w fun e w' => e = .returned (.int .i64 ((1 + n + n' : Nat) : Int)) ∧ Below w.heap.size w w' := by
  obtain ⟨va1, g1, vc1, e1, at1⟩ := cellsI_slice (l := marksI 1 n) (by rw [marksI_len]; exact hA)
  obtain ⟨va2, g2, vc2, e2, at2⟩ := cellsI_slice (l := marksI (1 + n) n') (by rw [marksI_len]; exact hB)
  rw [marksI_len] at e1 e2
  subst e1 e2
  obtain ⟨W, hW⟩ : ∃ W, W = w.alloc (.cells #[.slice va1 n vc1, .int .i64 x, .int .i64 y, .int .i64 z, .slice va2 n' vc2] 37) := ⟨_, rfl⟩
  have hb : Below w.heap.size w W := by rw [hW]; exact (Below.refl _ _).alloc (Nat.le_refl _) _
  have hp : W.heap[w.heap.size]? = some (.cells #[.slice va1 n vc1, .int .i64 x, .int .i64 y, .int .i64 z, .slice va2 n' vc2] 37 (0, 0)) := by rw [hW]; exact heap_alloc_new w _
  have HA : Hid (IntAt W va1 g1 0 (marksI 1 n)) := at1.kept hb
  have HB : Hid (IntAt W va2 g2 0 (marksI (1 + n) n')) := at2.kept hb
  have HG : Hid (Below w.heap.size w W) := hb
  have c4 := cell_of_row _ _ 4 _ _ _ hp
  simp at c4
  clear hA hB at1 at2 hp hb
  go_enter Tryz.func85, Tryz.ntmps85
  go_wp2_with fail
  rw [← hW]
  clear hW
  refine (heldIntS_is (by omega) 1 (by omega) W HA.out).mono ?_
  rintro e w1 ⟨rfl, rfl⟩
  go_wp2_with fail
  refine (heldIntS_is (by omega) (1 + n) (by omega) W HB.out).mono ?_
  rintro e w2 ⟨rfl, rfl⟩
  go_wp2
  go_ret
  exact ⟨rfl, HG.out⟩
end Go.Proofs.YtbcfiiilikkkeaaGreatDoor
namespace Go.Proofs.YtbcfiiilikkkeaaGreatDoor
open Go.RowKit
set_option linter.unusedVariables false
set_option linter.unusedSimpArgs false

set_option maxHeartbeats 2000000 in
set_option maxRecDepth 100000 in
theorem heldSpotS_is {a : Option Addr} {g off cap : Nat} (n : Nat) (hlen : n ≤ 1048576) (k : Nat) (h0 : 0 < k) (hk : k ≤ 100000000) (w : World) (hf : SpotAt w a g off (marksSpot k n)) :
    Calls Tryz.prog 86 #[.slice a n cap, .int .i64 (k : Int)] w fun e w' => e = .returned (.int .i64 ((k + 4 * n : Nat) : Int)) ∧ Below w.heap.size w w' := by
  have HF : Hid (SpotAt w a g off (marksSpot k n)) := hf
  clear hf
  go_enter Tryz.func86, Tryz.ntmps86
  go_wp2
  go_loopw [1, 5] (fun x i wr => ∃ j : Nat, j ≤ n ∧ i = .int .i64 (j : Int) ∧ x = .int .i64 ((k + 4 * j : Nat) : Int) ∧ Below w.heap.size w wr) (fun _ i _ => n - (intOf i).toNat)
  case atStart => exact ⟨0, Nat.zero_le _, rfl, rfl, Below.refl _ _⟩
  case round =>
    obtain ⟨j, hj, rfl, rfl, hbel⟩ := hrel
    by_cases hlt : j < n
    · have hjl : j < (marksSpot k n).length := by rw [marksSpot_len]; exact hlt
      obtain ⟨c0, c1, c2, c3⟩ := (HF.out.kept hbel).2 j hjl
      have hgz := (HF.out.kept hbel).lt (by omega)
      rw [marksSpot_at] at c0 c1 c2 c3
      have ea := HF.out.1 (by omega)
      subst ea
      have hk0 : (0 : Int) ≤ (j : Int) := by omega
      have hk1 : (j : Int) < (n : Int) := by omega
      obtain ⟨M, hM⟩ : ∃ M : Nat, M = k + 4 * j := ⟨_, rfl⟩
      have hMb : 0 < M ∧ M ≤ 900000000 := by omega
      have HM : Hid (M = k + 4 * j) := hM
      rw [← hM] at c0 c1 c2 c3 ⊢
      clear hM hjl
      simp only [markSpot1] at c0 c1 c2 c3
      have e1 : ((M + 1 : Nat) : Int) = (M : Int) + 1 := by omega
      have e2 : ((M + 2 : Nat) : Int) = (M : Int) + 1 + 1 := by omega
      have e3 : ((M + 3 : Nat) : Int) = (M : Int) + 1 + 1 + 1 := by omega
      rw [e1] at c1
      rw [e2] at c2
      rw [e3] at c3
      clear e1 e2 e3
      go_wp2
      go_region_held3 (fun w' => w'.cell? ⟨g, off + j * 4, none⟩ = some (.string (mk M))) (first | go_keep | exact (hb1.cell (p := ⟨g, off + j * 4, none⟩) hgz).trans c0) (first | (go_at_call 84; refine (markText_is M hMb.1 (by omega) _).mono ?_; rintro e w1 ⟨rfl, hb1⟩))
      all_goals
        have d1 := (hb1.cell (p := ⟨g, off + j * 4 + 1, none⟩) hgz).trans c1
        have d2 := (hb1.cell (p := ⟨g, off + j * 4 + 2, none⟩) hgz).trans c2
        have d3 := (hb1.cell (p := ⟨g, off + j * 4 + 3, none⟩) hgz).trans c3
        have hB1 : Below w.heap.size w w1 := (hbel.drew).trans (hb1.mono hbel.size)
        clear hb1 c0 c1 c2 c3
        go_wp2
        go_roundw
        case rel =>
          refine ⟨j + 1, by omega, by go_num, ?_, hB1⟩
          refine congrArg (Value.int .i64) ?_
          have := HM.out
          omega
        case measure => simp [intOf]; omega
    · have hk1 : ¬ (j : Int) < (n : Int) := by omega
      have HE : Hid (j = n) := by show _ = _; omega
      go_wp2
      go_ret
      exact ⟨by rw [← HE.out]; rfl, hbel⟩
end Go.Proofs.YtbcfiiilikkkeaaGreatDoor
namespace Go.Proofs.YtbcfiiilikkkeaaGreatDoor
open Go.RowKit
set_option linter.unusedVariables false
set_option linter.unusedSimpArgs false

namespace Shelves
theorem open_small {l : List FileL} {s : ShelfL} {rs : List Disks.RawL} {c : Int} (h : OpenIs l s rs c) : s.man.segs.length ≤ 100 ∧ s.man.conf.length ≤ 100 ∧ s.dir.length ≤ 100 ∧ rs.length ≤ 100 := by
  obtain ⟨e, h1, h2⟩ := open_load h
  rcases h2 with ⟨rfl, rfl⟩ | ⟨_, rfl, _, rfl⟩
  · rcases h1 with ⟨h1, _⟩ | ⟨_, h1, _⟩
    · have L := load_iff.1 h1
      obtain ⟨t, _, q⟩ := L.man
      have q1 : s.man.segs.length ≤ 8 := q.2.1.2
      have q2 : s.man.conf.length ≤ 4 := ((Mans.confOk_iff).1 q.2.2.2.2.2.2).1.2
      have q3 := L.right.1
      have q4 := L.disk.1
      refine ⟨by omega, by omega, by omega, ?_⟩
      unfold cleans
      have h3 := List.length_filter_le (stray s.man) l
      simp only [List.length_append, List.length_map]
      have k1 : ∀ (p : Prop) [Decidable p] (r : Disks.RawL), (if p then [r] else []).length ≤ 1 := fun p _ r => by split <;> simp
      have k2 := k1 ((Disks.fileAt l nameNew).isSome = true) (drop1 nameNew)
      have k3 := k1 (e < (textAt l (lastOf s.man)).length) (put1 (segName (lastOf s.man)) (upTo (textAt l (lastOf s.man)) e))
      omega
    · omega
  · simp [zeroS]
end Shelves
set_option maxHeartbeats 4000000 in
set_option maxRecDepth 100000 in
theorem heldRawS_is {a : Option Addr} {g off cap : Nat} (n : Nat) (hlen : n ≤ 1048576) (k : Nat) (h0 : 0 < k) (hk : k ≤ 100000000) (w : World) (hf : RawsAt w a g off (marksRaw k n)) :
    Calls Tryz.prog 28 #[.slice a n cap, .int .i64 (k : Int)] w fun e w' => e = .returned (.int .i64 ((k + 4 * n : Nat) : Int)) ∧ Below w.heap.size w w' := by
  have HF : Hid (RawsAt w a g off (marksRaw k n)) := hf
  clear hf
  go_enter Tryz.func28, Tryz.ntmps28
  go_wp2
  go_loopw [1, 5] (fun x i wr => ∃ j : Nat, j ≤ n ∧ i = .int .i64 (j : Int) ∧ x = .int .i64 ((k + 4 * j : Nat) : Int) ∧ Below w.heap.size w wr) (fun _ i _ => n - (intOf i).toNat)
  case atStart => exact ⟨0, Nat.zero_le _, rfl, rfl, Below.refl _ _⟩
  case round =>
    obtain ⟨j, hj, rfl, rfl, hbel⟩ := hrel
    by_cases hlt : j < n
    · have hjl : j < (marksRaw k n).length := by rw [marksRaw_len]; exact hlt
      obtain ⟨c0, c1, c2, c3⟩ := (HF.out.kept hbel).2 j hjl
      have hgz := (HF.out.kept hbel).lt (by omega)
      rw [marksRaw_at] at c0 c1 c2 c3
      have ea := HF.out.1 (by omega)
      subst ea
      have hk0 : (0 : Int) ≤ (j : Int) := by omega
      have hk1 : (j : Int) < (n : Int) := by omega
      obtain ⟨M, hM⟩ : ∃ M : Nat, M = k + 4 * j := ⟨_, rfl⟩
      have hMb : 0 < M ∧ M ≤ 900000000 := by omega
      have HM : Hid (M = k + 4 * j) := hM
      rw [← hM] at c0 c1 c2 c3 ⊢
      clear hM hjl
      simp only [markRaw1] at c0 c1 c2 c3
      go_wp2
      go_region_held3 (fun w' => w'.cell? ⟨g, off + j * 4 + 1, none⟩ = some (.string (mk_pk (M + 1)))) (first | go_keep | exact (hb1.cell (p := ⟨g, off + j * 4 + 1, none⟩) hgz).trans c1) (first | (go_at_call 84; refine (markText_at_pk M 1 _ (by omega) (by omega) (by omega) _).mono ?_; rintro e w1 ⟨rfl, hb1⟩))
      all_goals
        have d2 := (hb1.cell (p := ⟨g, off + j * 4 + 2, none⟩) hgz).trans c2
        have d3 := (hb1.cell (p := ⟨g, off + j * 4 + 3, none⟩) hgz).trans c3
        have hB1 : Below w.heap.size w w1 := (hbel.drew).trans (hb1.mono hbel.size)
        have hgz1 : g < w1.heap.size := Nat.lt_of_lt_of_le hgz hb1.size
        clear hb1 c0 c1 c2 c3
        go_wp2
        go_region_held3 (fun w' => w'.cell? ⟨g, off + j * 4 + 2, none⟩ = some (.string (mk_pk (M + 2)))) (first | go_keep | exact (hb2.cell (p := ⟨g, off + j * 4 + 2, none⟩) hgz1).trans d2) (first | (go_at_call 84; refine (markText_at_pk M 2 _ (by omega) (by omega) (by omega) _).mono ?_; rintro e w2 ⟨rfl, hb2⟩))
        all_goals
          have e3 := (hb2.cell (p := ⟨g, off + j * 4 + 3, none⟩) hgz1).trans d3
          have hB2 : Below w.heap.size w w2 := (hB1.drew).trans (hb2.mono hB1.size)
          have hgz2 : g < w2.heap.size := Nat.lt_of_lt_of_le hgz1 hb2.size
          clear hb2 d2 d3
          go_wp2
          go_region_held3 (fun w' => w'.cell? ⟨g, off + j * 4 + 3, none⟩ = some (.string (mk_pk (M + 3)))) (first | go_keep | exact (hb3.cell (p := ⟨g, off + j * 4 + 3, none⟩) hgz2).trans e3) (first | (go_at_call 84; refine (markText_at_pk M 3 _ (by omega) (by omega) (by omega) _).mono ?_; rintro e w3 ⟨rfl, hb3⟩))
          all_goals
            go_wp2
            go_roundw
            case rel =>
              refine ⟨j + 1, by omega, by go_num, ?_, (hB2.drew).trans (hb3.mono hB2.size)⟩
              refine congrArg (Value.int .i64) ?_
              have := HM.out
              omega
            case measure => simp [intOf]; omega
    · have hk1 : ¬ (j : Int) < (n : Int) := by omega
      have HE : Hid (j = n) := by show _ = _; omega
      go_wp2
      go_ret
      exact ⟨by rw [← HE.out]; rfl, hbel⟩
theorem heldRawS_own {B n : Nat} {v : Value} (hlen : n ≤ 1048576) (k : Nat) (h0 : 0 < k) (hk : k ≤ 100000000) (w : World) (h : w.ownsRow B 103 4 v n (cellsRaw (marksRaw k n))) :
    Calls Tryz.prog 28 #[v, .int .i64 (k : Int)] w fun e w' => e = .returned (.int .i64 ((k + 4 * n : Nat) : Int)) ∧ Below w.heap.size w w' := by
  have h2 : w.ownsRow B 103 4 v (marksRaw k n).length (cellsRaw (marksRaw k n)) := by rw [marksRaw_len]; exact h
  obtain ⟨a, g, cap, h3, h4⟩ := cellsRaw_slice h2
  rw [marksRaw_len] at h3
  subst h3
  exact heldRawS_is n hlen k h0 hk w h4
set_option maxHeartbeats 4000000 in
set_option maxRecDepth 100000 in
theorem eqShelf_same {b b' : Nat} {va vc vd va' vc' vd' : Value} (s : ShelfL) (h1 : s.man.segs.length ≤ 100) (h2 : s.man.conf.length ≤ 100) (h3 : s.dir.length ≤ 100) (w : World) (hA : ShOwn b s va vc vd w) (hB : ShOwn b' s va' vc' vd' w) :
    Calls Tryz.prog 19 #[shV s va vc vd, shV s va' vc' vd'] w fun e w' => e = .returned (.bool true) ∧ Below w.heap.size w w' := by
  obtain ⟨⟨l, x, y, z, l'⟩, d, st⟩ := s
  obtain ⟨sa, sg, sc, e1, i1⟩ := cellsI_slice hA.segs
  obtain ⟨ca, cg, cc, e2, i2⟩ := cellsI_slice hA.conf
  obtain ⟨da, dg, dc, e3, i3⟩ := cellsSpot_slice hA.dir
  obtain ⟨sa', sg', sc', e4, j1⟩ := cellsI_slice hB.segs
  obtain ⟨ca', cg', cc', e5, j2⟩ := cellsI_slice hB.conf
  obtain ⟨da', dg', dc', e6, j3⟩ := cellsSpot_slice hB.dir
  subst e1 e2 e3 e4 e5 e6
  unfold shV cells7
  simp only at h1 h2 h3 i1 i2 i3 j1 j2 j3 ⊢
  obtain ⟨W, hW⟩ : ∃ W, W = (w.alloc (.cells #[.slice sa l.length sc, .int .i64 x, .int .i64 y, .int .i64 z, .slice ca l'.length cc, .slice da d.length dc, .int .i64 st] 40)).alloc (.cells #[.slice sa' l.length sc', .int .i64 x, .int .i64 y, .int .i64 z, .slice ca' l'.length cc', .slice da' d.length dc', .int .i64 st] 40) := ⟨_, rfl⟩
  have hb : Below w.heap.size w W := by rw [hW]; exact ((Below.refl _ _).alloc (Nat.le_refl _) _).alloc (by simp) _
  have hp0 : W.heap[w.heap.size]? = some (.cells #[.slice sa l.length sc, .int .i64 x, .int .i64 y, .int .i64 z, .slice ca l'.length cc, .slice da d.length dc, .int .i64 st] 40 (0, 0)) := by
    rw [hW, Below.heap_alloc _ _ _ (by simp)]; exact heap_alloc_new w _
  have hp1 : W.heap[w.heap.size + 1]? = some (.cells #[.slice sa' l.length sc', .int .i64 x, .int .i64 y, .int .i64 z, .slice ca' l'.length cc', .slice da' d.length dc', .int .i64 st] 40 (0, 0)) := by
    rw [hW]; have := heap_alloc_new (w.alloc (.cells #[.slice sa l.length sc, .int .i64 x, .int .i64 y, .int .i64 z, .slice ca l'.length cc, .slice da d.length dc, .int .i64 st] 40)) (.cells #[.slice sa' l.length sc', .int .i64 x, .int .i64 y, .int .i64 z, .slice ca' l'.length cc', .slice da' d.length dc', .int .i64 st] 40); simpa using this
  have HP0 : Hid (W.heap[w.heap.size]? = some (.cells #[.slice sa l.length sc, .int .i64 x, .int .i64 y, .int .i64 z, .slice ca l'.length cc, .slice da d.length dc, .int .i64 st] 40 (0, 0))) := hp0
  have HP1 : Hid (W.heap[w.heap.size + 1]? = some (.cells #[.slice sa' l.length sc', .int .i64 x, .int .i64 y, .int .i64 z, .slice ca' l'.length cc', .slice da' d.length dc', .int .i64 st] 40 (0, 0))) := hp1
  have HB : Hid (Below w.heap.size w W) := hb
  have HM : Hid (Calls Tryz.prog 75 #[manV ⟨l, x, y, z, l'⟩ sa sc ca cc, manV ⟨l, x, y, z, l'⟩ sa' sc' ca' cc'] W fun e w' => e = .returned (.bool true) ∧ Below W.heap.size W w') := eqMan_same ⟨l, x, y, z, l'⟩ (by simp only; omega) (by simp only; omega) W (i1.kept hb) (i2.kept hb) (j1.kept hb) (j2.kept hb)
  have HD : Hid (∀ W1, Below W.heap.size W W1 → Calls Tryz.prog 76 #[.slice da d.length dc, .slice da' d.length dc'] W1 fun e w' => e = .returned (.bool true) ∧ Below W1.heap.size W1 w') := fun W1 h => eqSpotS_same d (by omega) W1 ((i3.kept hb).kept h) ((j3.kept hb).kept h)
  unfold manV at HM
  clear hA hB i1 i2 i3 j1 j2 j3 hb
  obtain ⟨⟨c0, c1, c2, c3, c4, c5, c6⟩, _⟩ := seven_cells hp0
  obtain ⟨⟨d0, d1, d2, d3, d4, d5, d6⟩, _⟩ := seven_cells hp1
  clear hp0 hp1
  rw [hW] at c0 c1 c2 c3 c4 c5 c6 d0 d1 d2 d3 d4 d5 d6
  go_enter Tryz.func19, Tryz.ntmps19
  go_wp2_with fail
  rw [← hW]
  clear hW c0 c1 c2 c3 c4 c5 c6 d0 d1 d2 d3 d4 d5 d6
  refine Calls.mono HM.out ?_
  rintro e w1 ⟨rfl, hb1⟩
  have q0 := (hb1.block _ (Array.getElem?_eq_some_iff.1 HP0.out).1).trans HP0.out
  have q1 := (hb1.block _ (Array.getElem?_eq_some_iff.1 HP1.out).1).trans HP1.out
  obtain ⟨⟨c0, c1, c2, c3, c4, c5, c6⟩, _⟩ := seven_cells q0
  obtain ⟨⟨d0, d1, d2, d3, d4, d5, d6⟩, _⟩ := seven_cells q1
  have HQ0 : Hid _ := q0
  have HQ1 : Hid _ := q1
  have HB1 : Hid (Below W.heap.size W w1) := hb1
  clear q0 q1 hb1 HP0 HP1 HM
  go_wp2_with fail
  refine Calls.mono (HD.out _ HB1.out) ?_
  rintro e w2 ⟨rfl, hb2⟩
  have q0 := (hb2.block _ (Array.getElem?_eq_some_iff.1 HQ0.out).1).trans HQ0.out
  have q1 := (hb2.block _ (Array.getElem?_eq_some_iff.1 HQ1.out).1).trans HQ1.out
  clear c0 c1 c2 c3 c4 c5 c6 d0 d1 d2 d3 d4 d5 d6 HQ0 HQ1
  obtain ⟨⟨c0, c1, c2, c3, c4, c5, c6⟩, _⟩ := seven_cells q0
  obtain ⟨⟨d0, d1, d2, d3, d4, d5, d6⟩, _⟩ := seven_cells q1
  have HB2 : Hid (Below w.heap.size w w2) := HB.out.trans ((HB1.out.trans (hb2.mono HB1.out.size)).mono HB.out.size)
  clear q0 q1 hb2
  go_wp2
  go_ret
  exact ⟨rfl, HB2.out⟩
set_option maxHeartbeats 2000000 in
theorem markMan_two {v1 v2 : Value} {B : Nat} {x y z : Int} (l l' : List Int) (h1 : l.length ≤ 1000) (h2 : l'.length ≤ 1000) (w : World) (hA : w.ownsRow B 3 1 v1 l.length (cellsI l)) (hB : w.ownsRow B 3 1 v2 l'.length (cellsI l')) (hap : Apart v1 v2) :
    Calls Tryz.prog 81 #[.agg #[v1, .int .i64 x, .int .i64 y, .int .i64 z, v2], .int .i64 1] w fun e w' => e = .returned (.int .i64 ((1 + l.length + l'.length : Nat) : Int)) ∧ w'.ownsRow B 3 1 v1 l.length (cellsI (marksI 1 l.length)) ∧ w'.ownsRow B 3 1 v2 l'.length (cellsI (marksI (1 + l.length) l'.length)) ∧ ∃ w1, w.grownBy w1 v1.ownBlock ∧ w1.ownsRow B 3 1 v1 l.length (cellsI (marksI 1 l.length)) ∧ w1.grownBy w' v2.ownBlock := by
  obtain ⟨va1, vc1, hv1⟩ := own_slice hA
  obtain ⟨va2, vc2, hv2⟩ := own_slice hB
  subst hv1 hv2
  obtain ⟨W, hW⟩ : ∃ W, W = w.alloc (.cells #[.slice va1 l.length vc1, .int .i64 x, .int .i64 y, .int .i64 z, .slice va2 l'.length vc2] 37) := ⟨_, rfl⟩
  have hb : Below w.heap.size w W := by rw [hW]; exact (Below.refl _ _).alloc (Nat.le_refl _) _
  have hp : W.heap[w.heap.size]? = some (.cells #[.slice va1 l.length vc1, .int .i64 x, .int .i64 y, .int .i64 z, .slice va2 l'.length vc2] 37 (0, 0)) := by rw [hW]; exact heap_alloc_new w _
  have HA : Hid (W.ownsRow B 3 1 (.slice va1 l.length vc1) l.length (cellsI l)) := own_kept hA hb
  have HB : Hid (W.ownsRow B 3 1 (.slice va2 l'.length vc2) l'.length (cellsI l')) := own_kept hB hb
  have HP : Hid (_ = _) := hp
  have HAP : Hid (Apart (.slice va1 l.length vc1) (.slice va2 l'.length vc2)) := hap
  have HG : Hid (Below w.heap.size w W) := hb
  have hk1 := markIntS_own l (by omega) 1 (by omega) W HA.out
  clear hA hB hap hp hb
  go_enter Tryz.func81, Tryz.ntmps81
  go_wp2_with fail
  rw [← hW]
  clear hW
  refine hk1.mono ?_
  rintro e w1 ⟨rfl, ho1, hg1⟩
  have hp1 := grown_keep' HP.out hg1 (own_not HA.out HP.out (by decide))
  have HO1 : Hid (w1.ownsRow B 3 1 (.slice va1 l.length vc1) l.length (cellsI (marksI 1 l.length))) := ho1
  have HB1 : Hid (w1.ownsRow B 3 1 (.slice va2 l'.length vc2) l'.length (cellsI l')) := HB.out.kept hg1 (apart_ne' HAP.out)
  have HG1 : Hid (w.grownBy w1 (Value.slice va1 l.length vc1).ownBlock) := (grown_of HG.out _).trans hg1
  have c4 := cell_of_row _ _ 4 _ _ _ hp1
  simp at c4
  have hk2 := markIntS_own l' (by omega) (1 + l.length) (by omega) w1 HB1.out
  have HK2 : Hid _ := hk2
  clear hk1 hk2 ho1 hg1 hp1
  go_wp2_with fail
  refine Calls.mono HK2.out ?_
  rintro e w2 ⟨rfl, ho2, hg2⟩
  have HO2 : Hid (w2.ownsRow B 3 1 (.slice va2 l'.length vc2) l'.length (cellsI (marksI (1 + l.length) l'.length))) := ho2
  have HG2 : Hid (w1.grownBy w2 (Value.slice va2 l'.length vc2).ownBlock) := hg2
  have HO3 : Hid (w2.ownsRow B 3 1 (.slice va1 l.length vc1) l.length (cellsI (marksI 1 l.length))) := HO1.out.kept hg2 (apart_ne HAP.out)
  clear ho2 hg2 HK2
  go_wp2
  go_ret
  exact ⟨rfl, HO3.out, HO2.out, w1, HG1.out, HO1.out, HG2.out⟩
/-- The three rows of a shelf, marked one behind the other. -/
def Marked (B : Nat) (nl nc nd : Nat) (va vc vd : Value) (w w' : World) : Prop := ∃ w1 w2, w.grownBy w1 va.ownBlock ∧ w1.ownsRow B 3 1 va nl (cellsI (marksI 1 nl)) ∧ w1.grownBy w2 vc.ownBlock ∧ w2.ownsRow B 3 1 vc nc (cellsI (marksI (1 + nl) nc)) ∧ w2.grownBy w' vd.ownBlock ∧ w'.ownsRow B 134 4 vd nd (cellsSpot (marksSpot (1 + nl + nc) nd))
set_option maxHeartbeats 4000000 in
set_option maxRecDepth 100000 in
theorem markShelf_is {B : Nat} {va vc vd : Value} (s : ShelfL) (h1 : s.man.segs.length ≤ 100) (h2 : s.man.conf.length ≤ 100) (h3 : s.dir.length ≤ 100) (w : World) (hA : ShOwn B s va vc vd w) (hap : Apart va vc) :
    Calls Tryz.prog 24 #[shV s va vc vd, .int .i64 1] w fun e w' => e = .returned (.int .i64 ((1 + s.man.segs.length + s.man.conf.length + 4 * s.dir.length : Nat) : Int)) ∧ Marked B s.man.segs.length s.man.conf.length s.dir.length va vc vd w w' := by
  obtain ⟨⟨l, x, y, z, l'⟩, d, st⟩ := s
  have hS := hA.segs
  have hC := hA.conf
  have hD := hA.dir
  obtain ⟨sa, sc, e1⟩ := own_slice hS
  obtain ⟨ca, cc, e2⟩ := own_slice hC
  obtain ⟨da, dc, e3⟩ := own_slice hD
  subst e1 e2 e3
  unfold shV cells7
  simp only at h1 h2 h3 hS hC hD hap ⊢
  obtain ⟨W, hW⟩ : ∃ W, W = w.alloc (.cells #[.slice sa l.length sc, .int .i64 x, .int .i64 y, .int .i64 z, .slice ca l'.length cc, .slice da d.length dc, .int .i64 st] 40) := ⟨_, rfl⟩
  have hb : Below w.heap.size w W := by rw [hW]; exact (Below.refl _ _).alloc (Nat.le_refl _) _
  have hp : W.heap[w.heap.size]? = some (.cells #[.slice sa l.length sc, .int .i64 x, .int .i64 y, .int .i64 z, .slice ca l'.length cc, .slice da d.length dc, .int .i64 st] 40 (0, 0)) := by rw [hW]; exact heap_alloc_new w _
  have HP : Hid (W.heap[w.heap.size]? = some (.cells #[.slice sa l.length sc, .int .i64 x, .int .i64 y, .int .i64 z, .slice ca l'.length cc, .slice da d.length dc, .int .i64 st] 40 (0, 0))) := hp
  have HS : Hid (W.ownsRow B 3 1 (.slice sa l.length sc) l.length (cellsI l)) := own_kept hS hb
  have HC : Hid (W.ownsRow B 3 1 (.slice ca l'.length cc) l'.length (cellsI l')) := own_kept hC hb
  have HD : Hid (W.ownsRow B 134 4 (.slice da d.length dc) d.length (cellsSpot d)) := own_kept hD hb
  have HAP : Hid (Apart (.slice sa l.length sc) (.slice ca l'.length cc)) := hap
  have HG : Hid (Below w.heap.size w W) := hb
  clear hA hS hC hD hap hb
  obtain ⟨⟨c0, c1, c2, c3, c4, c5, c6⟩, _⟩ := seven_cells hp
  clear hp
  rw [hW] at c0 c1 c2 c3 c4 c5 c6
  go_enter Tryz.func24, Tryz.ntmps24
  go_wp2_with fail
  rw [← hW]
  clear hW c0 c1 c2 c3 c4 c5 c6
  refine Calls.mono (markMan_two l l' (by omega) (by omega) W HS.out HC.out HAP.out) ?_
  rintro e w2 ⟨rfl, o1, o2, w1, g1, o1', g2⟩
  have p1 := grown_keep' HP.out g1 (own_not HS.out HP.out (by decide))
  have p2 := grown_keep' p1 g2 (own_not (HC.out.kept g1 (apart_ne' HAP.out)) p1 (by decide))
  obtain ⟨⟨c0, c1, c2, c3, c4, c5, c6⟩, _⟩ := seven_cells p2
  have D1 := own_other HD.out HS.out (by decide) g1
  have D2 := own_other D1 (HC.out.kept g1 (apart_ne' HAP.out)) (by decide) g2
  have HF : Hid (∀ w3, w2.grownBy w3 (Value.slice da d.length dc).ownBlock → w3.ownsRow B 134 4 (.slice da d.length dc) d.length (cellsSpot (marksSpot (1 + l.length + l'.length) d.length)) → Marked B l.length l'.length d.length (.slice sa l.length sc) (.slice ca l'.length cc) (.slice da d.length dc) w w3) := fun w3 h4 h5 => ⟨w1, w2, (grown_of HG.out _).trans g1, o1', g2, o2, h4, h5⟩
  have HK : Hid _ := markSpotS_own d (by omega) (1 + l.length + l'.length) (by omega) (by omega) w2 D2
  clear o1 o2 g1 o1' g2 p1 p2 D1 D2
  go_wp2_with fail
  refine Calls.mono HK.out ?_
  rintro e w3 ⟨rfl, o3, g3⟩
  have HFin := HF.out w3 g3 o3
  clear o3 g3 HK HF
  go_wp2
  go_ret
  exact ⟨rfl, HFin⟩
set_option maxHeartbeats 4000000 in
set_option maxRecDepth 100000 in
theorem heldShelf_is {B : Nat} {va vc vd : Value} {x y z st : Int} (nl nc nd : Nat) (h1 : nl ≤ 100) (h2 : nc ≤ 100) (h3 : nd ≤ 100) (w : World) (hS : w.ownsRow B 3 1 va nl (cellsI (marksI 1 nl))) (hC : w.ownsRow B 3 1 vc nc (cellsI (marksI (1 + nl) nc))) (hD : w.ownsRow B 134 4 vd nd (cellsSpot (marksSpot (1 + nl + nc) nd))) :
    Calls Tryz.prog 27 #[.agg #[va, .int .i64 x, .int .i64 y, .int .i64 z, vc, vd, .int .i64 st], .int .i64 1] w fun e w' => e = .returned (.int .i64 ((1 + nl + nc + 4 * nd : Nat) : Int)) ∧ Below w.heap.size w w' := by
  obtain ⟨sa, sc, e1⟩ := own_slice hS
  obtain ⟨ca, cc, e2⟩ := own_slice hC
  have hD2 : w.ownsRow B 134 4 vd (marksSpot (1 + nl + nc) nd).length (cellsSpot (marksSpot (1 + nl + nc) nd)) := by rw [marksSpot_len]; exact hD
  obtain ⟨da, dg, dc, e3, i3⟩ := cellsSpot_slice hD2
  rw [marksSpot_len] at e3
  subst e1 e2 e3
  obtain ⟨W, hW⟩ : ∃ W, W = w.alloc (.cells #[.slice sa nl sc, .int .i64 x, .int .i64 y, .int .i64 z, .slice ca nc cc, .slice da nd dc, .int .i64 st] 40) := ⟨_, rfl⟩
  have hb : Below w.heap.size w W := by rw [hW]; exact (Below.refl _ _).alloc (Nat.le_refl _) _
  have hp : W.heap[w.heap.size]? = some (.cells #[.slice sa nl sc, .int .i64 x, .int .i64 y, .int .i64 z, .slice ca nc cc, .slice da nd dc, .int .i64 st] 40 (0, 0)) := by rw [hW]; exact heap_alloc_new w _
  have HP : Hid (W.heap[w.heap.size]? = some (.cells #[.slice sa nl sc, .int .i64 x, .int .i64 y, .int .i64 z, .slice ca nc cc, .slice da nd dc, .int .i64 st] 40 (0, 0))) := hp
  have HM : Hid (Calls Tryz.prog 85 #[.agg #[.slice sa nl sc, .int .i64 x, .int .i64 y, .int .i64 z, .slice ca nc cc], .int .i64 1] W fun e w' => e = .returned (.int .i64 ((1 + nl + nc : Nat) : Int)) ∧ Below W.heap.size W w') := heldMan_is nl nc (by omega) (by omega) W (own_kept hS hb) (own_kept hC hb)
  have HD : Hid (∀ W1, Below W.heap.size W W1 → Calls Tryz.prog 86 #[.slice da nd dc, .int .i64 ((1 + nl + nc : Nat) : Int)] W1 fun e w' => e = .returned (.int .i64 ((1 + nl + nc + 4 * nd : Nat) : Int)) ∧ Below W1.heap.size W1 w') := fun W1 h => heldSpotS_is nd (by omega) (1 + nl + nc) (by omega) (by omega) W1 ((i3.kept hb).kept h)
  have HB : Hid (Below w.heap.size w W) := hb
  clear hS hC hD hD2 i3 hb
  obtain ⟨⟨c0, c1, c2, c3, c4, c5, c6⟩, _⟩ := seven_cells hp
  clear hp
  rw [hW] at c0 c1 c2 c3 c4 c5 c6
  go_enter Tryz.func27, Tryz.ntmps27
  go_wp2_with fail
  rw [← hW]
  clear hW c0 c1 c2 c3 c4 c5 c6
  refine Calls.mono HM.out ?_
  rintro e w1 ⟨rfl, hb1⟩
  have q0 := (hb1.block _ (Array.getElem?_eq_some_iff.1 HP.out).1).trans HP.out
  obtain ⟨⟨c0, c1, c2, c3, c4, c5, c6⟩, _⟩ := seven_cells q0
  have HB1 : Hid (Below W.heap.size W w1) := hb1
  have hn : ¬ ((1 + nl + nc : Nat) : Int) < 0 := by omega
  clear q0 hb1 HM HP
  go_wp2_with fail
  refine Calls.mono (HD.out _ HB1.out) ?_
  rintro e w2 ⟨rfl, hb2⟩
  have hn2 : ¬ ((1 + nl + nc + 4 * nd : Nat) : Int) < 0 := by omega
  have HB2 : Hid (Below w.heap.size w w2) := HB.out.trans ((HB1.out.trans (hb2.mono HB1.out.size)).mono HB.out.size)
  clear hb2 c0 c1 c2 c3 c4 c5 c6
  go_wp2
  go_ret
  exact ⟨rfl, HB2.out⟩
end Go.Proofs.YtbcfiiilikkkeaaGreatDoor
namespace Go.Proofs.YtbcfiiilikkkeaaGreatDoor
open Go.RowKit
set_option linter.unusedVariables false
set_option linter.unusedSimpArgs false

set_option maxHeartbeats 2000000 in
set_option maxRecDepth 100000 in
theorem szChange1_is (r : ChangeL) (hr : smallChange maxLen r) (left : Nat) (hl : left ≤ 1048576) (w : World) :
    Calls Tryz.prog 127 #[changeV r, .int .i64 (left : Int)] w fun e w' => ∃ x : Int, e = .returned (.int .i64 x) ∧ Left left (totChange1 r) x ∧ Below w.heap.size w w' := by
  obtain ⟨F0, F1, F2⟩ := r
  unfold smallChange maxLen at hr
  simp only at hr
  unfold changeV totChange1
  go_enter Tryz.func127, Tryz.ntmps127
  go_wp2
  · go_ret
    exact ⟨_, rfl, Or.inr ⟨by omega, rfl⟩, (Below.refl _ _).alloc (Nat.le_refl _) _⟩
  · go_ret
    exact ⟨_, rfl, Or.inr ⟨by omega, rfl⟩, (Below.refl _ _).alloc (Nat.le_refl _) _⟩
  · go_ret
    exact ⟨_, rfl, Or.inl ⟨by omega, by omega⟩, (Below.refl _ _).alloc (Nat.le_refl _) _⟩
set_option maxHeartbeats 2000000 in
set_option maxRecDepth 100000 in
theorem szChangeS_is {a : Option Addr} {g off cap : Nat} (l : List ChangeL) (hlen : l.length ≤ maxLen) (hsz : ∀ r ∈ l, smallChange maxLen r) (left : Nat) (hl : left ≤ 1048576) (w : World) (hf : ChangeAt w a g off l) :
    Calls Tryz.prog 57 #[.slice a l.length cap, .int .i64 (left : Int)] w fun e w' => ∃ x : Int, e = .returned (.int .i64 x) ∧ Left left (totChange l) x ∧ Below w.heap.size w w' := by
  have HF : Hid (ChangeAt w a g off l) := hf
  have HS : Hid (∀ r ∈ l, smallChange maxLen r) := hsz
  clear hf hsz
  unfold maxLen at hlen
  by_cases h0 : left < l.length
  · have h1 : (left : Int) - (l.length : Int) < 0 := by omega
    go_enter Tryz.func57, Tryz.ntmps57
    go_wp2
    go_ret
    exact ⟨_, rfl, Or.inr ⟨by have := totChange_len l; omega, rfl⟩, Below.refl _ _⟩
  · have h1 : ¬ (left : Int) - (l.length : Int) < 0 := by omega
    go_enter Tryz.func57, Tryz.ntmps57
    go_wp2
    go_loopw [1, 5] (fun x i wr => ∃ k R : Nat, k ≤ l.length ∧ i = .int .i64 (k : Int) ∧ x = .int .i64 (R : Int) ∧ R + totChange (l.take k) + (l.length - k) = left ∧ Below w.heap.size w wr)
      (fun _ i _ => l.length - (intOf i).toNat)
    case atStart => exact ⟨0, left - l.length, Nat.zero_le _, rfl, by go_num, by simp [totChange]; omega, Below.refl _ _⟩
    case round =>
      obtain ⟨k, R, hk, rfl, rfl, hR, hbel⟩ := hrel
      by_cases hlt : k < l.length
      · have hcc := (HF.out.kept hbel).2 k hlt
        have ea := HF.out.1 (by omega)
        subst ea
        have hs := HS.out l[k] (List.getElem_mem _)
        have HT := totChange_take hlt
        obtain ⟨F0, hF0⟩ : ∃ F0, F0 = l[k].key := ⟨_, rfl⟩
        obtain ⟨F1, hF1⟩ : ∃ F1, F1 = l[k].value := ⟨_, rfl⟩
        obtain ⟨F2, hF2⟩ : ∃ F2, F2 = l[k].gone := ⟨_, rfl⟩
        have HEL : Hid (l[k] = ⟨F0, F1, F2⟩) := by show _ = _; rw [hF0, hF1, hF2]
        simp only [← hF0, ← hF1, ← hF2] at hcc
        obtain ⟨c0, c1, c2⟩ := hcc
        rw [HEL.out] at hs HT
        have HS1 : Hid _ := hs
        have HT1 : Hid _ := HT
        obtain ⟨Z, hZ⟩ : ∃ Z, Z = totChange1 ⟨F0, F1, F2⟩ := ⟨_, rfl⟩
        have HZ : Hid (Z = totChange1 ⟨F0, F1, F2⟩) := hZ
        clear hs HT hZ hF0 hF1 hF2
        have hk0 : (0 : Int) ≤ (k : Int) := by omega
        have hk1 : (k : Int) < (l.length : Int) := by omega
        have hRl : R ≤ 1048576 := by omega
        go_wp2_with fail
        refine (szChange1_is ⟨F0, F1, F2⟩ HS1.out R hRl wr).mono ?_
        rintro e w1 ⟨x, rfl, hx, hb1⟩
        have hx' : Left R (totChange1 ⟨F0, F1, F2⟩) x := hx
        rw [← HZ.out] at hx'
        clear hx
        rcases hx' with ⟨hx1, hx2⟩ | ⟨hx1, hx2⟩
        · obtain ⟨Y, hY⟩ : ∃ Y : Nat, Y = R - Z := ⟨_, rfl⟩
          rw [← hY] at hx2
          subst hx2
          have HY : Hid (Y = R - Z) := hY
          clear hY
          have hB : Below w.heap.size w w1 := hbel.trans (hb1.mono hbel.size)
          go_wp2
          go_roundw
          case rel => exact ⟨k + 1, Y, by omega, by go_num, rfl, by rw [HT1.out, ← HZ.out]; have := HY.out; omega, hB⟩
          case measure => simp [intOf]; omega
        · subst hx2
          have hB : Below w.heap.size w w1 := hbel.trans (hb1.mono hbel.size)
          have hno : ¬ totChange l ≤ left := by
            have e1 := totChange_app (l.take (k + 1)) (l.drop (k + 1))
            rw [List.take_append_drop] at e1
            have e2 := totChange_len (l.drop (k + 1))
            rw [List.length_drop] at e2
            have := HT1.out
            rw [← HZ.out] at this
            omega
          have HN : Hid (¬ totChange l ≤ left) := hno
          clear hno
          go_wp2
          go_ret
          exact ⟨_, rfl, Or.inr ⟨HN.out, rfl⟩, hB⟩
      · have hk1 : ¬ (k : Int) < (l.length : Int) := by omega
        have HN : Hid (totChange l + R = left) := by
          show _ = _
          rw [List.take_of_length_le (by omega)] at hR
          omega
        clear hR
        go_wp2
        go_ret
        exact ⟨_, rfl, Or.inl ⟨by have := HN.out; omega, by have := HN.out; omega⟩, hbel⟩
set_option maxHeartbeats 2000000 in
set_option maxRecDepth 100000 in
theorem toChange1_is (r : ChangeL) (w : World) : Calls Tryz.prog 136 #[changeV r] w fun e w' => e = .returned (changeV r) ∧ Below w.heap.size w w' := by
  obtain ⟨F0, F1, F2⟩ := r
  unfold changeV
  go_enter Tryz.func136, Tryz.ntmps136
  go_wp2
  refine bodyPost_ret (v := .agg #[.string F0, .string F1, .bool F2]) (by simp [results, Tryz.results136, go_sem]) rfl ⟨rfl, ?_⟩
  exact (((Below.refl _ _).alloc (Nat.le_refl _) _).alloc (by simp) _).alloc (by simp; omega) _
set_option maxHeartbeats 2000000 in
set_option maxRecDepth 100000 in
theorem toChangeS_is {a : Option Addr} {g off cap : Nat} (l : List ChangeL) (hlen : l.length ≤ 1048576) (w : World) (hf : ChangeAt w a g off l) :
    Calls Tryz.prog 69 #[.slice a l.length cap] w fun e w' => e = .returned (.slice (some ⟨w.heap.size, 0, none⟩) l.length l.length) ∧
      w'.ownsRow w.heap.size 149 3 (.slice (some ⟨w.heap.size, 0, none⟩) l.length l.length) l.length (cellsChange l) ∧ Below w.heap.size w w' := by
  obtain ⟨i0, hi, hz0, hz1, hz2⟩ := info_parts Tryz.info149
  have HF : Hid (ChangeAt w a g off l) := hf
  clear hf
  go_enter Tryz.func69, Tryz.ntmps69
  go_wp2_with (at_make; refine wpList_make_full _ rfl _ _ 49 rfl w.heap.size 149 i0 (.agg #[.string ByteArray.empty, .string ByteArray.empty, .bool false]) 3 Tryz.underlying49 hi hz0 hz1 _ _ _ _ l.length rfl rfl (by omega) (by omega) ?b2 ?b3 (Nat.le_refl _) ?_)
  case b2 => rw [hz2]; omega
  case b3 => unfold maxLen; omega
  intro w0 hown0 hgrow0
  have hbel0 : Below w.heap.size w w0 := (Below.refl _ _).grown hgrow0 (Nat.le_refl _) (by simp)
  have hown0' : w0.ownsRow w.heap.size 149 3 (.slice (some ⟨w.heap.size, 0, none⟩) l.length l.length) l.length (cellsChange (List.replicate l.length ⟨ByteArray.empty, ByteArray.empty, false⟩)) := by rw [← madeChange]; exact hown0
  clear hgrow0 hown0
  go_wp2
  go_loopw [4] (fun i wr => ∃ (k : Nat) (pre : List ChangeL), k ≤ l.length ∧ i = .int .i64 (k : Int) ∧ pre.length = l.length ∧ pre.take k = l.take k ∧
      wr.ownsRow w.heap.size 149 3 (.slice (some ⟨w.heap.size, 0, none⟩) l.length l.length) l.length (cellsChange pre) ∧ Below w.heap.size w wr)
    (fun i _ => l.length - (intOf i).toNat)
  case atStart => exact ⟨0, _, Nat.zero_le _, rfl, by simp, by simp, hown0', hbel0⟩
  case round =>
    obtain ⟨k, pre, hk, rfl, hpl, hpt, hown, hbel⟩ := hrel
    have HL : Hid (pre.length = l.length) := hpl
    have HT : Hid (pre.take k = l.take k) := hpt
    clear hpl hpt hown0' hbel0
    by_cases hlt : k < l.length
    · have hcc := (HF.out.kept hbel).2 k hlt
      have ea := HF.out.1 (by omega)
      subst ea
      have hgz := HF.out.lt (by omega)
      obtain ⟨F0, hF0⟩ : ∃ F0, F0 = l[k].key := ⟨_, rfl⟩
      obtain ⟨F1, hF1⟩ : ∃ F1, F1 = l[k].value := ⟨_, rfl⟩
      obtain ⟨F2, hF2⟩ : ∃ F2, F2 = l[k].gone := ⟨_, rfl⟩
      have HEL : Hid (l[k] = ⟨F0, F1, F2⟩) := by show _ = _; rw [hF0, hF1, hF2]
      simp only [← hF0, ← hF1, ← hF2] at hcc
      obtain ⟨c0, c1, c2⟩ := hcc
      clear hF0 hF1 hF2
      have hk0 : (0 : Int) ≤ (k : Int) := by omega
      have hk1 : (k : Int) < (l.length : Int) := by omega
      go_wp2_with fail
      refine (toChange1_is ⟨F0, F1, F2⟩ wr).mono ?_
      rintro e w1 ⟨rfl, hb1⟩
      unfold changeV
      have hown1 := own_kept hown hb1
      have hbel1 : Below w.heap.size w w1 := hbel.trans (hb1.mono hbel.size)
      have hf0 := hown1.frozenAt (k * 3)
      have hf1 := hown1.frozenAt (k * 3 + 1)
      have hf2 := hown1.frozenAt (k * 3 + 2)
      obtain ⟨u0, hu0⟩ : ∃ u0, w1.cell? ⟨w.heap.size, k * 3, none⟩ = some u0 := by
        rw [hown1.cellAt (k * 3) (by omega)]
        exact ⟨_, (cellsChange_at pre k (by rw [HL.out]; exact hlt)).1⟩
      obtain ⟨u1, hu1⟩ : ∃ u1, w1.cell? ⟨w.heap.size, k * 3 + 1, none⟩ = some u1 := by
        rw [hown1.cellAt (k * 3 + 1) (by omega)]
        exact ⟨_, (cellsChange_at pre k (by rw [HL.out]; exact hlt)).2.1⟩
      obtain ⟨u2, hu2⟩ : ∃ u2, w1.cell? ⟨w.heap.size, k * 3 + 2, none⟩ = some u2 := by
        rw [hown1.cellAt (k * 3 + 2) (by omega)]
        exact ⟨_, (cellsChange_at pre k (by rw [HL.out]; exact hlt)).2.2⟩
      have hst := (((hown1.stored (k * 3) (.string F0)).1.stored (k * 3 + 1) (.string F1)).1.stored (k * 3 + 2) (.bool F2))
      rw [← cellsChange_set pre k ⟨F0, F1, F2⟩] at hst
      have HST : Hid (_ ∧ _) := hst
      clear hst hb1 hown hbel
      go_wp2
      go_roundw
      case rel => exact ⟨k + 1, pre.set k ⟨F0, F1, F2⟩, by omega, by go_num, by rw [List.length_set]; exact HL.out, take_set_step hlt HL.out HT.out HEL.out, HST.out.1, (((hbel1.setCell (Nat.le_refl _) _).setCell (Nat.le_refl _) _).setCell (Nat.le_refl _) _)⟩
      case measure => simp [intOf]; omega
    · have hk1 : ¬ (k : Int) < (l.length : Int) := by omega
      have HE : Hid (pre = l) := by
        show _ = _
        have h := HT.out
        rwa [List.take_of_length_le (by rw [HL.out]; omega), List.take_of_length_le (by omega)] at h
      go_wp2
      go_ret
      exact ⟨rfl, by rw [HE.out] at hown; exact hown, hbel⟩
set_option maxHeartbeats 2000000 in
set_option maxRecDepth 100000 in
theorem eqChange1_same (r : ChangeL) (w : World) : Calls Tryz.prog 148 #[changeV r, changeV r] w fun e w' => e = .returned (.bool true) ∧ Below w.heap.size w w' := by
  obtain ⟨F0, F1, F2⟩ := r
  unfold changeV
  go_enter Tryz.func148, Tryz.ntmps148
  go_wp2
  go_ret
  exact ⟨rfl, ((Below.refl _ _).alloc (Nat.le_refl _) _).alloc (by simp) _⟩
set_option maxHeartbeats 2000000 in
set_option maxRecDepth 100000 in
theorem eqChangeS_same {a b : Option Addr} {g off cap h off' cap' : Nat} (l : List ChangeL) (hlen : l.length ≤ 1048576) (w : World) (hf : ChangeAt w a g off l) (hf' : ChangeAt w b h off' l) :
    Calls Tryz.prog 79 #[.slice a l.length cap, .slice b l.length cap'] w fun e w' => e = .returned (.bool true) ∧ Below w.heap.size w w' := by
  have HF : Hid (ChangeAt w a g off l) := hf
  have HF' : Hid (ChangeAt w b h off' l) := hf'
  clear hf hf'
  go_enter Tryz.func79, Tryz.ntmps79
  go_wp2
  go_loopw [5] (fun i wr => ∃ k : Nat, k ≤ l.length ∧ i = .int .i64 (k : Int) ∧ Below w.heap.size w wr)
    (fun i _ => l.length - (intOf i).toNat)
  case atStart => exact ⟨0, Nat.zero_le _, rfl, Below.refl _ _⟩
  case round =>
    obtain ⟨k, hk, rfl, hbel⟩ := hrel
    by_cases hlt : k < l.length
    · have hcc := (HF.out.kept hbel).2 k hlt
      have hdd := (HF'.out.kept hbel).2 k hlt
      have ea := HF.out.1 (by omega)
      have eb := HF'.out.1 (by omega)
      subst ea eb
      obtain ⟨F0, hF0⟩ : ∃ F0, F0 = l[k].key := ⟨_, rfl⟩
      obtain ⟨F1, hF1⟩ : ∃ F1, F1 = l[k].value := ⟨_, rfl⟩
      obtain ⟨F2, hF2⟩ : ∃ F2, F2 = l[k].gone := ⟨_, rfl⟩
      have HEL : Hid (l[k] = ⟨F0, F1, F2⟩) := by show _ = _; rw [hF0, hF1, hF2]
      simp only [← hF0, ← hF1, ← hF2] at hcc hdd
      obtain ⟨c0, c1, c2⟩ := hcc
      obtain ⟨d0, d1, d2⟩ := hdd
      clear hF0 hF1 hF2
      have hk0 : (0 : Int) ≤ (k : Int) := by omega
      have hk1 : (k : Int) < (l.length : Int) := by omega
      go_wp2
      have NE := Abv.ne wr
      have C0 := fun x : Abv wr => x.cell c0
      have D0 := fun x : Abv wr => x.cell d0
      have C1 := fun x : Abv wr => x.cell c1
      have D1 := fun x : Abv wr => x.cell d1
      have C2 := fun x : Abv wr => x.cell c2
      have D2 := fun x : Abv wr => x.cell d2
      refine wp_region_above (by kernel_rfl) (by kernel_rfl) ?_
      repeat (go_big_quiet_step (first | (go_at_call 148; exact calls_above (eqChange1_same ⟨F0, F1, F2⟩ _))))
      refine wpQuiet_nil ?_
      rintro w1 ⟨⟨_, hb1⟩, rfl⟩
      clear NE C0 D0 C1 D1 C2 D2
      go_wp2
      go_roundw
      case rel => exact ⟨k + 1, by omega, by go_num, hbel.trans (hb1.mono hbel.size)⟩
      case measure => simp [intOf]; omega
    · have hk1 : ¬ (k : Int) < (l.length : Int) := by omega
      go_wp2
      go_ret
      exact ⟨rfl, hbel⟩
end Go.Proofs.YtbcfiiilikkkeaaGreatDoor
namespace Go.Proofs.YtbcfiiilikkkeaaGreatDoor
open Go.RowKit
set_option linter.unusedVariables false
set_option linter.unusedSimpArgs false

theorem mark_mod (M : Nat) : (((M : Int) + 1 + 1) % 3 == 0) = ((M + 2) % 3 == 0) := by
  have h1 : ((M : Int) + 1 + 1) % 3 = (((M + 2) % 3 : Nat) : Int) := by omega
  rw [h1]
  rcases (show (M + 2) % 3 = 0 ∨ (M + 2) % 3 = 1 ∨ (M + 2) % 3 = 2 by omega) with h | h | h <;> rw [h] <;> rfl
set_option maxHeartbeats 2000000 in
set_option maxRecDepth 100000 in
theorem markChangeS_is {B g cap : Nat} (l : List ChangeL) (hlen : l.length ≤ 1048576) (k : Nat) (h0 : 0 < k) (hk : k ≤ 100000000) (w : World) (hA : w.ownsRow B 149 3 (.slice (some ⟨g, 0, none⟩) l.length cap) l.length (cellsChange l)) :
    Calls Tryz.prog 83 #[.slice (some ⟨g, 0, none⟩) l.length cap, .int .i64 (k : Int)] w fun e w' => e = .returned (.int .i64 ((k + 3 * l.length : Nat) : Int)) ∧ w'.ownsRow B 149 3 (.slice (some ⟨g, 0, none⟩) l.length cap) l.length (cellsChange (marksChange k l.length)) ∧ w.grownBy w' (some g) := by
  go_enter Tryz.func83, Tryz.ntmps83
  go_wp2
  go_loopw [1, 5] (fun x i wr => ∃ (j : Nat) (pre : List ChangeL), j ≤ l.length ∧ i = .int .i64 (j : Int) ∧ x = .int .i64 ((k + 3 * j : Nat) : Int) ∧ pre.length = l.length ∧ pre.take j = (marksChange k l.length).take j ∧
      wr.ownsRow B 149 3 (.slice (some ⟨g, 0, none⟩) l.length cap) l.length (cellsChange pre) ∧ w.grownBy wr (some g)) (fun _ i _ => l.length - (intOf i).toNat)
  case atStart => exact ⟨0, l, Nat.zero_le _, rfl, rfl, rfl, by simp, hA, World.grownBy.refl _ _⟩
  case round =>
    obtain ⟨j, pre, hj, rfl, rfl, hpl, hpt, hown, hgr⟩ := hrel
    have HL : Hid (pre.length = l.length) := hpl
    have HT : Hid (pre.take j = (marksChange k l.length).take j) := hpt
    clear hpl hpt hA
    by_cases hlt : j < l.length
    · have hk0 : (0 : Int) ≤ (j : Int) := by omega
      have hk1 : (j : Int) < (l.length : Int) := by omega
      obtain ⟨M, hM⟩ : ∃ M : Nat, M = k + 3 * j := ⟨_, rfl⟩
      have hMb : 0 < M ∧ M ≤ 900000000 := by omega
      have HM : Hid (M = k + 3 * j) := hM
      rw [← hM]
      clear hM
      go_wp2_with fail
      refine (markText_at M 0 _ (by omega) (by omega) (by omega) _).mono ?_
      rintro e w0 ⟨rfl, hb0⟩
      have hw0 := own_kept hown hb0
      have hgw0 := hgr.trans (own_below' hb0)
      clear hb0
      have hf0 := hw0.frozenAt (j * 3)
      obtain ⟨u0, hu0⟩ := own_cell_ex (q := j * 3) hw0 (by omega) (by simp only [List.length_set, cellsChange_len, HL.out])
      have hs0 := (hw0.stored (j * 3) (.string (mk (M + 0))))
      have hgs0 := (hgw0.trans (hw0.stored (j * 3) (.string (mk (M + 0)))).2)
      have HS0 : Hid _ := hs0.1
      have HG0 : Hid _ := hgs0
      clear hown hgr
      clear hs0 hgs0 hw0 hgw0
      go_wp2_with fail
      refine (markText_at M 1 _ (by omega) (by omega) (by omega) _).mono ?_
      rintro e w1 ⟨rfl, hb1⟩
      have hw1 := own_kept HS0.out hb1
      have hgw1 := HG0.out.trans (own_below' hb1)
      clear hb1
      have hf1 := hw1.frozenAt (j * 3 + 1)
      obtain ⟨u1, hu1⟩ := own_cell_ex (q := j * 3 + 1) hw1 (by omega) (by simp only [List.length_set, cellsChange_len, HL.out])
      have hf2 := hw1.frozenAt (j * 3 + 2)
      obtain ⟨u2, hu2⟩ := own_cell_ex (q := j * 3 + 2) hw1 (by omega) (by simp only [List.length_set, cellsChange_len, HL.out])
      have hs1 := ((hw1.stored (j * 3 + 1) (.string (mk (M + 1)))).1.stored (j * 3 + 2) (.bool ((M + 2) % 3 == 0)))
      have hgs1 := ((hgw1.trans (hw1.stored (j * 3 + 1) (.string (mk (M + 1)))).2).trans ((hw1.stored (j * 3 + 1) (.string (mk (M + 1)))).1.stored (j * 3 + 2) (.bool ((M + 2) % 3 == 0))).2)
      have HS1 : Hid _ := hs1.1
      have HG1 : Hid _ := hgs1
      clear hs1 hgs1 hw1 hgw1
      go_wp2
      go_roundw
      case rel =>
        have e := cellsChange_set pre j (markChange1 M)
        rw [mark_mod]
        refine ⟨j + 1, pre.set j (markChange1 M), by omega, by go_num, ?_, by rw [List.length_set]; exact HL.out, ?_, ?_, HG1.out⟩
        · refine congrArg (Value.int .i64) ?_
          have := HM.out
          omega
        · refine take_set_step (by rw [marksChange_len]; exact hlt) (by rw [marksChange_len]; exact HL.out) HT.out ?_
          rw [marksChange_at, ← HM.out]
        · rw [e]; exact HS1.out
      case measure => simp [intOf]; omega
    · have hk1 : ¬ (j : Int) < (l.length : Int) := by omega
      have HE : Hid (pre = marksChange k l.length ∧ j = l.length) := by
        have h := HT.out
        rw [List.take_of_length_le (by rw [HL.out]; omega), List.take_of_length_le (by rw [marksChange_len]; omega)] at h
        exact ⟨h, by omega⟩
      go_wp2
      go_ret
      refine ⟨by rw [← HE.out.2]; rfl, by rw [← HE.out.1]; exact hown, hgr⟩
set_option maxHeartbeats 2000000 in
set_option maxRecDepth 100000 in
theorem markChangeS_nil (k : Nat) (w : World) : Calls Tryz.prog 83 #[.slice none 0 0, .int .i64 (k : Int)] w fun e w' => e = .returned (.int .i64 (k : Int)) ∧ w = w' := by
  go_enter Tryz.func83, Tryz.ntmps83
  go_wp2
  refine wp_loop_rounds 1 ?_
  rw [rounds_succ]
  go_wp2
  go_ret
  exact ⟨rfl, rfl⟩
theorem markChangeS_own {B : Nat} {v : Value} (l : List ChangeL) (hlen : l.length ≤ 1048576) (k : Nat) (h0 : 0 < k) (hk : k ≤ 100000000) (w : World) (hA : w.ownsRow B 149 3 v l.length (cellsChange l)) :
    Calls Tryz.prog 83 #[v, .int .i64 (k : Int)] w fun e w' => e = .returned (.int .i64 ((k + 3 * l.length : Nat) : Int)) ∧ w'.ownsRow B 149 3 v l.length (cellsChange (marksChange k l.length)) ∧ w.grownBy w' v.ownBlock := by
  rcases hA.2 with ⟨h1, h2⟩ | ⟨g, cap, cur, h1, _⟩
  · subst h1
    have hl : l = [] := List.length_eq_zero_iff.1 h2
    subst hl
    refine (markChangeS_nil k w).mono ?_
    rintro e w' ⟨rfl, rfl⟩
    exact ⟨rfl, World.ownsRow_nil _ _ _ _, World.grownBy.refl _ _⟩
  · subst h1
    exact markChangeS_is l hlen k h0 hk w hA

end Go.Proofs.YtbcfiiilikkkeaaGreatDoor
