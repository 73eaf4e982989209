/- The specification's l09Same: are two shelves the same, walked. The specification's l09Clean: is this the shelf of a disk that needs no raw writes, walked. The specification's AddBatch, where it refuses at once, walked. -/
import Derived.Test.YtbcfiiilikkkeaaGreatDoorSh
import Derived.Laws.StructEq
import Derived.Test.YtbcfiiilikkkeaaGreatDoorMarkChange
import Derived.Test.YtbcfiiilikkkeaaGreatDoorSpecRead2
namespace Go.Proofs.YtbcfiiilikkkeaaGreatDoor
open Go.RowKit
set_option linter.unusedVariables false
set_option linter.unusedSimpArgs false

theorem spot_ne {x y : SpotL} (h : x ≠ y) : x.key ≠ y.key ∨ (x.key = y.key ∧ (x.seg ≠ y.seg ∨ (x.seg = y.seg ∧ (x.pos ≠ y.pos ∨ (x.pos = y.pos ∧ x.size ≠ y.size))))) := by
  obtain ⟨a, b, c, d⟩ := x
  obtain ⟨a', b', c', d'⟩ := y
  by_cases h1 : a = a'
  · by_cases h2 : b = b'
    · by_cases h3 : c = c'
      · by_cases h4 : d = d'
        · subst h1 h2 h3 h4; exact absurd rfl h
        · exact Or.inr ⟨h1, Or.inr ⟨h2, Or.inr ⟨h3, h4⟩⟩⟩
      · exact Or.inr ⟨h1, Or.inr ⟨h2, Or.inl h3⟩⟩
    · exact Or.inr ⟨h1, Or.inl h2⟩
  · exact Or.inl h1
theorem toList_ne {a b : ByteArray} (h : a ≠ b) : (a.toList == b.toList) = false := by
  rw [ByteArray.toList_eq, ByteArray.toList_eq]
  obtain ⟨⟨x⟩⟩ := a
  obtain ⟨⟨y⟩⟩ := b
  rw [beq_eq_false_iff_ne]
  intro e
  exact h (by simp only at e; rw [e])
set_option maxHeartbeats 8000000 in
set_option maxRecDepth 100000 in
theorem same9_is {b b' : Nat} {va vc vd va' vc' vd' : Value} (s t : ShelfL) (n1 : s.man.segs.length ≤ 1048576) (n2 : s.man.conf.length ≤ 1048576) (n3 : s.dir.length ≤ 1048576) (m1 : t.man.segs.length ≤ 1048576) (m2 : t.man.conf.length ≤ 1048576) (m3 : t.dir.length ≤ 1048576) (R : Bool) (hR : R = true ↔ s = t) (w : World) (hA : ShOwn b s va vc vd w) (hB : ShOwn b' t va' vc' vd' w) :
    Calls Tryz.prog 113 #[shV s va vc vd, shV t va' vc' vd'] w fun e w' => e = .returned (.bool R) ∧ Below w.heap.size w w' := by
  obtain ⟨⟨l, x, y, z, c⟩, d, st⟩ := s
  obtain ⟨⟨l', x', y', z', c'⟩, d', st'⟩ := t
  obtain ⟨sa, sg, sc, e1, i1⟩ := cellsI_slice hA.segs
  obtain ⟨ca, cg, cc, e2, i2⟩ := cellsI_slice hA.conf
  obtain ⟨da, dg, dc, e3, i3⟩ := cellsSpot_slice hA.dir
  obtain ⟨sa', sg', sc', e4, j1⟩ := cellsI_slice hB.segs
  obtain ⟨ca', cg', cc', e5, j2⟩ := cellsI_slice hB.conf
  obtain ⟨da', dg', dc', e6, j3⟩ := cellsSpot_slice hB.dir
  subst e1 e2 e3 e4 e5 e6
  unfold shV cells7
  simp only at n1 n2 n3 m1 m2 m3 i1 i2 i3 j1 j2 j3 ⊢
  have HR : Hid (R = true ↔ (⟨⟨l, x, y, z, c⟩, d, st⟩ : ShelfL) = ⟨⟨l', x', y', z', c'⟩, d', st'⟩) := hR
  clear hR
  obtain ⟨W, hW⟩ : ∃ W, W = (w.alloc (.cells #[.slice sa l.length sc, .int .i64 x, .int .i64 y, .int .i64 z, .slice ca c.length cc, .slice da d.length dc, .int .i64 st] 40)).alloc (.cells #[.slice sa' l'.length sc', .int .i64 x', .int .i64 y', .int .i64 z', .slice ca' c'.length cc', .slice da' d'.length dc', .int .i64 st'] 40) := ⟨_, rfl⟩
  have hb : Below w.heap.size w W := by rw [hW]; exact ((Below.refl _ _).alloc (Nat.le_refl _) _).alloc (by simp) _
  have hp0 : W.heap[w.heap.size]? = some (.cells #[.slice sa l.length sc, .int .i64 x, .int .i64 y, .int .i64 z, .slice ca c.length cc, .slice da d.length dc, .int .i64 st] 40 (0, 0)) := by
    rw [hW, Below.heap_alloc _ _ _ (by simp)]; exact heap_alloc_new w _
  have hp1 : W.heap[w.heap.size + 1]? = some (.cells #[.slice sa' l'.length sc', .int .i64 x', .int .i64 y', .int .i64 z', .slice ca' c'.length cc', .slice da' d'.length dc', .int .i64 st'] 40 (0, 0)) := by
    rw [hW]; have := heap_alloc_new (w.alloc (.cells #[.slice sa l.length sc, .int .i64 x, .int .i64 y, .int .i64 z, .slice ca c.length cc, .slice da d.length dc, .int .i64 st] 40)) (.cells #[.slice sa' l'.length sc', .int .i64 x', .int .i64 y', .int .i64 z', .slice ca' c'.length cc', .slice da' d'.length dc', .int .i64 st'] 40); simpa using this
  have HP0 : Hid (∀ W1, Below W.heap.size W W1 → W1.heap[w.heap.size]? = some (.cells #[.slice sa l.length sc, .int .i64 x, .int .i64 y, .int .i64 z, .slice ca c.length cc, .slice da d.length dc, .int .i64 st] 40 (0, 0))) := fun W1 h => (h.block _ (Array.getElem?_eq_some_iff.1 hp0).1).trans hp0
  have HP1 : Hid (∀ W1, Below W.heap.size W W1 → W1.heap[w.heap.size + 1]? = some (.cells #[.slice sa' l'.length sc', .int .i64 x', .int .i64 y', .int .i64 z', .slice ca' c'.length cc', .slice da' d'.length dc', .int .i64 st'] 40 (0, 0))) := fun W1 h => (h.block _ (Array.getElem?_eq_some_iff.1 hp1).1).trans hp1
  have HB : Hid (Below w.heap.size w W) := hb
  obtain ⟨R1, hR1⟩ : ∃ R1 : Bool, R1 = true ↔ l = l' := ⟨decide (l = l'), by simp⟩
  obtain ⟨R2, hR2⟩ : ∃ R2 : Bool, R2 = true ↔ c = c' := ⟨decide (c = c'), by simp⟩
  have HS : Hid (∀ W1, Below W.heap.size W W1 → Calls Tryz.prog 172 #[.slice sa l.length sc, .slice sa' l'.length sc'] W1 fun e w' => e = .returned (.bool R1) ∧ Below W1.heap.size W1 w') := fun W1 h => sameInts9_is l l' n1 m1 R1 hR1 W1 ((i1.kept hb).kept h) ((j1.kept hb).kept h)
  have HC : Hid (∀ W1, Below W.heap.size W W1 → Calls Tryz.prog 172 #[.slice ca c.length cc, .slice ca' c'.length cc'] W1 fun e w' => e = .returned (.bool R2) ∧ Below W1.heap.size W1 w') := fun W1 h => sameInts9_is c c' n2 m2 R2 hR2 W1 ((i2.kept hb).kept h) ((j2.kept hb).kept h)
  obtain ⟨og, hog⟩ : ∃ og : Nat, og = 0 := ⟨0, rfl⟩
  obtain ⟨oh, hoh⟩ : ∃ oh : Nat, oh = 0 := ⟨0, rfl⟩
  rw [← hog] at i3
  rw [← hoh] at j3
  have HD : Hid (∀ W1, Below W.heap.size W W1 → SpotAt W1 da dg og d ∧ SpotAt W1 da' dg' oh d') := fun W1 h => ⟨(i3.kept hb).kept h, (j3.kept hb).kept h⟩
  clear hog hoh
  have H1 : Hid (R1 = true ↔ l = l') := hR1
  have H2 : Hid (R2 = true ↔ c = c') := hR2
  clear hA hB i1 i2 i3 j1 j2 j3 hb hR1 hR2
  obtain ⟨⟨p0, p1, p2, p3, p4, p5, p6⟩, _⟩ := seven_cells hp0
  obtain ⟨⟨q0, q1, q2, q3, q4, q5, q6⟩, _⟩ := seven_cells hp1
  clear hp0 hp1
  rw [hW] at p0 p1 p2 p3 p4 p5 p6 q0 q1 q2 q3 q4 q5 q6
  by_cases kst : st = st'
  · have hcst : (st != st') = false := by simp [kst]
    have KST : Hid (st = st') := kst
    clear kst
    go_enter Tryz.func113, Tryz.ntmps113
    go_wp2_with fail
    rw [← hW]
    clear hW p0 p1 p2 p3 p4 p5 p6 q0 q1 q2 q3 q4 q5 q6
    refine Calls.mono (HS.out _ (Below.refl _ _)) ?_
    rintro e w1 ⟨rfl, hb1⟩
    have HB1 : Hid (Below W.heap.size W w1) := hb1
    have HW1 : Hid (Below w.heap.size w w1) := HB.out.trans (hb1.mono HB.out.size)
    obtain ⟨⟨p0, p1, p2, p3, p4, p5, p6⟩, _⟩ := seven_cells (HP0.out _ hb1)
    obtain ⟨⟨q0, q1, q2, q3, q4, q5, q6⟩, _⟩ := seven_cells (HP1.out _ hb1)
    clear hb1
    cases R1 with
    | false =>
      have hRf : R = false := ans_no HR.out fun e => by cases e; exact absurd (H1.out.2 rfl) (by simp)
      subst hRf
      go_wp2
      go_ret
      exact ⟨rfl, HW1.out⟩
    | true =>
      by_cases kx : x = x'
      · have hcx : (x != x') = false := by simp [kx]
        have KX : Hid (x = x') := kx
        clear kx
        by_cases ky : y = y'
        · have hcy : (y != y') = false := by simp [ky]
          have KY : Hid (y = y') := ky
          clear ky
          by_cases kz : z = z'
          · have hcz : (z != z') = false := by simp [kz]
            have KZ : Hid (z = z') := kz
            clear kz
            go_wp2_with fail
            clear p0 p1 p2 p3 p4 p5 p6 q0 q1 q2 q3 q4 q5 q6
            refine Calls.mono (HC.out _ HB1.out) ?_
            rintro e w2 ⟨rfl, hb2⟩
            have hB2 := HB1.out.trans (hb2.mono HB1.out.size)
            have HB2 : Hid (Below W.heap.size W w2) := hB2
            have HW2 : Hid (Below w.heap.size w w2) := HB.out.trans (hB2.mono HB.out.size)
            obtain ⟨⟨p0, p1, p2, p3, p4, p5, p6⟩, _⟩ := seven_cells (HP0.out _ hB2)
            obtain ⟨⟨q0, q1, q2, q3, q4, q5, q6⟩, _⟩ := seven_cells (HP1.out _ hB2)
            clear hb2 hB2
            cases R2 with
            | false =>
              have hRf : R = false := ans_no HR.out fun e => by cases e; exact absurd (H2.out.2 rfl) (by simp)
              subst hRf
              go_wp2
              go_ret
              exact ⟨rfl, HW2.out⟩
            | true =>
              by_cases kd : d.length = d'.length
              · have hcd : ((d.length : Int) != (d'.length : Int)) = false := by simp; omega
                go_wp2
                clear p0 p1 p2 p3 p4 p5 p6 q0 q1 q2 q3 q4 q5 q6
                go_loopw [5] (fun i wr => ∃ k : Nat, k ≤ d.length ∧ i = .int .i64 (k : Int) ∧ (∀ j (h1 : j < d.length) (h2 : j < d'.length), j < k → d[j] = d'[j]) ∧ Below W.heap.size W wr)
                  (fun i _ => d.length - (intOf i).toNat)
                case atStart => exact ⟨0, Nat.zero_le _, rfl, fun j _ _ q => absurd q (Nat.not_lt_zero _), HB2.out⟩
                case round =>
                  obtain ⟨k, hk, rfl, hsm, hbel⟩ := hrel
                  have HSM : Hid (∀ j (h1 : j < d.length) (h2 : j < d'.length), j < k → d[j] = d'[j]) := hsm
                  have HBL : Hid (Below W.heap.size W wr) := hbel
                  obtain ⟨⟨p0, p1, p2, p3, p4, p5, p6⟩, _⟩ := seven_cells (HP0.out _ hbel)
                  obtain ⟨⟨q0, q1, q2, q3, q4, q5, q6⟩, _⟩ := seven_cells (HP1.out _ hbel)
                  clear hsm p0 p1 p2 p3 p4 p6 q0 q1 q2 q3 q4 q6
                  by_cases hlt : k < d.length
                  · have hltm : k < d'.length := by omega
                    obtain ⟨a0, a1, a2, a3⟩ := (HD.out _ hbel).1.2 k hlt
                    obtain ⟨b0, b1, b2, b3⟩ := (HD.out _ hbel).2.2 k hltm
                    have ea := (HD.out _ hbel).1.1 (by omega)
                    have eb := (HD.out _ hbel).2.1 (by omega)
                    subst ea eb
                    obtain ⟨X, hX⟩ : ∃ X, X = d[k] := ⟨_, rfl⟩
                    obtain ⟨Y, hY⟩ : ∃ Y, Y = d'[k] := ⟨_, rfl⟩
                    rw [← hX] at a0 a1 a2 a3
                    rw [← hY] at b0 b1 b2 b3
                    have HX : Hid (X = d[k]) := hX
                    have HY : Hid (Y = d'[k]) := hY
                    clear hX hY hbel
                    have hk0 : (0 : Int) ≤ (k : Int) := by omega
                    have hk1 : (k : Int) < (d.length : Int) := by omega
                    have hk2 : (k : Int) < (d'.length : Int) := by omega
                    by_cases hxy : X = Y
                    · have HXY : Hid (X = Y) := hxy
                      rw [← hxy] at b0 b1 b2 b3
                      clear hxy
                      have hkey : (X.key.toList == X.key.toList) = true := by simp
                      go_wp2
                      have NE := Abv.ne wr
                      have P5 := fun x : Abv wr => x.cell p5
                      have Q5 := fun x : Abv wr => x.cell q5
                      have A0 := fun x : Abv wr => x.cell a0
                      have A1 := fun x : Abv wr => x.cell a1
                      have A2 := fun x : Abv wr => x.cell a2
                      have A3 := fun x : Abv wr => x.cell a3
                      have B0 := fun x : Abv wr => x.cell b0
                      have B1 := fun x : Abv wr => x.cell b1
                      have B2 := fun x : Abv wr => x.cell b2
                      have B3 := fun x : Abv wr => x.cell b3
                      refine wp_region_above (by kernel_rfl) (by kernel_rfl) ?_
                      repeat (go_big_quiet_step (fail))
                      refine wpQuiet_nil ?_
                      rintro w1 ⟨⟨_, hb1⟩, rfl⟩
                      clear NE P5 Q5 A0 A1 A2 A3 B0 B1 B2 B3
                      go_wp2
                      go_roundw
                      case rel =>
                        refine ⟨k + 1, by omega, by go_num, fun j h1 h2 q => ?_, HBL.out.trans (hb1.mono HBL.out.size)⟩
                        by_cases e : j = k
                        · subst e; rw [← HX.out, ← HY.out]; exact HXY.out
                        · exact HSM.out j h1 h2 (by omega)
                      case measure => simp [intOf]; omega
                    · have hRf : R = false := ans_no HR.out fun e => hxy (by rw [HX.out, HY.out]; cases e; rfl)
                      subst hRf
                      have hcases := spot_ne hxy
                      clear hxy
                      rcases hcases with r0 | ⟨r0, r1 | ⟨r1, r2 | ⟨r2, r3⟩⟩⟩
                      all_goals
                        try (have s0 := toList_ne r0)
                        try (have s0 : (X.key.toList == Y.key.toList) = true := by rw [r0]; simp)
                        try (have s1 : (X.seg == Y.seg) = false := beq_eq_false_iff_ne.2 r1)
                        try (have s1 : (X.seg == Y.seg) = true := beq_iff_eq.2 r1)
                        try (have s2 : (X.pos == Y.pos) = false := beq_eq_false_iff_ne.2 r2)
                        try (have s2 : (X.pos == Y.pos) = true := beq_iff_eq.2 r2)
                        try (have s3 : (X.size == Y.size) = false := beq_eq_false_iff_ne.2 r3)
                        try clear r0
                        try clear r1
                        try clear r2
                        try clear r3
                        go_wp2
                        have NE := Abv.ne wr
                        have P5 := fun x : Abv wr => x.cell p5
                        have Q5 := fun x : Abv wr => x.cell q5
                        have A0 := fun x : Abv wr => x.cell a0
                        have A1 := fun x : Abv wr => x.cell a1
                        have A2 := fun x : Abv wr => x.cell a2
                        have A3 := fun x : Abv wr => x.cell a3
                        have B0 := fun x : Abv wr => x.cell b0
                        have B1 := fun x : Abv wr => x.cell b1
                        have B2 := fun x : Abv wr => x.cell b2
                        have B3 := fun x : Abv wr => x.cell b3
                        refine wp_region_above (by kernel_rfl) (by kernel_rfl) ?_
                        repeat (go_big_quiet_step (fail))
                        refine wpQuiet_nil ?_
                        rintro w1 ⟨⟨_, hb1⟩, rfl⟩
                        clear NE P5 Q5 A0 A1 A2 A3 B0 B1 B2 B3
                        go_wp2
                        go_ret
                        exact ⟨rfl, HB.out.trans ((HBL.out.trans (hb1.mono HBL.out.size)).mono HB.out.size)⟩
                  · have hRt : R = true := by
                      have hd : d = d' := List.ext_getElem kd fun j h1 h2 => HSM.out j h1 h2 (by omega)
                      have e1 : l = l' := by have := H1.out; simpa using this
                      have e2 : c = c' := by have := H2.out; simpa using this
                      refine HR.out.2 ?_
                      rw [e1, e2, hd, KST.out, KX.out, KY.out, KZ.out]
                    subst hRt
                    have hk1 : ¬ (k : Int) < (d.length : Int) := by omega
                    clear hbel
                    go_wp2
                    go_ret
                    exact ⟨rfl, HB.out.trans (HBL.out.mono HB.out.size)⟩
              · have hRf : R = false := ans_no HR.out fun e => kd (by cases e; rfl)
                subst hRf
                have hcd : ((d.length : Int) != (d'.length : Int)) = true := by simp; omega
                go_wp2
                go_ret
                exact ⟨rfl, HW2.out⟩
          · have hRf : R = false := ans_no HR.out fun e => kz (by cases e; rfl)
            subst hRf
            have hcz : (z != z') = true := by simp [kz]
            clear kz
            go_wp2
            go_ret
            exact ⟨rfl, HW1.out⟩
        · have hRf : R = false := ans_no HR.out fun e => ky (by cases e; rfl)
          subst hRf
          have hcy : (y != y') = true := by simp [ky]
          clear ky
          go_wp2
          go_ret
          exact ⟨rfl, HW1.out⟩
      · have hRf : R = false := ans_no HR.out fun e => kx (by cases e; rfl)
        subst hRf
        have hcx : (x != x') = true := by simp [kx]
        clear kx
        go_wp2
        go_ret
        exact ⟨rfl, HW1.out⟩
  · have hRf : R = false := ans_no HR.out fun e => kst (by cases e; rfl)
    subst hRf
    have hcst : (st != st') = true := by simp [kst]
    clear kst
    go_enter Tryz.func113, Tryz.ntmps113
    go_wp2
    go_ret
    exact ⟨rfl, by rw [← hW]; exact HB.out⟩
end Go.Proofs.YtbcfiiilikkkeaaGreatDoor
namespace Go.Proofs.YtbcfiiilikkkeaaGreatDoor
open Go.RowKit
open Shelves (OpenIs)
set_option linter.unusedVariables false
set_option linter.unusedSimpArgs false

namespace Shelves
theorem open_clean {l : List FileL} {s t : ShelfL} {rs : List Disks.RawL} {c : Int} (h : OpenIs l t rs c) : Clean l s ↔ c = 0 ∧ rs = [] ∧ s = t := by
  rw [← opens_clean]
  rcases h with ⟨h1, h2⟩ | ⟨h1, h2, _⟩
  · rw [h1]
    constructor
    · intro e
      simp only [Except.ok.injEq, Prod.mk.injEq] at e
      exact ⟨h2, e.2, e.1.symm⟩
    · rintro ⟨_, rfl, rfl⟩; rfl
  · rw [h1]
    exact ⟨fun e => (by cases e), fun e => absurd e.1 h2⟩
end Shelves
set_option maxHeartbeats 8000000 in
set_option maxRecDepth 100000 in
theorem clean9_is {a : Option Addr} {g off cap b : Nat} {va vc vd : Value} (l : List FileL) (hlen : l.length ≤ 1048576) (hsz : ∀ f ∈ l, f.1.size ≤ 1048576 ∧ f.2.size ≤ 1048576) (s : ShelfL) (n1 : s.man.segs.length ≤ 1048576) (n2 : s.man.conf.length ≤ 1048576) (n3 : s.dir.length ≤ 1048576) (R : Bool) (hR : R = true ↔ Shelves.Clean l s) (w : World) (hf : FilesAt w a g off l) (hA : ShOwn b s va vc vd w) :
    Calls Tryz.prog 59 #[.agg #[.slice a l.length cap], shV s va vc vd] w fun e w' => e = .returned (.bool R) ∧ Below w.heap.size w w' := by
  obtain ⟨t, rs, c, hO⟩ := Shelves.open_ex l
  obtain ⟨u1, u2, u3, u4⟩ := Shelves.open_small hO
  have HR : Hid (R = true ↔ c = 0 ∧ rs = [] ∧ s = t) := hR.trans (Shelves.open_clean hO)
  obtain ⟨sa, sc, e1⟩ := own_slice hA.segs
  obtain ⟨ca, cc, e2⟩ := own_slice hA.conf
  obtain ⟨da, dc, e3⟩ := own_slice hA.dir
  subst e1 e2 e3
  obtain ⟨W, hW⟩ : ∃ W, W = (w.alloc (Obj.cells #[Value.slice a l.length cap] 46)).alloc (Obj.cells #[.slice sa s.man.segs.length sc, .int .i64 s.man.next, .int .i64 s.man.base, .int .i64 s.man.term, .slice ca s.man.conf.length cc, .slice da s.dir.length dc, .int .i64 s.stamp] 40) := ⟨_, rfl⟩
  have hb : Below w.heap.size w W := by rw [hW]; exact ((Below.refl _ _).alloc (Nat.le_refl _) _).alloc (by simp) _
  have hp0 : W.heap[w.heap.size]? = some (.cells #[Value.slice a l.length cap] 46 (0, 0)) := by rw [hW, Below.heap_alloc _ _ _ (by simp)]; exact heap_alloc_new w _
  have hp1 : W.heap[w.heap.size + 1]? = some (.cells #[.slice sa s.man.segs.length sc, .int .i64 s.man.next, .int .i64 s.man.base, .int .i64 s.man.term, .slice ca s.man.conf.length cc, .slice da s.dir.length dc, .int .i64 s.stamp] 40 (0, 0)) := by
    rw [hW]; have := heap_alloc_new (w.alloc (Obj.cells #[Value.slice a l.length cap] 46)) (Obj.cells #[.slice sa s.man.segs.length sc, .int .i64 s.man.next, .int .i64 s.man.base, .int .i64 s.man.term, .slice ca s.man.conf.length cc, .slice da s.dir.length dc, .int .i64 s.stamp] 40); simpa using this
  have HP1 : Hid (∀ W1, Below W.heap.size W W1 → W1.heap[w.heap.size + 1]? = some (.cells #[.slice sa s.man.segs.length sc, .int .i64 s.man.next, .int .i64 s.man.base, .int .i64 s.man.term, .slice ca s.man.conf.length cc, .slice da s.dir.length dc, .int .i64 s.stamp] 40 (0, 0))) := fun W1 h => (h.block _ (Array.getElem?_eq_some_iff.1 hp1).1).trans hp1
  have HB : Hid (Below w.heap.size w W) := hb
  have HO : Hid (Calls Tryz.prog 51 #[.agg #[.slice a l.length cap]] W (OpenPost W t rs c)) := specOpen_any l hlen hsz t rs c hO W (hf.kept hb)
  have HA : Hid (∀ W1, Below W.heap.size W W1 → ShOwn b s (.slice sa s.man.segs.length sc) (.slice ca s.man.conf.length cc) (.slice da s.dir.length dc) W1) := fun W1 h => (hA.kept hb).kept h
  have c0 := cell_of_row _ _ 0 _ _ _ hp0
  unfold shV cells7
  clear hR hO hA hf hb hp0 hp1 hsz
  rw [hW] at c0
  go_enter Tryz.func59, Tryz.ntmps59
  go_wp2_with fail
  rw [← hW]
  clear hW c0
  refine Calls.mono HO.out ?_
  rintro en w1 ⟨va, vc, vd, rv, rfl, hsh, hrw, hb1⟩
  unfold shV cells7
  obtain ⟨ta, tb, hva⟩ := own_slice hsh.segs
  subst hva
  obtain ⟨tc, td, hvc⟩ := own_slice hsh.conf
  subst hvc
  obtain ⟨te, tf, hvd⟩ := own_slice hsh.dir
  subst hvd
  obtain ⟨tg, th, hrv⟩ := own_slice hrw
  subst hrv
  obtain ⟨W2, hW2⟩ : ∃ W2, W2 = w1.alloc (Obj.cells #[.slice ta t.man.segs.length tb, .int .i64 t.man.next, .int .i64 t.man.base, .int .i64 t.man.term, .slice tc t.man.conf.length td, .slice te t.dir.length tf, .int .i64 t.stamp] 40) := ⟨_, rfl⟩
  have hb2 : Below w1.heap.size w1 W2 := by rw [hW2]; exact (Below.refl _ _).alloc (Nat.le_refl _) _
  have hbb : Below W.heap.size W W2 := hb1.trans (hb2.mono hb1.size)
  have HW2 : Hid (Below w.heap.size w W2) := HB.out.trans (hbb.mono HB.out.size)
  have hq : W2.heap[w1.heap.size]? = some (.cells #[.slice ta t.man.segs.length tb, .int .i64 t.man.next, .int .i64 t.man.base, .int .i64 t.man.term, .slice tc t.man.conf.length td, .slice te t.dir.length tf, .int .i64 t.stamp] 40 (0, 0)) := by rw [hW2]; exact heap_alloc_new w1 _
  obtain ⟨⟨p0, p1, p2, p3, p4, p5, p6⟩, _⟩ := seven_cells (HP1.out _ hbb)
  obtain ⟨⟨q0, q1, q2, q3, q4, q5, q6⟩, _⟩ := seven_cells hq
  have HS : Hid (∀ R' : Bool, (R' = true ↔ s = t) → Calls Tryz.prog 113 #[shV s (.slice sa s.man.segs.length sc) (.slice ca s.man.conf.length cc) (.slice da s.dir.length dc), shV t (.slice ta t.man.segs.length tb) (.slice tc t.man.conf.length td) (.slice te t.dir.length tf)] W2 fun e w' => e = .returned (.bool R') ∧ Below W2.heap.size W2 w') := fun R' h' => same9_is s t n1 n2 n3 (by omega) (by omega) (by omega) R' h' W2 (HA.out _ hbb) (hsh.kept hb2)
  unfold shV cells7 at HS
  clear hsh hrw hb1 hb2 hbb hq
  rw [hW2] at p0 p1 p2 p3 p4 p5 p6 q0 q1 q2 q3 q4 q5 q6
  by_cases hc : c = 0
  · by_cases hr : rs = []
    · subst hc hr
      have HR2 : Hid (R = true ↔ s = t) := HR.out.trans ⟨fun h => h.2.2, fun h => ⟨rfl, rfl, h⟩⟩
      go_wp2_with fail
      rw [← hW2]
      refine Calls.mono (HS.out R HR2.out) ?_
      rintro en w3 ⟨rfl, hb3⟩
      have HW3 : Hid (Below w.heap.size w w3) := HW2.out.trans (hb3.mono HW2.out.size)
      clear hb3 hW2 p0 p1 p2 p3 p4 p5 p6 q0 q1 q2 q3 q4 q5 q6
      go_wp2
      go_ret
      exact ⟨rfl, HW3.out⟩
    · have hRf : R = false := ans_no HR.out fun e => hr e.2.1
      subst hRf
      subst hc
      have hn : ((rs.length : Int) == 0) = false := by
        rw [beq_eq_false_iff_ne]
        intro e
        exact hr (List.length_eq_zero_iff.1 (by omega))
      clear hr
      go_wp2
      go_ret
      exact ⟨rfl, by rw [← hW2]; exact HW2.out⟩
  · have hRf : R = false := ans_no HR.out fun e => hc e.1
    subst hRf
    have hn : (c == 0) = false := beq_eq_false_iff_ne.2 hc
    clear hc
    go_wp2
    go_ret
    exact ⟨rfl, by rw [← hW2]; exact HW2.out⟩
end Go.Proofs.YtbcfiiilikkkeaaGreatDoor
namespace Go.Proofs.YtbcfiiilikkkeaaGreatDoor
open Go.RowKit
set_option linter.unusedVariables false
set_option linter.unusedSimpArgs false

def AddPost (w : World) (s : ShelfL) (rs : List Disks.RawL) (R : Bool) (en : Ending) (w' : World) : Prop :=
  ∃ va vc vd rv, en = .returned (.tuple #[shV s va vc vd, rv, .bool R]) ∧ ShOwn w.heap.size s va vc vd w' ∧ w'.ownsRow w.heap.size 103 4 rv rs.length (cellsRaw rs) ∧ Below w.heap.size w w'
set_option maxHeartbeats 8000000 in
set_option maxRecDepth 100000 in
theorem add9_no {a ba : Option Addr} {g off cap bg boff bc b : Nat} {va vc vd : Value} (l : List FileL) (hlen : l.length ≤ 1048576) (hsz : ∀ f ∈ l, f.1.size ≤ 1048576 ∧ f.2.size ≤ 1048576) (s : ShelfL) (n1 : s.man.segs.length ≤ 1048576) (n2 : s.man.conf.length ≤ 1048576) (n3 : s.dir.length ≤ 1048576) (st : Int) (ch : List ChangeL) (hcl : ch.length ≤ 2097152) (hcs : ∀ c ∈ ch, smallChange 2097152 c) (hno : ¬ (Batches.ok st ch ∧ Shelves.Clean l s ∧ s.stamp ≤ st)) (w : World) (hf : FilesAt w a g off l) (hA : ShOwn b s va vc vd w) (hc : ChangeAt w ba bg boff ch) :
    Calls Tryz.prog 14 #[.agg #[.slice a l.length cap], shV s va vc vd, .agg #[.int .i64 st, .slice ba ch.length bc]] w (AddPost w Shelves.zeroS [] false) := by
  obtain ⟨S, T, hT⟩ := txt_ex st ch
  obtain ⟨R, hR⟩ : ∃ R : Bool, R = true ↔ Shelves.Clean l s := by
    by_cases h : Shelves.Clean l s
    · exact ⟨true, by simp [h]⟩
    · exact ⟨false, by simp [h]⟩
  have hd : T = false ∨ (T = true ∧ R = false) ∨ (T = true ∧ R = true ∧ st < s.stamp) := by
    rcases hT with ⟨h1, _, rfl⟩ | ⟨_, _, rfl⟩
    · cases R with
      | false => exact Or.inr (Or.inl ⟨rfl, rfl⟩)
      | true => exact Or.inr (Or.inr ⟨rfl, rfl, by have := hR.1 rfl; have q : ¬ s.stamp ≤ st := fun h => hno ⟨h1, this, h⟩; omega⟩)
    · exact Or.inl rfl
  obtain ⟨sa, sc, e1⟩ := own_slice hA.segs
  obtain ⟨ca, cc, e2⟩ := own_slice hA.conf
  obtain ⟨da, dc, e3⟩ := own_slice hA.dir
  subst e1 e2 e3
  obtain ⟨W, hW⟩ : ∃ W, W = ((((w.alloc (Obj.cells #[Value.slice a l.length cap] 46)).alloc (Obj.cells #[.slice sa s.man.segs.length sc, .int .i64 s.man.next, .int .i64 s.man.base, .int .i64 s.man.term, .slice ca s.man.conf.length cc, .slice da s.dir.length dc, .int .i64 s.stamp] 40)).alloc (Obj.cells #[.int .i64 st, .slice ba ch.length bc] 51)).alloc (Obj.cells #[.slice none 0 0, .int .i64 0, .int .i64 0, .int .i64 0, .slice none 0 0, .slice none 0 0, .int .i64 0] 40)) := ⟨_, rfl⟩
  have hb : Below w.heap.size w W := by rw [hW]; exact ((((Below.refl _ _).alloc (Nat.le_refl _) _).alloc (by simp) _).alloc (by simp; omega) _).alloc (by simp; omega) _
  have p0 : W.heap[w.heap.size]? = some (.cells #[Value.slice a l.length cap] 46 (0, 0)) := by
    rw [hW, Below.heap_alloc _ _ _ (by simp; omega), Below.heap_alloc _ _ _ (by simp; omega), Below.heap_alloc _ _ _ (by simp)]; exact heap_alloc_new w _
  have p1 : W.heap[w.heap.size + 1]? = some (.cells #[.slice sa s.man.segs.length sc, .int .i64 s.man.next, .int .i64 s.man.base, .int .i64 s.man.term, .slice ca s.man.conf.length cc, .slice da s.dir.length dc, .int .i64 s.stamp] 40 (0, 0)) := by
    rw [hW, Below.heap_alloc _ _ _ (by simp), Below.heap_alloc _ _ _ (by simp)]
    have := heap_alloc_new (w.alloc (Obj.cells #[Value.slice a l.length cap] 46)) (Obj.cells #[.slice sa s.man.segs.length sc, .int .i64 s.man.next, .int .i64 s.man.base, .int .i64 s.man.term, .slice ca s.man.conf.length cc, .slice da s.dir.length dc, .int .i64 s.stamp] 40); simpa using this
  have p2 : W.heap[w.heap.size + 1 + 1]? = some (.cells #[.int .i64 st, .slice ba ch.length bc] 51 (0, 0)) := by
    rw [hW, Below.heap_alloc _ _ _ (by simp)]
    have := heap_alloc_new ((w.alloc (Obj.cells #[Value.slice a l.length cap] 46)).alloc (Obj.cells #[.slice sa s.man.segs.length sc, .int .i64 s.man.next, .int .i64 s.man.base, .int .i64 s.man.term, .slice ca s.man.conf.length cc, .slice da s.dir.length dc, .int .i64 s.stamp] 40)) (Obj.cells #[.int .i64 st, .slice ba ch.length bc] 51); simpa using this
  have p3 : W.heap[w.heap.size + 1 + 1 + 1]? = some (.cells #[.slice none 0 0, .int .i64 0, .int .i64 0, .int .i64 0, .slice none 0 0, .slice none 0 0, .int .i64 0] 40 (0, 0)) := by
    rw [hW]
    have := heap_alloc_new (((w.alloc (Obj.cells #[Value.slice a l.length cap] 46)).alloc (Obj.cells #[.slice sa s.man.segs.length sc, .int .i64 s.man.next, .int .i64 s.man.base, .int .i64 s.man.term, .slice ca s.man.conf.length cc, .slice da s.dir.length dc, .int .i64 s.stamp] 40)).alloc (Obj.cells #[.int .i64 st, .slice ba ch.length bc] 51)) (Obj.cells #[.slice none 0 0, .int .i64 0, .int .i64 0, .int .i64 0, .slice none 0 0, .slice none 0 0, .int .i64 0] 40); simpa using this
  have HB : Hid (Below w.heap.size w W) := hb
  have K : ∀ (q : Nat) (ob : Obj), W.heap[q]? = some ob → ∀ W', Below W.heap.size W W' → W'.heap[q]? = some ob := fun q ob h W' hh => (hh.block _ (Array.getElem?_eq_some_iff.1 h).1).trans h
  have HP0 : Hid (∀ W', Below W.heap.size W W' → W'.heap[w.heap.size]? = some (.cells #[Value.slice a l.length cap] 46 (0, 0))) := K _ _ p0
  have HP1 : Hid (∀ W', Below W.heap.size W W' → W'.heap[w.heap.size + 1]? = some (.cells #[.slice sa s.man.segs.length sc, .int .i64 s.man.next, .int .i64 s.man.base, .int .i64 s.man.term, .slice ca s.man.conf.length cc, .slice da s.dir.length dc, .int .i64 s.stamp] 40 (0, 0))) := K _ _ p1
  have HP2 : Hid (∀ W', Below W.heap.size W W' → W'.heap[w.heap.size + 1 + 1]? = some (.cells #[.int .i64 st, .slice ba ch.length bc] 51 (0, 0))) := K _ _ p2
  have HRQ : Hid (∀ W', Below W.heap.size W W' → W'.heap[w.heap.size + 1 + 1 + 1]? = some (.cells #[.slice none 0 0, .int .i64 0, .int .i64 0, .int .i64 0, .slice none 0 0, .slice none 0 0, .int .i64 0] 40 (0, 0))) := K _ _ p3
  have HT : Hid (Calls Tryz.prog 58 #[.agg #[.int .i64 st, .slice ba ch.length bc]] W fun e w' => e = .returned (.tuple #[.string S, .bool T]) ∧ Below W.heap.size W w') := specText_any hT hcl W (hc.kept hb) hcs
  have HC : Hid (∀ W', Below W.heap.size W W' → Calls Tryz.prog 59 #[.agg #[.slice a l.length cap], shV s (.slice sa s.man.segs.length sc) (.slice ca s.man.conf.length cc) (.slice da s.dir.length dc)] W' fun e w' => e = .returned (.bool R) ∧ Below W'.heap.size W' w') := fun W' h => clean9_is l hlen hsz s n1 n2 n3 R hR W' ((hf.kept hb).kept h) ((hA.kept hb).kept h)
  unfold shV cells7 at HC ⊢
  have c0 := cell_of_row _ _ 0 _ _ _ p2
  have c1 := cell_of_row _ _ 1 _ _ _ p2
  simp at c0 c1
  rw [hW] at c0 c1
  clear hT hR hno hA hf hc hb p0 p1 p2 p3 K hsz hcs
  go_enter Tryz.func14, Tryz.ntmps14
  go_wp2_with fail
  rw [← hW]
  clear hW c0 c1
  refine Calls.mono HT.out ?_
  rintro e w1 ⟨rfl, hb1⟩
  have HB1 : Hid (Below W.heap.size W w1) := hb1
  clear hb1 HT
  rcases hd with h1 | ⟨h1, h2⟩ | ⟨h1, h2, h3⟩
  · subst h1
    have HQ : Hid ((w1.alloc (Obj.cells #[] 103)).heap[w.heap.size + 1 + 1 + 1]? = some (.cells #[.slice none 0 0, .int .i64 0, .int .i64 0, .int .i64 0, .slice none 0 0, .slice none 0 0, .int .i64 0] 40 (0, 0))) := ((((Below.refl _ _).alloc (Nat.le_refl _) _ : Below w1.heap.size w1 (w1.alloc (Obj.cells #[] 103))).block _ (Array.getElem?_eq_some_iff.1 (HRQ.out _ HB1.out)).1).trans (HRQ.out _ HB1.out))
    have hbE : Below w1.heap.size w1 (w1.alloc (Obj.cells #[] 103)) := (Below.refl _ _).alloc (Nat.le_refl _) _
    have hbW : Below w.heap.size w w1 := HB.out.trans (HB1.out.mono HB.out.size)
    have HY := res7 HQ.out (.slice none 0 0) (.int .i64 0) (.int .i64 0) (.int .i64 0) (.slice none 0 0) (.slice none 0 0) (.int .i64 0)
    have hown := World.ownsRow_made (base := w.heap.size) (e := 103) (size := 4) w1 #[] 0 hbW.size (by decide) rfl
    have HFin : Hid (AddPost w Shelves.zeroS [] false (.returned (.tuple #[.agg #[.slice none 0 0, .int .i64 0, .int .i64 0, .int .i64 0, .slice none 0 0, .slice none 0 0, .int .i64 0], .slice (some ⟨w1.heap.size, 0, none⟩) 0 0, .bool false])) (set7 (w1.alloc (Obj.cells #[] 103)) (w.heap.size + 1 + 1 + 1) (.slice none 0 0) (.int .i64 0) (.int .i64 0) (.int .i64 0) (.slice none 0 0) (.slice none 0 0) (.int .i64 0))) :=
      ⟨.slice none 0 0, .slice none 0 0, .slice none 0 0, _, rfl, ShOwn.zero _ _, set7_own hown HQ.out (by decide) _ _ _ _ _ _ _, set7_below (hbW.trans (hbE.mono hbW.size)) (by omega) _ _ _ _ _ _ _⟩
    obtain ⟨⟨z0, z1, z2, z3, z4, z5, z6⟩, y0, y1, y2, y3, y4, y5, y6⟩ := seven_cells HQ.out
    clear hown hbE hbW
    go_wp2
    obtain ⟨u0, u1, u2, u3, u4, u5, u6⟩ := HY
    unfold set7 at u0 u1 u2 u3 u4 u5 u6
    exact bodyPost_ret (v := .tuple #[.agg #[.slice none 0 0, .int .i64 0, .int .i64 0, .int .i64 0, .slice none 0 0, .slice none 0 0, .int .i64 0], .slice (some ⟨w1.heap.size, 0, none⟩) 0 0, .bool false]) (by simp [results, Tryz.results14, go_sem, u0, u1, u2, u3, u4, u5, u6]) rfl HFin.out
  · subst h1 h2
    have k0 := cell_of_row _ _ 0 _ _ _ (HP0.out _ HB1.out)
    obtain ⟨⟨e0, e1, e2, e3, e4, e5, e6⟩, _⟩ := seven_cells (HP1.out _ HB1.out)
    simp at k0
    go_wp2_with fail
    clear k0 e0 e1 e2 e3 e4 e5 e6
    refine Calls.mono (HC.out _ HB1.out) ?_
    rintro e w2 ⟨rfl, hb2⟩
    have HB2 : Hid (Below W.heap.size W w2) := HB1.out.trans (hb2.mono HB1.out.size)
    clear hb2
    have HQ : Hid ((w2.alloc (Obj.cells #[] 103)).heap[w.heap.size + 1 + 1 + 1]? = some (.cells #[.slice none 0 0, .int .i64 0, .int .i64 0, .int .i64 0, .slice none 0 0, .slice none 0 0, .int .i64 0] 40 (0, 0))) := ((((Below.refl _ _).alloc (Nat.le_refl _) _ : Below w2.heap.size w2 (w2.alloc (Obj.cells #[] 103))).block _ (Array.getElem?_eq_some_iff.1 (HRQ.out _ HB2.out)).1).trans (HRQ.out _ HB2.out))
    have hbE : Below w2.heap.size w2 (w2.alloc (Obj.cells #[] 103)) := (Below.refl _ _).alloc (Nat.le_refl _) _
    have hbW : Below w.heap.size w w2 := HB.out.trans (HB2.out.mono HB.out.size)
    have HY := res7 HQ.out (.slice none 0 0) (.int .i64 0) (.int .i64 0) (.int .i64 0) (.slice none 0 0) (.slice none 0 0) (.int .i64 0)
    have hown := World.ownsRow_made (base := w.heap.size) (e := 103) (size := 4) w2 #[] 0 hbW.size (by decide) rfl
    have HFin : Hid (AddPost w Shelves.zeroS [] false (.returned (.tuple #[.agg #[.slice none 0 0, .int .i64 0, .int .i64 0, .int .i64 0, .slice none 0 0, .slice none 0 0, .int .i64 0], .slice (some ⟨w2.heap.size, 0, none⟩) 0 0, .bool false])) (set7 (w2.alloc (Obj.cells #[] 103)) (w.heap.size + 1 + 1 + 1) (.slice none 0 0) (.int .i64 0) (.int .i64 0) (.int .i64 0) (.slice none 0 0) (.slice none 0 0) (.int .i64 0))) :=
      ⟨.slice none 0 0, .slice none 0 0, .slice none 0 0, _, rfl, ShOwn.zero _ _, set7_own hown HQ.out (by decide) _ _ _ _ _ _ _, set7_below (hbW.trans (hbE.mono hbW.size)) (by omega) _ _ _ _ _ _ _⟩
    obtain ⟨⟨z0, z1, z2, z3, z4, z5, z6⟩, y0, y1, y2, y3, y4, y5, y6⟩ := seven_cells HQ.out
    clear hown hbE hbW
    go_wp2
    obtain ⟨u0, u1, u2, u3, u4, u5, u6⟩ := HY
    unfold set7 at u0 u1 u2 u3 u4 u5 u6
    exact bodyPost_ret (v := .tuple #[.agg #[.slice none 0 0, .int .i64 0, .int .i64 0, .int .i64 0, .slice none 0 0, .slice none 0 0, .int .i64 0], .slice (some ⟨w2.heap.size, 0, none⟩) 0 0, .bool false]) (by simp [results, Tryz.results14, go_sem, u0, u1, u2, u3, u4, u5, u6]) rfl HFin.out
  · subst h1 h2
    have k0 := cell_of_row _ _ 0 _ _ _ (HP0.out _ HB1.out)
    obtain ⟨⟨e0, e1, e2, e3, e4, e5, e6⟩, _⟩ := seven_cells (HP1.out _ HB1.out)
    simp at k0
    go_wp2_with fail
    clear k0 e0 e1 e2 e3 e4 e5 e6
    refine Calls.mono (HC.out _ HB1.out) ?_
    rintro e w2 ⟨rfl, hb2⟩
    have HB2 : Hid (Below W.heap.size W w2) := HB1.out.trans (hb2.mono HB1.out.size)
    clear hb2
    have e6 := cell_of_row _ _ 6 _ _ _ (HP1.out _ HB2.out)
    have m0 := cell_of_row _ _ 0 _ _ _ (HP2.out _ HB2.out)
    simp at e6 m0
    have HQ : Hid ((w2.alloc (Obj.cells #[] 103)).heap[w.heap.size + 1 + 1 + 1]? = some (.cells #[.slice none 0 0, .int .i64 0, .int .i64 0, .int .i64 0, .slice none 0 0, .slice none 0 0, .int .i64 0] 40 (0, 0))) := ((((Below.refl _ _).alloc (Nat.le_refl _) _ : Below w2.heap.size w2 (w2.alloc (Obj.cells #[] 103))).block _ (Array.getElem?_eq_some_iff.1 (HRQ.out _ HB2.out)).1).trans (HRQ.out _ HB2.out))
    have hbE : Below w2.heap.size w2 (w2.alloc (Obj.cells #[] 103)) := (Below.refl _ _).alloc (Nat.le_refl _) _
    have hbW : Below w.heap.size w w2 := HB.out.trans (HB2.out.mono HB.out.size)
    have HY := res7 HQ.out (.slice none 0 0) (.int .i64 0) (.int .i64 0) (.int .i64 0) (.slice none 0 0) (.slice none 0 0) (.int .i64 0)
    have hown := World.ownsRow_made (base := w.heap.size) (e := 103) (size := 4) w2 #[] 0 hbW.size (by decide) rfl
    have HFin : Hid (AddPost w Shelves.zeroS [] false (.returned (.tuple #[.agg #[.slice none 0 0, .int .i64 0, .int .i64 0, .int .i64 0, .slice none 0 0, .slice none 0 0, .int .i64 0], .slice (some ⟨w2.heap.size, 0, none⟩) 0 0, .bool false])) (set7 (w2.alloc (Obj.cells #[] 103)) (w.heap.size + 1 + 1 + 1) (.slice none 0 0) (.int .i64 0) (.int .i64 0) (.int .i64 0) (.slice none 0 0) (.slice none 0 0) (.int .i64 0))) :=
      ⟨.slice none 0 0, .slice none 0 0, .slice none 0 0, _, rfl, ShOwn.zero _ _, set7_own hown HQ.out (by decide) _ _ _ _ _ _ _, set7_below (hbW.trans (hbE.mono hbW.size)) (by omega) _ _ _ _ _ _ _⟩
    obtain ⟨⟨z0, z1, z2, z3, z4, z5, z6⟩, y0, y1, y2, y3, y4, y5, y6⟩ := seven_cells HQ.out
    clear hown hbE hbW
    go_wp2
    obtain ⟨u0, u1, u2, u3, u4, u5, u6⟩ := HY
    unfold set7 at u0 u1 u2 u3 u4 u5 u6
    exact bodyPost_ret (v := .tuple #[.agg #[.slice none 0 0, .int .i64 0, .int .i64 0, .int .i64 0, .slice none 0 0, .slice none 0 0, .int .i64 0], .slice (some ⟨w2.heap.size, 0, none⟩) 0 0, .bool false]) (by simp [results, Tryz.results14, go_sem, u0, u1, u2, u3, u4, u5, u6]) rfl HFin.out
end Go.Proofs.YtbcfiiilikkkeaaGreatDoor
