/- The exact law of OpenShelf, walked. Made by program. What the exact laws of shelves share. The specification's l09Same: are two shelves the same, walked. The program's BatchText and Frame, walked (carried from elder seats). Plain facts on shelves: a disk behind the raw writes of a batch needs none, if a shelf is on it; no program is named here. The program's firstFrame: the frame that a segment begins with, walked. -/
import Derived.Test.YtbcfiiilikkkeaaGreatDoorShelfArg
import Derived.Test.YtbcfiiilikkkeaaGreatDoorImplOn
import Derived.Test.YtbcfiiilikkkeaaGreatDoorKit
import Derived.LaidEql
import Derived.Stop.Asserts
import Derived.RowKitTokens
import Derived.Test.YtbcfiiilikkkeaaGreatDoorMathComes2
import Derived.Test.YtbcfiiilikkkeaaGreatDoorMathAt
import Derived.Test.YtbcfiiilikkkeaaGreatDoorLRaw
import Derived.Test.YtbcfiiilikkkeaaGreatDoorReader
import Derived.Test.YtbcfiiilikkkeaaGreatDoorMathScan
import Derived.Laws.AppendOwnNone
import Derived.Deep.RegionHeld3
import Derived.Deep.DeepCutAuto
import Derived.Test.YtbcfiiilikkkeaaGreatDoorSh
import Derived.Laws.StructEq
import Derived.Test.YtbcfiiilikkkeaaGreatDoorSpecRead
import Derived.Test.YtbcfiiilikkkeaaGreatDoorYield
import Derived.Test.YtbcfiiilikkkeaaGreatDoorImplSeal
import Derived.Test.YtbcfiiilikkkeaaGreatDoorReadLaw
import Derived.Test.YtbcfiiilikkkeaaGreatDoorMathFormat
import Derived.Test.YtbcfiiilikkkeaaGreatDoorSpecScan
import Derived.Test.YtbcfiiilikkkeaaGreatDoorOkLaw
namespace Go.Proofs.YtbcfiiilikkkeaaGreatDoor
open Go.RowKit
open Shelves (OpenIs)
set_option linter.unusedVariables false
set_option linter.unusedSimpArgs false

theorem LawS.calls {w W W' : World} {bs : List (Nat × Obj)} {rows : List RowD} (h : LawS w bs rows W) (hb : Below W.heap.size W W') (new : List RowD) (hv : ∀ r ∈ new, W'.ownsRow W.heap.size r.e r.z r.v r.n r.xs) (ha : new.Pairwise fun r s => r.v.ownBlock = none ∨ r.v.ownBlock ≠ s.v.ownBlock) : LawS w bs (new ++ rows) W' := by
  have h2 := h.step hb
  refine ⟨h2.below, h2.has, fun p hp => ?_, fun p hp q hq => ?_, List.pairwise_append.2 ⟨ha, h.apart, fun r hr q hq => ?_⟩, h.dist, h.up⟩
  · rcases List.mem_append.1 hp with hp | hp
    · exact own_mono (hv p hp) h.below.size
    · exact h2.own p hp
  · rcases List.mem_append.1 hq with hq | hq
    · intro e
      have h3 := ((hv q hq).lt _ e).1
      have h4 := h.bsz p hp
      omega
    · exact h.sep p hp q hq
  · cases e : r.v.ownBlock with
    | none => exact Or.inl rfl
    | some k =>
      right
      intro e2
      have h3 := ((hv r hr).lt _ e).1
      have h4 := h.rsz q hq k e2.symm
      omega
theorem own_types {W : World} {B1 B2 t1 t2 z1 z2 n1 n2 : Nat} {u v : Value} {xs ys : List Value} (h1 : W.ownsRow B1 t1 z1 u n1 xs) (h2 : W.ownsRow B2 t2 z2 v n2 ys) (hne : t1 ≠ t2) : u.ownBlock = none ∨ u.ownBlock ≠ v.ownBlock := by
  rcases h2.2 with ⟨rfl, _⟩ | ⟨g, cap, cur, rfl, _, hh, _⟩
  · cases e : u.ownBlock with
    | none => exact Or.inl rfl
    | some k => right; simp [Value.ownBlock]
  · exact Or.inr (own_not h1 hh hne)
end Go.Proofs.YtbcfiiilikkkeaaGreatDoor
namespace Go.Proofs.YtbcfiiilikkkeaaGreatDoor
open Go.RowKit
open Shelves (OpenIs)
set_option linter.unusedVariables false
set_option linter.unusedSimpArgs false

theorem LawS.shelf3 {w W W' : World} {bs : List (Nat × Obj)} {rows : List RowD} (h : LawS w bs rows W) (hb : Below W.heap.size W W') {s : ShelfL} {va vc vd : Value} (hs : ShOwn W.heap.size s va vc vd W') (hap : Apart va vc) :
    LawS w bs (⟨va, 3, 1, s.man.segs.length, cellsI s.man.segs⟩ :: ⟨vc, 3, 1, s.man.conf.length, cellsI s.man.conf⟩ :: ⟨vd, 134, 4, s.dir.length, cellsSpot s.dir⟩ :: rows) W' := by
  refine h.calls hb [⟨va, 3, 1, s.man.segs.length, cellsI s.man.segs⟩, ⟨vc, 3, 1, s.man.conf.length, cellsI s.man.conf⟩, ⟨vd, 134, 4, s.dir.length, cellsSpot s.dir⟩] (fun r hm => ?_) ?_
  · simp only [List.mem_cons, List.not_mem_nil, or_false] at hm
    rcases hm with rfl | rfl | rfl
    · exact hs.segs
    · exact hs.conf
    · exact hs.dir
  · simp only [List.pairwise_cons, List.mem_cons, List.not_mem_nil, or_false, List.Pairwise.nil, and_true, forall_eq_or_imp, forall_eq, false_implies, implies_true]
    exact ⟨⟨apart_ne hap, own_types hs.segs hs.dir (by decide)⟩, own_types hs.conf hs.dir (by decide)⟩
end Go.Proofs.YtbcfiiilikkkeaaGreatDoor
namespace Go.Proofs.YtbcfiiilikkkeaaGreatDoor
open Go.RowKit
set_option linter.unusedVariables false
set_option linter.unusedSimpArgs false

theorem spot_ne {x y : SpotL} (h : x ≠ y) : x.key ≠ y.key ∨ (x.key = y.key ∧ (x.seg ≠ y.seg ∨ (x.seg = y.seg ∧ (x.pos ≠ y.pos ∨ (x.pos = y.pos ∧ x.size ≠ y.size))))) := by
  obtain ⟨a, b, c, d⟩ := x
  obtain ⟨a', b', c', d'⟩ := y
  by_cases h1 : a = a'
  · by_cases h2 : b = b'
    · by_cases h3 : c = c'
      · by_cases h4 : d = d'
        · subst h1 h2 h3 h4; exact absurd rfl h
        · exact Or.inr ⟨h1, Or.inr ⟨h2, Or.inr ⟨h3, h4⟩⟩⟩
      · exact Or.inr ⟨h1, Or.inr ⟨h2, Or.inl h3⟩⟩
    · exact Or.inr ⟨h1, Or.inl h2⟩
  · exact Or.inl h1
theorem toList_ne {a b : ByteArray} (h : a ≠ b) : (a.toList == b.toList) = false := by
  rw [ByteArray.toList_eq, ByteArray.toList_eq]
  obtain ⟨⟨x⟩⟩ := a
  obtain ⟨⟨y⟩⟩ := b
  rw [beq_eq_false_iff_ne]
  intro e
  exact h (by simp only at e; rw [e])
set_option maxHeartbeats 8000000 in
set_option maxRecDepth 100000 in
theorem same9_is {b b' : Nat} {va vc vd va' vc' vd' : Value} (s t : ShelfL) (n1 : s.man.segs.length ≤ 1048576) (n2 : s.man.conf.length ≤ 1048576) (n3 : s.dir.length ≤ 1048576) (m1 : t.man.segs.length ≤ 1048576) (m2 : t.man.conf.length ≤ 1048576) (m3 : t.dir.length ≤ 1048576) (R : Bool) (hR : R = true ↔ s = t) (w : World) (hA : ShOwn b s va vc vd w) (hB : ShOwn b' t va' vc' vd' w) :
    Calls Tryz.prog 113 #[shV s va vc vd, shV t va' vc' vd'] w fun e w' => e = .returned (.bool R) ∧ Below w.heap.size w w' := by
  obtain ⟨⟨l, x, y, z, c⟩, d, st⟩ := s
  obtain ⟨⟨l', x', y', z', c'⟩, d', st'⟩ := t
  obtain ⟨sa, sg, sc, e1, i1⟩ := cellsI_slice hA.segs
  obtain ⟨ca, cg, cc, e2, i2⟩ := cellsI_slice hA.conf
  obtain ⟨da, dg, dc, e3, i3⟩ := cellsSpot_slice hA.dir
  obtain ⟨sa', sg', sc', e4, j1⟩ := cellsI_slice hB.segs
  obtain ⟨ca', cg', cc', e5, j2⟩ := cellsI_slice hB.conf
  obtain ⟨da', dg', dc', e6, j3⟩ := cellsSpot_slice hB.dir
  subst e1 e2 e3 e4 e5 e6
  unfold shV cells7
  simp only at n1 n2 n3 m1 m2 m3 i1 i2 i3 j1 j2 j3 ⊢
  have HR : Hid (R = true ↔ (⟨⟨l, x, y, z, c⟩, d, st⟩ : ShelfL) = ⟨⟨l', x', y', z', c'⟩, d', st'⟩) := hR
  clear hR
  obtain ⟨W, hW⟩ : ∃ W, W = (w.alloc (.cells #[.slice sa l.length sc, .int .i64 x, .int .i64 y, .int .i64 z, .slice ca c.length cc, .slice da d.length dc, .int .i64 st] 40)).alloc (.cells #[.slice sa' l'.length sc', .int .i64 x', .int .i64 y', .int .i64 z', .slice ca' c'.length cc', .slice da' d'.length dc', .int .i64 st'] 40) := ⟨_, rfl⟩
  have hb : Below w.heap.size w W := by rw [hW]; exact ((Below.refl _ _).alloc (Nat.le_refl _) _).alloc (by simp) _
  have hp0 : W.heap[w.heap.size]? = some (.cells #[.slice sa l.length sc, .int .i64 x, .int .i64 y, .int .i64 z, .slice ca c.length cc, .slice da d.length dc, .int .i64 st] 40 (0, 0)) := by
    rw [hW, Below.heap_alloc _ _ _ (by simp)]; exact heap_alloc_new w _
  have hp1 : W.heap[w.heap.size + 1]? = some (.cells #[.slice sa' l'.length sc', .int .i64 x', .int .i64 y', .int .i64 z', .slice ca' c'.length cc', .slice da' d'.length dc', .int .i64 st'] 40 (0, 0)) := by
    rw [hW]; have := heap_alloc_new (w.alloc (.cells #[.slice sa l.length sc, .int .i64 x, .int .i64 y, .int .i64 z, .slice ca c.length cc, .slice da d.length dc, .int .i64 st] 40)) (.cells #[.slice sa' l'.length sc', .int .i64 x', .int .i64 y', .int .i64 z', .slice ca' c'.length cc', .slice da' d'.length dc', .int .i64 st'] 40); simpa using this
  have HP0 : Hid (∀ W1, Below W.heap.size W W1 → W1.heap[w.heap.size]? = some (.cells #[.slice sa l.length sc, .int .i64 x, .int .i64 y, .int .i64 z, .slice ca c.length cc, .slice da d.length dc, .int .i64 st] 40 (0, 0))) := fun W1 h => (h.block _ (Array.getElem?_eq_some_iff.1 hp0).1).trans hp0
  have HP1 : Hid (∀ W1, Below W.heap.size W W1 → W1.heap[w.heap.size + 1]? = some (.cells #[.slice sa' l'.length sc', .int .i64 x', .int .i64 y', .int .i64 z', .slice ca' c'.length cc', .slice da' d'.length dc', .int .i64 st'] 40 (0, 0))) := fun W1 h => (h.block _ (Array.getElem?_eq_some_iff.1 hp1).1).trans hp1
  have HB : Hid (Below w.heap.size w W) := hb
  obtain ⟨R1, hR1⟩ : ∃ R1 : Bool, R1 = true ↔ l = l' := ⟨decide (l = l'), by simp⟩
  obtain ⟨R2, hR2⟩ : ∃ R2 : Bool, R2 = true ↔ c = c' := ⟨decide (c = c'), by simp⟩
  have HS : Hid (∀ W1, Below W.heap.size W W1 → Calls Tryz.prog 172 #[.slice sa l.length sc, .slice sa' l'.length sc'] W1 fun e w' => e = .returned (.bool R1) ∧ Below W1.heap.size W1 w') := fun W1 h => sameInts9_is l l' n1 m1 R1 hR1 W1 ((i1.kept hb).kept h) ((j1.kept hb).kept h)
  have HC : Hid (∀ W1, Below W.heap.size W W1 → Calls Tryz.prog 172 #[.slice ca c.length cc, .slice ca' c'.length cc'] W1 fun e w' => e = .returned (.bool R2) ∧ Below W1.heap.size W1 w') := fun W1 h => sameInts9_is c c' n2 m2 R2 hR2 W1 ((i2.kept hb).kept h) ((j2.kept hb).kept h)
  obtain ⟨og, hog⟩ : ∃ og : Nat, og = 0 := ⟨0, rfl⟩
  obtain ⟨oh, hoh⟩ : ∃ oh : Nat, oh = 0 := ⟨0, rfl⟩
  rw [← hog] at i3
  rw [← hoh] at j3
  have HD : Hid (∀ W1, Below W.heap.size W W1 → SpotAt W1 da dg og d ∧ SpotAt W1 da' dg' oh d') := fun W1 h => ⟨(i3.kept hb).kept h, (j3.kept hb).kept h⟩
  clear hog hoh
  have H1 : Hid (R1 = true ↔ l = l') := hR1
  have H2 : Hid (R2 = true ↔ c = c') := hR2
  clear hA hB i1 i2 i3 j1 j2 j3 hb hR1 hR2
  obtain ⟨⟨p0, p1, p2, p3, p4, p5, p6⟩, _⟩ := seven_cells hp0
  obtain ⟨⟨q0, q1, q2, q3, q4, q5, q6⟩, _⟩ := seven_cells hp1
  clear hp0 hp1
  rw [hW] at p0 p1 p2 p3 p4 p5 p6 q0 q1 q2 q3 q4 q5 q6
  by_cases kst : st = st'
  · have hcst : (st != st') = false := by simp [kst]
    have KST : Hid (st = st') := kst
    clear kst
    go_enter Tryz.func113, Tryz.ntmps113
    go_wp2_with fail
    rw [← hW]
    clear hW p0 p1 p2 p3 p4 p5 p6 q0 q1 q2 q3 q4 q5 q6
    refine Calls.mono (HS.out _ (Below.refl _ _)) ?_
    rintro e w1 ⟨rfl, hb1⟩
    have HB1 : Hid (Below W.heap.size W w1) := hb1
    have HW1 : Hid (Below w.heap.size w w1) := HB.out.trans (hb1.mono HB.out.size)
    obtain ⟨⟨p0, p1, p2, p3, p4, p5, p6⟩, _⟩ := seven_cells (HP0.out _ hb1)
    obtain ⟨⟨q0, q1, q2, q3, q4, q5, q6⟩, _⟩ := seven_cells (HP1.out _ hb1)
    clear hb1
    cases R1 with
    | false =>
      have hRf : R = false := ans_no HR.out fun e => by cases e; exact absurd (H1.out.2 rfl) (by simp)
      subst hRf
      go_wp2
      go_ret
      exact ⟨rfl, HW1.out⟩
    | true =>
      by_cases kx : x = x'
      · have hcx : (x != x') = false := by simp [kx]
        have KX : Hid (x = x') := kx
        clear kx
        by_cases ky : y = y'
        · have hcy : (y != y') = false := by simp [ky]
          have KY : Hid (y = y') := ky
          clear ky
          by_cases kz : z = z'
          · have hcz : (z != z') = false := by simp [kz]
            have KZ : Hid (z = z') := kz
            clear kz
            go_wp2_with fail
            clear p0 p1 p2 p3 p4 p5 p6 q0 q1 q2 q3 q4 q5 q6
            refine Calls.mono (HC.out _ HB1.out) ?_
            rintro e w2 ⟨rfl, hb2⟩
            have hB2 := HB1.out.trans (hb2.mono HB1.out.size)
            have HB2 : Hid (Below W.heap.size W w2) := hB2
            have HW2 : Hid (Below w.heap.size w w2) := HB.out.trans (hB2.mono HB.out.size)
            obtain ⟨⟨p0, p1, p2, p3, p4, p5, p6⟩, _⟩ := seven_cells (HP0.out _ hB2)
            obtain ⟨⟨q0, q1, q2, q3, q4, q5, q6⟩, _⟩ := seven_cells (HP1.out _ hB2)
            clear hb2 hB2
            cases R2 with
            | false =>
              have hRf : R = false := ans_no HR.out fun e => by cases e; exact absurd (H2.out.2 rfl) (by simp)
              subst hRf
              go_wp2
              go_ret
              exact ⟨rfl, HW2.out⟩
            | true =>
              by_cases kd : d.length = d'.length
              · have hcd : ((d.length : Int) != (d'.length : Int)) = false := by simp; omega
                go_wp2
                clear p0 p1 p2 p3 p4 p5 p6 q0 q1 q2 q3 q4 q5 q6
                go_loopw [5] (fun i wr => ∃ k : Nat, k ≤ d.length ∧ i = .int .i64 (k : Int) ∧ (∀ j (h1 : j < d.length) (h2 : j < d'.length), j < k → d[j] = d'[j]) ∧ Below W.heap.size W wr)
                  (fun i _ => d.length - (intOf i).toNat)
                case atStart => exact ⟨0, Nat.zero_le _, rfl, fun j _ _ q => absurd q (Nat.not_lt_zero _), HB2.out⟩
                case round =>
                  obtain ⟨k, hk, rfl, hsm, hbel⟩ := hrel
                  have HSM : Hid (∀ j (h1 : j < d.length) (h2 : j < d'.length), j < k → d[j] = d'[j]) := hsm
                  have HBL : Hid (Below W.heap.size W wr) := hbel
                  obtain ⟨⟨p0, p1, p2, p3, p4, p5, p6⟩, _⟩ := seven_cells (HP0.out _ hbel)
                  obtain ⟨⟨q0, q1, q2, q3, q4, q5, q6⟩, _⟩ := seven_cells (HP1.out _ hbel)
                  clear hsm p0 p1 p2 p3 p4 p6 q0 q1 q2 q3 q4 q6
                  by_cases hlt : k < d.length
                  · have hltm : k < d'.length := by omega
                    obtain ⟨a0, a1, a2, a3⟩ := (HD.out _ hbel).1.2 k hlt
                    obtain ⟨b0, b1, b2, b3⟩ := (HD.out _ hbel).2.2 k hltm
                    have ea := (HD.out _ hbel).1.1 (by omega)
                    have eb := (HD.out _ hbel).2.1 (by omega)
                    subst ea eb
                    obtain ⟨X, hX⟩ : ∃ X, X = d[k] := ⟨_, rfl⟩
                    obtain ⟨Y, hY⟩ : ∃ Y, Y = d'[k] := ⟨_, rfl⟩
                    rw [← hX] at a0 a1 a2 a3
                    rw [← hY] at b0 b1 b2 b3
                    have HX : Hid (X = d[k]) := hX
                    have HY : Hid (Y = d'[k]) := hY
                    clear hX hY hbel
                    have hk0 : (0 : Int) ≤ (k : Int) := by omega
                    have hk1 : (k : Int) < (d.length : Int) := by omega
                    have hk2 : (k : Int) < (d'.length : Int) := by omega
                    by_cases hxy : X = Y
                    · have HXY : Hid (X = Y) := hxy
                      rw [← hxy] at b0 b1 b2 b3
                      clear hxy
                      have hkey : (X.key.toList == X.key.toList) = true := by simp
                      go_wp2
                      have NE := Abv.ne wr
                      have P5 := fun x : Abv wr => x.cell p5
                      have Q5 := fun x : Abv wr => x.cell q5
                      have A0 := fun x : Abv wr => x.cell a0
                      have A1 := fun x : Abv wr => x.cell a1
                      have A2 := fun x : Abv wr => x.cell a2
                      have A3 := fun x : Abv wr => x.cell a3
                      have B0 := fun x : Abv wr => x.cell b0
                      have B1 := fun x : Abv wr => x.cell b1
                      have B2 := fun x : Abv wr => x.cell b2
                      have B3 := fun x : Abv wr => x.cell b3
                      refine wp_region_above (by kernel_rfl) (by kernel_rfl) ?_
                      repeat (go_big_quiet_step (fail))
                      refine wpQuiet_nil ?_
                      rintro w1 ⟨⟨_, hb1⟩, rfl⟩
                      clear NE P5 Q5 A0 A1 A2 A3 B0 B1 B2 B3
                      go_wp2
                      go_roundw
                      case rel =>
                        refine ⟨k + 1, by omega, by go_num, fun j h1 h2 q => ?_, HBL.out.trans (hb1.mono HBL.out.size)⟩
                        by_cases e : j = k
                        · subst e; rw [← HX.out, ← HY.out]; exact HXY.out
                        · exact HSM.out j h1 h2 (by omega)
                      case measure => simp [intOf]; omega
                    · have hRf : R = false := ans_no HR.out fun e => hxy (by rw [HX.out, HY.out]; cases e; rfl)
                      subst hRf
                      have hcases := spot_ne hxy
                      clear hxy
                      rcases hcases with r0 | ⟨r0, r1 | ⟨r1, r2 | ⟨r2, r3⟩⟩⟩
                      all_goals
                        try (have s0 := toList_ne r0)
                        try (have s0 : (X.key.toList == Y.key.toList) = true := by rw [r0]; simp)
                        try (have s1 : (X.seg == Y.seg) = false := beq_eq_false_iff_ne.2 r1)
                        try (have s1 : (X.seg == Y.seg) = true := beq_iff_eq.2 r1)
                        try (have s2 : (X.pos == Y.pos) = false := beq_eq_false_iff_ne.2 r2)
                        try (have s2 : (X.pos == Y.pos) = true := beq_iff_eq.2 r2)
                        try (have s3 : (X.size == Y.size) = false := beq_eq_false_iff_ne.2 r3)
                        try clear r0
                        try clear r1
                        try clear r2
                        try clear r3
                        go_wp2
                        have NE := Abv.ne wr
                        have P5 := fun x : Abv wr => x.cell p5
                        have Q5 := fun x : Abv wr => x.cell q5
                        have A0 := fun x : Abv wr => x.cell a0
                        have A1 := fun x : Abv wr => x.cell a1
                        have A2 := fun x : Abv wr => x.cell a2
                        have A3 := fun x : Abv wr => x.cell a3
                        have B0 := fun x : Abv wr => x.cell b0
                        have B1 := fun x : Abv wr => x.cell b1
                        have B2 := fun x : Abv wr => x.cell b2
                        have B3 := fun x : Abv wr => x.cell b3
                        refine wp_region_above (by kernel_rfl) (by kernel_rfl) ?_
                        repeat (go_big_quiet_step (fail))
                        refine wpQuiet_nil ?_
                        rintro w1 ⟨⟨_, hb1⟩, rfl⟩
                        clear NE P5 Q5 A0 A1 A2 A3 B0 B1 B2 B3
                        go_wp2
                        go_ret
                        exact ⟨rfl, HB.out.trans ((HBL.out.trans (hb1.mono HBL.out.size)).mono HB.out.size)⟩
                  · have hRt : R = true := by
                      have hd : d = d' := List.ext_getElem kd fun j h1 h2 => HSM.out j h1 h2 (by omega)
                      have e1 : l = l' := by have := H1.out; simpa using this
                      have e2 : c = c' := by have := H2.out; simpa using this
                      refine HR.out.2 ?_
                      rw [e1, e2, hd, KST.out, KX.out, KY.out, KZ.out]
                    subst hRt
                    have hk1 : ¬ (k : Int) < (d.length : Int) := by omega
                    clear hbel
                    go_wp2
                    go_ret
                    exact ⟨rfl, HB.out.trans (HBL.out.mono HB.out.size)⟩
              · have hRf : R = false := ans_no HR.out fun e => kd (by cases e; rfl)
                subst hRf
                have hcd : ((d.length : Int) != (d'.length : Int)) = true := by simp; omega
                go_wp2
                go_ret
                exact ⟨rfl, HW2.out⟩
          · have hRf : R = false := ans_no HR.out fun e => kz (by cases e; rfl)
            subst hRf
            have hcz : (z != z') = true := by simp [kz]
            clear kz
            go_wp2
            go_ret
            exact ⟨rfl, HW1.out⟩
        · have hRf : R = false := ans_no HR.out fun e => ky (by cases e; rfl)
          subst hRf
          have hcy : (y != y') = true := by simp [ky]
          clear ky
          go_wp2
          go_ret
          exact ⟨rfl, HW1.out⟩
      · have hRf : R = false := ans_no HR.out fun e => kx (by cases e; rfl)
        subst hRf
        have hcx : (x != x') = true := by simp [kx]
        clear kx
        go_wp2
        go_ret
        exact ⟨rfl, HW1.out⟩
  · have hRf : R = false := ans_no HR.out fun e => kst (by cases e; rfl)
    subst hRf
    have hcst : (st != st') = true := by simp [kst]
    clear kst
    go_enter Tryz.func113, Tryz.ntmps113
    go_wp2
    go_ret
    exact ⟨rfl, by rw [← hW]; exact HB.out⟩
end Go.Proofs.YtbcfiiilikkkeaaGreatDoor
namespace Go.Proofs.YtbcfiiilikkkeaaGreatDoor
open Go.RowKit
set_option linter.unusedVariables false

set_option maxHeartbeats 400000 in
theorem implFrame_yes (s : ByteArray) (h1 : 1 ≤ s.size) (h2 : s.size ≤ 9000) (w : World) :
    Calls Tryz.prog 71 #[.string s] w fun e w' => e = .returned (frameTuple s) ∧ Below w.heap.size w w' := by
  have hv := Words.var_len s.size
  have hf := four_size (Sums.sumOf s.data.toList)
  go_enter Tryz.func71, Tryz.ntmps71
  go_wp2_with (first | (go_at_call 141; refine (sizeOk_yes _ (by omega) _).mono ?_; rintro e w' ⟨rfl, rfl⟩) | (go_at_call 142; refine (implVar_yes s.size (by omega) _).mono ?_; rintro e w1 ⟨rfl, hb1⟩) | (go_at_call 143; refine (sealOf_any s (by omega) _).mono ?_; rintro e w2 ⟨rfl, hb2⟩))
  go_ret2
  exact ⟨rfl, hb1.trans (hb2.mono hb1.size)⟩

end Go.Proofs.YtbcfiiilikkkeaaGreatDoor
namespace Go.Proofs.YtbcfiiilikkkeaaGreatDoor
set_option linter.unusedVariables false
namespace Shelves
open Go
open Batches (by_ by_inj lt)
open Scan (segEnd segSpots segStamp Full by_len)
open Disks (fileAt textOf RawL nameIs)
theorem opens_loads {D : List FileL} {t : ShelfL} {more : List RawL} (h : opens D = .ok (t, more)) : ∃ e, Loads D t e := by
  unfold opens at h
  cases hl : load D with
  | error c => rw [hl] at h; cases h
  | ok p =>
    obtain ⟨s', e⟩ := p
    rw [hl] at h
    simp only [Except.ok.injEq, Prod.mk.injEq] at h
    obtain ⟨rfl, _⟩ := h
    exact ⟨e, load_iff.1 hl⟩
end Shelves
end Go.Proofs.YtbcfiiilikkkeaaGreatDoor
namespace Go.Proofs.YtbcfiiilikkkeaaGreatDoor
open Go.RowKit
set_option linter.unusedVariables false
set_option linter.unusedSimpArgs false

def bytesOf (r : List UInt8) : ByteArray := ⟨r.toArray⟩
/-- The frame that a text begins with, where it is of a batch with this stamp. -/
def firstOf (t : ByteArray) (stamp : Int) : Option ByteArray := match unS t with
  | [] => none
  | r :: _ => match Scan.batOf (bytesOf r) with
    | none => none
    | some (st, _) => if (st : Int) = stamp then some (frameB (bytesOf r)) else none
def firstTuple (o : Option ByteArray) : Value := match o with
  | none => .tuple #[.string ⟨#[]⟩, .bool false]
  | some f => .tuple #[.string f, .bool true]
theorem cellS_zero {w : World} {base : Nat} {a : Option Addr} {n cap : Nat} {r : List UInt8} {ps : List (List UInt8)} (hn : n = ps.length + 1) (h : w.ownsRow base 9 1 (.slice a n cap) n (cellsS (r :: ps))) : ∃ g, a = some ⟨g, 0, none⟩ ∧ w.cell? ⟨g, 0, none⟩ = some (.string (bytesOf r)) := by
  rcases h.2 with ⟨h1, h2⟩ | ⟨g, cap', cur, h1, _, hh, h3⟩
  · omega
  · cases h1
    refine ⟨g, rfl, ?_⟩
    have := World.ownsRow.cells h (g := g) rfl 0 (.string (bytesOf r)) (by simp [cellsS, bytesOf])
    simpa [Addr.add] using this
theorem un_mem_size {t : ByteArray} {r : List UInt8} (h : r ∈ unS t) : (bytesOf r).size ≤ 20000 := by
  unfold unS at h
  split at h
  · rename_i hs
    have := Scan.un_size _ _ _ r h
    show r.toArray.size ≤ 20000
    rw [List.size_toArray]
    omega
  · exact (List.not_mem_nil h).elim
set_option maxHeartbeats 8000000 in
set_option maxRecDepth 100000 in
theorem implFirst_any (t : ByteArray) (hs : t.size ≤ maxLen) (stamp : Int) (w : World) :
    Calls Tryz.prog 112 #[.string t, .int .i64 stamp] w fun e w' => e = .returned (firstTuple (firstOf t stamp)) ∧ Below w.heap.size w w' := by
  obtain ⟨o, ho⟩ : ∃ o, o = firstOf t stamp := ⟨_, rfl⟩
  obtain ⟨ps, hps⟩ : ∃ ps, ps = unS t := ⟨_, rfl⟩
  have HUN : Hid (Calls Tryz.prog 170 #[.string t] w fun e w' => UnPost ps (unE t) w e w') := by rw [hps]; exact implUn_any t hs w
  have HO : Hid (o = firstOf t stamp) := ho
  have HPS : Hid (ps = unS t) := hps
  rw [← ho]
  clear ho hps hs
  go_enter Tryz.func112, Tryz.ntmps112
  go_wp2_with fail
  refine Calls.mono HUN.out ?_
  rintro e w1 ⟨v, rfl, hown, hb1⟩
  have HB1 : Hid (Below w.heap.size w w1) := hb1
  have HW1 : Hid (w1.ownsRow w.heap.size 9 1 v ps.length (cellsS ps)) := hown
  clear hb1 HUN
  cases ps with
  | nil =>
    have e0 : o = none := by rw [HO.out]; unfold firstOf; rw [← HPS.out]
    obtain ⟨va, vc, hv⟩ := own_slice hown
    subst hv e0
    clear hown
    go_wp2
    go_ret2
    exact ⟨rfl, HB1.out⟩
  | cons r ps =>
    obtain ⟨va, vc, hv⟩ := own_slice hown
    subst hv
    obtain ⟨n, hn⟩ : ∃ n, n = (r :: ps).length := ⟨_, rfl⟩
    rw [← hn] at hown HW1 ⊢
    have hn0 : ((n : Int) == 0) = false := by
      rw [beq_eq_false_iff_ne]; simp at hn; omega
    have hn1 : (0 : Int) < (n : Int) := by simp at hn; omega
    obtain ⟨g, hg, c0⟩ := cellS_zero (by simpa using hn) hown
    subst hg
    have HC0 : Hid (∀ W', Below w1.heap.size w1 W' → W'.cell? ⟨g, 0, none⟩ = some (.string (bytesOf r))) := fun W' h => (h.cell (p := ⟨g, 0, none⟩) (World.block_lt_of_cell? _ _ c0)).trans c0
    have hrl : (bytesOf r).size ≤ 20000 := by
      have : r ∈ unS t := by rw [← HPS.out]; exact List.mem_cons_self
      exact un_mem_size this
    cases hb : Scan.batOf (bytesOf r) with
    | none =>
      have e0 : o = none := by rw [HO.out]; unfold firstOf; rw [← HPS.out]; simp only; rw [hb]
      subst e0
      have HR : Hid (∀ W', Calls Tryz.prog 171 #[.string (bytesOf r)] W' fun en w' => en = .returned (.tuple #[.agg #[.int .i64 0, .slice none 0 0], .bool false]) ∧ Below W'.heap.size W' w') := fun W' => implReadB_no (by omega) W' fun st l h => by rw [Scan.batOf_iff.2 h] at hb; cases hb
      clear hown hb hn hrl
      go_wp2_with fail
      refine Calls.mono (HR.out _) ?_
      rintro e w2 ⟨rfl, hb2⟩
      have HB2 : Hid (Below w.heap.size w w2) := HB1.out.trans (hb2.mono HB1.out.size)
      have HBF : Hid (Below w.heap.size w (w2.alloc (Obj.cells #[.int .i64 0, .slice none 0 0] 51))) := HB2.out.alloc HB2.out.size _
      clear hb2 c0
      go_wp2
      go_ret2
      exact ⟨rfl, HBF.out⟩
    | some q =>
      obtain ⟨st, l⟩ := q
      have hG := Scan.batOf_iff.1 hb
      have hr0 : Batches.by_ (bytesOf r) = Batches.text st l := hG.1
      have hrec := Scan.text_rec (st := st) (l := l) hG.2
      have hz1 : 1 ≤ (bytesOf r).size ∧ (bytesOf r).size ≤ 9000 := by
        rw [← hr0] at hrec; unfold Words.okRec at hrec; rw [Scan.by_len] at hrec; exact hrec
      have HR : Hid (∀ W', Calls Tryz.prog 171 #[.string (bytesOf r)] W' fun en w' => ∃ v, en = .returned (.tuple #[.agg #[.int .i64 (st : Int), v], .bool true]) ∧ w'.ownsRow W'.heap.size 149 3 v l.length (cellsChange l) ∧ Below W'.heap.size W' w') := fun W' => implReadB_yes (by omega) W' hG
      have HF : Hid (∀ W', Calls Tryz.prog 71 #[.string (bytesOf r)] W' fun e w' => e = .returned (.tuple #[.string (frameB (bytesOf r)), .bool true]) ∧ Below W'.heap.size W' w') := fun W' => implFrame_yes _ hz1.1 hz1.2 W'
      have hoo : o = if (st : Int) = stamp then some (frameB (bytesOf r)) else none := by rw [HO.out]; unfold firstOf; rw [← HPS.out]; simp only; rw [hb]
      clear hown hb hn hrl hG hr0 hrec hz1
      go_wp2_with fail
      refine Calls.mono (HR.out _) ?_
      rintro e w2 ⟨v, rfl, ho2, hb2⟩
      obtain ⟨xa, xc, hv⟩ := own_slice ho2
      subst hv
      obtain ⟨W3, hW3⟩ : ∃ W3, W3 = w2.alloc (Obj.cells #[.int .i64 (st : Int), .slice xa l.length xc] 51) := ⟨_, rfl⟩
      have hb3 : Below w2.heap.size w2 W3 := by rw [hW3]; exact (Below.refl _ _).alloc (Nat.le_refl _) _
      have hb13 : Below w1.heap.size w1 W3 := hb2.trans (hb3.mono hb2.size)
      have HB3 : Hid (Below w.heap.size w W3) := HB1.out.trans (hb13.mono HB1.out.size)
      have q0 : W3.cell? ⟨w2.heap.size, 0, none⟩ = some (.int .i64 (st : Int)) := by rw [hW3]; exact cell_of_row _ _ 0 _ _ _ (heap_alloc_new w2 _)
      have c3 := HC0.out _ hb13
      clear ho2 hb2 hb3 hb13 c0 HR
      by_cases hst : (st : Int) = stamp
      · rw [if_pos hst] at hoo
        subst hoo
        have hne : ((st : Int) != stamp) = false := by simp [hst]
        clear hst
        rw [hW3] at q0 c3
        go_wp2_with fail
        rw [← hW3]
        clear hW3 q0 c3
        refine Calls.mono (HF.out _) ?_
        rintro e w4 ⟨rfl, hb4⟩
        have HB4 : Hid (Below w.heap.size w w4) := HB3.out.trans (hb4.mono HB3.out.size)
        clear hb4
        go_wp2
        go_ret2
        exact ⟨rfl, HB4.out⟩
      · rw [if_neg hst] at hoo
        subst hoo
        have hne : ((st : Int) != stamp) = true := by simp [hst]
        clear hst
        rw [hW3] at q0 c3
        go_wp2
        go_ret2
        exact ⟨rfl, by rw [← hW3]; exact HB3.out⟩
end Go.Proofs.YtbcfiiilikkkeaaGreatDoor
