/- The program's sameShelf: are two shelves the same, walked. The specification's AddBatch, where it adds to the last segment, walked. The program's SnapText: the first frame of a merged shelf, walked. -/
import Derived.Test.YtbcfiiilikkkeaaGreatDoorEqSpots
import Derived.Test.YtbcfiiilikkkeaaGreatDoorValue2
import Derived.Test.YtbcfiiilikkkeaaGreatDoorImplFirst
import Derived.Test.YtbcfiiilikkkeaaGreatDoorShelfArg
import Derived.Test.YtbcfiiilikkkeaaGreatDoorSpecRead
import Derived.Test.YtbcfiiilikkkeaaGreatDoorRdList
import Derived.Test.YtbcfiiilikkkeaaGreatDoorReadLaw
import Derived.Test.YtbcfiiilikkkeaaGreatDoorLRaw
import Derived.Test.YtbcfiiilikkkeaaGreatDoorSh
import Derived.Test.YtbcfiiilikkkeaaGreatDoorScanOf
import Derived.Test.YtbcfiiilikkkeaaGreatDoorSpecOpen
import Derived.Test.YtbcfiiilikkkeaaGreatDoorYield
import Derived.Test.YtbcfiiilikkkeaaGreatDoorImplSegs
import Derived.Test.YtbcfiiilikkkeaaGreatDoorImplOn
import Derived.Test.YtbcfiiilikkkeaaGreatDoorMathFormat
import Derived.Test.YtbcfiiilikkkeaaGreatDoorMathComes2
namespace Go.Proofs.YtbcfiiilikkkeaaGreatDoor
open Go.RowKit
set_option linter.unusedVariables false
set_option linter.unusedSimpArgs false

set_option maxHeartbeats 8000000 in
set_option maxRecDepth 100000 in
theorem implSame_is {b b' : Nat} {va vc vd va' vc' vd' : Value} (s t : ShelfL) (hok : Mans.ok s.man) (n1 : s.man.segs.length ≤ 1048576) (n2 : s.man.conf.length ≤ 1048576) (n3 : s.dir.length ≤ 1048576) (m1 : t.man.segs.length ≤ 1048576) (m2 : t.man.conf.length ≤ 1048576) (m3 : t.dir.length ≤ 1048576) (R : Bool) (hR : R = true ↔ s = t) (w : World) (hA : ShOwn b s va vc vd w) (hB : ShOwn b' t va' vc' vd' w) :
    Calls Tryz.prog 116 #[shV s va vc vd, shV t va' vc' vd'] w fun e w' => e = .returned (.bool R) ∧ Below w.heap.size w w' := by
  obtain ⟨sa, sg, sc, e1, i1⟩ := cellsI_slice hA.segs
  obtain ⟨ca, cg, cc, e2, i2⟩ := cellsI_slice hA.conf
  obtain ⟨da, dg, dc, e3, i3⟩ := cellsSpot_slice hA.dir
  obtain ⟨sa', sg', sc', e4, j1⟩ := cellsI_slice hB.segs
  obtain ⟨ca', cg', cc', e5, j2⟩ := cellsI_slice hB.conf
  obtain ⟨da', dg', dc', e6, j3⟩ := cellsSpot_slice hB.dir
  subst e1 e2 e3 e4 e5 e6
  unfold shV cells7
  obtain ⟨W, hW⟩ : ∃ W, W = (w.alloc (.cells #[.slice sa s.man.segs.length sc, .int .i64 s.man.next, .int .i64 s.man.base, .int .i64 s.man.term, .slice ca s.man.conf.length cc, .slice da s.dir.length dc, .int .i64 s.stamp] 40)).alloc (.cells #[.slice sa' t.man.segs.length sc', .int .i64 t.man.next, .int .i64 t.man.base, .int .i64 t.man.term, .slice ca' t.man.conf.length cc', .slice da' t.dir.length dc', .int .i64 t.stamp] 40) := ⟨_, rfl⟩
  have hb : Below w.heap.size w W := by rw [hW]; exact ((Below.refl _ _).alloc (Nat.le_refl _) _).alloc (by simp) _
  have hp0 : W.heap[w.heap.size]? = some (.cells #[.slice sa s.man.segs.length sc, .int .i64 s.man.next, .int .i64 s.man.base, .int .i64 s.man.term, .slice ca s.man.conf.length cc, .slice da s.dir.length dc, .int .i64 s.stamp] 40 (0, 0)) := by
    rw [hW, Below.heap_alloc _ _ _ (by simp)]; exact heap_alloc_new w _
  have hp1 : W.heap[w.heap.size + 1]? = some (.cells #[.slice sa' t.man.segs.length sc', .int .i64 t.man.next, .int .i64 t.man.base, .int .i64 t.man.term, .slice ca' t.man.conf.length cc', .slice da' t.dir.length dc', .int .i64 t.stamp] 40 (0, 0)) := by
    rw [hW]; have := heap_alloc_new (w.alloc (.cells #[.slice sa s.man.segs.length sc, .int .i64 s.man.next, .int .i64 s.man.base, .int .i64 s.man.term, .slice ca s.man.conf.length cc, .slice da s.dir.length dc, .int .i64 s.stamp] 40)) (.cells #[.slice sa' t.man.segs.length sc', .int .i64 t.man.next, .int .i64 t.man.base, .int .i64 t.man.term, .slice ca' t.man.conf.length cc', .slice da' t.dir.length dc', .int .i64 t.stamp] 40); simpa using this
  have HB : Hid (Below w.heap.size w W) := hb
  obtain ⟨A, hAq⟩ : ∃ A, A = intV (lst17 s.man) := ⟨_, rfl⟩
  obtain ⟨B, hBq⟩ : ∃ B, B = intV (lst17 t.man) := ⟨_, rfl⟩
  obtain ⟨RM, hRM⟩ : ∃ RM : Bool, RM = true ↔ s.man = t.man := by
    by_cases h : s.man = t.man
    · exact ⟨true, by simp [h]⟩
    · exact ⟨false, by simp [h]⟩
  obtain ⟨RD, hRD⟩ : ∃ RD : Bool, RD = true ↔ s.dir = t.dir := by
    by_cases h : s.dir = t.dir
    · exact ⟨true, by simp [h]⟩
    · exact ⟨false, by simp [h]⟩
  have hq : ∀ wx : World, (binOp .eql 231 (.agg A) (.agg B)).run Tryz.prog wx = .ok (.bool RM) wx := fun wx => by
    rw [hAq, hBq, eq17 _ _ (lst17_len _) (lst17_len _)]
    congr 2
    rw [Bool.eq_iff_iff, decide_eq_true_iff, lst17_eq hok, hRM]
  have V1 : Hid (∀ x : Abv W, Calls Tryz.prog 177 #[.agg #[.slice sa s.man.segs.length sc, .int .i64 s.man.next, .int .i64 s.man.base, .int .i64 s.man.term, .slice ca s.man.conf.length cc]] x.w fun e w' => e = .returned (.agg A) ∧ Below x.w.heap.size x.w w') := fun x => by
    have := valueOf_any (ca := sc) (cb := cc) s.man n1 n2 x.w ((i1.kept hb).kept x.b) ((i2.kept hb).kept x.b)
    unfold manV at this
    rw [hAq]; exact this
  have V2 : Hid (∀ x : Abv W, Calls Tryz.prog 177 #[.agg #[.slice sa' t.man.segs.length sc', .int .i64 t.man.next, .int .i64 t.man.base, .int .i64 t.man.term, .slice ca' t.man.conf.length cc']] x.w fun e w' => e = .returned (.agg B) ∧ Below x.w.heap.size x.w w') := fun x => by
    have := valueOf_any (ca := sc') (cb := cc') t.man m1 m2 x.w ((j1.kept hb).kept x.b) ((j2.kept hb).kept x.b)
    unfold manV at this
    rw [hBq]; exact this
  have VD : Hid (∀ x : Abv W, Calls Tryz.prog 178 #[.slice da s.dir.length dc, .slice da' t.dir.length dc'] x.w fun e w' => e = .returned (.bool RD) ∧ Below x.w.heap.size x.w w') := fun x => eqSpots_is s.dir t.dir n3 m3 RD hRD x.w ((i3.kept hb).kept x.b) ((j3.kept hb).kept x.b)
  have hd : (RM = false ∧ R = false) ∨ (RM = true ∧ RD = false ∧ R = false) ∨ (RM = true ∧ RD = true ∧ s.stamp ≠ t.stamp ∧ R = false) ∨ (RM = true ∧ RD = true ∧ s.stamp = t.stamp ∧ R = true) := by
    obtain ⟨ms, ds, ss⟩ := s
    obtain ⟨mt, dt, st⟩ := t
    simp only [ShelfL.mk.injEq] at hR hRM hRD ⊢
    cases RM <;> cases RD <;> cases R <;> simp_all
  obtain ⟨⟨p0, p1, p2, p3, p4, p5, p6⟩, _⟩ := seven_cells hp0
  obtain ⟨⟨q0, q1, q2, q3, q4, q5, q6⟩, _⟩ := seven_cells hp1
  clear hA hB i1 i2 i3 j1 j2 j3 hb hRM hRD hR hp0 hp1 hAq hBq hok
  go_enter Tryz.func116, Tryz.ntmps116
  rcases hd with ⟨rfl, rfl⟩ | ⟨rfl, rfl, rfl⟩ | ⟨rfl, rfl, h3, rfl⟩ | ⟨rfl, rfl, h3, rfl⟩
  · go_wp2
    rw [← hW]
    clear hW
    have NE := Abv.ne W
    have P0 := fun x : Abv W => x.cell p0
    have Q0 := fun x : Abv W => x.cell q0
    have P1 := fun x : Abv W => x.cell p1
    have Q1 := fun x : Abv W => x.cell q1
    have P2 := fun x : Abv W => x.cell p2
    have Q2 := fun x : Abv W => x.cell q2
    have P3 := fun x : Abv W => x.cell p3
    have Q3 := fun x : Abv W => x.cell q3
    have P4 := fun x : Abv W => x.cell p4
    have Q4 := fun x : Abv W => x.cell q4
    have P5 := fun x : Abv W => x.cell p5
    have Q5 := fun x : Abv W => x.cell q5
    have P6 := fun x : Abv W => x.cell p6
    have Q6 := fun x : Abv W => x.cell q6
    clear p0 p1 p2 p3 p4 p5 p6 q0 q1 q2 q3 q4 q5 q6
    refine wp_region_above (by kernel_rfl) (by kernel_rfl) ?_
    repeat (go_big_quiet_step (first | (go_at_call 177; with_reducible exact calls_above (V1.out _)) | (go_at_call 177; with_reducible exact calls_above (V2.out _)) | (go_at_call 178; exact calls_above (VD.out _))))
    refine wpQuiet_nil ?_
    rintro w1 ⟨⟨_, hb1⟩, rfl⟩
    have HF : Hid (Below w.heap.size w _) := HB.out.trans (hb1.mono HB.out.size)
    clear NE hb1 P0 P1 P2 P3 P4 P5 P6 Q0 Q1 Q2 Q3 Q4 Q5 Q6
    go_wp2
    go_ret
    exact ⟨rfl, HF.out⟩
  · go_wp2
    rw [← hW]
    clear hW
    have NE := Abv.ne W
    have P0 := fun x : Abv W => x.cell p0
    have Q0 := fun x : Abv W => x.cell q0
    have P1 := fun x : Abv W => x.cell p1
    have Q1 := fun x : Abv W => x.cell q1
    have P2 := fun x : Abv W => x.cell p2
    have Q2 := fun x : Abv W => x.cell q2
    have P3 := fun x : Abv W => x.cell p3
    have Q3 := fun x : Abv W => x.cell q3
    have P4 := fun x : Abv W => x.cell p4
    have Q4 := fun x : Abv W => x.cell q4
    have P5 := fun x : Abv W => x.cell p5
    have Q5 := fun x : Abv W => x.cell q5
    have P6 := fun x : Abv W => x.cell p6
    have Q6 := fun x : Abv W => x.cell q6
    clear p0 p1 p2 p3 p4 p5 p6 q0 q1 q2 q3 q4 q5 q6
    refine wp_region_above (by kernel_rfl) (by kernel_rfl) ?_
    repeat (go_big_quiet_step (first | (go_at_call 177; with_reducible exact calls_above (V1.out _)) | (go_at_call 177; with_reducible exact calls_above (V2.out _)) | (go_at_call 178; exact calls_above (VD.out _))))
    refine wpQuiet_nil ?_
    rintro w1 ⟨⟨_, hb1⟩, rfl⟩
    have HF : Hid (Below w.heap.size w _) := HB.out.trans (hb1.mono HB.out.size)
    clear NE hb1 P0 P1 P2 P3 P4 P5 P6 Q0 Q1 Q2 Q3 Q4 Q5 Q6
    go_wp2
    go_ret
    exact ⟨rfl, HF.out⟩
  · have h4 : (s.stamp == t.stamp) = false := beq_eq_false_iff_ne.2 h3
    clear h3
    go_wp2
    rw [← hW]
    clear hW
    have NE := Abv.ne W
    have P0 := fun x : Abv W => x.cell p0
    have Q0 := fun x : Abv W => x.cell q0
    have P1 := fun x : Abv W => x.cell p1
    have Q1 := fun x : Abv W => x.cell q1
    have P2 := fun x : Abv W => x.cell p2
    have Q2 := fun x : Abv W => x.cell q2
    have P3 := fun x : Abv W => x.cell p3
    have Q3 := fun x : Abv W => x.cell q3
    have P4 := fun x : Abv W => x.cell p4
    have Q4 := fun x : Abv W => x.cell q4
    have P5 := fun x : Abv W => x.cell p5
    have Q5 := fun x : Abv W => x.cell q5
    have P6 := fun x : Abv W => x.cell p6
    have Q6 := fun x : Abv W => x.cell q6
    clear p0 p1 p2 p3 p4 p5 p6 q0 q1 q2 q3 q4 q5 q6
    refine wp_region_above (by kernel_rfl) (by kernel_rfl) ?_
    repeat (go_big_quiet_step (first | (go_at_call 177; with_reducible exact calls_above (V1.out _)) | (go_at_call 177; with_reducible exact calls_above (V2.out _)) | (go_at_call 178; exact calls_above (VD.out _))))
    refine wpQuiet_nil ?_
    rintro w1 ⟨⟨_, hb1⟩, rfl⟩
    have HF : Hid (Below w.heap.size w _) := HB.out.trans (hb1.mono HB.out.size)
    clear NE hb1 P0 P1 P2 P3 P4 P5 P6 Q0 Q1 Q2 Q3 Q4 Q5 Q6
    go_wp2
    go_ret
    exact ⟨rfl, HF.out⟩
  · have h4 : (s.stamp == t.stamp) = true := beq_iff_eq.2 h3
    clear h3
    go_wp2
    rw [← hW]
    clear hW
    have NE := Abv.ne W
    have P0 := fun x : Abv W => x.cell p0
    have Q0 := fun x : Abv W => x.cell q0
    have P1 := fun x : Abv W => x.cell p1
    have Q1 := fun x : Abv W => x.cell q1
    have P2 := fun x : Abv W => x.cell p2
    have Q2 := fun x : Abv W => x.cell q2
    have P3 := fun x : Abv W => x.cell p3
    have Q3 := fun x : Abv W => x.cell q3
    have P4 := fun x : Abv W => x.cell p4
    have Q4 := fun x : Abv W => x.cell q4
    have P5 := fun x : Abv W => x.cell p5
    have Q5 := fun x : Abv W => x.cell q5
    have P6 := fun x : Abv W => x.cell p6
    have Q6 := fun x : Abv W => x.cell q6
    clear p0 p1 p2 p3 p4 p5 p6 q0 q1 q2 q3 q4 q5 q6
    refine wp_region_above (by kernel_rfl) (by kernel_rfl) ?_
    repeat (go_big_quiet_step (first | (go_at_call 177; with_reducible exact calls_above (V1.out _)) | (go_at_call 177; with_reducible exact calls_above (V2.out _)) | (go_at_call 178; exact calls_above (VD.out _))))
    refine wpQuiet_nil ?_
    rintro w1 ⟨⟨_, hb1⟩, rfl⟩
    have HF : Hid (Below w.heap.size w _) := HB.out.trans (hb1.mono HB.out.size)
    clear NE hb1 P0 P1 P2 P3 P4 P5 P6 Q0 Q1 Q2 Q3 Q4 Q5 Q6
    go_wp2
    go_ret
    exact ⟨rfl, HF.out⟩
end Go.Proofs.YtbcfiiilikkkeaaGreatDoor
namespace Go.Proofs.YtbcfiiilikkkeaaGreatDoor
open Go.RowKit
set_option linter.unusedVariables false
set_option linter.unusedSimpArgs false

theorem seg_small9 (n : Int) : (Shelves.segName n).size ≤ 1000 := Nat.le_trans (seg_size n) (by omega)
end Go.Proofs.YtbcfiiilikkkeaaGreatDoor
namespace Go.Proofs.YtbcfiiilikkkeaaGreatDoor
open Go.RowKit
open Shelves (OpenIs)
set_option linter.unusedVariables false
set_option linter.unusedSimpArgs false

set_option maxHeartbeats 8000000 in
set_option maxRecDepth 100000 in
theorem implSnap_any {a : Option Addr} {g off cap b : Nat} {va vc vd : Value} (l : List FileL) (hlen : l.length ≤ 1048576) (hsz : ∀ f ∈ l, f.1.size ≤ 1048576 ∧ f.2.size ≤ 1048576) (s : ShelfL) (n1 : s.man.segs.length ≤ 1048576) (n2 : s.man.conf.length ≤ 1048576) (n3 : s.dir.length ≤ 1048576) (O : Option ByteArray) (hO : Shelves.SnapIs l s O) (w : World) (hp : Pow w) (hf : FilesAt w a g off l) (hA : ShOwn b s va vc vd w) :
    Calls Tryz.prog 49 #[.agg #[.slice a l.length cap], shV s va vc vd] w fun e w' => e = .returned (firstTuple O) ∧ Below w.heap.size w w' := by
  obtain ⟨t, rs, c, hO, hX⟩ := hO
  obtain ⟨u1, u2, u3, u4⟩ := Shelves.open_small hO
  obtain ⟨sa, sc, e1⟩ := own_slice hA.segs
  obtain ⟨ca, cc, e2⟩ := own_slice hA.conf
  obtain ⟨da, dc, e3⟩ := own_slice hA.dir
  subst e1 e2 e3
  obtain ⟨W, hW⟩ : ∃ W, W = (w.alloc (Obj.cells #[Value.slice a l.length cap] 46)).alloc (Obj.cells #[.slice sa s.man.segs.length sc, .int .i64 s.man.next, .int .i64 s.man.base, .int .i64 s.man.term, .slice ca s.man.conf.length cc, .slice da s.dir.length dc, .int .i64 s.stamp] 40) := ⟨_, rfl⟩
  have hb : Below w.heap.size w W := by rw [hW]; exact ((Below.refl _ _).alloc (Nat.le_refl _) _).alloc (by simp) _
  have hp0 : W.heap[w.heap.size]? = some (.cells #[Value.slice a l.length cap] 46 (0, 0)) := by rw [hW, Below.heap_alloc _ _ _ (by simp)]; exact heap_alloc_new w _
  have hp1 : W.heap[w.heap.size + 1]? = some (.cells #[.slice sa s.man.segs.length sc, .int .i64 s.man.next, .int .i64 s.man.base, .int .i64 s.man.term, .slice ca s.man.conf.length cc, .slice da s.dir.length dc, .int .i64 s.stamp] 40 (0, 0)) := by
    rw [hW]; have := heap_alloc_new (w.alloc (Obj.cells #[Value.slice a l.length cap] 46)) (Obj.cells #[.slice sa s.man.segs.length sc, .int .i64 s.man.next, .int .i64 s.man.base, .int .i64 s.man.term, .slice ca s.man.conf.length cc, .slice da s.dir.length dc, .int .i64 s.stamp] 40); simpa using this
  have HP0 : Hid (∀ W1, Below W.heap.size W W1 → W1.cell? ⟨w.heap.size, 0, none⟩ = some (.slice a l.length cap)) := fun W1 h => cell_of_row _ _ 0 _ _ _ ((h.block _ (Array.getElem?_eq_some_iff.1 hp0).1).trans hp0)
  have HP1 : Hid (∀ W1, Below W.heap.size W W1 → W1.heap[w.heap.size + 1]? = some (.cells #[.slice sa s.man.segs.length sc, .int .i64 s.man.next, .int .i64 s.man.base, .int .i64 s.man.term, .slice ca s.man.conf.length cc, .slice da s.dir.length dc, .int .i64 s.stamp] 40 (0, 0))) := fun W1 h => (h.block _ (Array.getElem?_eq_some_iff.1 hp1).1).trans hp1
  have HB : Hid (Below w.heap.size w W) := hb
  have HA : Hid (∀ W1, Below W.heap.size W W1 → ShOwn b s (.slice sa s.man.segs.length sc) (.slice ca s.man.conf.length cc) (.slice da s.dir.length dc) W1) := fun W1 h => (hA.kept hb).kept h
  have HFF : Hid (∀ W1, Below W.heap.size W W1 → FilesAt W1 a g off l) := fun W1 h => (hf.kept hb).kept h
  have c0 := cell_of_row _ _ 0 _ _ _ hp0
  have HO : Hid (Calls Tryz.prog 98 #[.agg #[.slice a l.length cap]] W (OnPost W t rs c)) := implOn_any l hlen hsz t rs c hO W (hf.kept hb) (hp.below hb)
  have HGD : Hid (c = 0 → Disks.ok l ∧ Mans.ok t.man) := fun h => by subst h; exact Shelves.open_good hO
  have HPW : Hid (∀ W1, Below W.heap.size W W1 → Pow W1) := fun W1 h => (hp.below hb).below h
  unfold shV cells7
  clear hO hA hf hb hp0 hp1 hsz hp
  rw [hW] at c0
  go_enter Tryz.func49, Tryz.ntmps49
  go_wp2_with fail
  rw [← hW]
  clear hW c0
  refine Calls.mono HO.out ?_
  rintro en w1 ⟨va, vc, vd, rv, rfl, hsh, _, hrw, hb1⟩
  unfold shV cells7 faultV
  obtain ⟨ta, tb, hva⟩ := own_slice hsh.segs
  subst hva
  obtain ⟨tc, td, hvc⟩ := own_slice hsh.conf
  subst hvc
  obtain ⟨te, tf, hvd⟩ := own_slice hsh.dir
  subst hvd
  obtain ⟨tg, th, hrv⟩ := own_slice hrw
  subst hrv
  obtain ⟨W2, hW2⟩ : ∃ W2, W2 = w1.alloc (Obj.cells #[.slice ta t.man.segs.length tb, .int .i64 t.man.next, .int .i64 t.man.base, .int .i64 t.man.term, .slice tc t.man.conf.length td, .slice te t.dir.length tf, .int .i64 t.stamp] 40) := ⟨_, rfl⟩
  have hb2 : Below w1.heap.size w1 W2 := by rw [hW2]; exact (Below.refl _ _).alloc (Nat.le_refl _) _
  have hbb : Below W.heap.size W W2 := hb1.trans (hb2.mono hb1.size)
  have HBB : Hid (Below W.heap.size W W2) := hbb
  have HW2 : Hid (Below w.heap.size w W2) := HB.out.trans (hbb.mono HB.out.size)
  have hq : W2.heap[w1.heap.size]? = some (.cells #[.slice ta t.man.segs.length tb, .int .i64 t.man.next, .int .i64 t.man.base, .int .i64 t.man.term, .slice tc t.man.conf.length td, .slice te t.dir.length tf, .int .i64 t.stamp] 40 (0, 0)) := by rw [hW2]; exact heap_alloc_new w1 _
  have HQ1 : Hid (∀ W1, Below W2.heap.size W2 W1 → W1.heap[w1.heap.size]? = some (.cells #[.slice ta t.man.segs.length tb, .int .i64 t.man.next, .int .i64 t.man.base, .int .i64 t.man.term, .slice tc t.man.conf.length td, .slice te t.dir.length tf, .int .i64 t.stamp] 40 (0, 0))) := fun W1 h => (h.block _ (Array.getElem?_eq_some_iff.1 hq).1).trans hq
  have HTS : Hid (∀ W1, Below W2.heap.size W2 W1 → W1.ownsRow W.heap.size 3 1 (.slice ta t.man.segs.length tb) t.man.segs.length (cellsI t.man.segs)) := fun W1 h => own_kept (hsh.kept hb2).segs h
  obtain ⟨⟨p0, p1, p2, p3, p4, p5, p6⟩, _⟩ := seven_cells (HP1.out _ hbb)
  obtain ⟨⟨q0, q1, q2, q3, q4, q5, q6⟩, _⟩ := seven_cells hq
  have HS : Hid (c = 0 → ∀ R' : Bool, (R' = true ↔ s = t) → Calls Tryz.prog 116 #[shV t (.slice ta t.man.segs.length tb) (.slice tc t.man.conf.length td) (.slice te t.dir.length tf), shV s (.slice sa s.man.segs.length sc) (.slice ca s.man.conf.length cc) (.slice da s.dir.length dc)] W2 fun e w' => e = .returned (.bool R') ∧ Below W2.heap.size W2 w') := fun h1 R' h' => implSame_is t s (HGD.out h1).2 (by omega) (by omega) (by omega) n1 n2 n3 R' (h'.trans ⟨Eq.symm, Eq.symm⟩) W2 (hsh.kept hb2) (HA.out _ hbb)
  unfold shV cells7 at HS
  clear hsh hrw hb1 hb2 hbb hq HO
  rw [hW2] at p0 p1 p2 p3 p4 p5 p6 q0 q1 q2 q3 q4 q5 q6
  by_cases hc : c = 0
  · have HS2 : Hid _ := HS.out hc
    clear HS
    by_cases hst : s = t
    · have HST : Hid (s = t) := hst
      have HGE : Hid (Disks.ok l ∧ Mans.ok t.man) := HGD.out hc
      have HX : Hid ((t.man.base ≠ 0 ∧ O = firstOf (Disks.textOf l (Shelves.segName (Shelves.headOf t.man))) t.man.base) ∨ (t.man.base = 0 ∧ O = none)) := by
        rcases hX with ⟨_, _, h1, h2⟩ | ⟨h1, h2⟩
        · rw [hst] at h1 h2; exact Or.inl ⟨h1, h2⟩
        · exact Or.inr ⟨Classical.byContradiction fun h => h1 ⟨hc, hst, by rw [hst]; exact h⟩, h2⟩
      have HS1 : Hid _ := HS2.out true ⟨fun _ => HST.out, fun _ => rfl⟩
      clear HS2 HGD hX hst HST
      subst hc
      rw [if_pos rfl]
      go_wp2_with fail
      rw [← hW2]
      clear hW2 p0 p1 p2 p3 p4 p5 p6 q0 q1 q2 q3 q4 q5 q6
      refine Calls.mono HS1.out ?_
      rintro en w3 ⟨rfl, hb3⟩
      have HB3 : Hid (Below W.heap.size W w3) := HBB.out.trans (hb3.mono HBB.out.size)
      have HW3 : Hid (Below w.heap.size w w3) := HB.out.trans (HB3.out.mono HB.out.size)
      obtain ⟨⟨q0, q1, q2, q3, q4, q5, q6⟩, _⟩ := seven_cells (HQ1.out _ hb3)
      have d0 := HP0.out _ HB3.out
      have hTS := HTS.out _ hb3
      clear hb3 HS1 HBB HW2 HQ1 HTS
      rcases HX.out with ⟨hb0, hOO⟩ | ⟨hb0, hOO⟩
      · have hbe : (t.man.base == 0) = false := beq_eq_false_iff_ne.2 hb0
        have HOO : Hid (O = firstOf (Disks.textOf l (Shelves.segName (Shelves.headOf t.man))) t.man.base) := hOO
        clear hb0 hOO HX
        have hs1 : 1 ≤ t.man.segs.length := HGE.out.2.1.1
        obtain ⟨_, sg, _, eS, hAt⟩ := cellsI_slice hTS
        cases eS
        have ea := hAt.1 (by omega)
        have c2 := hAt.2 0 (by omega)
        subst ea
        clear hAt hTS
        obtain ⟨n, hn⟩ : ∃ n, n = Shelves.headOf t.man := ⟨_, rfl⟩
        have c2' : w3.cell? ⟨sg, 0, none⟩ = some (.int .i64 n) := by rw [hn, ← Shelves.head_at (by omega)]; simpa using c2
        obtain ⟨t2, ht2⟩ : ∃ t2, t2 = Disks.textOf l (Shelves.segName n) := ⟨_, rfl⟩
        have ht20 : t2.size ≤ 20000 := by have := Shelves.text_le HGE.out.1 n; unfold Shelves.textAt at this; rw [← ht2, Scan.by_len] at this; exact this
        have HO2 : Hid (O = firstOf t2 t.man.base) := by show _ = _; rw [HOO.out, ← hn, ← ht2]
        obtain ⟨⟨LA, LT⟩, LB, hL⟩ : ∃ x : FileL, ∃ y, Disks.look l (Shelves.segName n) = (x, y) := ⟨_, _, rfl⟩
        have hLT : LT = t2 := by have := Disks.look_text l (Shelves.segName n); rw [hL] at this; rw [ht2]; exact this
        subst hLT
        have HSG : Hid (∀ y : Abv w3, Calls Tryz.prog 118 #[.int .i64 n] y.w fun e w' => e = .returned (.string (Shelves.segName n)) ∧ Below y.w.heap.size y.w w') := fun y => implSeg_any n y.w (HPW.out _ (HB3.out.trans (y.b.mono HB3.out.size)))
        have HFA : Hid (∀ y : Abv w3, Calls Tryz.prog 117 #[.agg #[.slice a l.length cap], .string (Shelves.segName n)] y.w fun e w' => e = .returned (.tuple #[.string LT, .bool LB]) ∧ Below y.w.heap.size y.w w') := fun y => implFileAt_yes l HGE.out.1 _ (Nat.le_trans (seg_small9 n) (by omega)) LA LT LB hL ht20 y.w (HFF.out _ (HB3.out.trans (y.b.mono HB3.out.size)))
        obtain ⟨S, R, hSR⟩ := firstTuple_is O
        have HSR : Hid (firstTuple O = .tuple #[.string S, .bool R]) := hSR
        have HFI : Hid (∀ W', Calls Tryz.prog 112 #[.string LT, .int .i64 t.man.base] W' fun e w' => e = .returned (.tuple #[.string S, .bool R]) ∧ Below W'.heap.size W' w') := fun W' => by rw [← hSR, HO2.out]; exact implFirst_any LT (by unfold maxLen; omega) t.man.base W'
        clear c2 hn ht2 hL HOO HA HFF HP0 HP1 HB3 HPW HGE HO2 hSR
        have hk1 : (0 : Int) < (t.man.segs.length : Int) := by omega
        go_wp2_with fail
        have NE := Abv.ne w3
        have F0 := fun y : Abv w3 => y.cell d0
        have F1 := fun y : Abv w3 => y.cell q0
        have F2 := fun y : Abv w3 => y.cell c2'
        have G1 := fun y : Abv w3 => y.cell q1
        have G2 := fun y : Abv w3 => y.cell q2
        have G3 := fun y : Abv w3 => y.cell q3
        have G4 := fun y : Abv w3 => y.cell q4
        have G5 := fun y : Abv w3 => y.cell q5
        have G6 := fun y : Abv w3 => y.cell q6
        refine wp_region_above (by kernel_rfl) (by kernel_rfl) ?_
        repeat (go_big_quiet_step (first | (go_at_call 118; exact calls_above (HSG.out _)) | (go_at_call 117; exact calls_above (HFA.out _))))
        refine wpQuiet_nil ?_
        rintro w6 ⟨⟨_, hb6⟩, rfl⟩
        have HW6 : Hid (Below w.heap.size w w6) := HW3.out.trans (hb6.mono HW3.out.size)
        have r2 := hb6.cell (p := ⟨w1.heap.size, 2, none⟩) (World.block_lt_of_cell? w3 _ q2) |>.trans q2
        clear NE F0 F1 F2 G1 G2 G3 G4 G5 G6 HSG HFA hb6 q0 q1 q2 q3 q4 q5 q6 d0 c2'
        go_wp2_with fail
        refine Calls.mono (HFI.out _) ?_
        rintro e w7 ⟨rfl, hb7⟩
        have HW7 : Hid (Below w.heap.size w w7) := HW6.out.trans (hb7.mono HW6.out.size)
        clear hb7 r2
        go_wp2
        go_ret2
        exact ⟨by rw [HSR.out]; rfl, HW7.out⟩
      · have hbe : (t.man.base == 0) = true := by rw [hb0]; rfl
        subst hOO
        clear HX hb0 hTS
        go_wp2
        go_ret2
        exact ⟨rfl, HW3.out⟩
    · have HS0 : Hid _ := HS2.out false ⟨(fun h => by cases h), fun h => absurd h hst⟩
      have hOO : O = none := by
        rcases hX with ⟨_, h, _⟩ | ⟨_, h⟩
        · exact absurd h hst
        · exact h
      subst hOO hc
      clear HS2 HGD hX hst
      rw [if_pos rfl]
      go_wp2_with fail
      rw [← hW2]
      clear hW2 p0 p1 p2 p3 p4 p5 p6 q0 q1 q2 q3 q4 q5 q6
      refine Calls.mono HS0.out ?_
      rintro en w3 ⟨rfl, hb3⟩
      have HW3 : Hid (Below w.heap.size w w3) := HW2.out.trans (hb3.mono HW2.out.size)
      clear hb3
      go_wp2
      go_ret2
      exact ⟨rfl, HW3.out⟩
  · have hOO : O = none := by
      rcases hX with ⟨h, _⟩ | ⟨_, h⟩
      · exact absurd h hc
      · exact h
    subst hOO
    rw [if_neg hc]
    clear hc hX HGD HS
    go_wp2
    go_ret2
    exact ⟨rfl, by rw [← hW2]; exact HW2.out⟩
end Go.Proofs.YtbcfiiilikkkeaaGreatDoor
