/- The exact law of MapDo, walked. Made by program. -/
import Derived.Test.YtijopmkcaoefjaaMapDo
import Derived.Test.YtijopmkcaoefjaaOkLaw
import Derived.Test.YtijopmkcaoefjaaLaw
import Derived.Test.YtijopmkcaoefjaaMarkPair
namespace Go.Proofs.Ytijopmkcaoefjaa
open Go.RowKit
set_option linter.unusedVariables false

set_option maxHeartbeats 2000000 in
set_option maxRecDepth 100000 in
theorem lawDo_any {a : Option Addr} {g off cap : Nat} (l : List PairL) (hlen : l.length ≤ maxLen) (hsz : ∀ r ∈ l, smallPair maxLen r) {aC : Option Addr} {gC offC capC : Nat} (st : Int) (cl : List ChangeL) (hlenC : cl.length ≤ maxLen) (hszC : ∀ r ∈ cl, smallChange maxLen r) (w : World) (hf : PairAt w a g off l) (hfC : ChangeAt w aC gC offC cl) :
    Calls Try.prog 6 #[.slice a l.length cap, .agg #[.int .i64 st, .slice aC cl.length capC]] w fun e w' => e = .returned (.bool true) ∧ Below w.heap.size w w' := by
  have HF : Hid (PairAt w a g off l) := hf
  have HS : Hid (∀ r ∈ l, smallPair maxLen r) := hsz
  have HL : Hid (l.length ≤ maxLen) := hlen
  have HFC : Hid (ChangeAt w aC gC offC cl) := hfC
  have HSC : Hid (∀ r ∈ cl, smallChange maxLen r) := hszC
  have HLC : Hid (cl.length ≤ maxLen) := hlenC
  clear hf hsz hlen hfC hszC hlenC
  go_enter Try.func6, Try.ntmps6
  have L1 : Hid (LawS w [] [] w) := LawS.start w
  obtain ⟨W1, hW1⟩ : ∃ W1, W1 = w.alloc (Obj.cells #[Value.int IntKind.i64 st, Value.slice aC cl.length capC] 49 (0, 0)) := ⟨_, rfl⟩
  have L2 : Hid (LawS w [(w.heap.size, (Obj.cells #[Value.int IntKind.i64 st, Value.slice aC cl.length capC] 49 (0, 0)))] [] W1) := by rw [hW1]; exact L1.out.alloc _
  go_wp2_with fail
  rw [← hW1]
  clear hW1 L1 
  obtain ⟨bA, hbA⟩ : ∃ bA, bA = w.heap.size := ⟨_, rfl⟩
  rw [← hbA] at L2 ⊢
  clear hbA
  refine (szPairS_is l HL.out HS.out 1048576 (Nat.le_refl _) _ (HF.out.kept L2.out.below)).mono ?_
  rintro e w1 ⟨x, rfl, hx, hb⟩
  have L3 : Hid (LawS w [(bA, (Obj.cells #[Value.int IntKind.i64 st, Value.slice aC cl.length capC] 49 (0, 0)))] [] w1) := L2.out.step hb
  clear hb L2
  rcases hx with ⟨hx1, hx2⟩ | ⟨hx1, hx2⟩
  · skip
    obtain ⟨Y, hY⟩ : ∃ Y : Nat, Y = 1048576 - totPair l := ⟨_, rfl⟩
    rw [← hY] at hx2
    subst hx2
    have hYb : Y ≤ 1048576 := by omega
    clear hY
    obtain ⟨hl, hs⟩ := totPair_small (Nat.le_trans hx1 (show 1048576 ≤ 1048576 by omega))
    have HSS : Hid (∀ r ∈ l, smallPair 2097152 r) := small_two hs
    have HLL : Hid (l.length ≤ 2097152) := by show _ ≤ _; omega
    clear hs hx1
    obtain ⟨d00, d01⟩ := L3.out.two (List.Mem.head _)
    go_wp2_with fail
    clear d00 d01
    refine (szBatch_any cl HLC.out HSC.out Y hYb _ (HFC.out.kept L3.out.below)).mono ?_
    rintro e w2 ⟨x, rfl, hx, hb⟩
    have L4 : Hid (LawS w [(bA, (Obj.cells #[Value.int IntKind.i64 st, Value.slice aC cl.length capC] 49 (0, 0)))] [] w2) := L3.out.step hb
    clear hb L3
    rcases hx with ⟨hx1, hx2⟩ | ⟨hx1, hx2⟩
    · skip
      obtain ⟨Z, hZ⟩ : ∃ Z : Nat, Z = Y - totChange cl := ⟨_, rfl⟩
      rw [← hZ] at hx2
      subst hx2
      clear hZ
      obtain ⟨hlC, hsC⟩ := totChange_small (Nat.le_trans hx1 (show Y ≤ 1048576 by omega))
      have HSSC : Hid (∀ r ∈ cl, smallChange 2097152 r) := fun r hr => ⟨Nat.le_trans (hsC r hr).1 (by omega), Nat.le_trans (hsC r hr).2 (by omega)⟩
      have HLLC : Hid (cl.length ≤ 2097152) := by show _ ≤ _; omega
      clear hsC hx1
      obtain ⟨out, R, hR⟩ := doR_ex l st cl
      have hol := doR_len hR
      have HR : Hid (DoR l st cl out R) := hR
      clear hR
      obtain ⟨d0, d1⟩ := L4.out.two (List.Mem.head _)
      have HX : Hid (∀ w', Below w2.heap.size w2 w' → (w'.cell? ⟨bA, 0, none⟩ = some (.int .i64 st) ∧ w'.cell? ⟨bA, 1, none⟩ = some (.slice aC cl.length capC))) := fun w' h => (L4.out.step h).two (List.Mem.head _)
      go_wp2_with fail
      go_region_held3 (fun w' => (w'.cell? ⟨bA, 0, none⟩ = some (.int .i64 st) ∧ w'.cell? ⟨bA, 1, none⟩ = some (.slice aC cl.length capC)))
        (first | go_keep | exact HX.out _ (below_undrew hba) | exact HX.out _ ((below_undrew hba).trans (hbb.mono (below_undrew hba).size)) | exact HX.out _ (((below_undrew hba).trans (hbb.mono (below_undrew hba).size)).trans (hbc.mono ((below_undrew hba).trans (hbb.mono (below_undrew hba).size)).size)))
        (first | (go_at_call 18; refine (toPairS_own l hl _ (HF.out.kept L4.out.below.drew)).mono ?_; rintro e wa ⟨gP, rfl, hoa, hba⟩) | (go_at_call 24; refine (toBatch_any cl hlC _ (HFC.out.kept (L4.out.below.trans ((below_undrew hba).mono L4.out.below.size)))).mono ?_; rintro e wb ⟨gC, rfl, hgb, hob, hbb⟩) | (go_at_call 23; refine (specDo_any l HLL.out HSS.out st cl HLLC.out HSSC.out out R HR.out _ ((cellsPair_own rfl hoa).kept hbb) (cellsChange_own rfl hob)).mono ?_; rintro e wc ⟨vW, rfl, hoc, hbc⟩; obtain ⟨aW, cW, rfl⟩ := own_slice hoc))
      obtain ⟨w2_, hw2_⟩ : ∃ w2_, w2_ = wc := ⟨_, rfl⟩
      have L5 : Hid (LawS w [(bA, (Obj.cells #[Value.int IntKind.i64 st, Value.slice aC cl.length capC] 49 (0, 0)))] [⟨.slice aW out.length cW, 40, 2, out.length, cellsPair out⟩, ⟨.slice (some ⟨gC, 0, none⟩) cl.length cl.length, 65, 3, cl.length, cellsChange cl⟩, ⟨.slice (some ⟨gP, 0, none⟩) l.length l.length, 40, 2, l.length, cellsPair l⟩] w2_) := by rw [hw2_]; exact ((L4.out.drew.call hba hoa).call hbb hob).call hbc hoc
      rw [← hw2_]
      clear hw2_ hba hoa hbb hob hbc hoc hgb d0 d1 HX L4
      go_wp2_with fail
      refine (toPairS_own l hl _ (HF.out.kept L5.out.below)).mono ?_
      rintro en w3_ ⟨gX, rfl, ho, hb⟩
      have L6 : Hid (LawS w [(bA, (Obj.cells #[Value.int IntKind.i64 st, Value.slice aC cl.length capC] 49 (0, 0)))] [⟨.slice (some ⟨gX, 0, none⟩) l.length l.length, 40, 2, l.length, cellsPair l⟩, ⟨.slice aW out.length cW, 40, 2, out.length, cellsPair out⟩, ⟨.slice (some ⟨gC, 0, none⟩) cl.length cl.length, 65, 3, cl.length, cellsChange cl⟩, ⟨.slice (some ⟨gP, 0, none⟩) l.length l.length, 40, 2, l.length, cellsPair l⟩] w3_) := L5.out.call hb ho
      clear hb ho L5
      obtain ⟨d00, d01⟩ := L6.out.two (List.Mem.head _)
      go_wp2_with fail
      clear d00 d01
      refine (toBatch_any cl hlC _ (HFC.out.kept L6.out.below)).mono ?_
      rintro en w4_ ⟨gY, rfl, hgb, ho, hb⟩
      have L7 : Hid (LawS w [(bA, (Obj.cells #[Value.int IntKind.i64 st, Value.slice aC cl.length capC] 49 (0, 0)))] [⟨.slice (some ⟨gY, 0, none⟩) cl.length cl.length, 65, 3, cl.length, cellsChange cl⟩, ⟨.slice (some ⟨gX, 0, none⟩) l.length l.length, 40, 2, l.length, cellsPair l⟩, ⟨.slice aW out.length cW, 40, 2, out.length, cellsPair out⟩, ⟨.slice (some ⟨gC, 0, none⟩) cl.length cl.length, 65, 3, cl.length, cellsChange cl⟩, ⟨.slice (some ⟨gP, 0, none⟩) l.length l.length, 40, 2, l.length, cellsPair l⟩] w4_) := L6.out.call hb ho
      clear hb ho L6
      clear hgb
      obtain ⟨W5, hW5⟩ : ∃ W5, W5 = w4_.alloc (Obj.cells #[Value.int IntKind.i64 st, Value.slice (some ⟨gY, 0, none⟩) cl.length cl.length] 33 (0, 0)) := ⟨_, rfl⟩
      have L8 : Hid (LawS w [(w4_.heap.size, (Obj.cells #[Value.int IntKind.i64 st, Value.slice (some ⟨gY, 0, none⟩) cl.length cl.length] 33 (0, 0))), (bA, (Obj.cells #[Value.int IntKind.i64 st, Value.slice aC cl.length capC] 49 (0, 0)))] [⟨.slice (some ⟨gY, 0, none⟩) cl.length cl.length, 65, 3, cl.length, cellsChange cl⟩, ⟨.slice (some ⟨gX, 0, none⟩) l.length l.length, 40, 2, l.length, cellsPair l⟩, ⟨.slice aW out.length cW, 40, 2, out.length, cellsPair out⟩, ⟨.slice (some ⟨gC, 0, none⟩) cl.length cl.length, 65, 3, cl.length, cellsChange cl⟩, ⟨.slice (some ⟨gP, 0, none⟩) l.length l.length, 40, 2, l.length, cellsPair l⟩] W5) := by rw [hW5]; exact L7.out.alloc _
      obtain ⟨d00, d01⟩ := L8.out.two (List.Mem.head _)
      rw [hW5] at d00 d01
      go_wp2_with fail
      rw [← hW5]
      clear hW5 L7 d00 d01
      obtain ⟨bB, hbB⟩ : ∃ bB, bB = w4_.heap.size := ⟨_, rfl⟩
      rw [← hbB] at L8 ⊢
      clear hbB
      refine (implDo_any l HLL.out HSS.out st cl HLLC.out HSSC.out out R HR.out _ (cellsPair_own rfl (L8.out.row 1 rfl)) (cellsChange_own rfl (L8.out.row 0 rfl))).mono ?_
      rintro en w6_ ⟨vG, rfl, ho, hb⟩
      obtain ⟨aG, cG, rfl⟩ := own_slice ho
      have L9 : Hid (LawS w [(bB, (Obj.cells #[Value.int IntKind.i64 st, Value.slice (some ⟨gY, 0, none⟩) cl.length cl.length] 33 (0, 0))), (bA, (Obj.cells #[Value.int IntKind.i64 st, Value.slice aC cl.length capC] 49 (0, 0)))] [⟨.slice aG out.length cG, 40, 2, out.length, cellsPair out⟩, ⟨.slice (some ⟨gY, 0, none⟩) cl.length cl.length, 65, 3, cl.length, cellsChange cl⟩, ⟨.slice (some ⟨gX, 0, none⟩) l.length l.length, 40, 2, l.length, cellsPair l⟩, ⟨.slice aW out.length cW, 40, 2, out.length, cellsPair out⟩, ⟨.slice (some ⟨gC, 0, none⟩) cl.length cl.length, 65, 3, cl.length, cellsChange cl⟩, ⟨.slice (some ⟨gP, 0, none⟩) l.length l.length, 40, 2, l.length, cellsPair l⟩] w6_) := L8.out.call hb ho
      clear hb ho L8
      go_wp2_with fail
      obtain ⟨_, ghA1, _, ehA1, hA1⟩ := cellsPair_slice (L9.out.row 0 rfl)
      cases ehA1
      obtain ⟨_, ghA2, _, ehA2, hA2⟩ := cellsPair_slice (L9.out.row 3 rfl)
      cases ehA2
      refine (eqPairS_same out (by omega) _ hA1 hA2).mono ?_
      rintro en w7_ ⟨rfl, hb⟩
      have L10 : Hid (LawS w [(bB, (Obj.cells #[Value.int IntKind.i64 st, Value.slice (some ⟨gY, 0, none⟩) cl.length cl.length] 33 (0, 0))), (bA, (Obj.cells #[Value.int IntKind.i64 st, Value.slice aC cl.length capC] 49 (0, 0)))] [⟨.slice aG out.length cG, 40, 2, out.length, cellsPair out⟩, ⟨.slice (some ⟨gY, 0, none⟩) cl.length cl.length, 65, 3, cl.length, cellsChange cl⟩, ⟨.slice (some ⟨gX, 0, none⟩) l.length l.length, 40, 2, l.length, cellsPair l⟩, ⟨.slice aW out.length cW, 40, 2, out.length, cellsPair out⟩, ⟨.slice (some ⟨gC, 0, none⟩) cl.length cl.length, 65, 3, cl.length, cellsChange cl⟩, ⟨.slice (some ⟨gP, 0, none⟩) l.length l.length, 40, 2, l.length, cellsPair l⟩] w7_) := L9.out.step hb
      clear hb L9
      clear hA1 hA2
      go_wp2_with fail
      refine (toPairS_own l hl _ (HF.out.kept L10.out.below)).mono ?_
      rintro en w8_ ⟨gT, rfl, ho, hb⟩
      have L11 : Hid (LawS w [(bB, (Obj.cells #[Value.int IntKind.i64 st, Value.slice (some ⟨gY, 0, none⟩) cl.length cl.length] 33 (0, 0))), (bA, (Obj.cells #[Value.int IntKind.i64 st, Value.slice aC cl.length capC] 49 (0, 0)))] [⟨.slice (some ⟨gT, 0, none⟩) l.length l.length, 40, 2, l.length, cellsPair l⟩, ⟨.slice aG out.length cG, 40, 2, out.length, cellsPair out⟩, ⟨.slice (some ⟨gY, 0, none⟩) cl.length cl.length, 65, 3, cl.length, cellsChange cl⟩, ⟨.slice (some ⟨gX, 0, none⟩) l.length l.length, 40, 2, l.length, cellsPair l⟩, ⟨.slice aW out.length cW, 40, 2, out.length, cellsPair out⟩, ⟨.slice (some ⟨gC, 0, none⟩) cl.length cl.length, 65, 3, cl.length, cellsChange cl⟩, ⟨.slice (some ⟨gP, 0, none⟩) l.length l.length, 40, 2, l.length, cellsPair l⟩] w8_) := L10.out.call hb ho
      clear hb ho L10
      go_wp2_with fail
      refine (eqPairS_same l hl _ (cellsPair_own rfl (L11.out.row 3 rfl)) (cellsPair_own rfl (L11.out.row 0 rfl))).mono ?_
      rintro en w9_ ⟨rfl, hb⟩
      have L12 : Hid (LawS w [(bB, (Obj.cells #[Value.int IntKind.i64 st, Value.slice (some ⟨gY, 0, none⟩) cl.length cl.length] 33 (0, 0))), (bA, (Obj.cells #[Value.int IntKind.i64 st, Value.slice aC cl.length capC] 49 (0, 0)))] [⟨.slice (some ⟨gT, 0, none⟩) l.length l.length, 40, 2, l.length, cellsPair l⟩, ⟨.slice aG out.length cG, 40, 2, out.length, cellsPair out⟩, ⟨.slice (some ⟨gY, 0, none⟩) cl.length cl.length, 65, 3, cl.length, cellsChange cl⟩, ⟨.slice (some ⟨gX, 0, none⟩) l.length l.length, 40, 2, l.length, cellsPair l⟩, ⟨.slice aW out.length cW, 40, 2, out.length, cellsPair out⟩, ⟨.slice (some ⟨gC, 0, none⟩) cl.length cl.length, 65, 3, cl.length, cellsChange cl⟩, ⟨.slice (some ⟨gP, 0, none⟩) l.length l.length, 40, 2, l.length, cellsPair l⟩] w9_) := L11.out.step hb
      clear hb L11
      obtain ⟨d0, d1⟩ := L12.out.two (List.Mem.tail _ (List.Mem.head _))
      obtain ⟨e0, e1⟩ := L12.out.two (List.Mem.head _)
      have HX : Hid (∀ w', Below w9_.heap.size w9_ w' → (w'.cell? ⟨bA, 0, none⟩ = some (.int .i64 st) ∧ w'.cell? ⟨bA, 1, none⟩ = some (.slice aC cl.length capC)) ∧ (w'.cell? ⟨bB, 0, none⟩ = some (.int .i64 st) ∧ w'.cell? ⟨bB, 1, none⟩ = some (.slice (some ⟨gY, 0, none⟩) cl.length cl.length))) := fun w' h => ⟨(L12.out.step h).two (List.Mem.tail _ (List.Mem.head _)), (L12.out.step h).two (List.Mem.head _)⟩
      have HY : Hid (ChangeAt w9_ (some ⟨gY, 0, none⟩) gY 0 cl) := cellsChange_own rfl (L12.out.row 2 rfl)
      go_wp2_with fail
      go_region_held3 (fun w' => (w'.cell? ⟨bA, 0, none⟩ = some (.int .i64 st) ∧ w'.cell? ⟨bA, 1, none⟩ = some (.slice aC cl.length capC)) ∧ (w'.cell? ⟨bB, 0, none⟩ = some (.int .i64 st) ∧ w'.cell? ⟨bB, 1, none⟩ = some (.slice (some ⟨gY, 0, none⟩) cl.length cl.length)))
        (first | go_keep | exact HX.out _ (below_undrew hba) | exact HX.out _ ((below_undrew hba).trans (hbb.mono (below_undrew hba).size)))
        (first | (go_at_call 24; refine (toBatch_any cl hlC _ (HFC.out.kept L12.out.below.drew)).mono ?_; rintro e wa ⟨gE, rfl, hgb, hoa, hba⟩) | (go_at_call 25; refine (eqBatch_same cl hlC _ (ChangeAt.kept (w := w9_.drew) HY.out hba) (cellsChange_own rfl hoa)).mono ?_; rintro e wb ⟨rfl, hbb⟩))
      obtain ⟨w10_, hw10_⟩ : ∃ w10_, w10_ = wb := ⟨_, rfl⟩
      have L13 : Hid (LawS w [(bB, (Obj.cells #[Value.int IntKind.i64 st, Value.slice (some ⟨gY, 0, none⟩) cl.length cl.length] 33 (0, 0))), (bA, (Obj.cells #[Value.int IntKind.i64 st, Value.slice aC cl.length capC] 49 (0, 0)))] [⟨.slice (some ⟨gE, 0, none⟩) cl.length cl.length, 65, 3, cl.length, cellsChange cl⟩, ⟨.slice (some ⟨gT, 0, none⟩) l.length l.length, 40, 2, l.length, cellsPair l⟩, ⟨.slice aG out.length cG, 40, 2, out.length, cellsPair out⟩, ⟨.slice (some ⟨gY, 0, none⟩) cl.length cl.length, 65, 3, cl.length, cellsChange cl⟩, ⟨.slice (some ⟨gX, 0, none⟩) l.length l.length, 40, 2, l.length, cellsPair l⟩, ⟨.slice aW out.length cW, 40, 2, out.length, cellsPair out⟩, ⟨.slice (some ⟨gC, 0, none⟩) cl.length cl.length, 65, 3, cl.length, cellsChange cl⟩, ⟨.slice (some ⟨gP, 0, none⟩) l.length l.length, 40, 2, l.length, cellsPair l⟩] w10_) := by rw [hw10_]; exact (L12.out.drew.call hba hoa).step hbb
      rw [← hw10_]
      clear hw10_ hba hoa hbb hgb d0 d1 e0 e1 HX HY L12
      go_wp2_with fail
      refine (markPairS_own l hl 1 (by omega) (by omega) _ (L13.out.row 4 rfl)).mono ?_
      rintro en w11_ ⟨rfl, hown, hg⟩
      have L14 : Hid (LawS w [(bB, (Obj.cells #[Value.int IntKind.i64 st, Value.slice (some ⟨gY, 0, none⟩) cl.length cl.length] 33 (0, 0))), (bA, (Obj.cells #[Value.int IntKind.i64 st, Value.slice aC cl.length capC] 49 (0, 0)))] [⟨.slice (some ⟨gE, 0, none⟩) cl.length cl.length, 65, 3, cl.length, cellsChange cl⟩, ⟨.slice (some ⟨gT, 0, none⟩) l.length l.length, 40, 2, l.length, cellsPair l⟩, ⟨.slice aG out.length cG, 40, 2, out.length, cellsPair out⟩, ⟨.slice (some ⟨gY, 0, none⟩) cl.length cl.length, 65, 3, cl.length, cellsChange cl⟩, ⟨.slice (some ⟨gX, 0, none⟩) l.length l.length, 40, 2, l.length, cellsPair (marksPair 1 l.length)⟩, ⟨.slice aW out.length cW, 40, 2, out.length, cellsPair out⟩, ⟨.slice (some ⟨gC, 0, none⟩) cl.length cl.length, 65, 3, cl.length, cellsChange cl⟩, ⟨.slice (some ⟨gP, 0, none⟩) l.length l.length, 40, 2, l.length, cellsPair l⟩] w11_) := L13.out.mark 4 (r := ⟨.slice (some ⟨gX, 0, none⟩) l.length l.length, 40, 2, l.length, cellsPair l⟩) rfl hg hown
      clear hown hg L13
      obtain ⟨M, hM⟩ : ∃ M : Nat, M = 1 + 2 * l.length := ⟨_, rfl⟩
      rw [← hM]
      have hM0 : ¬ (M : Int) < 0 := by omega
      have HM : Hid (M = 1 + 2 * l.length) := hM
      clear hM
      have hMb : 0 < M ∧ M ≤ 100000000 := by have := HM.out; omega
      obtain ⟨d00, d01⟩ := L14.out.two (List.Mem.head _)
      go_wp2_with fail
      clear d00 d01
      refine (markBatch_from M hMb.1 hMb.2 st cl hlC _ (L14.out.row 3 rfl)).mono ?_
      rintro en w12_ ⟨rfl, hown, hg⟩
      have L15 : Hid (LawS w [(bB, (Obj.cells #[Value.int IntKind.i64 st, Value.slice (some ⟨gY, 0, none⟩) cl.length cl.length] 33 (0, 0))), (bA, (Obj.cells #[Value.int IntKind.i64 st, Value.slice aC cl.length capC] 49 (0, 0)))] [⟨.slice (some ⟨gE, 0, none⟩) cl.length cl.length, 65, 3, cl.length, cellsChange cl⟩, ⟨.slice (some ⟨gT, 0, none⟩) l.length l.length, 40, 2, l.length, cellsPair l⟩, ⟨.slice aG out.length cG, 40, 2, out.length, cellsPair out⟩, ⟨.slice (some ⟨gY, 0, none⟩) cl.length cl.length, 65, 3, cl.length, cellsChange (marksChange M cl.length)⟩, ⟨.slice (some ⟨gX, 0, none⟩) l.length l.length, 40, 2, l.length, cellsPair (marksPair 1 l.length)⟩, ⟨.slice aW out.length cW, 40, 2, out.length, cellsPair out⟩, ⟨.slice (some ⟨gC, 0, none⟩) cl.length cl.length, 65, 3, cl.length, cellsChange cl⟩, ⟨.slice (some ⟨gP, 0, none⟩) l.length l.length, 40, 2, l.length, cellsPair l⟩] w12_) := L14.out.mark 3 (r := ⟨.slice (some ⟨gY, 0, none⟩) cl.length cl.length, 65, 3, cl.length, cellsChange cl⟩) rfl hg hown
      clear hown hg L14
      obtain ⟨K, hK⟩ : ∃ K : Nat, K = M + 3 * cl.length := ⟨_, rfl⟩
      rw [← hK]
      have hK0 : ¬ (K : Int) < 0 := by omega
      have HK : Hid (K = M + 3 * cl.length) := hK
      clear hK
      go_wp2_with fail
      obtain ⟨_, ghA1, _, ehA1, hA1⟩ := cellsPair_slice (L15.out.row 2 rfl)
      cases ehA1
      obtain ⟨_, ghA2, _, ehA2, hA2⟩ := cellsPair_slice (L15.out.row 5 rfl)
      cases ehA2
      refine (eqPairS_same out (by omega) _ hA1 hA2).mono ?_
      rintro en w13_ ⟨rfl, hb⟩
      have L16 : Hid (LawS w [(bB, (Obj.cells #[Value.int IntKind.i64 st, Value.slice (some ⟨gY, 0, none⟩) cl.length cl.length] 33 (0, 0))), (bA, (Obj.cells #[Value.int IntKind.i64 st, Value.slice aC cl.length capC] 49 (0, 0)))] [⟨.slice (some ⟨gE, 0, none⟩) cl.length cl.length, 65, 3, cl.length, cellsChange cl⟩, ⟨.slice (some ⟨gT, 0, none⟩) l.length l.length, 40, 2, l.length, cellsPair l⟩, ⟨.slice aG out.length cG, 40, 2, out.length, cellsPair out⟩, ⟨.slice (some ⟨gY, 0, none⟩) cl.length cl.length, 65, 3, cl.length, cellsChange (marksChange M cl.length)⟩, ⟨.slice (some ⟨gX, 0, none⟩) l.length l.length, 40, 2, l.length, cellsPair (marksPair 1 l.length)⟩, ⟨.slice aW out.length cW, 40, 2, out.length, cellsPair out⟩, ⟨.slice (some ⟨gC, 0, none⟩) cl.length cl.length, 65, 3, cl.length, cellsChange cl⟩, ⟨.slice (some ⟨gP, 0, none⟩) l.length l.length, 40, 2, l.length, cellsPair l⟩] w13_) := L15.out.step hb
      clear hb L15
      clear hA1 hA2
      go_wp2_with fail
      refine (markPairS_own out (by omega) 1 (by omega) (by omega) _ (L16.out.row 2 rfl)).mono ?_
      rintro en w14_ ⟨rfl, hown, hg⟩
      have L17 : Hid (LawS w [(bB, (Obj.cells #[Value.int IntKind.i64 st, Value.slice (some ⟨gY, 0, none⟩) cl.length cl.length] 33 (0, 0))), (bA, (Obj.cells #[Value.int IntKind.i64 st, Value.slice aC cl.length capC] 49 (0, 0)))] [⟨.slice (some ⟨gE, 0, none⟩) cl.length cl.length, 65, 3, cl.length, cellsChange cl⟩, ⟨.slice (some ⟨gT, 0, none⟩) l.length l.length, 40, 2, l.length, cellsPair l⟩, ⟨.slice aG out.length cG, 40, 2, out.length, cellsPair (marksPair 1 out.length)⟩, ⟨.slice (some ⟨gY, 0, none⟩) cl.length cl.length, 65, 3, cl.length, cellsChange (marksChange M cl.length)⟩, ⟨.slice (some ⟨gX, 0, none⟩) l.length l.length, 40, 2, l.length, cellsPair (marksPair 1 l.length)⟩, ⟨.slice aW out.length cW, 40, 2, out.length, cellsPair out⟩, ⟨.slice (some ⟨gC, 0, none⟩) cl.length cl.length, 65, 3, cl.length, cellsChange cl⟩, ⟨.slice (some ⟨gP, 0, none⟩) l.length l.length, 40, 2, l.length, cellsPair l⟩] w14_) := L16.out.mark 2 (r := ⟨.slice aG out.length cG, 40, 2, out.length, cellsPair out⟩) rfl hg hown
      clear hown hg L16
      obtain ⟨Q, hQ⟩ : ∃ Q : Nat, Q = 1 + 2 * out.length := ⟨_, rfl⟩
      rw [← hQ]
      have hQ0 : ¬ (Q : Int) < 0 := by omega
      have HQ : Hid (Q = 1 + 2 * out.length) := hQ
      clear hQ
      go_wp2_with fail
      obtain ⟨_, gq, _, eq, hq⟩ := marksP_at (L17.out.row 2 rfl)
      cases eq
      refine (heldPairS_is out.length (by omega) 1 (by omega) (by omega) _ hq).mono ?_
      rintro en w15_ ⟨rfl, hb⟩
      have L18 : Hid (LawS w [(bB, (Obj.cells #[Value.int IntKind.i64 st, Value.slice (some ⟨gY, 0, none⟩) cl.length cl.length] 33 (0, 0))), (bA, (Obj.cells #[Value.int IntKind.i64 st, Value.slice aC cl.length capC] 49 (0, 0)))] [⟨.slice (some ⟨gE, 0, none⟩) cl.length cl.length, 65, 3, cl.length, cellsChange cl⟩, ⟨.slice (some ⟨gT, 0, none⟩) l.length l.length, 40, 2, l.length, cellsPair l⟩, ⟨.slice aG out.length cG, 40, 2, out.length, cellsPair (marksPair 1 out.length)⟩, ⟨.slice (some ⟨gY, 0, none⟩) cl.length cl.length, 65, 3, cl.length, cellsChange (marksChange M cl.length)⟩, ⟨.slice (some ⟨gX, 0, none⟩) l.length l.length, 40, 2, l.length, cellsPair (marksPair 1 l.length)⟩, ⟨.slice aW out.length cW, 40, 2, out.length, cellsPair out⟩, ⟨.slice (some ⟨gC, 0, none⟩) cl.length cl.length, 65, 3, cl.length, cellsChange cl⟩, ⟨.slice (some ⟨gP, 0, none⟩) l.length l.length, 40, 2, l.length, cellsPair l⟩] w15_) := L17.out.step hb
      clear hb L17
      clear hq
      rw [← HQ.out]
      obtain ⟨d0, d1⟩ := L18.out.two (List.Mem.tail _ (List.Mem.head _))
      have HX : Hid (∀ w', Below w15_.heap.size w15_ w' → (w'.cell? ⟨bA, 0, none⟩ = some (.int .i64 st) ∧ w'.cell? ⟨bA, 1, none⟩ = some (.slice aC cl.length capC))) := fun w' h => (L18.out.step h).two (List.Mem.tail _ (List.Mem.head _))
      go_wp2_with fail
      go_region_held3 (fun w' => (w'.cell? ⟨bA, 0, none⟩ = some (.int .i64 st) ∧ w'.cell? ⟨bA, 1, none⟩ = some (.slice aC cl.length capC)))
        (first | go_keep | exact HX.out _ (below_undrew hba) | exact HX.out _ ((below_undrew hba).trans (hbb.mono (below_undrew hba).size)) | exact HX.out _ (((below_undrew hba).trans (hbb.mono (below_undrew hba).size)).trans (hbc.mono ((below_undrew hba).trans (hbb.mono (below_undrew hba).size)).size)))
        (first | (go_at_call 18; refine (toPairS_own l hl _ (HF.out.kept L18.out.below.drew)).mono ?_; rintro e wa ⟨gV, rfl, hoa, hba⟩) | (go_at_call 24; refine (toBatch_any cl hlC _ (HFC.out.kept (L18.out.below.trans ((below_undrew hba).mono L18.out.below.size)))).mono ?_; rintro e wb ⟨gD, rfl, hgb, hob, hbb⟩) | (go_at_call 12; refine (implDo_any l HLL.out HSS.out st cl HLLC.out HSSC.out out R HR.out _ ((cellsPair_own rfl hoa).kept hbb) (cellsChange_own rfl hob)).mono ?_; rintro e wc ⟨vH, rfl, hoc, hbc⟩; obtain ⟨aH, cH, rfl⟩ := own_slice hoc))
      obtain ⟨w16_, hw16_⟩ : ∃ w16_, w16_ = wc := ⟨_, rfl⟩
      have L19 : Hid (LawS w [(bB, (Obj.cells #[Value.int IntKind.i64 st, Value.slice (some ⟨gY, 0, none⟩) cl.length cl.length] 33 (0, 0))), (bA, (Obj.cells #[Value.int IntKind.i64 st, Value.slice aC cl.length capC] 49 (0, 0)))] [⟨.slice aH out.length cH, 40, 2, out.length, cellsPair out⟩, ⟨.slice (some ⟨gD, 0, none⟩) cl.length cl.length, 65, 3, cl.length, cellsChange cl⟩, ⟨.slice (some ⟨gV, 0, none⟩) l.length l.length, 40, 2, l.length, cellsPair l⟩, ⟨.slice (some ⟨gE, 0, none⟩) cl.length cl.length, 65, 3, cl.length, cellsChange cl⟩, ⟨.slice (some ⟨gT, 0, none⟩) l.length l.length, 40, 2, l.length, cellsPair l⟩, ⟨.slice aG out.length cG, 40, 2, out.length, cellsPair (marksPair 1 out.length)⟩, ⟨.slice (some ⟨gY, 0, none⟩) cl.length cl.length, 65, 3, cl.length, cellsChange (marksChange M cl.length)⟩, ⟨.slice (some ⟨gX, 0, none⟩) l.length l.length, 40, 2, l.length, cellsPair (marksPair 1 l.length)⟩, ⟨.slice aW out.length cW, 40, 2, out.length, cellsPair out⟩, ⟨.slice (some ⟨gC, 0, none⟩) cl.length cl.length, 65, 3, cl.length, cellsChange cl⟩, ⟨.slice (some ⟨gP, 0, none⟩) l.length l.length, 40, 2, l.length, cellsPair l⟩] w16_) := by rw [hw16_]; exact ((L18.out.drew.call hba hoa).call hbb hob).call hbc hoc
      rw [← hw16_]
      clear hw16_ hba hoa hbb hob hbc hoc hgb d0 d1 HX L18
      go_wp2_with fail
      obtain ⟨_, ghA1, _, ehA1, hA1⟩ := cellsPair_slice (L19.out.row 0 rfl)
      cases ehA1
      obtain ⟨_, ghA2, _, ehA2, hA2⟩ := cellsPair_slice (L19.out.row 8 rfl)
      cases ehA2
      refine (eqPairS_same out (by omega) _ hA1 hA2).mono ?_
      rintro en w17_ ⟨rfl, hb⟩
      have L20 : Hid (LawS w [(bB, (Obj.cells #[Value.int IntKind.i64 st, Value.slice (some ⟨gY, 0, none⟩) cl.length cl.length] 33 (0, 0))), (bA, (Obj.cells #[Value.int IntKind.i64 st, Value.slice aC cl.length capC] 49 (0, 0)))] [⟨.slice aH out.length cH, 40, 2, out.length, cellsPair out⟩, ⟨.slice (some ⟨gD, 0, none⟩) cl.length cl.length, 65, 3, cl.length, cellsChange cl⟩, ⟨.slice (some ⟨gV, 0, none⟩) l.length l.length, 40, 2, l.length, cellsPair l⟩, ⟨.slice (some ⟨gE, 0, none⟩) cl.length cl.length, 65, 3, cl.length, cellsChange cl⟩, ⟨.slice (some ⟨gT, 0, none⟩) l.length l.length, 40, 2, l.length, cellsPair l⟩, ⟨.slice aG out.length cG, 40, 2, out.length, cellsPair (marksPair 1 out.length)⟩, ⟨.slice (some ⟨gY, 0, none⟩) cl.length cl.length, 65, 3, cl.length, cellsChange (marksChange M cl.length)⟩, ⟨.slice (some ⟨gX, 0, none⟩) l.length l.length, 40, 2, l.length, cellsPair (marksPair 1 l.length)⟩, ⟨.slice aW out.length cW, 40, 2, out.length, cellsPair out⟩, ⟨.slice (some ⟨gC, 0, none⟩) cl.length cl.length, 65, 3, cl.length, cellsChange cl⟩, ⟨.slice (some ⟨gP, 0, none⟩) l.length l.length, 40, 2, l.length, cellsPair l⟩] w17_) := L19.out.step hb
      clear hb L19
      clear hA1 hA2
      go_wp2_with fail
      obtain ⟨_, gq, _, eq, hq⟩ := marksP_at (L20.out.row 5 rfl)
      cases eq
      refine (heldPairS_is out.length (by omega) 1 (by omega) (by omega) _ hq).mono ?_
      rintro en w18_ ⟨rfl, hb⟩
      have L21 : Hid (LawS w [(bB, (Obj.cells #[Value.int IntKind.i64 st, Value.slice (some ⟨gY, 0, none⟩) cl.length cl.length] 33 (0, 0))), (bA, (Obj.cells #[Value.int IntKind.i64 st, Value.slice aC cl.length capC] 49 (0, 0)))] [⟨.slice aH out.length cH, 40, 2, out.length, cellsPair out⟩, ⟨.slice (some ⟨gD, 0, none⟩) cl.length cl.length, 65, 3, cl.length, cellsChange cl⟩, ⟨.slice (some ⟨gV, 0, none⟩) l.length l.length, 40, 2, l.length, cellsPair l⟩, ⟨.slice (some ⟨gE, 0, none⟩) cl.length cl.length, 65, 3, cl.length, cellsChange cl⟩, ⟨.slice (some ⟨gT, 0, none⟩) l.length l.length, 40, 2, l.length, cellsPair l⟩, ⟨.slice aG out.length cG, 40, 2, out.length, cellsPair (marksPair 1 out.length)⟩, ⟨.slice (some ⟨gY, 0, none⟩) cl.length cl.length, 65, 3, cl.length, cellsChange (marksChange M cl.length)⟩, ⟨.slice (some ⟨gX, 0, none⟩) l.length l.length, 40, 2, l.length, cellsPair (marksPair 1 l.length)⟩, ⟨.slice aW out.length cW, 40, 2, out.length, cellsPair out⟩, ⟨.slice (some ⟨gC, 0, none⟩) cl.length cl.length, 65, 3, cl.length, cellsChange cl⟩, ⟨.slice (some ⟨gP, 0, none⟩) l.length l.length, 40, 2, l.length, cellsPair l⟩] w18_) := L20.out.step hb
      clear hb L20
      clear hq
      rw [← HQ.out]
      go_wp2
      go_ret
      exact ⟨rfl, L21.out.below⟩
    · subst hx2
      go_wp2
      go_ret
      exact ⟨rfl, L4.out.below⟩
  · subst hx2
    go_wp2
    go_ret
    exact ⟨rfl, L3.out.below⟩
end Go.Proofs.Ytijopmkcaoefjaa
