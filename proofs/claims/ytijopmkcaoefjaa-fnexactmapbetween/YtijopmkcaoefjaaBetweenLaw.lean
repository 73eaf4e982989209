/- The exact law of MapBetween, walked. Made by program. -/
import Derived.Test.YtijopmkcaoefjaaMapBetween
import Derived.Test.YtijopmkcaoefjaaOkLaw
import Derived.Test.YtijopmkcaoefjaaLaw
import Derived.Test.YtijopmkcaoefjaaMarkChange
namespace Go.Proofs.Ytijopmkcaoefjaa
open Go.RowKit
set_option linter.unusedVariables false

set_option maxHeartbeats 2000000 in
set_option maxRecDepth 100000 in
theorem lawBetween_any {aA : Option Addr} {gA offA capA : Nat} (lA : List PairL) (hlenA : lA.length ≤ maxLen) (hszA : ∀ r ∈ lA, smallPair maxLen r) {aB : Option Addr} {gB offB capB : Nat} (lB : List PairL) (hlenB : lB.length ≤ maxLen) (hszB : ∀ r ∈ lB, smallPair maxLen r) (w : World) (hfA : PairAt w aA gA offA lA) (hfB : PairAt w aB gB offB lB) :
    Calls Try.prog 8 #[.slice aA lA.length capA, .slice aB lB.length capB] w fun e w' => e = .returned (.bool true) ∧ Below w.heap.size w w' := by
  have HFA : Hid (PairAt w aA gA offA lA) := hfA
  have HSA : Hid (∀ r ∈ lA, smallPair maxLen r) := hszA
  have HLA : Hid (lA.length ≤ maxLen) := hlenA
  clear hfA hszA hlenA
  have HFB : Hid (PairAt w aB gB offB lB) := hfB
  have HSB : Hid (∀ r ∈ lB, smallPair maxLen r) := hszB
  have HLB : Hid (lB.length ≤ maxLen) := hlenB
  clear hfB hszB hlenB
  go_enter Try.func8, Try.ntmps8
  go_wp2_with fail
  refine (szPairS_is lA HLA.out HSA.out 1048576 (Nat.le_refl _) w HFA.out).mono ?_
  rintro e w1 ⟨x, rfl, hx, hb1⟩
  rcases hx with ⟨hx1, hx2⟩ | ⟨hx1, hx2⟩
  · skip
    obtain ⟨Y, hY⟩ : ∃ Y : Nat, Y = 1048576 - totPair lA := ⟨_, rfl⟩
    rw [← hY] at hx2
    subst hx2
    have hYb : Y ≤ 1048576 := by omega
    clear hY
    obtain ⟨hlA, hsA⟩ := totPair_small (Nat.le_trans hx1 (show 1048576 ≤ 1048576 by omega))
    have HSSA : Hid (∀ r ∈ lA, smallPair 2097152 r) := small_two hsA
    have HLLA : Hid (lA.length ≤ 2097152) := by show _ ≤ _; omega
    clear hsA hx1
    go_wp2_with fail
    refine (szPairS_is lB HLB.out HSB.out Y hYb w1 (HFB.out.kept hb1)).mono ?_
    rintro e w2 ⟨x, rfl, hx, hb2⟩
    have hbb : Below w.heap.size w w2 := hb1.trans (hb2.mono hb1.size)
    clear hb1 hb2
    rcases hx with ⟨hx1, hx2⟩ | ⟨hx1, hx2⟩
    · skip
      obtain ⟨Z, hZ⟩ : ∃ Z : Nat, Z = Y - totPair lB := ⟨_, rfl⟩
      rw [← hZ] at hx2
      subst hx2
      have hZb : Z ≤ 1048576 := by omega
      clear hZ
      obtain ⟨hlB, hsB⟩ := totPair_small (Nat.le_trans hx1 (show Y ≤ 1048576 by omega))
      have HSSB : Hid (∀ r ∈ lB, smallPair 2097152 r) := small_two hsB
      have HLLB : Hid (lB.length ≤ 2097152) := by show _ ≤ _; omega
      clear hsB hx1
      obtain ⟨cs, R, hR⟩ := betR_ex lA lB
      have hcl := betR_len hR
      have HR : Hid (BetR lA lB cs R) := hR
      clear hR
      have L1 : Hid (LawS w [] [] w2) := (LawS.start w).step hbb
      clear hbb
      go_wp2_with fail
      refine (toPairS_own lA hlA _ (HFA.out.kept L1.out.below)).mono ?_
      rintro en w1_ ⟨gP, rfl, ho, hb⟩
      have L2 : Hid (LawS w [] [⟨.slice (some ⟨gP, 0, none⟩) lA.length lA.length, 40, 2, lA.length, cellsPair lA⟩] w1_) := L1.out.call hb ho
      clear hb ho L1
      go_wp2_with fail
      refine (toPairS_own lB hlB _ (HFB.out.kept L2.out.below)).mono ?_
      rintro en w2_ ⟨gO, rfl, ho, hb⟩
      have L3 : Hid (LawS w [] [⟨.slice (some ⟨gO, 0, none⟩) lB.length lB.length, 40, 2, lB.length, cellsPair lB⟩, ⟨.slice (some ⟨gP, 0, none⟩) lA.length lA.length, 40, 2, lA.length, cellsPair lA⟩] w2_) := L2.out.call hb ho
      clear hb ho L2
      go_wp2_with fail
      refine (specBetween_any lA lB HLLA.out HLLB.out HSSA.out HSSB.out cs R HR.out _ (cellsPair_own rfl (L3.out.row 1 rfl)) (cellsPair_own rfl (L3.out.row 0 rfl))).mono ?_
      rintro en w3_ ⟨vW, rfl, ho, hb⟩
      obtain ⟨aW, cW, rfl⟩ := own_slice ho
      have L4 : Hid (LawS w [] [⟨.slice aW cs.length cW, 65, 3, cs.length, cellsChange cs⟩, ⟨.slice (some ⟨gO, 0, none⟩) lB.length lB.length, 40, 2, lB.length, cellsPair lB⟩, ⟨.slice (some ⟨gP, 0, none⟩) lA.length lA.length, 40, 2, lA.length, cellsPair lA⟩] w3_) := L3.out.call hb ho
      clear hb ho L3
      go_wp2_with fail
      refine (toPairS_own lA hlA _ (HFA.out.kept L4.out.below)).mono ?_
      rintro en w4_ ⟨gX, rfl, ho, hb⟩
      have L5 : Hid (LawS w [] [⟨.slice (some ⟨gX, 0, none⟩) lA.length lA.length, 40, 2, lA.length, cellsPair lA⟩, ⟨.slice aW cs.length cW, 65, 3, cs.length, cellsChange cs⟩, ⟨.slice (some ⟨gO, 0, none⟩) lB.length lB.length, 40, 2, lB.length, cellsPair lB⟩, ⟨.slice (some ⟨gP, 0, none⟩) lA.length lA.length, 40, 2, lA.length, cellsPair lA⟩] w4_) := L4.out.call hb ho
      clear hb ho L4
      go_wp2_with fail
      refine (toPairS_own lB hlB _ (HFB.out.kept L5.out.below)).mono ?_
      rintro en w5_ ⟨gY, rfl, ho, hb⟩
      have L6 : Hid (LawS w [] [⟨.slice (some ⟨gY, 0, none⟩) lB.length lB.length, 40, 2, lB.length, cellsPair lB⟩, ⟨.slice (some ⟨gX, 0, none⟩) lA.length lA.length, 40, 2, lA.length, cellsPair lA⟩, ⟨.slice aW cs.length cW, 65, 3, cs.length, cellsChange cs⟩, ⟨.slice (some ⟨gO, 0, none⟩) lB.length lB.length, 40, 2, lB.length, cellsPair lB⟩, ⟨.slice (some ⟨gP, 0, none⟩) lA.length lA.length, 40, 2, lA.length, cellsPair lA⟩] w5_) := L5.out.call hb ho
      clear hb ho L5
      go_wp2_with fail
      refine (implBetween_any lA lB HLLA.out HLLB.out HSSA.out HSSB.out cs R HR.out _ (cellsPair_own rfl (L6.out.row 1 rfl)) (cellsPair_own rfl (L6.out.row 0 rfl))).mono ?_
      rintro en w6_ ⟨vG, rfl, ho, hb⟩
      obtain ⟨aG, cG, rfl⟩ := own_slice ho
      have L7 : Hid (LawS w [] [⟨.slice aG cs.length cG, 65, 3, cs.length, cellsChange cs⟩, ⟨.slice (some ⟨gY, 0, none⟩) lB.length lB.length, 40, 2, lB.length, cellsPair lB⟩, ⟨.slice (some ⟨gX, 0, none⟩) lA.length lA.length, 40, 2, lA.length, cellsPair lA⟩, ⟨.slice aW cs.length cW, 65, 3, cs.length, cellsChange cs⟩, ⟨.slice (some ⟨gO, 0, none⟩) lB.length lB.length, 40, 2, lB.length, cellsPair lB⟩, ⟨.slice (some ⟨gP, 0, none⟩) lA.length lA.length, 40, 2, lA.length, cellsPair lA⟩] w6_) := L6.out.call hb ho
      clear hb ho L6
      go_wp2_with fail
      obtain ⟨_, ghA1, _, ehA1, hA1⟩ := cellsChange_slice (L7.out.row 0 rfl)
      cases ehA1
      obtain ⟨_, ghA2, _, ehA2, hA2⟩ := cellsChange_slice (L7.out.row 3 rfl)
      cases ehA2
      refine (eqChangeS_same cs (by omega) _ hA1 hA2).mono ?_
      rintro en w7_ ⟨rfl, hb⟩
      have L8 : Hid (LawS w [] [⟨.slice aG cs.length cG, 65, 3, cs.length, cellsChange cs⟩, ⟨.slice (some ⟨gY, 0, none⟩) lB.length lB.length, 40, 2, lB.length, cellsPair lB⟩, ⟨.slice (some ⟨gX, 0, none⟩) lA.length lA.length, 40, 2, lA.length, cellsPair lA⟩, ⟨.slice aW cs.length cW, 65, 3, cs.length, cellsChange cs⟩, ⟨.slice (some ⟨gO, 0, none⟩) lB.length lB.length, 40, 2, lB.length, cellsPair lB⟩, ⟨.slice (some ⟨gP, 0, none⟩) lA.length lA.length, 40, 2, lA.length, cellsPair lA⟩] w7_) := L7.out.step hb
      clear hb L7
      clear hA1 hA2
      go_wp2_with fail
      refine (toPairS_own lA hlA _ (HFA.out.kept L8.out.below)).mono ?_
      rintro en w8_ ⟨gT, rfl, ho, hb⟩
      have L9 : Hid (LawS w [] [⟨.slice (some ⟨gT, 0, none⟩) lA.length lA.length, 40, 2, lA.length, cellsPair lA⟩, ⟨.slice aG cs.length cG, 65, 3, cs.length, cellsChange cs⟩, ⟨.slice (some ⟨gY, 0, none⟩) lB.length lB.length, 40, 2, lB.length, cellsPair lB⟩, ⟨.slice (some ⟨gX, 0, none⟩) lA.length lA.length, 40, 2, lA.length, cellsPair lA⟩, ⟨.slice aW cs.length cW, 65, 3, cs.length, cellsChange cs⟩, ⟨.slice (some ⟨gO, 0, none⟩) lB.length lB.length, 40, 2, lB.length, cellsPair lB⟩, ⟨.slice (some ⟨gP, 0, none⟩) lA.length lA.length, 40, 2, lA.length, cellsPair lA⟩] w8_) := L8.out.call hb ho
      clear hb ho L8
      go_wp2_with fail
      refine (eqPairS_same lA hlA _ (cellsPair_own rfl (L9.out.row 3 rfl)) (cellsPair_own rfl (L9.out.row 0 rfl))).mono ?_
      rintro en w9_ ⟨rfl, hb⟩
      have L10 : Hid (LawS w [] [⟨.slice (some ⟨gT, 0, none⟩) lA.length lA.length, 40, 2, lA.length, cellsPair lA⟩, ⟨.slice aG cs.length cG, 65, 3, cs.length, cellsChange cs⟩, ⟨.slice (some ⟨gY, 0, none⟩) lB.length lB.length, 40, 2, lB.length, cellsPair lB⟩, ⟨.slice (some ⟨gX, 0, none⟩) lA.length lA.length, 40, 2, lA.length, cellsPair lA⟩, ⟨.slice aW cs.length cW, 65, 3, cs.length, cellsChange cs⟩, ⟨.slice (some ⟨gO, 0, none⟩) lB.length lB.length, 40, 2, lB.length, cellsPair lB⟩, ⟨.slice (some ⟨gP, 0, none⟩) lA.length lA.length, 40, 2, lA.length, cellsPair lA⟩] w9_) := L9.out.step hb
      clear hb L9
      go_wp2_with fail
      refine (toPairS_own lB hlB _ (HFB.out.kept L10.out.below)).mono ?_
      rintro en w10_ ⟨gU, rfl, ho, hb⟩
      have L11 : Hid (LawS w [] [⟨.slice (some ⟨gU, 0, none⟩) lB.length lB.length, 40, 2, lB.length, cellsPair lB⟩, ⟨.slice (some ⟨gT, 0, none⟩) lA.length lA.length, 40, 2, lA.length, cellsPair lA⟩, ⟨.slice aG cs.length cG, 65, 3, cs.length, cellsChange cs⟩, ⟨.slice (some ⟨gY, 0, none⟩) lB.length lB.length, 40, 2, lB.length, cellsPair lB⟩, ⟨.slice (some ⟨gX, 0, none⟩) lA.length lA.length, 40, 2, lA.length, cellsPair lA⟩, ⟨.slice aW cs.length cW, 65, 3, cs.length, cellsChange cs⟩, ⟨.slice (some ⟨gO, 0, none⟩) lB.length lB.length, 40, 2, lB.length, cellsPair lB⟩, ⟨.slice (some ⟨gP, 0, none⟩) lA.length lA.length, 40, 2, lA.length, cellsPair lA⟩] w10_) := L10.out.call hb ho
      clear hb ho L10
      go_wp2_with fail
      refine (eqPairS_same lB hlB _ (cellsPair_own rfl (L11.out.row 3 rfl)) (cellsPair_own rfl (L11.out.row 0 rfl))).mono ?_
      rintro en w11_ ⟨rfl, hb⟩
      have L12 : Hid (LawS w [] [⟨.slice (some ⟨gU, 0, none⟩) lB.length lB.length, 40, 2, lB.length, cellsPair lB⟩, ⟨.slice (some ⟨gT, 0, none⟩) lA.length lA.length, 40, 2, lA.length, cellsPair lA⟩, ⟨.slice aG cs.length cG, 65, 3, cs.length, cellsChange cs⟩, ⟨.slice (some ⟨gY, 0, none⟩) lB.length lB.length, 40, 2, lB.length, cellsPair lB⟩, ⟨.slice (some ⟨gX, 0, none⟩) lA.length lA.length, 40, 2, lA.length, cellsPair lA⟩, ⟨.slice aW cs.length cW, 65, 3, cs.length, cellsChange cs⟩, ⟨.slice (some ⟨gO, 0, none⟩) lB.length lB.length, 40, 2, lB.length, cellsPair lB⟩, ⟨.slice (some ⟨gP, 0, none⟩) lA.length lA.length, 40, 2, lA.length, cellsPair lA⟩] w11_) := L11.out.step hb
      clear hb L11
      go_wp2_with fail
      refine (markPairS_own lA hlA 1 (by omega) (by omega) _ (L12.out.row 4 rfl)).mono ?_
      rintro en w12_ ⟨rfl, hown, hg⟩
      have L13 : Hid (LawS w [] [⟨.slice (some ⟨gU, 0, none⟩) lB.length lB.length, 40, 2, lB.length, cellsPair lB⟩, ⟨.slice (some ⟨gT, 0, none⟩) lA.length lA.length, 40, 2, lA.length, cellsPair lA⟩, ⟨.slice aG cs.length cG, 65, 3, cs.length, cellsChange cs⟩, ⟨.slice (some ⟨gY, 0, none⟩) lB.length lB.length, 40, 2, lB.length, cellsPair lB⟩, ⟨.slice (some ⟨gX, 0, none⟩) lA.length lA.length, 40, 2, lA.length, cellsPair (marksPair 1 lA.length)⟩, ⟨.slice aW cs.length cW, 65, 3, cs.length, cellsChange cs⟩, ⟨.slice (some ⟨gO, 0, none⟩) lB.length lB.length, 40, 2, lB.length, cellsPair lB⟩, ⟨.slice (some ⟨gP, 0, none⟩) lA.length lA.length, 40, 2, lA.length, cellsPair lA⟩] w12_) := L12.out.mark 4 (r := ⟨.slice (some ⟨gX, 0, none⟩) lA.length lA.length, 40, 2, lA.length, cellsPair lA⟩) rfl hg hown
      clear hown hg L12
      obtain ⟨M, hM⟩ : ∃ M : Nat, M = 1 + 2 * lA.length := ⟨_, rfl⟩
      rw [← hM]
      have hM0 : ¬ (M : Int) < 0 := by omega
      have HM : Hid (M = 1 + 2 * lA.length) := hM
      clear hM
      have hMb : 0 < M ∧ M ≤ 100000000 := by have := HM.out; omega
      go_wp2_with fail
      refine (markPairS_own lB hlB M hMb.1 hMb.2 _ (L13.out.row 3 rfl)).mono ?_
      rintro en w13_ ⟨rfl, hown, hg⟩
      have L14 : Hid (LawS w [] [⟨.slice (some ⟨gU, 0, none⟩) lB.length lB.length, 40, 2, lB.length, cellsPair lB⟩, ⟨.slice (some ⟨gT, 0, none⟩) lA.length lA.length, 40, 2, lA.length, cellsPair lA⟩, ⟨.slice aG cs.length cG, 65, 3, cs.length, cellsChange cs⟩, ⟨.slice (some ⟨gY, 0, none⟩) lB.length lB.length, 40, 2, lB.length, cellsPair (marksPair M lB.length)⟩, ⟨.slice (some ⟨gX, 0, none⟩) lA.length lA.length, 40, 2, lA.length, cellsPair (marksPair 1 lA.length)⟩, ⟨.slice aW cs.length cW, 65, 3, cs.length, cellsChange cs⟩, ⟨.slice (some ⟨gO, 0, none⟩) lB.length lB.length, 40, 2, lB.length, cellsPair lB⟩, ⟨.slice (some ⟨gP, 0, none⟩) lA.length lA.length, 40, 2, lA.length, cellsPair lA⟩] w13_) := L13.out.mark 3 (r := ⟨.slice (some ⟨gY, 0, none⟩) lB.length lB.length, 40, 2, lB.length, cellsPair lB⟩) rfl hg hown
      clear hown hg L13
      obtain ⟨K, hK⟩ : ∃ K : Nat, K = M + 2 * lB.length := ⟨_, rfl⟩
      rw [← hK]
      have hK0 : ¬ (K : Int) < 0 := by omega
      have HK : Hid (K = M + 2 * lB.length) := hK
      clear hK
      go_wp2_with fail
      obtain ⟨_, ghA1, _, ehA1, hA1⟩ := cellsChange_slice (L14.out.row 2 rfl)
      cases ehA1
      obtain ⟨_, ghA2, _, ehA2, hA2⟩ := cellsChange_slice (L14.out.row 5 rfl)
      cases ehA2
      refine (eqChangeS_same cs (by omega) _ hA1 hA2).mono ?_
      rintro en w14_ ⟨rfl, hb⟩
      have L15 : Hid (LawS w [] [⟨.slice (some ⟨gU, 0, none⟩) lB.length lB.length, 40, 2, lB.length, cellsPair lB⟩, ⟨.slice (some ⟨gT, 0, none⟩) lA.length lA.length, 40, 2, lA.length, cellsPair lA⟩, ⟨.slice aG cs.length cG, 65, 3, cs.length, cellsChange cs⟩, ⟨.slice (some ⟨gY, 0, none⟩) lB.length lB.length, 40, 2, lB.length, cellsPair (marksPair M lB.length)⟩, ⟨.slice (some ⟨gX, 0, none⟩) lA.length lA.length, 40, 2, lA.length, cellsPair (marksPair 1 lA.length)⟩, ⟨.slice aW cs.length cW, 65, 3, cs.length, cellsChange cs⟩, ⟨.slice (some ⟨gO, 0, none⟩) lB.length lB.length, 40, 2, lB.length, cellsPair lB⟩, ⟨.slice (some ⟨gP, 0, none⟩) lA.length lA.length, 40, 2, lA.length, cellsPair lA⟩] w14_) := L14.out.step hb
      clear hb L14
      clear hA1 hA2
      go_wp2_with fail
      refine (markChangeS_own cs (by omega) 1 (by omega) (by omega) _ (L15.out.row 2 rfl)).mono ?_
      rintro en w15_ ⟨rfl, hown, hg⟩
      have L16 : Hid (LawS w [] [⟨.slice (some ⟨gU, 0, none⟩) lB.length lB.length, 40, 2, lB.length, cellsPair lB⟩, ⟨.slice (some ⟨gT, 0, none⟩) lA.length lA.length, 40, 2, lA.length, cellsPair lA⟩, ⟨.slice aG cs.length cG, 65, 3, cs.length, cellsChange (marksChange 1 cs.length)⟩, ⟨.slice (some ⟨gY, 0, none⟩) lB.length lB.length, 40, 2, lB.length, cellsPair (marksPair M lB.length)⟩, ⟨.slice (some ⟨gX, 0, none⟩) lA.length lA.length, 40, 2, lA.length, cellsPair (marksPair 1 lA.length)⟩, ⟨.slice aW cs.length cW, 65, 3, cs.length, cellsChange cs⟩, ⟨.slice (some ⟨gO, 0, none⟩) lB.length lB.length, 40, 2, lB.length, cellsPair lB⟩, ⟨.slice (some ⟨gP, 0, none⟩) lA.length lA.length, 40, 2, lA.length, cellsPair lA⟩] w15_) := L15.out.mark 2 (r := ⟨.slice aG cs.length cG, 65, 3, cs.length, cellsChange cs⟩) rfl hg hown
      clear hown hg L15
      obtain ⟨Q, hQ⟩ : ∃ Q : Nat, Q = 1 + 3 * cs.length := ⟨_, rfl⟩
      rw [← hQ]
      have hQ0 : ¬ (Q : Int) < 0 := by omega
      have HQ : Hid (Q = 1 + 3 * cs.length) := hQ
      clear hQ
      go_wp2_with fail
      obtain ⟨_, gq, _, eq, hq⟩ := marks_at (L16.out.row 2 rfl)
      cases eq
      refine (heldChangeS_is cs.length (by omega) 1 (by omega) (by omega) _ hq).mono ?_
      rintro en w16_ ⟨rfl, hb⟩
      have L17 : Hid (LawS w [] [⟨.slice (some ⟨gU, 0, none⟩) lB.length lB.length, 40, 2, lB.length, cellsPair lB⟩, ⟨.slice (some ⟨gT, 0, none⟩) lA.length lA.length, 40, 2, lA.length, cellsPair lA⟩, ⟨.slice aG cs.length cG, 65, 3, cs.length, cellsChange (marksChange 1 cs.length)⟩, ⟨.slice (some ⟨gY, 0, none⟩) lB.length lB.length, 40, 2, lB.length, cellsPair (marksPair M lB.length)⟩, ⟨.slice (some ⟨gX, 0, none⟩) lA.length lA.length, 40, 2, lA.length, cellsPair (marksPair 1 lA.length)⟩, ⟨.slice aW cs.length cW, 65, 3, cs.length, cellsChange cs⟩, ⟨.slice (some ⟨gO, 0, none⟩) lB.length lB.length, 40, 2, lB.length, cellsPair lB⟩, ⟨.slice (some ⟨gP, 0, none⟩) lA.length lA.length, 40, 2, lA.length, cellsPair lA⟩] w16_) := L16.out.step hb
      clear hb L16
      clear hq
      rw [← HQ.out]
      go_wp2_with fail
      refine (toPairS_own lA hlA _ (HFA.out.kept L17.out.below)).mono ?_
      rintro en w17_ ⟨gV, rfl, ho, hb⟩
      have L18 : Hid (LawS w [] [⟨.slice (some ⟨gV, 0, none⟩) lA.length lA.length, 40, 2, lA.length, cellsPair lA⟩, ⟨.slice (some ⟨gU, 0, none⟩) lB.length lB.length, 40, 2, lB.length, cellsPair lB⟩, ⟨.slice (some ⟨gT, 0, none⟩) lA.length lA.length, 40, 2, lA.length, cellsPair lA⟩, ⟨.slice aG cs.length cG, 65, 3, cs.length, cellsChange (marksChange 1 cs.length)⟩, ⟨.slice (some ⟨gY, 0, none⟩) lB.length lB.length, 40, 2, lB.length, cellsPair (marksPair M lB.length)⟩, ⟨.slice (some ⟨gX, 0, none⟩) lA.length lA.length, 40, 2, lA.length, cellsPair (marksPair 1 lA.length)⟩, ⟨.slice aW cs.length cW, 65, 3, cs.length, cellsChange cs⟩, ⟨.slice (some ⟨gO, 0, none⟩) lB.length lB.length, 40, 2, lB.length, cellsPair lB⟩, ⟨.slice (some ⟨gP, 0, none⟩) lA.length lA.length, 40, 2, lA.length, cellsPair lA⟩] w17_) := L17.out.call hb ho
      clear hb ho L17
      go_wp2_with fail
      refine (toPairS_own lB hlB _ (HFB.out.kept L18.out.below)).mono ?_
      rintro en w18_ ⟨gS, rfl, ho, hb⟩
      have L19 : Hid (LawS w [] [⟨.slice (some ⟨gS, 0, none⟩) lB.length lB.length, 40, 2, lB.length, cellsPair lB⟩, ⟨.slice (some ⟨gV, 0, none⟩) lA.length lA.length, 40, 2, lA.length, cellsPair lA⟩, ⟨.slice (some ⟨gU, 0, none⟩) lB.length lB.length, 40, 2, lB.length, cellsPair lB⟩, ⟨.slice (some ⟨gT, 0, none⟩) lA.length lA.length, 40, 2, lA.length, cellsPair lA⟩, ⟨.slice aG cs.length cG, 65, 3, cs.length, cellsChange (marksChange 1 cs.length)⟩, ⟨.slice (some ⟨gY, 0, none⟩) lB.length lB.length, 40, 2, lB.length, cellsPair (marksPair M lB.length)⟩, ⟨.slice (some ⟨gX, 0, none⟩) lA.length lA.length, 40, 2, lA.length, cellsPair (marksPair 1 lA.length)⟩, ⟨.slice aW cs.length cW, 65, 3, cs.length, cellsChange cs⟩, ⟨.slice (some ⟨gO, 0, none⟩) lB.length lB.length, 40, 2, lB.length, cellsPair lB⟩, ⟨.slice (some ⟨gP, 0, none⟩) lA.length lA.length, 40, 2, lA.length, cellsPair lA⟩] w18_) := L18.out.call hb ho
      clear hb ho L18
      go_wp2_with fail
      refine (implBetween_any lA lB HLLA.out HLLB.out HSSA.out HSSB.out cs R HR.out _ (cellsPair_own rfl (L19.out.row 1 rfl)) (cellsPair_own rfl (L19.out.row 0 rfl))).mono ?_
      rintro en w19_ ⟨vH, rfl, ho, hb⟩
      obtain ⟨aH, cH, rfl⟩ := own_slice ho
      have L20 : Hid (LawS w [] [⟨.slice aH cs.length cH, 65, 3, cs.length, cellsChange cs⟩, ⟨.slice (some ⟨gS, 0, none⟩) lB.length lB.length, 40, 2, lB.length, cellsPair lB⟩, ⟨.slice (some ⟨gV, 0, none⟩) lA.length lA.length, 40, 2, lA.length, cellsPair lA⟩, ⟨.slice (some ⟨gU, 0, none⟩) lB.length lB.length, 40, 2, lB.length, cellsPair lB⟩, ⟨.slice (some ⟨gT, 0, none⟩) lA.length lA.length, 40, 2, lA.length, cellsPair lA⟩, ⟨.slice aG cs.length cG, 65, 3, cs.length, cellsChange (marksChange 1 cs.length)⟩, ⟨.slice (some ⟨gY, 0, none⟩) lB.length lB.length, 40, 2, lB.length, cellsPair (marksPair M lB.length)⟩, ⟨.slice (some ⟨gX, 0, none⟩) lA.length lA.length, 40, 2, lA.length, cellsPair (marksPair 1 lA.length)⟩, ⟨.slice aW cs.length cW, 65, 3, cs.length, cellsChange cs⟩, ⟨.slice (some ⟨gO, 0, none⟩) lB.length lB.length, 40, 2, lB.length, cellsPair lB⟩, ⟨.slice (some ⟨gP, 0, none⟩) lA.length lA.length, 40, 2, lA.length, cellsPair lA⟩] w19_) := L19.out.call hb ho
      clear hb ho L19
      go_wp2_with fail
      obtain ⟨_, ghA1, _, ehA1, hA1⟩ := cellsChange_slice (L20.out.row 0 rfl)
      cases ehA1
      obtain ⟨_, ghA2, _, ehA2, hA2⟩ := cellsChange_slice (L20.out.row 8 rfl)
      cases ehA2
      refine (eqChangeS_same cs (by omega) _ hA1 hA2).mono ?_
      rintro en w20_ ⟨rfl, hb⟩
      have L21 : Hid (LawS w [] [⟨.slice aH cs.length cH, 65, 3, cs.length, cellsChange cs⟩, ⟨.slice (some ⟨gS, 0, none⟩) lB.length lB.length, 40, 2, lB.length, cellsPair lB⟩, ⟨.slice (some ⟨gV, 0, none⟩) lA.length lA.length, 40, 2, lA.length, cellsPair lA⟩, ⟨.slice (some ⟨gU, 0, none⟩) lB.length lB.length, 40, 2, lB.length, cellsPair lB⟩, ⟨.slice (some ⟨gT, 0, none⟩) lA.length lA.length, 40, 2, lA.length, cellsPair lA⟩, ⟨.slice aG cs.length cG, 65, 3, cs.length, cellsChange (marksChange 1 cs.length)⟩, ⟨.slice (some ⟨gY, 0, none⟩) lB.length lB.length, 40, 2, lB.length, cellsPair (marksPair M lB.length)⟩, ⟨.slice (some ⟨gX, 0, none⟩) lA.length lA.length, 40, 2, lA.length, cellsPair (marksPair 1 lA.length)⟩, ⟨.slice aW cs.length cW, 65, 3, cs.length, cellsChange cs⟩, ⟨.slice (some ⟨gO, 0, none⟩) lB.length lB.length, 40, 2, lB.length, cellsPair lB⟩, ⟨.slice (some ⟨gP, 0, none⟩) lA.length lA.length, 40, 2, lA.length, cellsPair lA⟩] w20_) := L20.out.step hb
      clear hb L20
      clear hA1 hA2
      go_wp2_with fail
      obtain ⟨_, gq, _, eq, hq⟩ := marks_at (L21.out.row 5 rfl)
      cases eq
      refine (heldChangeS_is cs.length (by omega) 1 (by omega) (by omega) _ hq).mono ?_
      rintro en w21_ ⟨rfl, hb⟩
      have L22 : Hid (LawS w [] [⟨.slice aH cs.length cH, 65, 3, cs.length, cellsChange cs⟩, ⟨.slice (some ⟨gS, 0, none⟩) lB.length lB.length, 40, 2, lB.length, cellsPair lB⟩, ⟨.slice (some ⟨gV, 0, none⟩) lA.length lA.length, 40, 2, lA.length, cellsPair lA⟩, ⟨.slice (some ⟨gU, 0, none⟩) lB.length lB.length, 40, 2, lB.length, cellsPair lB⟩, ⟨.slice (some ⟨gT, 0, none⟩) lA.length lA.length, 40, 2, lA.length, cellsPair lA⟩, ⟨.slice aG cs.length cG, 65, 3, cs.length, cellsChange (marksChange 1 cs.length)⟩, ⟨.slice (some ⟨gY, 0, none⟩) lB.length lB.length, 40, 2, lB.length, cellsPair (marksPair M lB.length)⟩, ⟨.slice (some ⟨gX, 0, none⟩) lA.length lA.length, 40, 2, lA.length, cellsPair (marksPair 1 lA.length)⟩, ⟨.slice aW cs.length cW, 65, 3, cs.length, cellsChange cs⟩, ⟨.slice (some ⟨gO, 0, none⟩) lB.length lB.length, 40, 2, lB.length, cellsPair lB⟩, ⟨.slice (some ⟨gP, 0, none⟩) lA.length lA.length, 40, 2, lA.length, cellsPair lA⟩] w21_) := L21.out.step hb
      clear hb L21
      clear hq
      rw [← HQ.out]
      go_wp2
      go_ret
      exact ⟨rfl, L22.out.below⟩
    · subst hx2
      go_wp2
      go_ret
      exact ⟨rfl, hbb⟩
  · subst hx2
    go_wp2
    go_ret
    exact ⟨rfl, hb1⟩
end Go.Proofs.Ytijopmkcaoefjaa
