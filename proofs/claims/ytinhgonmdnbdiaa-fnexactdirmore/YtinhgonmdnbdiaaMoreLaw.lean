/- The exact law of DirMore, walked. Made by program. -/
import Derived.Test.YtinhgonmdnbdiaaMoreAny
import Derived.Test.YtinhgonmdnbdiaaDirOkLaw
import Derived.Test.YtinhgonmdnbdiaaLaw
import Derived.Test.YtinhgonmdnbdiaaMarkSpot
namespace Go.Proofs.Ytinhgonmdnbdiaa
open Go.RowKit
set_option linter.unusedVariables false

set_option maxHeartbeats 2000000 in
set_option maxRecDepth 100000 in
theorem lawMore_any {aA : Option Addr} {gA offA capA : Nat} (lA : List SpotL) (hlenA : lA.length ≤ maxLen) (hszA : ∀ r ∈ lA, smallSpot maxLen r) {aB : Option Addr} {gB offB capB : Nat} (lB : List SpotL) (hlenB : lB.length ≤ maxLen) (hszB : ∀ r ∈ lB, smallSpot maxLen r) (w : World) (hfA : SpotAt w aA gA offA lA) (hfB : SpotAt w aB gB offB lB) :
    Calls Try.prog 5 #[.slice aA lA.length capA, .slice aB lB.length capB] w fun e w' => e = .returned (.bool true) ∧ Below w.heap.size w w' := by
  have HFA : Hid (SpotAt w aA gA offA lA) := hfA
  have HSA : Hid (∀ r ∈ lA, smallSpot maxLen r) := hszA
  have HLA : Hid (lA.length ≤ maxLen) := hlenA
  clear hfA hszA hlenA
  have HFB : Hid (SpotAt w aB gB offB lB) := hfB
  have HSB : Hid (∀ r ∈ lB, smallSpot maxLen r) := hszB
  have HLB : Hid (lB.length ≤ maxLen) := hlenB
  clear hfB hszB hlenB
  go_enter Try.func5, Try.ntmps5
  go_wp2_with fail
  refine (szSpotS_is lA HLA.out HSA.out 1048576 (Nat.le_refl _) w HFA.out).mono ?_
  rintro e w1 ⟨x, rfl, hx, hb1⟩
  rcases hx with ⟨hx1, hx2⟩ | ⟨hx1, hx2⟩
  · skip
    obtain ⟨Y, hY⟩ : ∃ Y : Nat, Y = 1048576 - totSpot lA := ⟨_, rfl⟩
    rw [← hY] at hx2
    subst hx2
    have hYb : Y ≤ 1048576 := by omega
    clear hY
    obtain ⟨hlA, hsA⟩ := totSpot_small (Nat.le_trans hx1 (show 1048576 ≤ 1048576 by omega))
    have HSSA : Hid (∀ r ∈ lA, smallSpot 1048576 r) := hsA
    have HLLA : Hid (lA.length ≤ 1048576) := by show _ ≤ _; omega
    clear hsA hx1
    go_wp2_with fail
    refine (szSpotS_is lB HLB.out HSB.out Y hYb w1 (HFB.out.kept hb1)).mono ?_
    rintro e w2 ⟨x, rfl, hx, hb2⟩
    have hbb : Below w.heap.size w w2 := hb1.trans (hb2.mono hb1.size)
    clear hb1 hb2
    rcases hx with ⟨hx1, hx2⟩ | ⟨hx1, hx2⟩
    · skip
      obtain ⟨Z, hZ⟩ : ∃ Z : Nat, Z = Y - totSpot lB := ⟨_, rfl⟩
      rw [← hZ] at hx2
      subst hx2
      have hZb : Z ≤ 1048576 := by omega
      clear hZ
      obtain ⟨hlB, hsB⟩ := totSpot_small (Nat.le_trans hx1 (show Y ≤ 1048576 by omega))
      have HSSB : Hid (∀ r ∈ lB, smallSpot 1048576 r) := hsB
      have HLLB : Hid (lB.length ≤ 1048576) := by show _ ≤ _; omega
      clear hsB hx1
      obtain ⟨cs, R, hR⟩ := moreR_ex lA lB
      have hcl := moreR_len hR
      have HR : Hid (MoreR lA lB cs R) := hR
      clear hR
      have L1 : Hid (LawS w [] [] w2) := (LawS.start w).step hbb
      clear hbb
      go_wp2_with fail
      refine (toSpotS_own lA hlA _ (HFA.out.kept L1.out.below)).mono ?_
      rintro en w1_ ⟨gP, rfl, ho, hb⟩
      have L2 : Hid (LawS w [] [⟨.slice (some ⟨gP, 0, none⟩) lA.length lA.length, 56, 4, lA.length, cellsSpot lA⟩] w1_) := L1.out.call hb ho
      clear hb ho L1
      go_wp2_with fail
      refine (toSpotS_own lB hlB _ (HFB.out.kept L2.out.below)).mono ?_
      rintro en w2_ ⟨gO, rfl, ho, hb⟩
      have L3 : Hid (LawS w [] [⟨.slice (some ⟨gO, 0, none⟩) lB.length lB.length, 56, 4, lB.length, cellsSpot lB⟩, ⟨.slice (some ⟨gP, 0, none⟩) lA.length lA.length, 56, 4, lA.length, cellsSpot lA⟩] w2_) := L2.out.call hb ho
      clear hb ho L2
      go_wp2_with fail
      refine (specMore_any HR.out HLLA.out HLLB.out HSSA.out HSSB.out _ (cellsSpot_own rfl (L3.out.row 1 rfl)) (cellsSpot_own rfl (L3.out.row 0 rfl))).mono ?_
      rintro en w3_ ⟨vW, rfl, ho, hb⟩
      obtain ⟨aW, cW, rfl⟩ := own_slice ho
      have L4 : Hid (LawS w [] [⟨.slice aW cs.length cW, 56, 4, cs.length, cellsSpot cs⟩, ⟨.slice (some ⟨gO, 0, none⟩) lB.length lB.length, 56, 4, lB.length, cellsSpot lB⟩, ⟨.slice (some ⟨gP, 0, none⟩) lA.length lA.length, 56, 4, lA.length, cellsSpot lA⟩] w3_) := L3.out.call hb ho
      clear hb ho L3
      go_wp2_with fail
      refine (toSpotS_own lA hlA _ (HFA.out.kept L4.out.below)).mono ?_
      rintro en w4_ ⟨gX, rfl, ho, hb⟩
      have L5 : Hid (LawS w [] [⟨.slice (some ⟨gX, 0, none⟩) lA.length lA.length, 56, 4, lA.length, cellsSpot lA⟩, ⟨.slice aW cs.length cW, 56, 4, cs.length, cellsSpot cs⟩, ⟨.slice (some ⟨gO, 0, none⟩) lB.length lB.length, 56, 4, lB.length, cellsSpot lB⟩, ⟨.slice (some ⟨gP, 0, none⟩) lA.length lA.length, 56, 4, lA.length, cellsSpot lA⟩] w4_) := L4.out.call hb ho
      clear hb ho L4
      go_wp2_with fail
      refine (toSpotS_own lB hlB _ (HFB.out.kept L5.out.below)).mono ?_
      rintro en w5_ ⟨gY, rfl, ho, hb⟩
      have L6 : Hid (LawS w [] [⟨.slice (some ⟨gY, 0, none⟩) lB.length lB.length, 56, 4, lB.length, cellsSpot lB⟩, ⟨.slice (some ⟨gX, 0, none⟩) lA.length lA.length, 56, 4, lA.length, cellsSpot lA⟩, ⟨.slice aW cs.length cW, 56, 4, cs.length, cellsSpot cs⟩, ⟨.slice (some ⟨gO, 0, none⟩) lB.length lB.length, 56, 4, lB.length, cellsSpot lB⟩, ⟨.slice (some ⟨gP, 0, none⟩) lA.length lA.length, 56, 4, lA.length, cellsSpot lA⟩] w5_) := L5.out.call hb ho
      clear hb ho L5
      go_wp2_with fail
      refine (implMore_any HR.out HLLA.out HLLB.out HSSA.out HSSB.out _ (cellsSpot_own rfl (L6.out.row 1 rfl)) (cellsSpot_own rfl (L6.out.row 0 rfl))).mono ?_
      rintro en w6_ ⟨vG, rfl, ho, hb⟩
      obtain ⟨aG, cG, rfl⟩ := own_slice ho
      have L7 : Hid (LawS w [] [⟨.slice aG cs.length cG, 56, 4, cs.length, cellsSpot cs⟩, ⟨.slice (some ⟨gY, 0, none⟩) lB.length lB.length, 56, 4, lB.length, cellsSpot lB⟩, ⟨.slice (some ⟨gX, 0, none⟩) lA.length lA.length, 56, 4, lA.length, cellsSpot lA⟩, ⟨.slice aW cs.length cW, 56, 4, cs.length, cellsSpot cs⟩, ⟨.slice (some ⟨gO, 0, none⟩) lB.length lB.length, 56, 4, lB.length, cellsSpot lB⟩, ⟨.slice (some ⟨gP, 0, none⟩) lA.length lA.length, 56, 4, lA.length, cellsSpot lA⟩] w6_) := L6.out.call hb ho
      clear hb ho L6
      go_wp2_with fail
      obtain ⟨_, ghA1, _, ehA1, hA1⟩ := cellsSpot_slice (L7.out.row 0 rfl)
      cases ehA1
      obtain ⟨_, ghA2, _, ehA2, hA2⟩ := cellsSpot_slice (L7.out.row 3 rfl)
      cases ehA2
      refine (eqSpotS_same cs (by omega) _ hA1 hA2).mono ?_
      rintro en w7_ ⟨rfl, hb⟩
      have L8 : Hid (LawS w [] [⟨.slice aG cs.length cG, 56, 4, cs.length, cellsSpot cs⟩, ⟨.slice (some ⟨gY, 0, none⟩) lB.length lB.length, 56, 4, lB.length, cellsSpot lB⟩, ⟨.slice (some ⟨gX, 0, none⟩) lA.length lA.length, 56, 4, lA.length, cellsSpot lA⟩, ⟨.slice aW cs.length cW, 56, 4, cs.length, cellsSpot cs⟩, ⟨.slice (some ⟨gO, 0, none⟩) lB.length lB.length, 56, 4, lB.length, cellsSpot lB⟩, ⟨.slice (some ⟨gP, 0, none⟩) lA.length lA.length, 56, 4, lA.length, cellsSpot lA⟩] w7_) := L7.out.step hb
      clear hb L7
      clear hA1 hA2
      go_wp2_with fail
      refine (toSpotS_own lA hlA _ (HFA.out.kept L8.out.below)).mono ?_
      rintro en w8_ ⟨gT, rfl, ho, hb⟩
      have L9 : Hid (LawS w [] [⟨.slice (some ⟨gT, 0, none⟩) lA.length lA.length, 56, 4, lA.length, cellsSpot lA⟩, ⟨.slice aG cs.length cG, 56, 4, cs.length, cellsSpot cs⟩, ⟨.slice (some ⟨gY, 0, none⟩) lB.length lB.length, 56, 4, lB.length, cellsSpot lB⟩, ⟨.slice (some ⟨gX, 0, none⟩) lA.length lA.length, 56, 4, lA.length, cellsSpot lA⟩, ⟨.slice aW cs.length cW, 56, 4, cs.length, cellsSpot cs⟩, ⟨.slice (some ⟨gO, 0, none⟩) lB.length lB.length, 56, 4, lB.length, cellsSpot lB⟩, ⟨.slice (some ⟨gP, 0, none⟩) lA.length lA.length, 56, 4, lA.length, cellsSpot lA⟩] w8_) := L8.out.call hb ho
      clear hb ho L8
      go_wp2_with fail
      refine (eqSpotS_same lA hlA _ (cellsSpot_own rfl (L9.out.row 3 rfl)) (cellsSpot_own rfl (L9.out.row 0 rfl))).mono ?_
      rintro en w9_ ⟨rfl, hb⟩
      have L10 : Hid (LawS w [] [⟨.slice (some ⟨gT, 0, none⟩) lA.length lA.length, 56, 4, lA.length, cellsSpot lA⟩, ⟨.slice aG cs.length cG, 56, 4, cs.length, cellsSpot cs⟩, ⟨.slice (some ⟨gY, 0, none⟩) lB.length lB.length, 56, 4, lB.length, cellsSpot lB⟩, ⟨.slice (some ⟨gX, 0, none⟩) lA.length lA.length, 56, 4, lA.length, cellsSpot lA⟩, ⟨.slice aW cs.length cW, 56, 4, cs.length, cellsSpot cs⟩, ⟨.slice (some ⟨gO, 0, none⟩) lB.length lB.length, 56, 4, lB.length, cellsSpot lB⟩, ⟨.slice (some ⟨gP, 0, none⟩) lA.length lA.length, 56, 4, lA.length, cellsSpot lA⟩] w9_) := L9.out.step hb
      clear hb L9
      go_wp2_with fail
      refine (toSpotS_own lB hlB _ (HFB.out.kept L10.out.below)).mono ?_
      rintro en w10_ ⟨gU, rfl, ho, hb⟩
      have L11 : Hid (LawS w [] [⟨.slice (some ⟨gU, 0, none⟩) lB.length lB.length, 56, 4, lB.length, cellsSpot lB⟩, ⟨.slice (some ⟨gT, 0, none⟩) lA.length lA.length, 56, 4, lA.length, cellsSpot lA⟩, ⟨.slice aG cs.length cG, 56, 4, cs.length, cellsSpot cs⟩, ⟨.slice (some ⟨gY, 0, none⟩) lB.length lB.length, 56, 4, lB.length, cellsSpot lB⟩, ⟨.slice (some ⟨gX, 0, none⟩) lA.length lA.length, 56, 4, lA.length, cellsSpot lA⟩, ⟨.slice aW cs.length cW, 56, 4, cs.length, cellsSpot cs⟩, ⟨.slice (some ⟨gO, 0, none⟩) lB.length lB.length, 56, 4, lB.length, cellsSpot lB⟩, ⟨.slice (some ⟨gP, 0, none⟩) lA.length lA.length, 56, 4, lA.length, cellsSpot lA⟩] w10_) := L10.out.call hb ho
      clear hb ho L10
      go_wp2_with fail
      refine (eqSpotS_same lB hlB _ (cellsSpot_own rfl (L11.out.row 3 rfl)) (cellsSpot_own rfl (L11.out.row 0 rfl))).mono ?_
      rintro en w11_ ⟨rfl, hb⟩
      have L12 : Hid (LawS w [] [⟨.slice (some ⟨gU, 0, none⟩) lB.length lB.length, 56, 4, lB.length, cellsSpot lB⟩, ⟨.slice (some ⟨gT, 0, none⟩) lA.length lA.length, 56, 4, lA.length, cellsSpot lA⟩, ⟨.slice aG cs.length cG, 56, 4, cs.length, cellsSpot cs⟩, ⟨.slice (some ⟨gY, 0, none⟩) lB.length lB.length, 56, 4, lB.length, cellsSpot lB⟩, ⟨.slice (some ⟨gX, 0, none⟩) lA.length lA.length, 56, 4, lA.length, cellsSpot lA⟩, ⟨.slice aW cs.length cW, 56, 4, cs.length, cellsSpot cs⟩, ⟨.slice (some ⟨gO, 0, none⟩) lB.length lB.length, 56, 4, lB.length, cellsSpot lB⟩, ⟨.slice (some ⟨gP, 0, none⟩) lA.length lA.length, 56, 4, lA.length, cellsSpot lA⟩] w11_) := L11.out.step hb
      clear hb L11
      go_wp2_with fail
      refine (markSpotS_own lA hlA 1 (by omega) (by omega) _ (L12.out.row 4 rfl)).mono ?_
      rintro en w12_ ⟨rfl, hown, hg⟩
      have L13 : Hid (LawS w [] [⟨.slice (some ⟨gU, 0, none⟩) lB.length lB.length, 56, 4, lB.length, cellsSpot lB⟩, ⟨.slice (some ⟨gT, 0, none⟩) lA.length lA.length, 56, 4, lA.length, cellsSpot lA⟩, ⟨.slice aG cs.length cG, 56, 4, cs.length, cellsSpot cs⟩, ⟨.slice (some ⟨gY, 0, none⟩) lB.length lB.length, 56, 4, lB.length, cellsSpot lB⟩, ⟨.slice (some ⟨gX, 0, none⟩) lA.length lA.length, 56, 4, lA.length, cellsSpot (marksSpot 1 lA.length)⟩, ⟨.slice aW cs.length cW, 56, 4, cs.length, cellsSpot cs⟩, ⟨.slice (some ⟨gO, 0, none⟩) lB.length lB.length, 56, 4, lB.length, cellsSpot lB⟩, ⟨.slice (some ⟨gP, 0, none⟩) lA.length lA.length, 56, 4, lA.length, cellsSpot lA⟩] w12_) := L12.out.mark 4 (r := ⟨.slice (some ⟨gX, 0, none⟩) lA.length lA.length, 56, 4, lA.length, cellsSpot lA⟩) rfl hg hown
      clear hown hg L12
      obtain ⟨M, hM⟩ : ∃ M : Nat, M = 1 + 4 * lA.length := ⟨_, rfl⟩
      rw [← hM]
      have hM0 : ¬ (M : Int) < 0 := by omega
      have HM : Hid (M = 1 + 4 * lA.length) := hM
      clear hM
      have hMb : 0 < M ∧ M ≤ 100000000 := by have := HM.out; omega
      go_wp2_with fail
      refine (markSpotS_own lB hlB M hMb.1 hMb.2 _ (L13.out.row 3 rfl)).mono ?_
      rintro en w13_ ⟨rfl, hown, hg⟩
      have L14 : Hid (LawS w [] [⟨.slice (some ⟨gU, 0, none⟩) lB.length lB.length, 56, 4, lB.length, cellsSpot lB⟩, ⟨.slice (some ⟨gT, 0, none⟩) lA.length lA.length, 56, 4, lA.length, cellsSpot lA⟩, ⟨.slice aG cs.length cG, 56, 4, cs.length, cellsSpot cs⟩, ⟨.slice (some ⟨gY, 0, none⟩) lB.length lB.length, 56, 4, lB.length, cellsSpot (marksSpot M lB.length)⟩, ⟨.slice (some ⟨gX, 0, none⟩) lA.length lA.length, 56, 4, lA.length, cellsSpot (marksSpot 1 lA.length)⟩, ⟨.slice aW cs.length cW, 56, 4, cs.length, cellsSpot cs⟩, ⟨.slice (some ⟨gO, 0, none⟩) lB.length lB.length, 56, 4, lB.length, cellsSpot lB⟩, ⟨.slice (some ⟨gP, 0, none⟩) lA.length lA.length, 56, 4, lA.length, cellsSpot lA⟩] w13_) := L13.out.mark 3 (r := ⟨.slice (some ⟨gY, 0, none⟩) lB.length lB.length, 56, 4, lB.length, cellsSpot lB⟩) rfl hg hown
      clear hown hg L13
      obtain ⟨K, hK⟩ : ∃ K : Nat, K = M + 4 * lB.length := ⟨_, rfl⟩
      rw [← hK]
      have hK0 : ¬ (K : Int) < 0 := by omega
      have HK : Hid (K = M + 4 * lB.length) := hK
      clear hK
      go_wp2_with fail
      obtain ⟨_, ghA1, _, ehA1, hA1⟩ := cellsSpot_slice (L14.out.row 2 rfl)
      cases ehA1
      obtain ⟨_, ghA2, _, ehA2, hA2⟩ := cellsSpot_slice (L14.out.row 5 rfl)
      cases ehA2
      refine (eqSpotS_same cs (by omega) _ hA1 hA2).mono ?_
      rintro en w14_ ⟨rfl, hb⟩
      have L15 : Hid (LawS w [] [⟨.slice (some ⟨gU, 0, none⟩) lB.length lB.length, 56, 4, lB.length, cellsSpot lB⟩, ⟨.slice (some ⟨gT, 0, none⟩) lA.length lA.length, 56, 4, lA.length, cellsSpot lA⟩, ⟨.slice aG cs.length cG, 56, 4, cs.length, cellsSpot cs⟩, ⟨.slice (some ⟨gY, 0, none⟩) lB.length lB.length, 56, 4, lB.length, cellsSpot (marksSpot M lB.length)⟩, ⟨.slice (some ⟨gX, 0, none⟩) lA.length lA.length, 56, 4, lA.length, cellsSpot (marksSpot 1 lA.length)⟩, ⟨.slice aW cs.length cW, 56, 4, cs.length, cellsSpot cs⟩, ⟨.slice (some ⟨gO, 0, none⟩) lB.length lB.length, 56, 4, lB.length, cellsSpot lB⟩, ⟨.slice (some ⟨gP, 0, none⟩) lA.length lA.length, 56, 4, lA.length, cellsSpot lA⟩] w14_) := L14.out.step hb
      clear hb L14
      clear hA1 hA2
      go_wp2_with fail
      refine (markSpotS_own cs (by omega) 1 (by omega) (by omega) _ (L15.out.row 2 rfl)).mono ?_
      rintro en w15_ ⟨rfl, hown, hg⟩
      have L16 : Hid (LawS w [] [⟨.slice (some ⟨gU, 0, none⟩) lB.length lB.length, 56, 4, lB.length, cellsSpot lB⟩, ⟨.slice (some ⟨gT, 0, none⟩) lA.length lA.length, 56, 4, lA.length, cellsSpot lA⟩, ⟨.slice aG cs.length cG, 56, 4, cs.length, cellsSpot (marksSpot 1 cs.length)⟩, ⟨.slice (some ⟨gY, 0, none⟩) lB.length lB.length, 56, 4, lB.length, cellsSpot (marksSpot M lB.length)⟩, ⟨.slice (some ⟨gX, 0, none⟩) lA.length lA.length, 56, 4, lA.length, cellsSpot (marksSpot 1 lA.length)⟩, ⟨.slice aW cs.length cW, 56, 4, cs.length, cellsSpot cs⟩, ⟨.slice (some ⟨gO, 0, none⟩) lB.length lB.length, 56, 4, lB.length, cellsSpot lB⟩, ⟨.slice (some ⟨gP, 0, none⟩) lA.length lA.length, 56, 4, lA.length, cellsSpot lA⟩] w15_) := L15.out.mark 2 (r := ⟨.slice aG cs.length cG, 56, 4, cs.length, cellsSpot cs⟩) rfl hg hown
      clear hown hg L15
      obtain ⟨Q, hQ⟩ : ∃ Q : Nat, Q = 1 + 4 * cs.length := ⟨_, rfl⟩
      rw [← hQ]
      have hQ0 : ¬ (Q : Int) < 0 := by omega
      have HQ : Hid (Q = 1 + 4 * cs.length) := hQ
      clear hQ
      go_wp2_with fail
      obtain ⟨_, gq, _, eq, hq⟩ := marksSpot_row (L16.out.row 2 rfl)
      cases eq
      refine (heldSpotS_is cs.length (by omega) 1 (by omega) (by omega) _ hq).mono ?_
      rintro en w16_ ⟨rfl, hb⟩
      have L17 : Hid (LawS w [] [⟨.slice (some ⟨gU, 0, none⟩) lB.length lB.length, 56, 4, lB.length, cellsSpot lB⟩, ⟨.slice (some ⟨gT, 0, none⟩) lA.length lA.length, 56, 4, lA.length, cellsSpot lA⟩, ⟨.slice aG cs.length cG, 56, 4, cs.length, cellsSpot (marksSpot 1 cs.length)⟩, ⟨.slice (some ⟨gY, 0, none⟩) lB.length lB.length, 56, 4, lB.length, cellsSpot (marksSpot M lB.length)⟩, ⟨.slice (some ⟨gX, 0, none⟩) lA.length lA.length, 56, 4, lA.length, cellsSpot (marksSpot 1 lA.length)⟩, ⟨.slice aW cs.length cW, 56, 4, cs.length, cellsSpot cs⟩, ⟨.slice (some ⟨gO, 0, none⟩) lB.length lB.length, 56, 4, lB.length, cellsSpot lB⟩, ⟨.slice (some ⟨gP, 0, none⟩) lA.length lA.length, 56, 4, lA.length, cellsSpot lA⟩] w16_) := L16.out.step hb
      clear hb L16
      clear hq
      rw [← HQ.out]
      go_wp2_with fail
      refine (toSpotS_own lA hlA _ (HFA.out.kept L17.out.below)).mono ?_
      rintro en w17_ ⟨gV, rfl, ho, hb⟩
      have L18 : Hid (LawS w [] [⟨.slice (some ⟨gV, 0, none⟩) lA.length lA.length, 56, 4, lA.length, cellsSpot lA⟩, ⟨.slice (some ⟨gU, 0, none⟩) lB.length lB.length, 56, 4, lB.length, cellsSpot lB⟩, ⟨.slice (some ⟨gT, 0, none⟩) lA.length lA.length, 56, 4, lA.length, cellsSpot lA⟩, ⟨.slice aG cs.length cG, 56, 4, cs.length, cellsSpot (marksSpot 1 cs.length)⟩, ⟨.slice (some ⟨gY, 0, none⟩) lB.length lB.length, 56, 4, lB.length, cellsSpot (marksSpot M lB.length)⟩, ⟨.slice (some ⟨gX, 0, none⟩) lA.length lA.length, 56, 4, lA.length, cellsSpot (marksSpot 1 lA.length)⟩, ⟨.slice aW cs.length cW, 56, 4, cs.length, cellsSpot cs⟩, ⟨.slice (some ⟨gO, 0, none⟩) lB.length lB.length, 56, 4, lB.length, cellsSpot lB⟩, ⟨.slice (some ⟨gP, 0, none⟩) lA.length lA.length, 56, 4, lA.length, cellsSpot lA⟩] w17_) := L17.out.call hb ho
      clear hb ho L17
      go_wp2_with fail
      refine (toSpotS_own lB hlB _ (HFB.out.kept L18.out.below)).mono ?_
      rintro en w18_ ⟨gS, rfl, ho, hb⟩
      have L19 : Hid (LawS w [] [⟨.slice (some ⟨gS, 0, none⟩) lB.length lB.length, 56, 4, lB.length, cellsSpot lB⟩, ⟨.slice (some ⟨gV, 0, none⟩) lA.length lA.length, 56, 4, lA.length, cellsSpot lA⟩, ⟨.slice (some ⟨gU, 0, none⟩) lB.length lB.length, 56, 4, lB.length, cellsSpot lB⟩, ⟨.slice (some ⟨gT, 0, none⟩) lA.length lA.length, 56, 4, lA.length, cellsSpot lA⟩, ⟨.slice aG cs.length cG, 56, 4, cs.length, cellsSpot (marksSpot 1 cs.length)⟩, ⟨.slice (some ⟨gY, 0, none⟩) lB.length lB.length, 56, 4, lB.length, cellsSpot (marksSpot M lB.length)⟩, ⟨.slice (some ⟨gX, 0, none⟩) lA.length lA.length, 56, 4, lA.length, cellsSpot (marksSpot 1 lA.length)⟩, ⟨.slice aW cs.length cW, 56, 4, cs.length, cellsSpot cs⟩, ⟨.slice (some ⟨gO, 0, none⟩) lB.length lB.length, 56, 4, lB.length, cellsSpot lB⟩, ⟨.slice (some ⟨gP, 0, none⟩) lA.length lA.length, 56, 4, lA.length, cellsSpot lA⟩] w18_) := L18.out.call hb ho
      clear hb ho L18
      go_wp2_with fail
      refine (implMore_any HR.out HLLA.out HLLB.out HSSA.out HSSB.out _ (cellsSpot_own rfl (L19.out.row 1 rfl)) (cellsSpot_own rfl (L19.out.row 0 rfl))).mono ?_
      rintro en w19_ ⟨vH, rfl, ho, hb⟩
      obtain ⟨aH, cH, rfl⟩ := own_slice ho
      have L20 : Hid (LawS w [] [⟨.slice aH cs.length cH, 56, 4, cs.length, cellsSpot cs⟩, ⟨.slice (some ⟨gS, 0, none⟩) lB.length lB.length, 56, 4, lB.length, cellsSpot lB⟩, ⟨.slice (some ⟨gV, 0, none⟩) lA.length lA.length, 56, 4, lA.length, cellsSpot lA⟩, ⟨.slice (some ⟨gU, 0, none⟩) lB.length lB.length, 56, 4, lB.length, cellsSpot lB⟩, ⟨.slice (some ⟨gT, 0, none⟩) lA.length lA.length, 56, 4, lA.length, cellsSpot lA⟩, ⟨.slice aG cs.length cG, 56, 4, cs.length, cellsSpot (marksSpot 1 cs.length)⟩, ⟨.slice (some ⟨gY, 0, none⟩) lB.length lB.length, 56, 4, lB.length, cellsSpot (marksSpot M lB.length)⟩, ⟨.slice (some ⟨gX, 0, none⟩) lA.length lA.length, 56, 4, lA.length, cellsSpot (marksSpot 1 lA.length)⟩, ⟨.slice aW cs.length cW, 56, 4, cs.length, cellsSpot cs⟩, ⟨.slice (some ⟨gO, 0, none⟩) lB.length lB.length, 56, 4, lB.length, cellsSpot lB⟩, ⟨.slice (some ⟨gP, 0, none⟩) lA.length lA.length, 56, 4, lA.length, cellsSpot lA⟩] w19_) := L19.out.call hb ho
      clear hb ho L19
      go_wp2_with fail
      obtain ⟨_, ghA1, _, ehA1, hA1⟩ := cellsSpot_slice (L20.out.row 0 rfl)
      cases ehA1
      obtain ⟨_, ghA2, _, ehA2, hA2⟩ := cellsSpot_slice (L20.out.row 8 rfl)
      cases ehA2
      refine (eqSpotS_same cs (by omega) _ hA1 hA2).mono ?_
      rintro en w20_ ⟨rfl, hb⟩
      have L21 : Hid (LawS w [] [⟨.slice aH cs.length cH, 56, 4, cs.length, cellsSpot cs⟩, ⟨.slice (some ⟨gS, 0, none⟩) lB.length lB.length, 56, 4, lB.length, cellsSpot lB⟩, ⟨.slice (some ⟨gV, 0, none⟩) lA.length lA.length, 56, 4, lA.length, cellsSpot lA⟩, ⟨.slice (some ⟨gU, 0, none⟩) lB.length lB.length, 56, 4, lB.length, cellsSpot lB⟩, ⟨.slice (some ⟨gT, 0, none⟩) lA.length lA.length, 56, 4, lA.length, cellsSpot lA⟩, ⟨.slice aG cs.length cG, 56, 4, cs.length, cellsSpot (marksSpot 1 cs.length)⟩, ⟨.slice (some ⟨gY, 0, none⟩) lB.length lB.length, 56, 4, lB.length, cellsSpot (marksSpot M lB.length)⟩, ⟨.slice (some ⟨gX, 0, none⟩) lA.length lA.length, 56, 4, lA.length, cellsSpot (marksSpot 1 lA.length)⟩, ⟨.slice aW cs.length cW, 56, 4, cs.length, cellsSpot cs⟩, ⟨.slice (some ⟨gO, 0, none⟩) lB.length lB.length, 56, 4, lB.length, cellsSpot lB⟩, ⟨.slice (some ⟨gP, 0, none⟩) lA.length lA.length, 56, 4, lA.length, cellsSpot lA⟩] w20_) := L20.out.step hb
      clear hb L20
      clear hA1 hA2
      go_wp2_with fail
      obtain ⟨_, gq, _, eq, hq⟩ := marksSpot_row (L21.out.row 5 rfl)
      cases eq
      refine (heldSpotS_is cs.length (by omega) 1 (by omega) (by omega) _ hq).mono ?_
      rintro en w21_ ⟨rfl, hb⟩
      have L22 : Hid (LawS w [] [⟨.slice aH cs.length cH, 56, 4, cs.length, cellsSpot cs⟩, ⟨.slice (some ⟨gS, 0, none⟩) lB.length lB.length, 56, 4, lB.length, cellsSpot lB⟩, ⟨.slice (some ⟨gV, 0, none⟩) lA.length lA.length, 56, 4, lA.length, cellsSpot lA⟩, ⟨.slice (some ⟨gU, 0, none⟩) lB.length lB.length, 56, 4, lB.length, cellsSpot lB⟩, ⟨.slice (some ⟨gT, 0, none⟩) lA.length lA.length, 56, 4, lA.length, cellsSpot lA⟩, ⟨.slice aG cs.length cG, 56, 4, cs.length, cellsSpot (marksSpot 1 cs.length)⟩, ⟨.slice (some ⟨gY, 0, none⟩) lB.length lB.length, 56, 4, lB.length, cellsSpot (marksSpot M lB.length)⟩, ⟨.slice (some ⟨gX, 0, none⟩) lA.length lA.length, 56, 4, lA.length, cellsSpot (marksSpot 1 lA.length)⟩, ⟨.slice aW cs.length cW, 56, 4, cs.length, cellsSpot cs⟩, ⟨.slice (some ⟨gO, 0, none⟩) lB.length lB.length, 56, 4, lB.length, cellsSpot lB⟩, ⟨.slice (some ⟨gP, 0, none⟩) lA.length lA.length, 56, 4, lA.length, cellsSpot lA⟩] w21_) := L21.out.step hb
      clear hb L21
      clear hq
      rw [← HQ.out]
      go_wp2
      go_ret
      exact ⟨rfl, L22.out.below⟩
    · subst hx2
      go_wp2
      go_ret
      exact ⟨rfl, hbb⟩
  · subst hx2
    go_wp2
    go_ret
    exact ⟨rfl, hb1⟩
end Go.Proofs.Ytinhgonmdnbdiaa
