/- The exact law of ReadHint, walked. Made by program. -/
import Derived.Test.YtinhgonmdnbdiaaSpecHint
import Derived.Test.YtinhgonmdnbdiaaMarkSpot
import Derived.Test.YtinhgonmdnbdiaaLaw
namespace Go.Proofs.Ytinhgonmdnbdiaa
open Go.RowKit
set_option linter.unusedVariables false

set_option maxHeartbeats 2000000 in
set_option maxRecDepth 100000 in
theorem lawRH_any (t : ByteArray) (hmax : t.size ≤ maxLen) (w : World) :
    Calls Try.prog 7 #[.string t] w fun e w' => e = .returned (.bool true) ∧ Below w.heap.size w w' := by
  unfold maxLen at hmax
  by_cases hbig : 1048576 < t.size
  · go_enter Try.func7, Try.ntmps7
    go_wp2
    go_ret
    exact ⟨rfl, Below.refl _ _⟩
  · have hs : t.size ≤ 1048576 := by omega
    obtain ⟨l, R, hR⟩ := resH_ex t
    have hl := hR.len
    have HR : Hid (ResH t l R) := hR
    clear hR
    go_enter Try.func7, Try.ntmps7
    have L1 : Hid (LawS w [] [] w) := LawS.start w
    go_wp2_with fail
    refine (specRH_any HR.out hs _).mono ?_
    rintro en w1_ ⟨vW, rfl, ho, hb⟩
    obtain ⟨aW, cW, rfl⟩ := own_slice ho
    have L2 : Hid (LawS w [] [⟨.slice aW l.length cW, 56, 4, l.length, cellsSpot l⟩] w1_) := L1.out.call hb ho
    clear hb ho L1
    go_wp2_with fail
    refine (implRH_any HR.out hs _).mono ?_
    rintro en w2_ ⟨vG, rfl, ho, hb⟩
    obtain ⟨aG, cG, rfl⟩ := own_slice ho
    have L3 : Hid (LawS w [] [⟨.slice aG l.length cG, 56, 4, l.length, cellsSpot l⟩, ⟨.slice aW l.length cW, 56, 4, l.length, cellsSpot l⟩] w2_) := L2.out.call hb ho
    clear hb ho L2
    go_wp2_with fail
    obtain ⟨_, ghA1, _, ehA1, hA1⟩ := cellsSpot_slice (L3.out.row 0 rfl)
    cases ehA1
    obtain ⟨_, ghA2, _, ehA2, hA2⟩ := cellsSpot_slice (L3.out.row 1 rfl)
    cases ehA2
    refine (eqSpotS_same l (by omega) _ hA1 hA2).mono ?_
    rintro en w3_ ⟨rfl, hb⟩
    have L4 : Hid (LawS w [] [⟨.slice aG l.length cG, 56, 4, l.length, cellsSpot l⟩, ⟨.slice aW l.length cW, 56, 4, l.length, cellsSpot l⟩] w3_) := L3.out.step hb
    clear hb L3
    clear hA1 hA2
    go_wp2_with fail
    refine (markSpotS_own l (by omega) 1 (by omega) (by omega) _ (L4.out.row 0 rfl)).mono ?_
    rintro en w4_ ⟨rfl, hown, hg⟩
    have L5 : Hid (LawS w [] [⟨.slice aG l.length cG, 56, 4, l.length, cellsSpot (marksSpot 1 l.length)⟩, ⟨.slice aW l.length cW, 56, 4, l.length, cellsSpot l⟩] w4_) := L4.out.mark 0 (r := ⟨.slice aG l.length cG, 56, 4, l.length, cellsSpot l⟩) rfl hg hown
    clear hown hg L4
    obtain ⟨Q, hQ⟩ : ∃ Q : Nat, Q = 1 + 4 * l.length := ⟨_, rfl⟩
    rw [← hQ]
    have hQ0 : ¬ (Q : Int) < 0 := by omega
    have HQ : Hid (Q = 1 + 4 * l.length) := hQ
    clear hQ
    go_wp2_with fail
    obtain ⟨_, gq, _, eq, hq⟩ := marksSpot_row (L5.out.row 0 rfl)
    cases eq
    refine (heldSpotS_is l.length (by omega) 1 (by omega) (by omega) _ hq).mono ?_
    rintro en w5_ ⟨rfl, hb⟩
    have L6 : Hid (LawS w [] [⟨.slice aG l.length cG, 56, 4, l.length, cellsSpot (marksSpot 1 l.length)⟩, ⟨.slice aW l.length cW, 56, 4, l.length, cellsSpot l⟩] w5_) := L5.out.step hb
    clear hb L5
    clear hq
    rw [← HQ.out]
    go_wp2_with fail
    refine (implRH_any HR.out hs _).mono ?_
    rintro en w6_ ⟨vH, rfl, ho, hb⟩
    obtain ⟨aH, cH, rfl⟩ := own_slice ho
    have L7 : Hid (LawS w [] [⟨.slice aH l.length cH, 56, 4, l.length, cellsSpot l⟩, ⟨.slice aG l.length cG, 56, 4, l.length, cellsSpot (marksSpot 1 l.length)⟩, ⟨.slice aW l.length cW, 56, 4, l.length, cellsSpot l⟩] w6_) := L6.out.call hb ho
    clear hb ho L6
    go_wp2_with fail
    obtain ⟨_, ghA1, _, ehA1, hA1⟩ := cellsSpot_slice (L7.out.row 0 rfl)
    cases ehA1
    obtain ⟨_, ghA2, _, ehA2, hA2⟩ := cellsSpot_slice (L7.out.row 2 rfl)
    cases ehA2
    refine (eqSpotS_same l (by omega) _ hA1 hA2).mono ?_
    rintro en w7_ ⟨rfl, hb⟩
    have L8 : Hid (LawS w [] [⟨.slice aH l.length cH, 56, 4, l.length, cellsSpot l⟩, ⟨.slice aG l.length cG, 56, 4, l.length, cellsSpot (marksSpot 1 l.length)⟩, ⟨.slice aW l.length cW, 56, 4, l.length, cellsSpot l⟩] w7_) := L7.out.step hb
    clear hb L7
    clear hA1 hA2
    go_wp2_with fail
    obtain ⟨_, gq, _, eq, hq⟩ := marksSpot_row (L8.out.row 1 rfl)
    cases eq
    refine (heldSpotS_is l.length (by omega) 1 (by omega) (by omega) _ hq).mono ?_
    rintro en w8_ ⟨rfl, hb⟩
    have L9 : Hid (LawS w [] [⟨.slice aH l.length cH, 56, 4, l.length, cellsSpot l⟩, ⟨.slice aG l.length cG, 56, 4, l.length, cellsSpot (marksSpot 1 l.length)⟩, ⟨.slice aW l.length cW, 56, 4, l.length, cellsSpot l⟩] w8_) := L8.out.step hb
    clear hb L8
    clear hq
    rw [← HQ.out]
    go_wp2
    go_ret
    exact ⟨rfl, L9.out.below⟩

end Go.Proofs.Ytinhgonmdnbdiaa
