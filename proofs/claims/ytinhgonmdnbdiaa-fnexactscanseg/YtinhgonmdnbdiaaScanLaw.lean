/- The exact law of ScanSeg, walked. Made by program. -/
import Derived.Test.YtinhgonmdnbdiaaScanLawKit
namespace Go.Proofs.Ytinhgonmdnbdiaa
open Go.RowKit
set_option linter.unusedVariables false

set_option maxHeartbeats 2000000 in
set_option maxRecDepth 100000 in
theorem lawScan_any (s : ByteArray) (hmax : s.size ≤ maxLen) (seg : Int) (w : World) :
    Calls Try.prog 3 #[.string s, .int .i64 seg] w fun e w' => e = .returned (.bool true) ∧ Below w.heap.size w w' := by
  unfold maxLen at hmax
  by_cases hbig : 1048576 < s.size
  · go_enter Try.func3, Try.ntmps3
    go_wp2
    go_ret
    exact ⟨rfl, Below.refl _ _⟩
  · obtain ⟨items, hR⟩ := Scan.reads_ex (unS s)
    have HI : Hid (∀ w : World, Calls Try.prog 9 #[.string s, .int .i64 seg] w fun en w' => ∃ v1 v2, en = .returned (.tuple #[v1, v2, .int .i64 (Scan.itStamp (-1) items)]) ∧ ScanPost w seg items v1 v2 w') := fun w => implScan_any s (by unfold maxLen; omega) seg items hR w
    have HP : Hid (∀ w : World, Calls Try.prog 8 #[.string s, .int .i64 seg] w fun en w' => ∃ v1 v2, en = .returned (.tuple #[v1, v2, .int .i64 (Scan.itStamp (-1) items)]) ∧ ScanPost w seg items v1 v2 w') := fun w => specScan_any s (by unfold maxLen; omega) seg items hR w
    obtain ⟨SP, hSP⟩ : ∃ SP, SP = Scan.itSpots seg 0 items := ⟨_, rfl⟩
    obtain ⟨TX, hTX⟩ : ∃ TX, TX = items.map (fun x => x.bytes) := ⟨_, rfl⟩
    obtain ⟨ST, hST⟩ : ∃ ST, ST = Scan.itStamp (-1) items := ⟨_, rfl⟩
    have htl : TX.length = items.length := by rw [hTX, List.length_map]
    have hsl : SP.length ≤ 20000 := by rw [hSP]; exact spots_few hR
    have hxl : TX.length ≤ 20000 := by rw [htl]; exact Nat.le_trans hR.1 (unS_len s)
    have HII : Hid (∀ w : World, Calls Try.prog 9 #[.string s, .int .i64 seg] w (TwoPost w SP TX ST)) := fun w => (HI.out w).mono fun e w' ⟨v1, v2, h1, h2, h3, h4⟩ => ⟨v1, v2, by rw [hST]; exact h1, by rw [hSP]; exact h2, by rw [htl, hTX]; exact h3, h4⟩
    have HPP : Hid (∀ w : World, Calls Try.prog 8 #[.string s, .int .i64 seg] w (TwoPost w SP TX ST)) := fun w => (HP.out w).mono fun e w' ⟨v1, v2, h1, h2, h3, h4⟩ => ⟨v1, v2, by rw [hST]; exact h1, by rw [hSP]; exact h2, by rw [htl, hTX]; exact h3, h4⟩
    clear HI HP hSP hTX hST htl hR
    go_enter Try.func3, Try.ntmps3
    have L1 : Hid (LawS w [] [] w) := LawS.start w
    go_wp2_with fail
    refine Calls.mono (HPP.out _) ?_
    rintro en w1_ ⟨v1, v2, rfl, ho1, ho2, hb⟩
    obtain ⟨aW1, cW1, rfl⟩ := own_slice ho1
    obtain ⟨aW2, cW2, rfl⟩ := own_slice ho2
    have L2 : Hid (LawS w [] [⟨.slice aW2 TX.length cW2, 9, 1, TX.length, cellsS TX⟩, ⟨.slice aW1 SP.length cW1, 56, 4, SP.length, cellsSpot SP⟩] w1_) := L1.out.call2 hb ho1 ho2 (by decide)
    clear hb ho1 ho2 L1
    go_wp2_with fail
    refine Calls.mono (HII.out _) ?_
    rintro en w2_ ⟨v1, v2, rfl, ho1, ho2, hb⟩
    obtain ⟨aG1, cG1, rfl⟩ := own_slice ho1
    obtain ⟨aG2, cG2, rfl⟩ := own_slice ho2
    have L3 : Hid (LawS w [] [⟨.slice aG2 TX.length cG2, 9, 1, TX.length, cellsS TX⟩, ⟨.slice aG1 SP.length cG1, 56, 4, SP.length, cellsSpot SP⟩, ⟨.slice aW2 TX.length cW2, 9, 1, TX.length, cellsS TX⟩, ⟨.slice aW1 SP.length cW1, 56, 4, SP.length, cellsSpot SP⟩] w2_) := L2.out.call2 hb ho1 ho2 (by decide)
    clear hb ho1 ho2 L2
    go_wp2_with fail
    obtain ⟨_, ghA1, _, ehA1, hA1⟩ := cellsSpot_slice (L3.out.row 1 rfl)
    cases ehA1
    obtain ⟨_, ghA2, _, ehA2, hA2⟩ := cellsSpot_slice (L3.out.row 3 rfl)
    cases ehA2
    refine (eqSpotS_same SP (by omega) _ hA1 hA2).mono ?_
    rintro en w3_ ⟨rfl, hb⟩
    have L4 : Hid (LawS w [] [⟨.slice aG2 TX.length cG2, 9, 1, TX.length, cellsS TX⟩, ⟨.slice aG1 SP.length cG1, 56, 4, SP.length, cellsSpot SP⟩, ⟨.slice aW2 TX.length cW2, 9, 1, TX.length, cellsS TX⟩, ⟨.slice aW1 SP.length cW1, 56, 4, SP.length, cellsSpot SP⟩] w3_) := L3.out.step hb
    clear hb L3
    clear hA1 hA2
    go_wp2_with fail
    refine (eq_any (ps := TX) hxl _ (L4.out.row 0 rfl) (L4.out.row 2 rfl)).mono ?_
    rintro en w4_ ⟨rfl, _, hb⟩
    have L5 : Hid (LawS w [] [⟨.slice aG2 TX.length cG2, 9, 1, TX.length, cellsS TX⟩, ⟨.slice aG1 SP.length cG1, 56, 4, SP.length, cellsSpot SP⟩, ⟨.slice aW2 TX.length cW2, 9, 1, TX.length, cellsS TX⟩, ⟨.slice aW1 SP.length cW1, 56, 4, SP.length, cellsSpot SP⟩] w4_) := L4.out.step hb
    clear hb L4
    go_wp2_with fail
    refine (markSpotS_own SP (by omega) 1 (by omega) (by omega) _ (L5.out.row 1 rfl)).mono ?_
    rintro en w5_ ⟨rfl, hown, hg⟩
    have L6 : Hid (LawS w [] [⟨.slice aG2 TX.length cG2, 9, 1, TX.length, cellsS TX⟩, ⟨.slice aG1 SP.length cG1, 56, 4, SP.length, cellsSpot (marksSpot 1 SP.length)⟩, ⟨.slice aW2 TX.length cW2, 9, 1, TX.length, cellsS TX⟩, ⟨.slice aW1 SP.length cW1, 56, 4, SP.length, cellsSpot SP⟩] w5_) := L5.out.mark 1 (r := ⟨.slice aG1 SP.length cG1, 56, 4, SP.length, cellsSpot SP⟩) rfl hg hown
    clear hown hg L5
    obtain ⟨Q, hQ⟩ : ∃ Q : Nat, Q = 1 + 4 * SP.length := ⟨_, rfl⟩
    rw [← hQ]
    have hQ0 : ¬ (Q : Int) < 0 := by omega
    have HQ : Hid (Q = 1 + 4 * SP.length) := hQ
    clear hQ
    have hQb : 0 < Q ∧ Q ≤ 100000000 := by have := HQ.out; omega
    go_wp2_with fail
    refine (mark_from Q hQb.1 hQb.2 (ps := TX) rfl hxl _ (L6.out.row 0 rfl)).mono ?_
    rintro en w6_ ⟨rfl, hown, hg⟩
    have L7 : Hid (LawS w [] [⟨.slice aG2 TX.length cG2, 9, 1, TX.length, cellsS (marks Q TX.length)⟩, ⟨.slice aG1 SP.length cG1, 56, 4, SP.length, cellsSpot (marksSpot 1 SP.length)⟩, ⟨.slice aW2 TX.length cW2, 9, 1, TX.length, cellsS TX⟩, ⟨.slice aW1 SP.length cW1, 56, 4, SP.length, cellsSpot SP⟩] w6_) := L6.out.mark 0 (r := ⟨.slice aG2 TX.length cG2, 9, 1, TX.length, cellsS TX⟩) rfl hg hown
    clear hown hg L6
    obtain ⟨M, hM⟩ : ∃ M : Nat, M = Q + TX.length := ⟨_, rfl⟩
    rw [← hM]
    have hM0 : ¬ (M : Int) < 0 := by omega
    have HM : Hid (M = Q + TX.length) := hM
    clear hM
    go_wp2_with fail
    obtain ⟨_, gq, _, eq, hq⟩ := marksSpot_row (L7.out.row 1 rfl)
    cases eq
    refine (heldSpotS_is SP.length (by omega) 1 (by omega) (by omega) _ hq).mono ?_
    rintro en w7_ ⟨rfl, hb⟩
    have L8 : Hid (LawS w [] [⟨.slice aG2 TX.length cG2, 9, 1, TX.length, cellsS (marks Q TX.length)⟩, ⟨.slice aG1 SP.length cG1, 56, 4, SP.length, cellsSpot (marksSpot 1 SP.length)⟩, ⟨.slice aW2 TX.length cW2, 9, 1, TX.length, cellsS TX⟩, ⟨.slice aW1 SP.length cW1, 56, 4, SP.length, cellsSpot SP⟩] w7_) := L7.out.step hb
    clear hb L7
    clear hq
    rw [← HQ.out]
    go_wp2_with fail
    refine (held_from Q hQb.1 hQb.2 (n := TX.length) hxl _ (L8.out.row 0 rfl)).mono ?_
    rintro en w8_ ⟨rfl, hb⟩
    have L9 : Hid (LawS w [] [⟨.slice aG2 TX.length cG2, 9, 1, TX.length, cellsS (marks Q TX.length)⟩, ⟨.slice aG1 SP.length cG1, 56, 4, SP.length, cellsSpot (marksSpot 1 SP.length)⟩, ⟨.slice aW2 TX.length cW2, 9, 1, TX.length, cellsS TX⟩, ⟨.slice aW1 SP.length cW1, 56, 4, SP.length, cellsSpot SP⟩] w8_) := L8.out.step hb
    clear hb L8
    rw [← HM.out]
    go_wp2_with fail
    refine Calls.mono (HII.out _) ?_
    rintro en w9_ ⟨v1, v2, rfl, ho1, ho2, hb⟩
    obtain ⟨aH1, cH1, rfl⟩ := own_slice ho1
    obtain ⟨aH2, cH2, rfl⟩ := own_slice ho2
    have L10 : Hid (LawS w [] [⟨.slice aH2 TX.length cH2, 9, 1, TX.length, cellsS TX⟩, ⟨.slice aH1 SP.length cH1, 56, 4, SP.length, cellsSpot SP⟩, ⟨.slice aG2 TX.length cG2, 9, 1, TX.length, cellsS (marks Q TX.length)⟩, ⟨.slice aG1 SP.length cG1, 56, 4, SP.length, cellsSpot (marksSpot 1 SP.length)⟩, ⟨.slice aW2 TX.length cW2, 9, 1, TX.length, cellsS TX⟩, ⟨.slice aW1 SP.length cW1, 56, 4, SP.length, cellsSpot SP⟩] w9_) := L9.out.call2 hb ho1 ho2 (by decide)
    clear hb ho1 ho2 L9
    go_wp2_with fail
    obtain ⟨_, ghA1, _, ehA1, hA1⟩ := cellsSpot_slice (L10.out.row 1 rfl)
    cases ehA1
    obtain ⟨_, ghA2, _, ehA2, hA2⟩ := cellsSpot_slice (L10.out.row 5 rfl)
    cases ehA2
    refine (eqSpotS_same SP (by omega) _ hA1 hA2).mono ?_
    rintro en w10_ ⟨rfl, hb⟩
    have L11 : Hid (LawS w [] [⟨.slice aH2 TX.length cH2, 9, 1, TX.length, cellsS TX⟩, ⟨.slice aH1 SP.length cH1, 56, 4, SP.length, cellsSpot SP⟩, ⟨.slice aG2 TX.length cG2, 9, 1, TX.length, cellsS (marks Q TX.length)⟩, ⟨.slice aG1 SP.length cG1, 56, 4, SP.length, cellsSpot (marksSpot 1 SP.length)⟩, ⟨.slice aW2 TX.length cW2, 9, 1, TX.length, cellsS TX⟩, ⟨.slice aW1 SP.length cW1, 56, 4, SP.length, cellsSpot SP⟩] w10_) := L10.out.step hb
    clear hb L10
    clear hA1 hA2
    go_wp2_with fail
    refine (eq_any (ps := TX) hxl _ (L11.out.row 0 rfl) (L11.out.row 4 rfl)).mono ?_
    rintro en w11_ ⟨rfl, _, hb⟩
    have L12 : Hid (LawS w [] [⟨.slice aH2 TX.length cH2, 9, 1, TX.length, cellsS TX⟩, ⟨.slice aH1 SP.length cH1, 56, 4, SP.length, cellsSpot SP⟩, ⟨.slice aG2 TX.length cG2, 9, 1, TX.length, cellsS (marks Q TX.length)⟩, ⟨.slice aG1 SP.length cG1, 56, 4, SP.length, cellsSpot (marksSpot 1 SP.length)⟩, ⟨.slice aW2 TX.length cW2, 9, 1, TX.length, cellsS TX⟩, ⟨.slice aW1 SP.length cW1, 56, 4, SP.length, cellsSpot SP⟩] w11_) := L11.out.step hb
    clear hb L11
    go_wp2_with fail
    obtain ⟨_, gq, _, eq, hq⟩ := marksSpot_row (L12.out.row 3 rfl)
    cases eq
    refine (heldSpotS_is SP.length (by omega) 1 (by omega) (by omega) _ hq).mono ?_
    rintro en w12_ ⟨rfl, hb⟩
    have L13 : Hid (LawS w [] [⟨.slice aH2 TX.length cH2, 9, 1, TX.length, cellsS TX⟩, ⟨.slice aH1 SP.length cH1, 56, 4, SP.length, cellsSpot SP⟩, ⟨.slice aG2 TX.length cG2, 9, 1, TX.length, cellsS (marks Q TX.length)⟩, ⟨.slice aG1 SP.length cG1, 56, 4, SP.length, cellsSpot (marksSpot 1 SP.length)⟩, ⟨.slice aW2 TX.length cW2, 9, 1, TX.length, cellsS TX⟩, ⟨.slice aW1 SP.length cW1, 56, 4, SP.length, cellsSpot SP⟩] w12_) := L12.out.step hb
    clear hb L12
    clear hq
    rw [← HQ.out]
    go_wp2_with fail
    refine (held_from Q hQb.1 hQb.2 (n := TX.length) hxl _ (L13.out.row 2 rfl)).mono ?_
    rintro en w13_ ⟨rfl, hb⟩
    have L14 : Hid (LawS w [] [⟨.slice aH2 TX.length cH2, 9, 1, TX.length, cellsS TX⟩, ⟨.slice aH1 SP.length cH1, 56, 4, SP.length, cellsSpot SP⟩, ⟨.slice aG2 TX.length cG2, 9, 1, TX.length, cellsS (marks Q TX.length)⟩, ⟨.slice aG1 SP.length cG1, 56, 4, SP.length, cellsSpot (marksSpot 1 SP.length)⟩, ⟨.slice aW2 TX.length cW2, 9, 1, TX.length, cellsS TX⟩, ⟨.slice aW1 SP.length cW1, 56, 4, SP.length, cellsSpot SP⟩] w13_) := L13.out.step hb
    clear hb L13
    rw [← HM.out]
    go_wp2
    go_ret
    exact ⟨rfl, L14.out.below⟩

end Go.Proofs.Ytinhgonmdnbdiaa
