/- The exact law of MapBatch, walked. Made by program. -/
import Derived.Test.YtijopmkcaoefjaaMapBatch
import Derived.Test.YtijopmkcaoefjaaOkLaw
import Derived.Test.YtijopmkcaoefjaaLaw
import Derived.Test.YtijopmkcaoefjaaMarkChange
namespace Go.Proofs.Ytijopmkcaoefjaa
open Go.RowKit
set_option linter.unusedVariables false

set_option maxHeartbeats 2000000 in
set_option maxRecDepth 100000 in
theorem lawBatch_any {a : Option Addr} {g off cap : Nat} (l : List PairL) (hlen : l.length ≤ maxLen) (hsz : ∀ r ∈ l, smallPair maxLen r) (s : Int) (w : World) (hf : PairAt w a g off l) :
    Calls Try.prog 7 #[.slice a l.length cap, .int .i64 s] w fun e w' => e = .returned (.bool true) ∧ Below w.heap.size w w' := by
  have HF : Hid (PairAt w a g off l) := hf
  have HS : Hid (∀ r ∈ l, smallPair maxLen r) := hsz
  have HL : Hid (l.length ≤ maxLen) := hlen
  clear hf hsz hlen
  go_enter Try.func7, Try.ntmps7
  go_wp2_with fail
  refine (szPairS_is l HL.out HS.out 1048576 (Nat.le_refl _) w HF.out).mono ?_
  rintro e w1 ⟨x, rfl, hx, hb1⟩
  rcases hx with ⟨hx1, hx2⟩ | ⟨hx1, hx2⟩
  · skip
    obtain ⟨Y, hY⟩ : ∃ Y : Nat, Y = 1048576 - totPair l := ⟨_, rfl⟩
    rw [← hY] at hx2
    subst hx2
    have hYb : Y ≤ 1048576 := by omega
    clear hY
    obtain ⟨hl, hs⟩ := totPair_small (Nat.le_trans hx1 (show 1048576 ≤ 1048576 by omega))
    have HSS : Hid (∀ r ∈ l, smallPair 2097152 r) := small_two hs
    have HLL : Hid (l.length ≤ 2097152) := by show _ ≤ _; omega
    clear hs hx1
    obtain ⟨st, cs, R, hR⟩ := batR_ex l s
    have hcl := batR_len hR
    have HR : Hid (BatR l s st cs R) := hR
    clear hR
    have L1 : Hid (LawS w [] [] w1) := (LawS.start w).step hb1
    clear hb1
    go_wp2_with fail
    refine (toPairS_own l hl _ (HF.out.kept L1.out.below)).mono ?_
    rintro en w1_ ⟨gP, rfl, ho, hb⟩
    have L2 : Hid (LawS w [] [⟨.slice (some ⟨gP, 0, none⟩) l.length l.length, 40, 2, l.length, cellsPair l⟩] w1_) := L1.out.call hb ho
    clear hb ho L1
    go_wp2_with fail
    refine (specBatch_any l HLL.out HSS.out s st cs R HR.out _ (cellsPair_own rfl (L2.out.row 0 rfl))).mono ?_
    rintro en w2_ ⟨vW, rfl, ho, hb⟩
    obtain ⟨aW, cW, rfl⟩ := own_slice ho
    have L3 : Hid (LawS w [] [⟨.slice aW cs.length cW, 65, 3, cs.length, cellsChange cs⟩, ⟨.slice (some ⟨gP, 0, none⟩) l.length l.length, 40, 2, l.length, cellsPair l⟩] w2_) := L2.out.call hb ho
    clear hb ho L2
    obtain ⟨W3, hW3⟩ : ∃ W3, W3 = w2_.alloc (Obj.cells #[Value.int IntKind.i64 st, Value.slice aW cs.length cW] 33 (0, 0)) := ⟨_, rfl⟩
    have L4 : Hid (LawS w [(w2_.heap.size, (Obj.cells #[Value.int IntKind.i64 st, Value.slice aW cs.length cW] 33 (0, 0)))] [⟨.slice aW cs.length cW, 65, 3, cs.length, cellsChange cs⟩, ⟨.slice (some ⟨gP, 0, none⟩) l.length l.length, 40, 2, l.length, cellsPair l⟩] W3) := by rw [hW3]; exact L3.out.alloc _
    go_wp2_with fail
    rw [← hW3]
    clear hW3 L3 
    obtain ⟨bW, hbW⟩ : ∃ bW, bW = w2_.heap.size := ⟨_, rfl⟩
    rw [← hbW] at L4 ⊢
    clear hbW
    refine (toPairS_own l hl _ (HF.out.kept L4.out.below)).mono ?_
    rintro en w4_ ⟨gX, rfl, ho, hb⟩
    have L5 : Hid (LawS w [(bW, (Obj.cells #[Value.int IntKind.i64 st, Value.slice aW cs.length cW] 33 (0, 0)))] [⟨.slice (some ⟨gX, 0, none⟩) l.length l.length, 40, 2, l.length, cellsPair l⟩, ⟨.slice aW cs.length cW, 65, 3, cs.length, cellsChange cs⟩, ⟨.slice (some ⟨gP, 0, none⟩) l.length l.length, 40, 2, l.length, cellsPair l⟩] w4_) := L4.out.call hb ho
    clear hb ho L4
    go_wp2_with fail
    refine (implBatch_any l HLL.out HSS.out s st cs R HR.out _ (cellsPair_own rfl (L5.out.row 0 rfl))).mono ?_
    rintro en w5_ ⟨vG, rfl, ho, hb⟩
    obtain ⟨aG, cG, rfl⟩ := own_slice ho
    have L6 : Hid (LawS w [(bW, (Obj.cells #[Value.int IntKind.i64 st, Value.slice aW cs.length cW] 33 (0, 0)))] [⟨.slice aG cs.length cG, 65, 3, cs.length, cellsChange cs⟩, ⟨.slice (some ⟨gX, 0, none⟩) l.length l.length, 40, 2, l.length, cellsPair l⟩, ⟨.slice aW cs.length cW, 65, 3, cs.length, cellsChange cs⟩, ⟨.slice (some ⟨gP, 0, none⟩) l.length l.length, 40, 2, l.length, cellsPair l⟩] w5_) := L5.out.call hb ho
    clear hb ho L5
    obtain ⟨W6, hW6⟩ : ∃ W6, W6 = w5_.alloc (Obj.cells #[Value.int IntKind.i64 st, Value.slice aG cs.length cG] 33 (0, 0)) := ⟨_, rfl⟩
    have L7 : Hid (LawS w [(w5_.heap.size, (Obj.cells #[Value.int IntKind.i64 st, Value.slice aG cs.length cG] 33 (0, 0))), (bW, (Obj.cells #[Value.int IntKind.i64 st, Value.slice aW cs.length cW] 33 (0, 0)))] [⟨.slice aG cs.length cG, 65, 3, cs.length, cellsChange cs⟩, ⟨.slice (some ⟨gX, 0, none⟩) l.length l.length, 40, 2, l.length, cellsPair l⟩, ⟨.slice aW cs.length cW, 65, 3, cs.length, cellsChange cs⟩, ⟨.slice (some ⟨gP, 0, none⟩) l.length l.length, 40, 2, l.length, cellsPair l⟩] W6) := by rw [hW6]; exact L6.out.alloc _
    obtain ⟨d00, d01⟩ := L7.out.two (List.Mem.head _)
    obtain ⟨d10, d11⟩ := L7.out.two (List.Mem.tail _ (List.Mem.head _))
    rw [hW6] at d00 d01 d10 d11
    go_wp2_with fail
    rw [← hW6]
    clear hW6 L6 d00 d01 d10 d11
    obtain ⟨bG, hbG⟩ : ∃ bG, bG = w5_.heap.size := ⟨_, rfl⟩
    rw [← hbG] at L7 ⊢
    clear hbG
    obtain ⟨_, ghA1, _, ehA1, hA1⟩ := cellsChange_slice (L7.out.row 0 rfl)
    cases ehA1
    obtain ⟨_, ghA2, _, ehA2, hA2⟩ := cellsChange_slice (L7.out.row 2 rfl)
    cases ehA2
    refine (eqBatch_same cs (by omega) _ hA1 hA2).mono ?_
    rintro en w7_ ⟨rfl, hb⟩
    have L8 : Hid (LawS w [(bG, (Obj.cells #[Value.int IntKind.i64 st, Value.slice aG cs.length cG] 33 (0, 0))), (bW, (Obj.cells #[Value.int IntKind.i64 st, Value.slice aW cs.length cW] 33 (0, 0)))] [⟨.slice aG cs.length cG, 65, 3, cs.length, cellsChange cs⟩, ⟨.slice (some ⟨gX, 0, none⟩) l.length l.length, 40, 2, l.length, cellsPair l⟩, ⟨.slice aW cs.length cW, 65, 3, cs.length, cellsChange cs⟩, ⟨.slice (some ⟨gP, 0, none⟩) l.length l.length, 40, 2, l.length, cellsPair l⟩] w7_) := L7.out.step hb
    clear hb L7
    clear hA1 hA2
    go_wp2_with fail
    refine (toPairS_own l hl _ (HF.out.kept L8.out.below)).mono ?_
    rintro en w8_ ⟨gT, rfl, ho, hb⟩
    have L9 : Hid (LawS w [(bG, (Obj.cells #[Value.int IntKind.i64 st, Value.slice aG cs.length cG] 33 (0, 0))), (bW, (Obj.cells #[Value.int IntKind.i64 st, Value.slice aW cs.length cW] 33 (0, 0)))] [⟨.slice (some ⟨gT, 0, none⟩) l.length l.length, 40, 2, l.length, cellsPair l⟩, ⟨.slice aG cs.length cG, 65, 3, cs.length, cellsChange cs⟩, ⟨.slice (some ⟨gX, 0, none⟩) l.length l.length, 40, 2, l.length, cellsPair l⟩, ⟨.slice aW cs.length cW, 65, 3, cs.length, cellsChange cs⟩, ⟨.slice (some ⟨gP, 0, none⟩) l.length l.length, 40, 2, l.length, cellsPair l⟩] w8_) := L8.out.call hb ho
    clear hb ho L8
    go_wp2_with fail
    refine (eqPairS_same l hl _ (cellsPair_own rfl (L9.out.row 2 rfl)) (cellsPair_own rfl (L9.out.row 0 rfl))).mono ?_
    rintro en w9_ ⟨rfl, hb⟩
    have L10 : Hid (LawS w [(bG, (Obj.cells #[Value.int IntKind.i64 st, Value.slice aG cs.length cG] 33 (0, 0))), (bW, (Obj.cells #[Value.int IntKind.i64 st, Value.slice aW cs.length cW] 33 (0, 0)))] [⟨.slice (some ⟨gT, 0, none⟩) l.length l.length, 40, 2, l.length, cellsPair l⟩, ⟨.slice aG cs.length cG, 65, 3, cs.length, cellsChange cs⟩, ⟨.slice (some ⟨gX, 0, none⟩) l.length l.length, 40, 2, l.length, cellsPair l⟩, ⟨.slice aW cs.length cW, 65, 3, cs.length, cellsChange cs⟩, ⟨.slice (some ⟨gP, 0, none⟩) l.length l.length, 40, 2, l.length, cellsPair l⟩] w9_) := L9.out.step hb
    clear hb L9
    go_wp2_with fail
    refine (markPairS_own l hl 1 (by omega) (by omega) _ (L10.out.row 2 rfl)).mono ?_
    rintro en w10_ ⟨rfl, hown, hg⟩
    have L11 : Hid (LawS w [(bG, (Obj.cells #[Value.int IntKind.i64 st, Value.slice aG cs.length cG] 33 (0, 0))), (bW, (Obj.cells #[Value.int IntKind.i64 st, Value.slice aW cs.length cW] 33 (0, 0)))] [⟨.slice (some ⟨gT, 0, none⟩) l.length l.length, 40, 2, l.length, cellsPair l⟩, ⟨.slice aG cs.length cG, 65, 3, cs.length, cellsChange cs⟩, ⟨.slice (some ⟨gX, 0, none⟩) l.length l.length, 40, 2, l.length, cellsPair (marksPair 1 l.length)⟩, ⟨.slice aW cs.length cW, 65, 3, cs.length, cellsChange cs⟩, ⟨.slice (some ⟨gP, 0, none⟩) l.length l.length, 40, 2, l.length, cellsPair l⟩] w10_) := L10.out.mark 2 (r := ⟨.slice (some ⟨gX, 0, none⟩) l.length l.length, 40, 2, l.length, cellsPair l⟩) rfl hg hown
    clear hown hg L10
    obtain ⟨M, hM⟩ : ∃ M : Nat, M = 1 + 2 * l.length := ⟨_, rfl⟩
    rw [← hM]
    have hM0 : ¬ (M : Int) < 0 := by omega
    have HM : Hid (M = 1 + 2 * l.length) := hM
    clear hM
    obtain ⟨d00, d01⟩ := L11.out.two (List.Mem.head _)
    obtain ⟨d10, d11⟩ := L11.out.two (List.Mem.tail _ (List.Mem.head _))
    go_wp2_with fail
    clear d00 d01 d10 d11
    obtain ⟨_, ghA1, _, ehA1, hA1⟩ := cellsChange_slice (L11.out.row 1 rfl)
    cases ehA1
    obtain ⟨_, ghA2, _, ehA2, hA2⟩ := cellsChange_slice (L11.out.row 3 rfl)
    cases ehA2
    refine (eqBatch_same cs (by omega) _ hA1 hA2).mono ?_
    rintro en w11_ ⟨rfl, hb⟩
    have L12 : Hid (LawS w [(bG, (Obj.cells #[Value.int IntKind.i64 st, Value.slice aG cs.length cG] 33 (0, 0))), (bW, (Obj.cells #[Value.int IntKind.i64 st, Value.slice aW cs.length cW] 33 (0, 0)))] [⟨.slice (some ⟨gT, 0, none⟩) l.length l.length, 40, 2, l.length, cellsPair l⟩, ⟨.slice aG cs.length cG, 65, 3, cs.length, cellsChange cs⟩, ⟨.slice (some ⟨gX, 0, none⟩) l.length l.length, 40, 2, l.length, cellsPair (marksPair 1 l.length)⟩, ⟨.slice aW cs.length cW, 65, 3, cs.length, cellsChange cs⟩, ⟨.slice (some ⟨gP, 0, none⟩) l.length l.length, 40, 2, l.length, cellsPair l⟩] w11_) := L11.out.step hb
    clear hb L11
    clear hA1 hA2
    obtain ⟨d00, d01⟩ := L12.out.two (List.Mem.head _)
    go_wp2_with fail
    clear d00 d01
    refine (markBatch_is st cs (by omega) _ (L12.out.row 1 rfl)).mono ?_
    rintro en w12_ ⟨rfl, hown, hg⟩
    have L13 : Hid (LawS w [(bG, (Obj.cells #[Value.int IntKind.i64 st, Value.slice aG cs.length cG] 33 (0, 0))), (bW, (Obj.cells #[Value.int IntKind.i64 st, Value.slice aW cs.length cW] 33 (0, 0)))] [⟨.slice (some ⟨gT, 0, none⟩) l.length l.length, 40, 2, l.length, cellsPair l⟩, ⟨.slice aG cs.length cG, 65, 3, cs.length, cellsChange (marksChange 1 cs.length)⟩, ⟨.slice (some ⟨gX, 0, none⟩) l.length l.length, 40, 2, l.length, cellsPair (marksPair 1 l.length)⟩, ⟨.slice aW cs.length cW, 65, 3, cs.length, cellsChange cs⟩, ⟨.slice (some ⟨gP, 0, none⟩) l.length l.length, 40, 2, l.length, cellsPair l⟩] w12_) := L12.out.mark 1 (r := ⟨.slice aG cs.length cG, 65, 3, cs.length, cellsChange cs⟩) rfl hg hown
    clear hown hg L12
    obtain ⟨Q, hQ⟩ : ∃ Q : Nat, Q = 1 + 3 * cs.length := ⟨_, rfl⟩
    rw [← hQ]
    have hQ0 : ¬ (Q : Int) < 0 := by omega
    have HQ : Hid (Q = 1 + 3 * cs.length) := hQ
    clear hQ
    obtain ⟨d00, d01⟩ := L13.out.two (List.Mem.head _)
    go_wp2_with fail
    clear d00 d01
    obtain ⟨_, gq, _, eq, hq⟩ := marks_at (L13.out.row 1 rfl)
    cases eq
    refine (heldBatch_is st cs.length (by omega) _ hq).mono ?_
    rintro en w13_ ⟨rfl, hb⟩
    have L14 : Hid (LawS w [(bG, (Obj.cells #[Value.int IntKind.i64 st, Value.slice aG cs.length cG] 33 (0, 0))), (bW, (Obj.cells #[Value.int IntKind.i64 st, Value.slice aW cs.length cW] 33 (0, 0)))] [⟨.slice (some ⟨gT, 0, none⟩) l.length l.length, 40, 2, l.length, cellsPair l⟩, ⟨.slice aG cs.length cG, 65, 3, cs.length, cellsChange (marksChange 1 cs.length)⟩, ⟨.slice (some ⟨gX, 0, none⟩) l.length l.length, 40, 2, l.length, cellsPair (marksPair 1 l.length)⟩, ⟨.slice aW cs.length cW, 65, 3, cs.length, cellsChange cs⟩, ⟨.slice (some ⟨gP, 0, none⟩) l.length l.length, 40, 2, l.length, cellsPair l⟩] w13_) := L13.out.step hb
    clear hb L13
    clear hq
    rw [← HQ.out]
    go_wp2_with fail
    refine (toPairS_own l hl _ (HF.out.kept L14.out.below)).mono ?_
    rintro en w14_ ⟨gV, rfl, ho, hb⟩
    have L15 : Hid (LawS w [(bG, (Obj.cells #[Value.int IntKind.i64 st, Value.slice aG cs.length cG] 33 (0, 0))), (bW, (Obj.cells #[Value.int IntKind.i64 st, Value.slice aW cs.length cW] 33 (0, 0)))] [⟨.slice (some ⟨gV, 0, none⟩) l.length l.length, 40, 2, l.length, cellsPair l⟩, ⟨.slice (some ⟨gT, 0, none⟩) l.length l.length, 40, 2, l.length, cellsPair l⟩, ⟨.slice aG cs.length cG, 65, 3, cs.length, cellsChange (marksChange 1 cs.length)⟩, ⟨.slice (some ⟨gX, 0, none⟩) l.length l.length, 40, 2, l.length, cellsPair (marksPair 1 l.length)⟩, ⟨.slice aW cs.length cW, 65, 3, cs.length, cellsChange cs⟩, ⟨.slice (some ⟨gP, 0, none⟩) l.length l.length, 40, 2, l.length, cellsPair l⟩] w14_) := L14.out.call hb ho
    clear hb ho L14
    go_wp2_with fail
    refine (implBatch_any l HLL.out HSS.out s st cs R HR.out _ (cellsPair_own rfl (L15.out.row 0 rfl))).mono ?_
    rintro en w15_ ⟨vH, rfl, ho, hb⟩
    obtain ⟨aH, cH, rfl⟩ := own_slice ho
    have L16 : Hid (LawS w [(bG, (Obj.cells #[Value.int IntKind.i64 st, Value.slice aG cs.length cG] 33 (0, 0))), (bW, (Obj.cells #[Value.int IntKind.i64 st, Value.slice aW cs.length cW] 33 (0, 0)))] [⟨.slice aH cs.length cH, 65, 3, cs.length, cellsChange cs⟩, ⟨.slice (some ⟨gV, 0, none⟩) l.length l.length, 40, 2, l.length, cellsPair l⟩, ⟨.slice (some ⟨gT, 0, none⟩) l.length l.length, 40, 2, l.length, cellsPair l⟩, ⟨.slice aG cs.length cG, 65, 3, cs.length, cellsChange (marksChange 1 cs.length)⟩, ⟨.slice (some ⟨gX, 0, none⟩) l.length l.length, 40, 2, l.length, cellsPair (marksPair 1 l.length)⟩, ⟨.slice aW cs.length cW, 65, 3, cs.length, cellsChange cs⟩, ⟨.slice (some ⟨gP, 0, none⟩) l.length l.length, 40, 2, l.length, cellsPair l⟩] w15_) := L15.out.call hb ho
    clear hb ho L15
    obtain ⟨W16, hW16⟩ : ∃ W16, W16 = w15_.alloc (Obj.cells #[Value.int IntKind.i64 st, Value.slice aH cs.length cH] 33 (0, 0)) := ⟨_, rfl⟩
    have L17 : Hid (LawS w [(w15_.heap.size, (Obj.cells #[Value.int IntKind.i64 st, Value.slice aH cs.length cH] 33 (0, 0))), (bG, (Obj.cells #[Value.int IntKind.i64 st, Value.slice aG cs.length cG] 33 (0, 0))), (bW, (Obj.cells #[Value.int IntKind.i64 st, Value.slice aW cs.length cW] 33 (0, 0)))] [⟨.slice aH cs.length cH, 65, 3, cs.length, cellsChange cs⟩, ⟨.slice (some ⟨gV, 0, none⟩) l.length l.length, 40, 2, l.length, cellsPair l⟩, ⟨.slice (some ⟨gT, 0, none⟩) l.length l.length, 40, 2, l.length, cellsPair l⟩, ⟨.slice aG cs.length cG, 65, 3, cs.length, cellsChange (marksChange 1 cs.length)⟩, ⟨.slice (some ⟨gX, 0, none⟩) l.length l.length, 40, 2, l.length, cellsPair (marksPair 1 l.length)⟩, ⟨.slice aW cs.length cW, 65, 3, cs.length, cellsChange cs⟩, ⟨.slice (some ⟨gP, 0, none⟩) l.length l.length, 40, 2, l.length, cellsPair l⟩] W16) := by rw [hW16]; exact L16.out.alloc _
    obtain ⟨d00, d01⟩ := L17.out.two (List.Mem.head _)
    obtain ⟨d10, d11⟩ := L17.out.two (List.Mem.tail _ (List.Mem.tail _ (List.Mem.head _)))
    rw [hW16] at d00 d01 d10 d11
    go_wp2_with fail
    rw [← hW16]
    clear hW16 L16 d00 d01 d10 d11
    obtain ⟨bH, hbH⟩ : ∃ bH, bH = w15_.heap.size := ⟨_, rfl⟩
    rw [← hbH] at L17 ⊢
    clear hbH
    obtain ⟨_, ghA1, _, ehA1, hA1⟩ := cellsChange_slice (L17.out.row 0 rfl)
    cases ehA1
    obtain ⟨_, ghA2, _, ehA2, hA2⟩ := cellsChange_slice (L17.out.row 5 rfl)
    cases ehA2
    refine (eqBatch_same cs (by omega) _ hA1 hA2).mono ?_
    rintro en w17_ ⟨rfl, hb⟩
    have L18 : Hid (LawS w [(bH, (Obj.cells #[Value.int IntKind.i64 st, Value.slice aH cs.length cH] 33 (0, 0))), (bG, (Obj.cells #[Value.int IntKind.i64 st, Value.slice aG cs.length cG] 33 (0, 0))), (bW, (Obj.cells #[Value.int IntKind.i64 st, Value.slice aW cs.length cW] 33 (0, 0)))] [⟨.slice aH cs.length cH, 65, 3, cs.length, cellsChange cs⟩, ⟨.slice (some ⟨gV, 0, none⟩) l.length l.length, 40, 2, l.length, cellsPair l⟩, ⟨.slice (some ⟨gT, 0, none⟩) l.length l.length, 40, 2, l.length, cellsPair l⟩, ⟨.slice aG cs.length cG, 65, 3, cs.length, cellsChange (marksChange 1 cs.length)⟩, ⟨.slice (some ⟨gX, 0, none⟩) l.length l.length, 40, 2, l.length, cellsPair (marksPair 1 l.length)⟩, ⟨.slice aW cs.length cW, 65, 3, cs.length, cellsChange cs⟩, ⟨.slice (some ⟨gP, 0, none⟩) l.length l.length, 40, 2, l.length, cellsPair l⟩] w17_) := L17.out.step hb
    clear hb L17
    clear hA1 hA2
    obtain ⟨d00, d01⟩ := L18.out.two (List.Mem.tail _ (List.Mem.head _))
    go_wp2_with fail
    clear d00 d01
    obtain ⟨_, gq, _, eq, hq⟩ := marks_at (L18.out.row 3 rfl)
    cases eq
    refine (heldBatch_is st cs.length (by omega) _ hq).mono ?_
    rintro en w18_ ⟨rfl, hb⟩
    have L19 : Hid (LawS w [(bH, (Obj.cells #[Value.int IntKind.i64 st, Value.slice aH cs.length cH] 33 (0, 0))), (bG, (Obj.cells #[Value.int IntKind.i64 st, Value.slice aG cs.length cG] 33 (0, 0))), (bW, (Obj.cells #[Value.int IntKind.i64 st, Value.slice aW cs.length cW] 33 (0, 0)))] [⟨.slice aH cs.length cH, 65, 3, cs.length, cellsChange cs⟩, ⟨.slice (some ⟨gV, 0, none⟩) l.length l.length, 40, 2, l.length, cellsPair l⟩, ⟨.slice (some ⟨gT, 0, none⟩) l.length l.length, 40, 2, l.length, cellsPair l⟩, ⟨.slice aG cs.length cG, 65, 3, cs.length, cellsChange (marksChange 1 cs.length)⟩, ⟨.slice (some ⟨gX, 0, none⟩) l.length l.length, 40, 2, l.length, cellsPair (marksPair 1 l.length)⟩, ⟨.slice aW cs.length cW, 65, 3, cs.length, cellsChange cs⟩, ⟨.slice (some ⟨gP, 0, none⟩) l.length l.length, 40, 2, l.length, cellsPair l⟩] w18_) := L18.out.step hb
    clear hb L18
    clear hq
    rw [← HQ.out]
    go_wp2
    go_ret
    exact ⟨rfl, L19.out.below⟩
  · subst hx2
    go_wp2
    go_ret
    exact ⟨rfl, hb1⟩
end Go.Proofs.Ytijopmkcaoefjaa
