/- The exact law of FormatDisk, walked. Made by program. -/
import Derived.Test.YthcfnofhdbjemaaGreatDoorFmtD
namespace Go.Proofs.YthcfnofhdbjemaaGreatDoor
open Go.RowKit
set_option linter.unusedVariables false

theorem eqDisk_of3 {a b : Option Addr} {n c d B : Nat} {D : List FileL} (hn : n ≤ 3) (hN : D.length = n) {w : World} (h1 : w.ownsRow B 41 2 (.slice a n c) n (cellsF D)) (h2 : w.ownsRow B 41 2 (.slice b n d) n (cellsF D)) :
    Calls Tryz.prog 7 #[.agg #[.slice a n c], .agg #[.slice b n d]] w fun e w' => e = .returned (.bool true) ∧ Below w.heap.size w w' := by
  subst hN
  obtain ⟨_, g1, _, e1, f1⟩ := files_slice h1
  cases e1
  obtain ⟨_, g2, _, e2, f2⟩ := files_slice h2
  cases e2
  exact eqDisk_same D (by omega) w f1 f2
theorem markDisk_of3 {v : Value} {n B : Nat} {D : List FileL} (hn : n ≤ 3) (hN : D.length = n) {w : World} (h1 : w.ownsRow B 41 2 v n (cellsF D)) :
    Calls Tryz.prog 10 #[.agg #[v], .int .i64 1] w fun e w' => e = .returned (.int .i64 ((1 + 2 * n : Nat) : Int)) ∧ w'.ownsRow B 41 2 v n (cellsF (marksF 1 n)) ∧ w.grownBy w' v.ownBlock := by
  subst hN
  exact markDisk_own D (by omega) w h1
theorem heldDisk_of3 {a : Option Addr} {n c B : Nat} (hn : n ≤ 3) {w : World} (h1 : w.ownsRow B 41 2 (.slice a n c) n (cellsF (marksF 1 n))) :
    Calls Tryz.prog 11 #[.agg #[.slice a n c], .int .i64 1] w fun e w' => e = .returned (.int .i64 ((1 + 2 * n : Nat) : Int)) ∧ Below w.heap.size w w' := by
  have e : (marksF 1 n).length = n := marksF_len 1 n
  have h2 : w.ownsRow B 41 2 (.slice a n c) (marksF 1 n).length (cellsF (marksF 1 n)) := by rw [e]; exact h1
  obtain ⟨_, g1, _, e1, f1⟩ := files_slice h2
  rw [e] at e1
  cases e1
  exact heldDisk_is n (by omega) w f1
set_option maxHeartbeats 2000000 in
set_option maxRecDepth 100000 in
theorem lawDisk_any {a : Option Addr} {g off cap : Nat} (l : List Int) (hlen : l.length ≤ maxLen) (w : World) (hf : IntAt w a g off l) :
    Calls Tryz.prog 3 #[.slice a l.length cap] w fun e w' => e = .returned (.bool true) ∧ Below w.heap.size w w' := by
  unfold maxLen at hlen
  by_cases hbig : 1048576 < l.length
  · go_enter Tryz.func3, Tryz.ntmps3
    go_wp2
    go_ret
    exact ⟨rfl, Below.refl _ _⟩
  · have hl : l.length ≤ 1048576 := by omega
    have HF : Hid (IntAt w a g off l) := hf
    obtain ⟨S, R, hT⟩ := textIs ⟨[0], 1, 0, 0, l⟩
    have HT : Hid (TextIs ⟨[0], 1, 0, 0, l⟩ S R) := hT
    obtain ⟨D, hD⟩ : ∃ D, D = dskL S R := ⟨_, rfl⟩
    have HD : Hid (D = dskL S R) := hD
    obtain ⟨n, hN⟩ : ∃ n, D.length = n := ⟨_, rfl⟩
    have hn : n ≤ 3 := by rw [← hN, hD]; cases R <;> simp [dskL]
    have HN : Hid (D.length = n) := hN
    clear hf hT hD hN hlen
    go_enter Tryz.func3, Tryz.ntmps3
    go_wp2_with fail
    have L1 : Hid (LawS w [] [] w) := LawS.start w
    refine Calls.mono (toIntS_own l hl _ (HF.out.kept L1.out.below)) ?_
    rintro en w1 ⟨gA, rfl, hown, hb⟩
    have L2 : Hid (LawS w [] [⟨.slice (some ⟨gA, 0, none⟩) l.length l.length, 3, 1, l.length, cellsI l⟩] w1) := L1.out.call hb hown
    clear L1
    clear hb hown
    go_wp2_with fail
    refine Calls.mono (specDisk_any l hl S R HT.out _ (cellsI_own rfl (L2.out.row 0 rfl))) ?_
    rintro en w2 ⟨v, rfl, hown, hb⟩
    rw [← HD.out] at hown
    obtain ⟨aW, cW, rfl⟩ := own_slice hown
    rw [HN.out] at hown ⊢
    have L3 : Hid (LawS w [] [⟨.slice aW n cW, 41, 2, n, cellsF D⟩, ⟨.slice (some ⟨gA, 0, none⟩) l.length l.length, 3, 1, l.length, cellsI l⟩] w2) := L2.out.call hb hown
    clear L2
    clear hb hown
    obtain ⟨W3, hW3⟩ : ∃ W3, W3 = w2.alloc (Obj.cells #[.slice aW n cW] 25) := ⟨_, rfl⟩
    obtain ⟨bw03, hbw03⟩ : ∃ bw03, bw03 = w2.heap.size := ⟨_, rfl⟩
    have L4 : Hid (LawS w [(bw03, Obj.cells #[.slice aW n cW] 25)] [⟨.slice aW n cW, 41, 2, n, cellsF D⟩, ⟨.slice (some ⟨gA, 0, none⟩) l.length l.length, 3, 1, l.length, cellsI l⟩] W3) := by rw [hW3, hbw03]; exact L3.out.alloc _
    go_wp2_with fail
    rw [← hW3]
    try rw [← hbw03]
    clear hW3 hbw03 L3 
    refine Calls.mono (toIntS_own l hl _ (HF.out.kept L4.out.below)) ?_
    rintro en w4 ⟨gX, rfl, hown, hb⟩
    have L5 : Hid (LawS w [(bw03, Obj.cells #[.slice aW n cW] 25)] [⟨.slice (some ⟨gX, 0, none⟩) l.length l.length, 3, 1, l.length, cellsI l⟩, ⟨.slice aW n cW, 41, 2, n, cellsF D⟩, ⟨.slice (some ⟨gA, 0, none⟩) l.length l.length, 3, 1, l.length, cellsI l⟩] w4) := L4.out.call hb hown
    clear L4
    clear hb hown
    go_wp2_with fail
    refine Calls.mono (implDisk_any l hl S R HT.out _ (cellsI_own rfl (L5.out.row 0 rfl))) ?_
    rintro en w5 ⟨v, rfl, hown, hb⟩
    rw [← HD.out] at hown
    obtain ⟨aG, cG, rfl⟩ := own_slice hown
    rw [HN.out] at hown ⊢
    have L6 : Hid (LawS w [(bw03, Obj.cells #[.slice aW n cW] 25)] [⟨.slice aG n cG, 41, 2, n, cellsF D⟩, ⟨.slice (some ⟨gX, 0, none⟩) l.length l.length, 3, 1, l.length, cellsI l⟩, ⟨.slice aW n cW, 41, 2, n, cellsF D⟩, ⟨.slice (some ⟨gA, 0, none⟩) l.length l.length, 3, 1, l.length, cellsI l⟩] w5) := L5.out.call hb hown
    clear L5
    clear hb hown
    obtain ⟨W6, hW6⟩ : ∃ W6, W6 = w5.alloc (Obj.cells #[.slice aG n cG] 25) := ⟨_, rfl⟩
    obtain ⟨bg06, hbg06⟩ : ∃ bg06, bg06 = w5.heap.size := ⟨_, rfl⟩
    have L7 : Hid (LawS w [(bg06, Obj.cells #[.slice aG n cG] 25), (bw03, Obj.cells #[.slice aW n cW] 25)] [⟨.slice aG n cG, 41, 2, n, cellsF D⟩, ⟨.slice (some ⟨gX, 0, none⟩) l.length l.length, 3, 1, l.length, cellsI l⟩, ⟨.slice aW n cW, 41, 2, n, cellsF D⟩, ⟨.slice (some ⟨gA, 0, none⟩) l.length l.length, 3, 1, l.length, cellsI l⟩] W6) := by rw [hW6, hbg06]; exact L6.out.alloc _
    have d0_0 : (W6).cell? ⟨bg06, 0, none⟩ = some (.slice aG n cG) := cell_of_row _ _ 0 _ _ _ (L7.out.has _ (List.Mem.head _))
    have d1_0 : (W6).cell? ⟨bw03, 0, none⟩ = some (.slice aW n cW) := cell_of_row _ _ 0 _ _ _ (L7.out.has _ (List.Mem.tail _ (List.Mem.head _)))
    rw [hW6] at d0_0 d1_0
    rw [hbg06] at d0_0
    go_wp2_with fail
    rw [← hW6, ← hbg06]
    clear hW6 hbg06 L6 d0_0 d1_0
    refine Calls.mono (eqDisk_of3 hn HN.out (L7.out.row 0 rfl) (L7.out.row 2 rfl)) ?_
    rintro en w7 ⟨rfl, hb⟩
    have L8 : Hid (LawS w [(bg06, Obj.cells #[.slice aG n cG] 25), (bw03, Obj.cells #[.slice aW n cW] 25)] [⟨.slice aG n cG, 41, 2, n, cellsF D⟩, ⟨.slice (some ⟨gX, 0, none⟩) l.length l.length, 3, 1, l.length, cellsI l⟩, ⟨.slice aW n cW, 41, 2, n, cellsF D⟩, ⟨.slice (some ⟨gA, 0, none⟩) l.length l.length, 3, 1, l.length, cellsI l⟩] w7) := L7.out.step hb
    clear L7
    clear hb
    go_wp2_with fail
    refine Calls.mono (toIntS_own l hl _ (HF.out.kept L8.out.below)) ?_
    rintro en w8 ⟨gB, rfl, hown, hb⟩
    have L9 : Hid (LawS w [(bg06, Obj.cells #[.slice aG n cG] 25), (bw03, Obj.cells #[.slice aW n cW] 25)] [⟨.slice (some ⟨gB, 0, none⟩) l.length l.length, 3, 1, l.length, cellsI l⟩, ⟨.slice aG n cG, 41, 2, n, cellsF D⟩, ⟨.slice (some ⟨gX, 0, none⟩) l.length l.length, 3, 1, l.length, cellsI l⟩, ⟨.slice aW n cW, 41, 2, n, cellsF D⟩, ⟨.slice (some ⟨gA, 0, none⟩) l.length l.length, 3, 1, l.length, cellsI l⟩] w8) := L8.out.call hb hown
    clear L8
    clear hb hown
    go_wp2_with fail
    refine Calls.mono (eqIntS_same l hl _ (cellsI_own rfl (L9.out.row 2 rfl)) (cellsI_own rfl (L9.out.row 0 rfl))) ?_
    rintro en w9 ⟨rfl, hb⟩
    have L10 : Hid (LawS w [(bg06, Obj.cells #[.slice aG n cG] 25), (bw03, Obj.cells #[.slice aW n cW] 25)] [⟨.slice (some ⟨gB, 0, none⟩) l.length l.length, 3, 1, l.length, cellsI l⟩, ⟨.slice aG n cG, 41, 2, n, cellsF D⟩, ⟨.slice (some ⟨gX, 0, none⟩) l.length l.length, 3, 1, l.length, cellsI l⟩, ⟨.slice aW n cW, 41, 2, n, cellsF D⟩, ⟨.slice (some ⟨gA, 0, none⟩) l.length l.length, 3, 1, l.length, cellsI l⟩] w9) := L9.out.step hb
    clear L9
    clear hb
    go_wp2_with fail
    refine Calls.mono (markIntS_own l hl 1 (by omega) _ (L10.out.row 2 rfl)) ?_
    rintro en w10 ⟨rfl, hown, hg⟩
    have L11 : Hid (LawS w [(bg06, Obj.cells #[.slice aG n cG] 25), (bw03, Obj.cells #[.slice aW n cW] 25)] [⟨.slice (some ⟨gB, 0, none⟩) l.length l.length, 3, 1, l.length, cellsI l⟩, ⟨.slice aG n cG, 41, 2, n, cellsF D⟩, ⟨.slice (some ⟨gX, 0, none⟩) l.length l.length, 3, 1, l.length, cellsI (marksI 1 l.length)⟩, ⟨.slice aW n cW, 41, 2, n, cellsF D⟩, ⟨.slice (some ⟨gA, 0, none⟩) l.length l.length, 3, 1, l.length, cellsI l⟩] w10) := L10.out.mark 2 (r := ⟨.slice (some ⟨gX, 0, none⟩) l.length l.length, 3, 1, l.length, cellsI l⟩) rfl hg hown
    clear L10
    clear hown hg
    have hk0 : ¬ ((1 + l.length : Nat) : Int) < 0 := by omega
    have d0_0 : (w10).cell? ⟨bg06, 0, none⟩ = some (.slice aG n cG) := cell_of_row _ _ 0 _ _ _ (L11.out.has _ (List.Mem.head _))
    have d1_0 : (w10).cell? ⟨bw03, 0, none⟩ = some (.slice aW n cW) := cell_of_row _ _ 0 _ _ _ (L11.out.has _ (List.Mem.tail _ (List.Mem.head _)))
    go_wp2_with fail
    clear d0_0 d1_0
    refine Calls.mono (eqDisk_of3 hn HN.out (L11.out.row 1 rfl) (L11.out.row 3 rfl)) ?_
    rintro en w11 ⟨rfl, hb⟩
    have L12 : Hid (LawS w [(bg06, Obj.cells #[.slice aG n cG] 25), (bw03, Obj.cells #[.slice aW n cW] 25)] [⟨.slice (some ⟨gB, 0, none⟩) l.length l.length, 3, 1, l.length, cellsI l⟩, ⟨.slice aG n cG, 41, 2, n, cellsF D⟩, ⟨.slice (some ⟨gX, 0, none⟩) l.length l.length, 3, 1, l.length, cellsI (marksI 1 l.length)⟩, ⟨.slice aW n cW, 41, 2, n, cellsF D⟩, ⟨.slice (some ⟨gA, 0, none⟩) l.length l.length, 3, 1, l.length, cellsI l⟩] w11) := L11.out.step hb
    clear L11
    clear hb
    have d0_0 : (w11).cell? ⟨bg06, 0, none⟩ = some (.slice aG n cG) := cell_of_row _ _ 0 _ _ _ (L12.out.has _ (List.Mem.head _))
    go_wp2_with fail
    clear d0_0
    refine Calls.mono (markDisk_of3 hn HN.out (L12.out.row 1 rfl)) ?_
    rintro en w12 ⟨rfl, hown, hg⟩
    have L13 : Hid (LawS w [(bg06, Obj.cells #[.slice aG n cG] 25), (bw03, Obj.cells #[.slice aW n cW] 25)] [⟨.slice (some ⟨gB, 0, none⟩) l.length l.length, 3, 1, l.length, cellsI l⟩, ⟨.slice aG n cG, 41, 2, n, cellsF (marksF 1 n)⟩, ⟨.slice (some ⟨gX, 0, none⟩) l.length l.length, 3, 1, l.length, cellsI (marksI 1 l.length)⟩, ⟨.slice aW n cW, 41, 2, n, cellsF D⟩, ⟨.slice (some ⟨gA, 0, none⟩) l.length l.length, 3, 1, l.length, cellsI l⟩] w12) := L12.out.mark 1 (r := ⟨.slice aG n cG, 41, 2, n, cellsF D⟩) rfl hg hown
    clear L12
    clear hown hg
    obtain ⟨M, hM⟩ : ∃ M : Nat, M = 1 + 2 * n := ⟨_, rfl⟩
    rw [← hM]
    have HM : Hid (M = 1 + 2 * n) := hM
    clear hM
    have hm0 : ¬ (M : Int) < 0 := by omega
    have d0_0 : (w12).cell? ⟨bg06, 0, none⟩ = some (.slice aG n cG) := cell_of_row _ _ 0 _ _ _ (L13.out.has _ (List.Mem.head _))
    go_wp2_with fail
    clear d0_0
    refine Calls.mono (heldDisk_of3 hn (L13.out.row 1 rfl)) ?_
    rintro en w13 ⟨rfl, hb⟩
    have L14 : Hid (LawS w [(bg06, Obj.cells #[.slice aG n cG] 25), (bw03, Obj.cells #[.slice aW n cW] 25)] [⟨.slice (some ⟨gB, 0, none⟩) l.length l.length, 3, 1, l.length, cellsI l⟩, ⟨.slice aG n cG, 41, 2, n, cellsF (marksF 1 n)⟩, ⟨.slice (some ⟨gX, 0, none⟩) l.length l.length, 3, 1, l.length, cellsI (marksI 1 l.length)⟩, ⟨.slice aW n cW, 41, 2, n, cellsF D⟩, ⟨.slice (some ⟨gA, 0, none⟩) l.length l.length, 3, 1, l.length, cellsI l⟩] w13) := L13.out.step hb
    clear L13
    clear hb
    rw [← HM.out]
    go_wp2_with fail
    refine Calls.mono (toIntS_own l hl _ (HF.out.kept L14.out.below)) ?_
    rintro en w14 ⟨gC, rfl, hown, hb⟩
    have L15 : Hid (LawS w [(bg06, Obj.cells #[.slice aG n cG] 25), (bw03, Obj.cells #[.slice aW n cW] 25)] [⟨.slice (some ⟨gC, 0, none⟩) l.length l.length, 3, 1, l.length, cellsI l⟩, ⟨.slice (some ⟨gB, 0, none⟩) l.length l.length, 3, 1, l.length, cellsI l⟩, ⟨.slice aG n cG, 41, 2, n, cellsF (marksF 1 n)⟩, ⟨.slice (some ⟨gX, 0, none⟩) l.length l.length, 3, 1, l.length, cellsI (marksI 1 l.length)⟩, ⟨.slice aW n cW, 41, 2, n, cellsF D⟩, ⟨.slice (some ⟨gA, 0, none⟩) l.length l.length, 3, 1, l.length, cellsI l⟩] w14) := L14.out.call hb hown
    clear L14
    clear hb hown
    go_wp2_with fail
    refine Calls.mono (implDisk_any l hl S R HT.out _ (cellsI_own rfl (L15.out.row 0 rfl))) ?_
    rintro en w15 ⟨v, rfl, hown, hb⟩
    rw [← HD.out] at hown
    obtain ⟨aH, cH, rfl⟩ := own_slice hown
    rw [HN.out] at hown ⊢
    have L16 : Hid (LawS w [(bg06, Obj.cells #[.slice aG n cG] 25), (bw03, Obj.cells #[.slice aW n cW] 25)] [⟨.slice aH n cH, 41, 2, n, cellsF D⟩, ⟨.slice (some ⟨gC, 0, none⟩) l.length l.length, 3, 1, l.length, cellsI l⟩, ⟨.slice (some ⟨gB, 0, none⟩) l.length l.length, 3, 1, l.length, cellsI l⟩, ⟨.slice aG n cG, 41, 2, n, cellsF (marksF 1 n)⟩, ⟨.slice (some ⟨gX, 0, none⟩) l.length l.length, 3, 1, l.length, cellsI (marksI 1 l.length)⟩, ⟨.slice aW n cW, 41, 2, n, cellsF D⟩, ⟨.slice (some ⟨gA, 0, none⟩) l.length l.length, 3, 1, l.length, cellsI l⟩] w15) := L15.out.call hb hown
    clear L15
    clear hb hown
    obtain ⟨W16, hW16⟩ : ∃ W16, W16 = w15.alloc (Obj.cells #[.slice aH n cH] 25) := ⟨_, rfl⟩
    obtain ⟨bh016, hbh016⟩ : ∃ bh016, bh016 = w15.heap.size := ⟨_, rfl⟩
    have L17 : Hid (LawS w [(bh016, Obj.cells #[.slice aH n cH] 25), (bg06, Obj.cells #[.slice aG n cG] 25), (bw03, Obj.cells #[.slice aW n cW] 25)] [⟨.slice aH n cH, 41, 2, n, cellsF D⟩, ⟨.slice (some ⟨gC, 0, none⟩) l.length l.length, 3, 1, l.length, cellsI l⟩, ⟨.slice (some ⟨gB, 0, none⟩) l.length l.length, 3, 1, l.length, cellsI l⟩, ⟨.slice aG n cG, 41, 2, n, cellsF (marksF 1 n)⟩, ⟨.slice (some ⟨gX, 0, none⟩) l.length l.length, 3, 1, l.length, cellsI (marksI 1 l.length)⟩, ⟨.slice aW n cW, 41, 2, n, cellsF D⟩, ⟨.slice (some ⟨gA, 0, none⟩) l.length l.length, 3, 1, l.length, cellsI l⟩] W16) := by rw [hW16, hbh016]; exact L16.out.alloc _
    have d0_0 : (W16).cell? ⟨bh016, 0, none⟩ = some (.slice aH n cH) := cell_of_row _ _ 0 _ _ _ (L17.out.has _ (List.Mem.head _))
    have d2_0 : (W16).cell? ⟨bw03, 0, none⟩ = some (.slice aW n cW) := cell_of_row _ _ 0 _ _ _ (L17.out.has _ (List.Mem.tail _ (List.Mem.tail _ (List.Mem.head _))))
    rw [hW16] at d0_0 d2_0
    rw [hbh016] at d0_0
    go_wp2_with fail
    rw [← hW16, ← hbh016]
    clear hW16 hbh016 L16 d0_0 d2_0
    refine Calls.mono (eqDisk_of3 hn HN.out (L17.out.row 0 rfl) (L17.out.row 5 rfl)) ?_
    rintro en w17 ⟨rfl, hb⟩
    have L18 : Hid (LawS w [(bh016, Obj.cells #[.slice aH n cH] 25), (bg06, Obj.cells #[.slice aG n cG] 25), (bw03, Obj.cells #[.slice aW n cW] 25)] [⟨.slice aH n cH, 41, 2, n, cellsF D⟩, ⟨.slice (some ⟨gC, 0, none⟩) l.length l.length, 3, 1, l.length, cellsI l⟩, ⟨.slice (some ⟨gB, 0, none⟩) l.length l.length, 3, 1, l.length, cellsI l⟩, ⟨.slice aG n cG, 41, 2, n, cellsF (marksF 1 n)⟩, ⟨.slice (some ⟨gX, 0, none⟩) l.length l.length, 3, 1, l.length, cellsI (marksI 1 l.length)⟩, ⟨.slice aW n cW, 41, 2, n, cellsF D⟩, ⟨.slice (some ⟨gA, 0, none⟩) l.length l.length, 3, 1, l.length, cellsI l⟩] w17) := L17.out.step hb
    clear L17
    clear hb
    have d1_0 : (w17).cell? ⟨bg06, 0, none⟩ = some (.slice aG n cG) := cell_of_row _ _ 0 _ _ _ (L18.out.has _ (List.Mem.tail _ (List.Mem.head _)))
    go_wp2_with fail
    clear d1_0
    refine Calls.mono (heldDisk_of3 hn (L18.out.row 3 rfl)) ?_
    rintro en w18 ⟨rfl, hb⟩
    have L19 : Hid (LawS w [(bh016, Obj.cells #[.slice aH n cH] 25), (bg06, Obj.cells #[.slice aG n cG] 25), (bw03, Obj.cells #[.slice aW n cW] 25)] [⟨.slice aH n cH, 41, 2, n, cellsF D⟩, ⟨.slice (some ⟨gC, 0, none⟩) l.length l.length, 3, 1, l.length, cellsI l⟩, ⟨.slice (some ⟨gB, 0, none⟩) l.length l.length, 3, 1, l.length, cellsI l⟩, ⟨.slice aG n cG, 41, 2, n, cellsF (marksF 1 n)⟩, ⟨.slice (some ⟨gX, 0, none⟩) l.length l.length, 3, 1, l.length, cellsI (marksI 1 l.length)⟩, ⟨.slice aW n cW, 41, 2, n, cellsF D⟩, ⟨.slice (some ⟨gA, 0, none⟩) l.length l.length, 3, 1, l.length, cellsI l⟩] w18) := L18.out.step hb
    clear L18
    clear hb
    rw [← HM.out]
    go_wp2
    go_ret
    exact ⟨rfl, L19.out.below⟩
end Go.Proofs.YthcfnofhdbjemaaGreatDoor
