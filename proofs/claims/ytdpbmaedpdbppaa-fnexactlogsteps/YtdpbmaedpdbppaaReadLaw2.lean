/- The exact law of ReadLog, walked. Made by program. -/
import Derived.Test.YtdpbmaedpdbppaaSpecRL
import Derived.Test.YtdpbmaedpdbppaaImplRL
import Derived.Test.YtdpbmaedpdbppaaBehindLaw
namespace Go.Proofs.Ytdpbmaedpdbppaa
open Go.RowKit
set_option linter.unusedVariables false
set_option linter.unusedSimpArgs false

theorem un_of (s : ByteArray) (hs : s.size ≤ 1048576) : ∃ (ps : List (List UInt8)) (z : Nat), (∀ W : World, Calls Try.prog 57 #[.string s] W fun e w' => ∃ v, e = .returned (unT v z) ∧ w'.ownsRow W.heap.size 9 1 v ps.length (cellsS ps) ∧ Below W.heap.size W w') ∧ (∀ W : World, Calls Try.prog 60 #[.string s] W fun e w' => ∃ v, e = .returned (unT v z) ∧ w'.ownsRow W.heap.size 9 1 v ps.length (cellsS ps) ∧ Below W.heap.size W w') ∧ ps.length ≤ 20000 ∧ ∀ p ∈ ps, p.length ≤ 9000 := by
  by_cases h : s.size ≤ 20000
  · exact ⟨_, _, fun W => specUn_is s h W, fun W => implUn_is s h W, Nat.le_trans un_long h, un_small _ _ _⟩
  · exact ⟨[], 0, fun W => specUn_big s (by omega) (by unfold maxLen; omega) W, fun W => (implUn_big s (by omega) (by unfold maxLen; omega) W).mono fun _ _ ⟨e, b⟩ => ⟨.slice none 0 0, e, World.ownsRow_nil _ _ _ _, b⟩, by simp, fun p hp => absurd hp (by simp)⟩
theorem rl_ex (ps : List (List UInt8)) (z : Nat) : ∃ l e R, RLIs ps z l e R := by
  obtain ⟨r, hr⟩ := rd_ex ps true ⟨0, 0, []⟩
  by_cases h : ∃ m, r = some m ∧ ps ≠ [] ∧ Logs.okL m = true
  · obtain ⟨m, h1, h2, h3⟩ := h
    exact ⟨m, z, true, r, hr, Or.inl ⟨m, h1, h2, h3, rfl, rfl, rfl⟩⟩
  · refine ⟨⟨0, 0, []⟩, 0, false, r, hr, Or.inr ⟨fun m h1 h2 => ?_, rfl, rfl, rfl⟩⟩
    cases h3 : Logs.okL m with
    | false => rfl
    | true => exact absurd ⟨m, h1, h2, h3⟩ h
theorem rl_len {ps : List (List UInt8)} {z : Nat} {l : LogL} {e : Nat} {R : Bool} (h : RLIs ps z l e R) : l.ents.length ≤ 1048576 := by
  obtain ⟨r, _, ⟨m, _, _, h3, rfl, _⟩ | ⟨_, rfl, _⟩⟩ := h
  · have := (Logs.okL_iff.1 h3).1.n; omega
  · simp
set_option maxHeartbeats 4000000 in
set_option maxRecDepth 100000 in
theorem lawRead_any (s : ByteArray) (hs : s.size ≤ maxLen) (w : World) :
    Calls Try.prog 8 #[.string s] w fun e w' => e = .returned (.bool true) ∧ Below w.heap.size w w' := by
  unfold maxLen at hs
  by_cases hbig : 1048576 < s.size
  · have h1 : (1048576 : Int) < (s.size : Int) := by omega
    go_enter Try.func8, Try.ntmps8
    go_wp2
    go_ret
    exact ⟨rfl, Below.refl _ _⟩
  · have h1 : ¬ (1048576 : Int) < (s.size : Int) := by omega
    obtain ⟨ps, z, hu1, hu2, hpl, hps⟩ := un_of s (by omega)
    obtain ⟨l, ee, R, hR⟩ := rl_ex ps z
    have hrl : l.ents.length ≤ 1048576 := rl_len hR
    have HSP : Hid (∀ X : World, Calls Try.prog 27 #[.string s] X fun en w' => ∃ a cap, en = .returned (.tuple #[.agg #[.int .i64 l.start, .int .i64 l.sterm, .slice a l.ents.length cap], .int .i64 (ee : Int), .bool R]) ∧ w'.ownsRow X.heap.size 38 3 (.slice a l.ents.length cap) l.ents.length (cellsEn l.ents) ∧ Below X.heap.size X w') := fun X => specRead12_is s hu1 hpl hps hR X
    have HIM : Hid (∀ X : World, Calls Try.prog 28 #[.string s] X fun en w' => ∃ a cap, en = .returned (.tuple #[.agg #[.int .i64 l.start, .int .i64 l.sterm, .slice a l.ents.length cap], .int .i64 (ee : Int), .bool R]) ∧ w'.ownsRow X.heap.size 38 3 (.slice a l.ents.length cap) l.ents.length (cellsEn l.ents) ∧ Below X.heap.size X w') := fun X => implRead12_is s hu2 hpl hps hR X
    have HEQR : Hid (∀ (X : World) (a1 a2 : Option Addr) (g1 g2 o1 o2 c1 c2 : Nat), EnAt X a1 g1 o1 l.ents → EnAt X a2 g2 o2 l.ents → Calls Try.prog 22 #[.agg #[.int .i64 l.start, .int .i64 l.sterm, .slice a1 l.ents.length c1], .agg #[.int .i64 l.start, .int .i64 l.sterm, .slice a2 l.ents.length c2]] X fun e w' => e = .returned (.bool true) ∧ Below X.heap.size X w') := fun X a1 a2 g1 g2 o1 o2 c1 c2 h1 h2 => eqLog_same l hrl X h1 h2
    have HMR : Hid (∀ (X : World) (B : Nat) (a1 : Option Addr) (c1 : Nat), B ≤ X.heap.size → X.ownsRow B 38 3 (.slice a1 l.ents.length c1) l.ents.length (cellsEn l.ents) → Calls Try.prog 29 #[.agg #[.int .i64 l.start, .int .i64 l.sterm, .slice a1 l.ents.length c1], .int .i64 ((1 : Nat) : Int)] X fun e w' => e = .returned (.int .i64 ((1 + 3 * l.ents.length : Nat) : Int)) ∧ w'.ownsRow B 38 3 (.slice a1 l.ents.length c1) l.ents.length (cellsEn (marksEn 1 l.ents.length)) ∧ X.grownBy w' (Value.slice a1 l.ents.length c1).ownBlock) := fun X B a1 c1 hB h => markLog_own l hrl 1 (by omega) (by omega) X hB h
    have HHR : Hid (∀ (X : World) (a1 : Option Addr) (g1 o1 c1 : Nat), EnAt X a1 g1 o1 (marksEn 1 l.ents.length) → Calls Try.prog 30 #[.agg #[.int .i64 l.start, .int .i64 l.sterm, .slice a1 l.ents.length c1], .int .i64 ((1 : Nat) : Int)] X fun e w' => e = .returned (.int .i64 ((1 + 3 * l.ents.length : Nat) : Int)) ∧ Below X.heap.size X w') := fun X a1 g1 o1 c1 h => heldLog_is l.start l.sterm l.ents.length hrl 1 (by omega) (by omega) X h
    have hn1 : (!((ee : Int) == (ee : Int))) = false := by simp
    have hn2 : (!(R == R)) = false := by simp
    have L0 : Hid (LawS w [] [] w) := LawS.start w
    clear hR hu1 hu2 hpl hps hrl
    go_enter Try.func8, Try.ntmps8
    go_wp2_with fail
    refine Calls.mono (HSP.out _) ?_
    rintro en w1_ ⟨aW, cW, rfl, ho, hb⟩
    have L1 : Hid (LawS w [] [⟨.slice aW l.ents.length cW, 38, 3, l.ents.length, cellsEn l.ents⟩] w1_) := L0.out.call hb ho
    clear hb ho L0
    obtain ⟨W2, hW2⟩ : ∃ W2, W2 = w1_.alloc (Obj.cells #[.int .i64 l.start, .int .i64 l.sterm, .slice aW l.ents.length cW] 26) := ⟨_, rfl⟩
    have L2 : Hid (LawS w [(w1_.heap.size, (Obj.cells #[.int .i64 l.start, .int .i64 l.sterm, .slice aW l.ents.length cW] 26))] [⟨.slice aW l.ents.length cW, 38, 3, l.ents.length, cellsEn l.ents⟩] W2) := by rw [hW2]; exact L1.out.alloc _
    go_wp2_with fail
    rw [← hW2]
    clear hW2 L1 
    obtain ⟨bW, hbW⟩ : ∃ bW, bW = w1_.heap.size := ⟨_, rfl⟩
    rw [← hbW] at L2 ⊢
    clear hbW
    refine Calls.mono (HIM.out _) ?_
    rintro en w3_ ⟨aG, cG, rfl, ho, hb⟩
    have L3 : Hid (LawS w [(bW, (Obj.cells #[.int .i64 l.start, .int .i64 l.sterm, .slice aW l.ents.length cW] 26))] [⟨.slice aG l.ents.length cG, 38, 3, l.ents.length, cellsEn l.ents⟩, ⟨.slice aW l.ents.length cW, 38, 3, l.ents.length, cellsEn l.ents⟩] w3_) := L2.out.call hb ho
    clear hb ho L2
    obtain ⟨W4, hW4⟩ : ∃ W4, W4 = w3_.alloc (Obj.cells #[.int .i64 l.start, .int .i64 l.sterm, .slice aG l.ents.length cG] 26) := ⟨_, rfl⟩
    have L4 : Hid (LawS w [(w3_.heap.size, (Obj.cells #[.int .i64 l.start, .int .i64 l.sterm, .slice aG l.ents.length cG] 26)), (bW, (Obj.cells #[.int .i64 l.start, .int .i64 l.sterm, .slice aW l.ents.length cW] 26))] [⟨.slice aG l.ents.length cG, 38, 3, l.ents.length, cellsEn l.ents⟩, ⟨.slice aW l.ents.length cW, 38, 3, l.ents.length, cellsEn l.ents⟩] W4) := by rw [hW4]; exact L3.out.alloc _
    obtain ⟨d00, d01, d02⟩ := L4.out.three (List.Mem.head _)
    obtain ⟨d10, d11, d12⟩ := L4.out.three (List.Mem.tail _ (List.Mem.head _))
    rw [hW4] at d00 d01 d02 d10 d11 d12
    go_wp2_with fail
    rw [← hW4]
    clear hW4 L3 d00 d01 d02 d10 d11 d12
    obtain ⟨bG, hbG⟩ : ∃ bG, bG = w3_.heap.size := ⟨_, rfl⟩
    rw [← hbG] at L4 ⊢
    clear hbG
    obtain ⟨_, ghA1, _, ehA1, hA1⟩ := cellsEn_slice (L4.out.row 0 rfl)
    cases ehA1
    obtain ⟨_, ghA2, _, ehA2, hA2⟩ := cellsEn_slice (L4.out.row 1 rfl)
    cases ehA2
    refine Calls.mono (HEQR.out _ _ _ _ _ _ _ _ _ hA1 hA2) ?_
    rintro en w5_ ⟨rfl, hb⟩
    have L5 : Hid (LawS w [(bG, (Obj.cells #[.int .i64 l.start, .int .i64 l.sterm, .slice aG l.ents.length cG] 26)), (bW, (Obj.cells #[.int .i64 l.start, .int .i64 l.sterm, .slice aW l.ents.length cW] 26))] [⟨.slice aG l.ents.length cG, 38, 3, l.ents.length, cellsEn l.ents⟩, ⟨.slice aW l.ents.length cW, 38, 3, l.ents.length, cellsEn l.ents⟩] w5_) := L4.out.step hb
    clear hb L4
    clear hA1 hA2
    obtain ⟨d00, d01, d02⟩ := L5.out.three (List.Mem.head _)
    go_wp2_with fail
    clear d00 d01 d02
    refine Calls.mono (HMR.out _ _ _ _ L5.out.below.size (L5.out.row 0 rfl)) ?_
    rintro en w6_ ⟨rfl, hown, hg⟩
    have L6 : Hid (LawS w [(bG, (Obj.cells #[.int .i64 l.start, .int .i64 l.sterm, .slice aG l.ents.length cG] 26)), (bW, (Obj.cells #[.int .i64 l.start, .int .i64 l.sterm, .slice aW l.ents.length cW] 26))] [⟨.slice aG l.ents.length cG, 38, 3, l.ents.length, cellsEn (marksEn 1 l.ents.length)⟩, ⟨.slice aW l.ents.length cW, 38, 3, l.ents.length, cellsEn l.ents⟩] w6_) := L5.out.mark 0 (r := ⟨.slice aG l.ents.length cG, 38, 3, l.ents.length, cellsEn l.ents⟩) rfl hg hown
    clear hown hg L5
    obtain ⟨Q, hQ⟩ : ∃ Q : Nat, Q = 1 + 3 * l.ents.length := ⟨_, rfl⟩
    rw [← hQ]
    have hQ0 : ¬ (Q : Int) < 0 := by omega
    have HQ : Hid (Q = 1 + 3 * l.ents.length) := hQ
    clear hQ
    obtain ⟨d00, d01, d02⟩ := L6.out.three (List.Mem.head _)
    go_wp2_with fail
    clear d00 d01 d02
    obtain ⟨_, gq, _, eq_, hq⟩ := marksEn_slice (L6.out.row 0 rfl)
    cases eq_
    refine Calls.mono (HHR.out _ _ _ _ _ hq) ?_
    rintro en w7_ ⟨rfl, hb⟩
    have L7 : Hid (LawS w [(bG, (Obj.cells #[.int .i64 l.start, .int .i64 l.sterm, .slice aG l.ents.length cG] 26)), (bW, (Obj.cells #[.int .i64 l.start, .int .i64 l.sterm, .slice aW l.ents.length cW] 26))] [⟨.slice aG l.ents.length cG, 38, 3, l.ents.length, cellsEn (marksEn 1 l.ents.length)⟩, ⟨.slice aW l.ents.length cW, 38, 3, l.ents.length, cellsEn l.ents⟩] w7_) := L6.out.step hb
    clear hb L6
    clear hq
    rw [← HQ.out]
    go_wp2_with fail
    refine Calls.mono (HIM.out _) ?_
    rintro en w8_ ⟨aH, cH, rfl, ho, hb⟩
    have L8 : Hid (LawS w [(bG, (Obj.cells #[.int .i64 l.start, .int .i64 l.sterm, .slice aG l.ents.length cG] 26)), (bW, (Obj.cells #[.int .i64 l.start, .int .i64 l.sterm, .slice aW l.ents.length cW] 26))] [⟨.slice aH l.ents.length cH, 38, 3, l.ents.length, cellsEn l.ents⟩, ⟨.slice aG l.ents.length cG, 38, 3, l.ents.length, cellsEn (marksEn 1 l.ents.length)⟩, ⟨.slice aW l.ents.length cW, 38, 3, l.ents.length, cellsEn l.ents⟩] w8_) := L7.out.call hb ho
    clear hb ho L7
    obtain ⟨W9, hW9⟩ : ∃ W9, W9 = w8_.alloc (Obj.cells #[.int .i64 l.start, .int .i64 l.sterm, .slice aH l.ents.length cH] 26) := ⟨_, rfl⟩
    have L9 : Hid (LawS w [(w8_.heap.size, (Obj.cells #[.int .i64 l.start, .int .i64 l.sterm, .slice aH l.ents.length cH] 26)), (bG, (Obj.cells #[.int .i64 l.start, .int .i64 l.sterm, .slice aG l.ents.length cG] 26)), (bW, (Obj.cells #[.int .i64 l.start, .int .i64 l.sterm, .slice aW l.ents.length cW] 26))] [⟨.slice aH l.ents.length cH, 38, 3, l.ents.length, cellsEn l.ents⟩, ⟨.slice aG l.ents.length cG, 38, 3, l.ents.length, cellsEn (marksEn 1 l.ents.length)⟩, ⟨.slice aW l.ents.length cW, 38, 3, l.ents.length, cellsEn l.ents⟩] W9) := by rw [hW9]; exact L8.out.alloc _
    obtain ⟨d00, d01, d02⟩ := L9.out.three (List.Mem.head _)
    obtain ⟨d10, d11, d12⟩ := L9.out.three (List.Mem.tail _ (List.Mem.tail _ (List.Mem.head _)))
    rw [hW9] at d00 d01 d02 d10 d11 d12
    go_wp2_with fail
    rw [← hW9]
    clear hW9 L8 d00 d01 d02 d10 d11 d12
    obtain ⟨bH, hbH⟩ : ∃ bH, bH = w8_.heap.size := ⟨_, rfl⟩
    rw [← hbH] at L9 ⊢
    clear hbH
    obtain ⟨_, ghA1, _, ehA1, hA1⟩ := cellsEn_slice (L9.out.row 0 rfl)
    cases ehA1
    obtain ⟨_, ghA2, _, ehA2, hA2⟩ := cellsEn_slice (L9.out.row 2 rfl)
    cases ehA2
    refine Calls.mono (HEQR.out _ _ _ _ _ _ _ _ _ hA1 hA2) ?_
    rintro en w10_ ⟨rfl, hb⟩
    have L10 : Hid (LawS w [(bH, (Obj.cells #[.int .i64 l.start, .int .i64 l.sterm, .slice aH l.ents.length cH] 26)), (bG, (Obj.cells #[.int .i64 l.start, .int .i64 l.sterm, .slice aG l.ents.length cG] 26)), (bW, (Obj.cells #[.int .i64 l.start, .int .i64 l.sterm, .slice aW l.ents.length cW] 26))] [⟨.slice aH l.ents.length cH, 38, 3, l.ents.length, cellsEn l.ents⟩, ⟨.slice aG l.ents.length cG, 38, 3, l.ents.length, cellsEn (marksEn 1 l.ents.length)⟩, ⟨.slice aW l.ents.length cW, 38, 3, l.ents.length, cellsEn l.ents⟩] w10_) := L9.out.step hb
    clear hb L9
    clear hA1 hA2
    obtain ⟨d00, d01, d02⟩ := L10.out.three (List.Mem.tail _ (List.Mem.head _))
    go_wp2_with fail
    clear d00 d01 d02
    obtain ⟨_, gq, _, eq_, hq⟩ := marksEn_slice (L10.out.row 1 rfl)
    cases eq_
    refine Calls.mono (HHR.out _ _ _ _ _ hq) ?_
    rintro en w11_ ⟨rfl, hb⟩
    have L11 : Hid (LawS w [(bH, (Obj.cells #[.int .i64 l.start, .int .i64 l.sterm, .slice aH l.ents.length cH] 26)), (bG, (Obj.cells #[.int .i64 l.start, .int .i64 l.sterm, .slice aG l.ents.length cG] 26)), (bW, (Obj.cells #[.int .i64 l.start, .int .i64 l.sterm, .slice aW l.ents.length cW] 26))] [⟨.slice aH l.ents.length cH, 38, 3, l.ents.length, cellsEn l.ents⟩, ⟨.slice aG l.ents.length cG, 38, 3, l.ents.length, cellsEn (marksEn 1 l.ents.length)⟩, ⟨.slice aW l.ents.length cW, 38, 3, l.ents.length, cellsEn l.ents⟩] w11_) := L10.out.step hb
    clear hb L10
    clear hq
    rw [← HQ.out]
    go_wp2
    go_ret
    exact ⟨rfl, L11.out.below⟩
end Go.Proofs.Ytdpbmaedpdbppaa
