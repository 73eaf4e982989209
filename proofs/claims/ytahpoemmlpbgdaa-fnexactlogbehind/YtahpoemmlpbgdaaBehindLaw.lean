/- The exact law of LogBehind, walked. Made by program. -/
import Derived.Test.YtahpoemmlpbgdaaLogLaws
import Derived.Test.YtahpoemmlpbgdaaImplBehind
import Derived.Test.YtahpoemmlpbgdaaLaw
namespace Go.Proofs.Ytahpoemmlpbgdaa
open Go.RowKit
set_option linter.unusedVariables false
set_option linter.unusedSimpArgs false

theorem i64_wf {n : Int} (h : (Lit.int .i64 n).wf = true) : -9223372036854775808 ≤ n ∧ n ≤ 9223372036854775807 := by
  simpa [Lit.wf, IntKind.min, IntKind.max, IntKind.signed, IntKind.bits] using h
theorem marksEn_slice {w : World} {base : Nat} {v : Value} {k n : Nat} (h : w.ownsRow base 46 3 v n (cellsEn (marksEn k n))) : ∃ a g cap, v = .slice a n cap ∧ EnAt w a g 0 (marksEn k n) := by
  have h' : w.ownsRow base 46 3 v (marksEn k n).length (cellsEn (marksEn k n)) := by rw [marksEn_len]; exact h
  obtain ⟨a, g, cap, e, h2⟩ := cellsEn_slice h'
  rw [marksEn_len] at e
  exact ⟨a, g, cap, e, h2⟩
set_option maxHeartbeats 4000000 in
set_option maxRecDepth 100000 in
theorem lawBehind_any {a : Option Addr} {g off cap : Nat} (l : LogL) (hlen : l.ents.length ≤ maxLen) (hsz : ∀ r ∈ l.ents, smallEn maxLen r) (base term : Int) (hbr : -9223372036854775808 ≤ base ∧ base ≤ 9223372036854775807) (w : World) (hf : EnAt w a g off l.ents) :
    Calls Try.prog 4 #[logV l a cap, .int .i64 base, .int .i64 term] w fun e w' => e = .returned (.bool true) ∧ Below w.heap.size w w' := by
  have HF : Hid (EnAt w a g off l.ents) := hf
  have HSZ : Hid (∀ X, EnAt X a g off l.ents → Calls Try.prog 6 #[logV l a cap, .int .i64 ((1048576 : Nat) : Int)] X fun e w' => ∃ x : Int, e = .returned (.int .i64 x) ∧ Left 1048576 (totEn l.ents) x ∧ Below X.heap.size X w') := fun X h => szLog_any l hlen hsz 1048576 (Nat.le_refl _) X h
  clear hf hsz hlen
  unfold logV
  go_enter Try.func4, Try.ntmps4
  go_wp2_with fail
  obtain ⟨W, hW⟩ : ∃ W, W = w.alloc (Obj.cells #[.int .i64 l.start, .int .i64 l.sterm, .slice a l.ents.length cap] 24) := ⟨_, rfl⟩
  have LA : Hid (LawS w [(w.heap.size, (Obj.cells #[.int .i64 l.start, .int .i64 l.sterm, .slice a l.ents.length cap] 24))] [] W) := by rw [hW]; exact (LawS.start w).alloc _
  rw [← hW]
  obtain ⟨bA, hbA⟩ : ∃ bA, bA = w.heap.size := ⟨_, rfl⟩
  rw [← hbA] at LA
  rw [← hbA]
  clear hW hbA
  refine Calls.mono (HSZ.out W (HF.out.kept LA.out.below)) ?_
  rintro e w1 ⟨x, rfl, hx, hb1⟩
  have L0 : Hid (LawS w [(bA, (Obj.cells #[.int .i64 l.start, .int .i64 l.sterm, .slice a l.ents.length cap] 24))] [] w1) := LA.out.step hb1
  clear LA hb1 HSZ
  rcases hx with ⟨hx1, hx2⟩ | ⟨hx1, hx2⟩
  · obtain ⟨Y, hY⟩ : ∃ Y : Nat, Y = 1048576 - totEn l.ents := ⟨_, rfl⟩
    rw [← hY] at hx2
    subst hx2
    clear hY
    obtain ⟨hl, hs⟩ := totEn_small hx1
    have HD : Hid (∀ e ∈ l.ents, e.data.size ≤ 1048576) := hs
    have HTO : Hid (∀ X, EnAt X a g off l.ents → Calls Try.prog 8 #[.agg #[.int .i64 l.start, .int .i64 l.sterm, .slice a l.ents.length cap]] X fun e w' => ∃ g1 : Nat, e = .returned (.agg #[.int .i64 l.start, .int .i64 l.sterm, .slice (some ⟨g1, 0, none⟩) l.ents.length l.ents.length]) ∧ w'.ownsRow X.heap.size 46 3 (.slice (some ⟨g1, 0, none⟩) l.ents.length l.ents.length) l.ents.length (cellsEn l.ents) ∧ Below X.heap.size X w') := fun X h => toLog_any l hl X h
    have HEQ : Hid (∀ (X : World) (g1 g2 : Nat), EnAt X (some ⟨g1, 0, none⟩) g1 0 l.ents → EnAt X (some ⟨g2, 0, none⟩) g2 0 l.ents → Calls Try.prog 10 #[.agg #[.int .i64 l.start, .int .i64 l.sterm, .slice (some ⟨g1, 0, none⟩) l.ents.length l.ents.length], .agg #[.int .i64 l.start, .int .i64 l.sterm, .slice (some ⟨g2, 0, none⟩) l.ents.length l.ents.length]] X fun e w' => e = .returned (.bool true) ∧ Below X.heap.size X w') := fun X g1 g2 h1 h2 => eqLog_same l hl X h1 h2
    have HMK : Hid (∀ (X : World) (B g1 : Nat), B ≤ X.heap.size → X.ownsRow B 46 3 (.slice (some ⟨g1, 0, none⟩) l.ents.length l.ents.length) l.ents.length (cellsEn l.ents) → ∀ k : Nat, 0 < k → k ≤ 100000000 → Calls Try.prog 13 #[.agg #[.int .i64 l.start, .int .i64 l.sterm, .slice (some ⟨g1, 0, none⟩) l.ents.length l.ents.length], .int .i64 (k : Int)] X fun e w' => e = .returned (.int .i64 ((k + 3 * l.ents.length : Nat) : Int)) ∧ w'.ownsRow B 46 3 (.slice (some ⟨g1, 0, none⟩) l.ents.length l.ents.length) l.ents.length (cellsEn (marksEn k l.ents.length)) ∧ X.grownBy w' (Value.slice (some ⟨g1, 0, none⟩) l.ents.length l.ents.length).ownBlock) := fun X B g1 hB h k h0 hk => markLog_own l hl k h0 hk X hB h
    obtain ⟨r, hr⟩ : ∃ r, r = behindL l base term := ⟨_, rfl⟩
    have hrl : r.length ≤ 1048576 := by
      rw [hr]
      unfold behindL
      split
      · rw [List.length_drop]; omega
      · simp
    have HSP : Hid (∀ (X : World) (g1 : Nat), EnAt X (some ⟨g1, 0, none⟩) g1 0 l.ents → Calls Try.prog 11 #[.agg #[.int .i64 l.start, .int .i64 l.sterm, .slice (some ⟨g1, 0, none⟩) l.ents.length l.ents.length], .int .i64 base, .int .i64 term] X (BehindPost X base term r)) := fun X g1 h => by rw [hr]; exact specBehind_is l hl (Nat.le_refl _) HD.out base term hbr X h
    have HIM : Hid (∀ (X : World) (g1 : Nat), EnAt X (some ⟨g1, 0, none⟩) g1 0 l.ents → Calls Try.prog 12 #[.agg #[.int .i64 l.start, .int .i64 l.sterm, .slice (some ⟨g1, 0, none⟩) l.ents.length l.ents.length], .int .i64 base, .int .i64 term] X (BehindPost X base term r)) := fun X g1 h => by rw [hr]; exact implBehind_is l hl (Nat.le_refl _) HD.out base term hbr X h
    have HEQR : Hid (∀ (X : World) (a1 a2 : Option Addr) (g1 g2 o1 o2 c1 c2 : Nat), EnAt X a1 g1 o1 r → EnAt X a2 g2 o2 r → Calls Try.prog 10 #[.agg #[.int .i64 base, .int .i64 term, .slice a1 r.length c1], .agg #[.int .i64 base, .int .i64 term, .slice a2 r.length c2]] X fun e w' => e = .returned (.bool true) ∧ Below X.heap.size X w') := fun X a1 a2 g1 g2 o1 o2 c1 c2 h1 h2 => eqLog_same (⟨base, term, r⟩ : LogL) hrl X h1 h2
    have HMR : Hid (∀ (X : World) (B : Nat) (a1 : Option Addr) (c1 : Nat), B ≤ X.heap.size → X.ownsRow B 46 3 (.slice a1 r.length c1) r.length (cellsEn r) → Calls Try.prog 13 #[.agg #[.int .i64 base, .int .i64 term, .slice a1 r.length c1], .int .i64 ((1 : Nat) : Int)] X fun e w' => e = .returned (.int .i64 ((1 + 3 * r.length : Nat) : Int)) ∧ w'.ownsRow B 46 3 (.slice a1 r.length c1) r.length (cellsEn (marksEn 1 r.length)) ∧ X.grownBy w' (Value.slice a1 r.length c1).ownBlock) := fun X B a1 c1 hB h => markLog_own (⟨base, term, r⟩ : LogL) hrl 1 (by omega) (by omega) X hB h
    have HHR : Hid (∀ (X : World) (a1 : Option Addr) (g1 o1 c1 : Nat), EnAt X a1 g1 o1 (marksEn 1 r.length) → Calls Try.prog 14 #[.agg #[.int .i64 base, .int .i64 term, .slice a1 r.length c1], .int .i64 ((1 : Nat) : Int)] X fun e w' => e = .returned (.int .i64 ((1 + 3 * r.length : Nat) : Int)) ∧ Below X.heap.size X w') := fun X a1 g1 o1 c1 h => heldLog_is base term r.length hrl 1 (by omega) (by omega) X h
    clear hr hs hx1 HD
    obtain ⟨d00, d01, d02⟩ := L0.out.three (List.Mem.head _)
    go_wp2_with fail
    clear d00 d01 d02
    refine Calls.mono (HTO.out _ (HF.out.kept L0.out.below)) ?_
    rintro en w1_ ⟨gP, rfl, ho, hb⟩
    have L1 : Hid (LawS w [(bA, (Obj.cells #[.int .i64 l.start, .int .i64 l.sterm, .slice a l.ents.length cap] 24))] [⟨.slice (some ⟨gP, 0, none⟩) l.ents.length l.ents.length, 46, 3, l.ents.length, cellsEn l.ents⟩] w1_) := L0.out.call hb ho
    clear hb ho L0
    go_wp2_with fail
    refine Calls.mono (HSP.out _ _ (cellsEn_own rfl (L1.out.row 0 rfl))) ?_
    rintro en w2_ ⟨vW, rfl, ho, hb⟩
    obtain ⟨aW, cW, hv_⟩ := own_slice ho
    subst hv_
    have L2 : Hid (LawS w [(bA, (Obj.cells #[.int .i64 l.start, .int .i64 l.sterm, .slice a l.ents.length cap] 24))] [⟨.slice aW r.length cW, 46, 3, r.length, cellsEn r⟩, ⟨.slice (some ⟨gP, 0, none⟩) l.ents.length l.ents.length, 46, 3, l.ents.length, cellsEn l.ents⟩] w2_) := L1.out.call hb ho
    clear hb ho L1
    obtain ⟨W3, hW3⟩ : ∃ W3, W3 = w2_.alloc (Obj.cells #[.int .i64 base, .int .i64 term, .slice aW r.length cW] 29) := ⟨_, rfl⟩
    have L3 : Hid (LawS w [(w2_.heap.size, (Obj.cells #[.int .i64 base, .int .i64 term, .slice aW r.length cW] 29)), (bA, (Obj.cells #[.int .i64 l.start, .int .i64 l.sterm, .slice a l.ents.length cap] 24))] [⟨.slice aW r.length cW, 46, 3, r.length, cellsEn r⟩, ⟨.slice (some ⟨gP, 0, none⟩) l.ents.length l.ents.length, 46, 3, l.ents.length, cellsEn l.ents⟩] W3) := by rw [hW3]; exact L2.out.alloc _
    obtain ⟨d00, d01, d02⟩ := L3.out.three (List.Mem.tail _ (List.Mem.head _))
    rw [hW3] at d00 d01 d02
    go_wp2_with fail
    rw [← hW3]
    clear hW3 L2 d00 d01 d02
    obtain ⟨bW, hbW⟩ : ∃ bW, bW = w2_.heap.size := ⟨_, rfl⟩
    rw [← hbW] at L3 ⊢
    clear hbW
    refine Calls.mono (HTO.out _ (HF.out.kept L3.out.below)) ?_
    rintro en w4_ ⟨gX, rfl, ho, hb⟩
    have L4 : Hid (LawS w [(bW, (Obj.cells #[.int .i64 base, .int .i64 term, .slice aW r.length cW] 29)), (bA, (Obj.cells #[.int .i64 l.start, .int .i64 l.sterm, .slice a l.ents.length cap] 24))] [⟨.slice (some ⟨gX, 0, none⟩) l.ents.length l.ents.length, 46, 3, l.ents.length, cellsEn l.ents⟩, ⟨.slice aW r.length cW, 46, 3, r.length, cellsEn r⟩, ⟨.slice (some ⟨gP, 0, none⟩) l.ents.length l.ents.length, 46, 3, l.ents.length, cellsEn l.ents⟩] w4_) := L3.out.call hb ho
    clear hb ho L3
    obtain ⟨W5, hW5⟩ : ∃ W5, W5 = w4_.alloc (Obj.cells #[.int .i64 l.start, .int .i64 l.sterm, .slice (some ⟨gX, 0, none⟩) l.ents.length l.ents.length] 29) := ⟨_, rfl⟩
    have L5 : Hid (LawS w [(w4_.heap.size, (Obj.cells #[.int .i64 l.start, .int .i64 l.sterm, .slice (some ⟨gX, 0, none⟩) l.ents.length l.ents.length] 29)), (bW, (Obj.cells #[.int .i64 base, .int .i64 term, .slice aW r.length cW] 29)), (bA, (Obj.cells #[.int .i64 l.start, .int .i64 l.sterm, .slice a l.ents.length cap] 24))] [⟨.slice (some ⟨gX, 0, none⟩) l.ents.length l.ents.length, 46, 3, l.ents.length, cellsEn l.ents⟩, ⟨.slice aW r.length cW, 46, 3, r.length, cellsEn r⟩, ⟨.slice (some ⟨gP, 0, none⟩) l.ents.length l.ents.length, 46, 3, l.ents.length, cellsEn l.ents⟩] W5) := by rw [hW5]; exact L4.out.alloc _
    obtain ⟨d00, d01, d02⟩ := L5.out.three (List.Mem.head _)
    rw [hW5] at d00 d01 d02
    go_wp2_with fail
    rw [← hW5]
    clear hW5 L4 d00 d01 d02
    obtain ⟨bX, hbX⟩ : ∃ bX, bX = w4_.heap.size := ⟨_, rfl⟩
    rw [← hbX] at L5 ⊢
    clear hbX
    refine Calls.mono (HIM.out _ _ (cellsEn_own rfl (L5.out.row 0 rfl))) ?_
    rintro en w6_ ⟨vG, rfl, ho, hb⟩
    obtain ⟨aG, cG, hv_⟩ := own_slice ho
    subst hv_
    have L6 : Hid (LawS w [(bX, (Obj.cells #[.int .i64 l.start, .int .i64 l.sterm, .slice (some ⟨gX, 0, none⟩) l.ents.length l.ents.length] 29)), (bW, (Obj.cells #[.int .i64 base, .int .i64 term, .slice aW r.length cW] 29)), (bA, (Obj.cells #[.int .i64 l.start, .int .i64 l.sterm, .slice a l.ents.length cap] 24))] [⟨.slice aG r.length cG, 46, 3, r.length, cellsEn r⟩, ⟨.slice (some ⟨gX, 0, none⟩) l.ents.length l.ents.length, 46, 3, l.ents.length, cellsEn l.ents⟩, ⟨.slice aW r.length cW, 46, 3, r.length, cellsEn r⟩, ⟨.slice (some ⟨gP, 0, none⟩) l.ents.length l.ents.length, 46, 3, l.ents.length, cellsEn l.ents⟩] w6_) := L5.out.call hb ho
    clear hb ho L5
    obtain ⟨W7, hW7⟩ : ∃ W7, W7 = w6_.alloc (Obj.cells #[.int .i64 base, .int .i64 term, .slice aG r.length cG] 29) := ⟨_, rfl⟩
    have L7 : Hid (LawS w [(w6_.heap.size, (Obj.cells #[.int .i64 base, .int .i64 term, .slice aG r.length cG] 29)), (bX, (Obj.cells #[.int .i64 l.start, .int .i64 l.sterm, .slice (some ⟨gX, 0, none⟩) l.ents.length l.ents.length] 29)), (bW, (Obj.cells #[.int .i64 base, .int .i64 term, .slice aW r.length cW] 29)), (bA, (Obj.cells #[.int .i64 l.start, .int .i64 l.sterm, .slice a l.ents.length cap] 24))] [⟨.slice aG r.length cG, 46, 3, r.length, cellsEn r⟩, ⟨.slice (some ⟨gX, 0, none⟩) l.ents.length l.ents.length, 46, 3, l.ents.length, cellsEn l.ents⟩, ⟨.slice aW r.length cW, 46, 3, r.length, cellsEn r⟩, ⟨.slice (some ⟨gP, 0, none⟩) l.ents.length l.ents.length, 46, 3, l.ents.length, cellsEn l.ents⟩] W7) := by rw [hW7]; exact L6.out.alloc _
    obtain ⟨d00, d01, d02⟩ := L7.out.three (List.Mem.head _)
    obtain ⟨d10, d11, d12⟩ := L7.out.three (List.Mem.tail _ (List.Mem.tail _ (List.Mem.head _)))
    rw [hW7] at d00 d01 d02 d10 d11 d12
    go_wp2_with fail
    rw [← hW7]
    clear hW7 L6 d00 d01 d02 d10 d11 d12
    obtain ⟨bG, hbG⟩ : ∃ bG, bG = w6_.heap.size := ⟨_, rfl⟩
    rw [← hbG] at L7 ⊢
    clear hbG
    obtain ⟨_, ghA1, _, ehA1, hA1⟩ := cellsEn_slice (L7.out.row 0 rfl)
    cases ehA1
    obtain ⟨_, ghA2, _, ehA2, hA2⟩ := cellsEn_slice (L7.out.row 2 rfl)
    cases ehA2
    refine Calls.mono (HEQR.out _ _ _ _ _ _ _ _ _ hA1 hA2) ?_
    rintro en w8_ ⟨rfl, hb⟩
    have L8 : Hid (LawS w [(bG, (Obj.cells #[.int .i64 base, .int .i64 term, .slice aG r.length cG] 29)), (bX, (Obj.cells #[.int .i64 l.start, .int .i64 l.sterm, .slice (some ⟨gX, 0, none⟩) l.ents.length l.ents.length] 29)), (bW, (Obj.cells #[.int .i64 base, .int .i64 term, .slice aW r.length cW] 29)), (bA, (Obj.cells #[.int .i64 l.start, .int .i64 l.sterm, .slice a l.ents.length cap] 24))] [⟨.slice aG r.length cG, 46, 3, r.length, cellsEn r⟩, ⟨.slice (some ⟨gX, 0, none⟩) l.ents.length l.ents.length, 46, 3, l.ents.length, cellsEn l.ents⟩, ⟨.slice aW r.length cW, 46, 3, r.length, cellsEn r⟩, ⟨.slice (some ⟨gP, 0, none⟩) l.ents.length l.ents.length, 46, 3, l.ents.length, cellsEn l.ents⟩] w8_) := L7.out.step hb
    clear hb L7
    clear hA1 hA2
    obtain ⟨p0, p1, p2⟩ := L8.out.three (List.Mem.tail _ (List.Mem.head _))
    obtain ⟨q0, q1, q2⟩ := L8.out.three (List.Mem.tail _ (List.Mem.tail _ (List.Mem.tail _ (List.Mem.head _))))
    have HX : Hid (∀ w', Below w8_.heap.size w8_ w' → (w'.cell? ⟨bX, 0, none⟩ = some (.int .i64 l.start) ∧ w'.cell? ⟨bX, 1, none⟩ = some (.int .i64 l.sterm) ∧ w'.cell? ⟨bX, 2, none⟩ = some (.slice (some ⟨gX, 0, none⟩) l.ents.length l.ents.length)) ∧ w'.cell? ⟨bA, 0, none⟩ = some (.int .i64 l.start) ∧ w'.cell? ⟨bA, 1, none⟩ = some (.int .i64 l.sterm) ∧ w'.cell? ⟨bA, 2, none⟩ = some (.slice a l.ents.length cap)) := fun w' h => ⟨(L8.out.step h).three (List.Mem.tail _ (List.Mem.head _)), (L8.out.step h).three (List.Mem.tail _ (List.Mem.tail _ (List.Mem.tail _ (List.Mem.head _))))⟩
    go_wp2_with fail
    go_region_held3 (fun w' => (w'.cell? ⟨bX, 0, none⟩ = some (.int .i64 l.start) ∧ w'.cell? ⟨bX, 1, none⟩ = some (.int .i64 l.sterm) ∧ w'.cell? ⟨bX, 2, none⟩ = some (.slice (some ⟨gX, 0, none⟩) l.ents.length l.ents.length)) ∧ w'.cell? ⟨bA, 0, none⟩ = some (.int .i64 l.start) ∧ w'.cell? ⟨bA, 1, none⟩ = some (.int .i64 l.sterm) ∧ w'.cell? ⟨bA, 2, none⟩ = some (.slice a l.ents.length cap)) (first | go_keep | exact HX.out _ (below_undrew hb7) | exact HX.out _ ((below_undrew hb7).trans (hb8.mono hb7.size)))
      (first | (go_at_call 8; refine Calls.mono (HTO.out _ (HF.out.kept L8.out.below.drew)) ?_; rintro e w7 ⟨g7, rfl, hown7, hb7⟩) | (go_at_call 10; refine Calls.mono (HEQ.out _ _ _ (EnAt.kept (w := w8_.drew) (cellsEn_own rfl (L8.out.row 1 rfl)) hb7) (cellsEn_own rfl hown7)) ?_; rintro e w8 ⟨rfl, hb8⟩) | fail)
    have L9 : Hid (LawS w [(bG, (Obj.cells #[.int .i64 base, .int .i64 term, .slice aG r.length cG] 29)), (bX, (Obj.cells #[.int .i64 l.start, .int .i64 l.sterm, .slice (some ⟨gX, 0, none⟩) l.ents.length l.ents.length] 29)), (bW, (Obj.cells #[.int .i64 base, .int .i64 term, .slice aW r.length cW] 29)), (bA, (Obj.cells #[.int .i64 l.start, .int .i64 l.sterm, .slice a l.ents.length cap] 24))] [⟨.slice aG r.length cG, 46, 3, r.length, cellsEn r⟩, ⟨.slice (some ⟨gX, 0, none⟩) l.ents.length l.ents.length, 46, 3, l.ents.length, cellsEn l.ents⟩, ⟨.slice aW r.length cW, 46, 3, r.length, cellsEn r⟩, ⟨.slice (some ⟨gP, 0, none⟩) l.ents.length l.ents.length, 46, 3, l.ents.length, cellsEn l.ents⟩] w8) := L8.out.step ((below_undrew hb7).trans (hb8.mono hb7.size))
    clear L8 hown7 hb7 hb8 p0 p1 p2 q0 q1 q2 HX
    obtain ⟨d00, d01, d02⟩ := L9.out.three (List.Mem.tail _ (List.Mem.head _))
    go_wp2_with fail
    clear d00 d01 d02
    refine Calls.mono (HMK.out _ _ _ L9.out.below.size (L9.out.row 1 rfl) 1 (by omega) (by omega)) ?_
    rintro en w9_ ⟨rfl, hown, hg⟩
    have L10 : Hid (LawS w [(bG, (Obj.cells #[.int .i64 base, .int .i64 term, .slice aG r.length cG] 29)), (bX, (Obj.cells #[.int .i64 l.start, .int .i64 l.sterm, .slice (some ⟨gX, 0, none⟩) l.ents.length l.ents.length] 29)), (bW, (Obj.cells #[.int .i64 base, .int .i64 term, .slice aW r.length cW] 29)), (bA, (Obj.cells #[.int .i64 l.start, .int .i64 l.sterm, .slice a l.ents.length cap] 24))] [⟨.slice aG r.length cG, 46, 3, r.length, cellsEn r⟩, ⟨.slice (some ⟨gX, 0, none⟩) l.ents.length l.ents.length, 46, 3, l.ents.length, cellsEn (marksEn 1 l.ents.length)⟩, ⟨.slice aW r.length cW, 46, 3, r.length, cellsEn r⟩, ⟨.slice (some ⟨gP, 0, none⟩) l.ents.length l.ents.length, 46, 3, l.ents.length, cellsEn l.ents⟩] w9_) := L9.out.mark 1 (r := ⟨.slice (some ⟨gX, 0, none⟩) l.ents.length l.ents.length, 46, 3, l.ents.length, cellsEn l.ents⟩) rfl hg hown
    clear hown hg L9
    obtain ⟨M, hM⟩ : ∃ M : Nat, M = 1 + 3 * l.ents.length := ⟨_, rfl⟩
    rw [← hM]
    have hM0 : ¬ (M : Int) < 0 := by omega
    have HM : Hid (M = 1 + 3 * l.ents.length) := hM
    clear hM
    obtain ⟨d00, d01, d02⟩ := L10.out.three (List.Mem.head _)
    obtain ⟨d10, d11, d12⟩ := L10.out.three (List.Mem.tail _ (List.Mem.tail _ (List.Mem.head _)))
    go_wp2_with fail
    clear d00 d01 d02 d10 d11 d12
    obtain ⟨_, ghA1, _, ehA1, hA1⟩ := cellsEn_slice (L10.out.row 0 rfl)
    cases ehA1
    obtain ⟨_, ghA2, _, ehA2, hA2⟩ := cellsEn_slice (L10.out.row 2 rfl)
    cases ehA2
    refine Calls.mono (HEQR.out _ _ _ _ _ _ _ _ _ hA1 hA2) ?_
    rintro en w10_ ⟨rfl, hb⟩
    have L11 : Hid (LawS w [(bG, (Obj.cells #[.int .i64 base, .int .i64 term, .slice aG r.length cG] 29)), (bX, (Obj.cells #[.int .i64 l.start, .int .i64 l.sterm, .slice (some ⟨gX, 0, none⟩) l.ents.length l.ents.length] 29)), (bW, (Obj.cells #[.int .i64 base, .int .i64 term, .slice aW r.length cW] 29)), (bA, (Obj.cells #[.int .i64 l.start, .int .i64 l.sterm, .slice a l.ents.length cap] 24))] [⟨.slice aG r.length cG, 46, 3, r.length, cellsEn r⟩, ⟨.slice (some ⟨gX, 0, none⟩) l.ents.length l.ents.length, 46, 3, l.ents.length, cellsEn (marksEn 1 l.ents.length)⟩, ⟨.slice aW r.length cW, 46, 3, r.length, cellsEn r⟩, ⟨.slice (some ⟨gP, 0, none⟩) l.ents.length l.ents.length, 46, 3, l.ents.length, cellsEn l.ents⟩] w10_) := L10.out.step hb
    clear hb L10
    clear hA1 hA2
    obtain ⟨d00, d01, d02⟩ := L11.out.three (List.Mem.head _)
    go_wp2_with fail
    clear d00 d01 d02
    refine Calls.mono (HMR.out _ _ _ _ L11.out.below.size (L11.out.row 0 rfl)) ?_
    rintro en w11_ ⟨rfl, hown, hg⟩
    have L12 : Hid (LawS w [(bG, (Obj.cells #[.int .i64 base, .int .i64 term, .slice aG r.length cG] 29)), (bX, (Obj.cells #[.int .i64 l.start, .int .i64 l.sterm, .slice (some ⟨gX, 0, none⟩) l.ents.length l.ents.length] 29)), (bW, (Obj.cells #[.int .i64 base, .int .i64 term, .slice aW r.length cW] 29)), (bA, (Obj.cells #[.int .i64 l.start, .int .i64 l.sterm, .slice a l.ents.length cap] 24))] [⟨.slice aG r.length cG, 46, 3, r.length, cellsEn (marksEn 1 r.length)⟩, ⟨.slice (some ⟨gX, 0, none⟩) l.ents.length l.ents.length, 46, 3, l.ents.length, cellsEn (marksEn 1 l.ents.length)⟩, ⟨.slice aW r.length cW, 46, 3, r.length, cellsEn r⟩, ⟨.slice (some ⟨gP, 0, none⟩) l.ents.length l.ents.length, 46, 3, l.ents.length, cellsEn l.ents⟩] w11_) := L11.out.mark 0 (r := ⟨.slice aG r.length cG, 46, 3, r.length, cellsEn r⟩) rfl hg hown
    clear hown hg L11
    obtain ⟨Q, hQ⟩ : ∃ Q : Nat, Q = 1 + 3 * r.length := ⟨_, rfl⟩
    rw [← hQ]
    have hQ0 : ¬ (Q : Int) < 0 := by omega
    have HQ : Hid (Q = 1 + 3 * r.length) := hQ
    clear hQ
    obtain ⟨d00, d01, d02⟩ := L12.out.three (List.Mem.head _)
    go_wp2_with fail
    clear d00 d01 d02
    obtain ⟨_, gq, _, eq_, hq⟩ := marksEn_slice (L12.out.row 0 rfl)
    cases eq_
    refine Calls.mono (HHR.out _ _ _ _ _ hq) ?_
    rintro en w12_ ⟨rfl, hb⟩
    have L13 : Hid (LawS w [(bG, (Obj.cells #[.int .i64 base, .int .i64 term, .slice aG r.length cG] 29)), (bX, (Obj.cells #[.int .i64 l.start, .int .i64 l.sterm, .slice (some ⟨gX, 0, none⟩) l.ents.length l.ents.length] 29)), (bW, (Obj.cells #[.int .i64 base, .int .i64 term, .slice aW r.length cW] 29)), (bA, (Obj.cells #[.int .i64 l.start, .int .i64 l.sterm, .slice a l.ents.length cap] 24))] [⟨.slice aG r.length cG, 46, 3, r.length, cellsEn (marksEn 1 r.length)⟩, ⟨.slice (some ⟨gX, 0, none⟩) l.ents.length l.ents.length, 46, 3, l.ents.length, cellsEn (marksEn 1 l.ents.length)⟩, ⟨.slice aW r.length cW, 46, 3, r.length, cellsEn r⟩, ⟨.slice (some ⟨gP, 0, none⟩) l.ents.length l.ents.length, 46, 3, l.ents.length, cellsEn l.ents⟩] w12_) := L12.out.step hb
    clear hb L12
    clear hq
    rw [← HQ.out]
    obtain ⟨d00, d01, d02⟩ := L13.out.three (List.Mem.tail _ (List.Mem.tail _ (List.Mem.tail _ (List.Mem.head _))))
    go_wp2_with fail
    clear d00 d01 d02
    refine Calls.mono (HTO.out _ (HF.out.kept L13.out.below)) ?_
    rintro en w13_ ⟨gV, rfl, ho, hb⟩
    have L14 : Hid (LawS w [(bG, (Obj.cells #[.int .i64 base, .int .i64 term, .slice aG r.length cG] 29)), (bX, (Obj.cells #[.int .i64 l.start, .int .i64 l.sterm, .slice (some ⟨gX, 0, none⟩) l.ents.length l.ents.length] 29)), (bW, (Obj.cells #[.int .i64 base, .int .i64 term, .slice aW r.length cW] 29)), (bA, (Obj.cells #[.int .i64 l.start, .int .i64 l.sterm, .slice a l.ents.length cap] 24))] [⟨.slice (some ⟨gV, 0, none⟩) l.ents.length l.ents.length, 46, 3, l.ents.length, cellsEn l.ents⟩, ⟨.slice aG r.length cG, 46, 3, r.length, cellsEn (marksEn 1 r.length)⟩, ⟨.slice (some ⟨gX, 0, none⟩) l.ents.length l.ents.length, 46, 3, l.ents.length, cellsEn (marksEn 1 l.ents.length)⟩, ⟨.slice aW r.length cW, 46, 3, r.length, cellsEn r⟩, ⟨.slice (some ⟨gP, 0, none⟩) l.ents.length l.ents.length, 46, 3, l.ents.length, cellsEn l.ents⟩] w13_) := L13.out.call hb ho
    clear hb ho L13
    go_wp2_with fail
    refine Calls.mono (HIM.out _ _ (cellsEn_own rfl (L14.out.row 0 rfl))) ?_
    rintro en w14_ ⟨vH, rfl, ho, hb⟩
    obtain ⟨aH, cH, hv_⟩ := own_slice ho
    subst hv_
    have L15 : Hid (LawS w [(bG, (Obj.cells #[.int .i64 base, .int .i64 term, .slice aG r.length cG] 29)), (bX, (Obj.cells #[.int .i64 l.start, .int .i64 l.sterm, .slice (some ⟨gX, 0, none⟩) l.ents.length l.ents.length] 29)), (bW, (Obj.cells #[.int .i64 base, .int .i64 term, .slice aW r.length cW] 29)), (bA, (Obj.cells #[.int .i64 l.start, .int .i64 l.sterm, .slice a l.ents.length cap] 24))] [⟨.slice aH r.length cH, 46, 3, r.length, cellsEn r⟩, ⟨.slice (some ⟨gV, 0, none⟩) l.ents.length l.ents.length, 46, 3, l.ents.length, cellsEn l.ents⟩, ⟨.slice aG r.length cG, 46, 3, r.length, cellsEn (marksEn 1 r.length)⟩, ⟨.slice (some ⟨gX, 0, none⟩) l.ents.length l.ents.length, 46, 3, l.ents.length, cellsEn (marksEn 1 l.ents.length)⟩, ⟨.slice aW r.length cW, 46, 3, r.length, cellsEn r⟩, ⟨.slice (some ⟨gP, 0, none⟩) l.ents.length l.ents.length, 46, 3, l.ents.length, cellsEn l.ents⟩] w14_) := L14.out.call hb ho
    clear hb ho L14
    obtain ⟨W15, hW15⟩ : ∃ W15, W15 = w14_.alloc (Obj.cells #[.int .i64 base, .int .i64 term, .slice aH r.length cH] 29) := ⟨_, rfl⟩
    have L16 : Hid (LawS w [(w14_.heap.size, (Obj.cells #[.int .i64 base, .int .i64 term, .slice aH r.length cH] 29)), (bG, (Obj.cells #[.int .i64 base, .int .i64 term, .slice aG r.length cG] 29)), (bX, (Obj.cells #[.int .i64 l.start, .int .i64 l.sterm, .slice (some ⟨gX, 0, none⟩) l.ents.length l.ents.length] 29)), (bW, (Obj.cells #[.int .i64 base, .int .i64 term, .slice aW r.length cW] 29)), (bA, (Obj.cells #[.int .i64 l.start, .int .i64 l.sterm, .slice a l.ents.length cap] 24))] [⟨.slice aH r.length cH, 46, 3, r.length, cellsEn r⟩, ⟨.slice (some ⟨gV, 0, none⟩) l.ents.length l.ents.length, 46, 3, l.ents.length, cellsEn l.ents⟩, ⟨.slice aG r.length cG, 46, 3, r.length, cellsEn (marksEn 1 r.length)⟩, ⟨.slice (some ⟨gX, 0, none⟩) l.ents.length l.ents.length, 46, 3, l.ents.length, cellsEn (marksEn 1 l.ents.length)⟩, ⟨.slice aW r.length cW, 46, 3, r.length, cellsEn r⟩, ⟨.slice (some ⟨gP, 0, none⟩) l.ents.length l.ents.length, 46, 3, l.ents.length, cellsEn l.ents⟩] W15) := by rw [hW15]; exact L15.out.alloc _
    obtain ⟨d00, d01, d02⟩ := L16.out.three (List.Mem.head _)
    obtain ⟨d10, d11, d12⟩ := L16.out.three (List.Mem.tail _ (List.Mem.tail _ (List.Mem.tail _ (List.Mem.head _))))
    rw [hW15] at d00 d01 d02 d10 d11 d12
    go_wp2_with fail
    rw [← hW15]
    clear hW15 L15 d00 d01 d02 d10 d11 d12
    obtain ⟨bH, hbH⟩ : ∃ bH, bH = w14_.heap.size := ⟨_, rfl⟩
    rw [← hbH] at L16 ⊢
    clear hbH
    obtain ⟨_, ghA1, _, ehA1, hA1⟩ := cellsEn_slice (L16.out.row 0 rfl)
    cases ehA1
    obtain ⟨_, ghA2, _, ehA2, hA2⟩ := cellsEn_slice (L16.out.row 4 rfl)
    cases ehA2
    refine Calls.mono (HEQR.out _ _ _ _ _ _ _ _ _ hA1 hA2) ?_
    rintro en w16_ ⟨rfl, hb⟩
    have L17 : Hid (LawS w [(bH, (Obj.cells #[.int .i64 base, .int .i64 term, .slice aH r.length cH] 29)), (bG, (Obj.cells #[.int .i64 base, .int .i64 term, .slice aG r.length cG] 29)), (bX, (Obj.cells #[.int .i64 l.start, .int .i64 l.sterm, .slice (some ⟨gX, 0, none⟩) l.ents.length l.ents.length] 29)), (bW, (Obj.cells #[.int .i64 base, .int .i64 term, .slice aW r.length cW] 29)), (bA, (Obj.cells #[.int .i64 l.start, .int .i64 l.sterm, .slice a l.ents.length cap] 24))] [⟨.slice aH r.length cH, 46, 3, r.length, cellsEn r⟩, ⟨.slice (some ⟨gV, 0, none⟩) l.ents.length l.ents.length, 46, 3, l.ents.length, cellsEn l.ents⟩, ⟨.slice aG r.length cG, 46, 3, r.length, cellsEn (marksEn 1 r.length)⟩, ⟨.slice (some ⟨gX, 0, none⟩) l.ents.length l.ents.length, 46, 3, l.ents.length, cellsEn (marksEn 1 l.ents.length)⟩, ⟨.slice aW r.length cW, 46, 3, r.length, cellsEn r⟩, ⟨.slice (some ⟨gP, 0, none⟩) l.ents.length l.ents.length, 46, 3, l.ents.length, cellsEn l.ents⟩] w16_) := L16.out.step hb
    clear hb L16
    clear hA1 hA2
    obtain ⟨d00, d01, d02⟩ := L17.out.three (List.Mem.tail _ (List.Mem.head _))
    go_wp2_with fail
    clear d00 d01 d02
    obtain ⟨_, gq, _, eq_, hq⟩ := marksEn_slice (L17.out.row 2 rfl)
    cases eq_
    refine Calls.mono (HHR.out _ _ _ _ _ hq) ?_
    rintro en w17_ ⟨rfl, hb⟩
    have L18 : Hid (LawS w [(bH, (Obj.cells #[.int .i64 base, .int .i64 term, .slice aH r.length cH] 29)), (bG, (Obj.cells #[.int .i64 base, .int .i64 term, .slice aG r.length cG] 29)), (bX, (Obj.cells #[.int .i64 l.start, .int .i64 l.sterm, .slice (some ⟨gX, 0, none⟩) l.ents.length l.ents.length] 29)), (bW, (Obj.cells #[.int .i64 base, .int .i64 term, .slice aW r.length cW] 29)), (bA, (Obj.cells #[.int .i64 l.start, .int .i64 l.sterm, .slice a l.ents.length cap] 24))] [⟨.slice aH r.length cH, 46, 3, r.length, cellsEn r⟩, ⟨.slice (some ⟨gV, 0, none⟩) l.ents.length l.ents.length, 46, 3, l.ents.length, cellsEn l.ents⟩, ⟨.slice aG r.length cG, 46, 3, r.length, cellsEn (marksEn 1 r.length)⟩, ⟨.slice (some ⟨gX, 0, none⟩) l.ents.length l.ents.length, 46, 3, l.ents.length, cellsEn (marksEn 1 l.ents.length)⟩, ⟨.slice aW r.length cW, 46, 3, r.length, cellsEn r⟩, ⟨.slice (some ⟨gP, 0, none⟩) l.ents.length l.ents.length, 46, 3, l.ents.length, cellsEn l.ents⟩] w17_) := L17.out.step hb
    clear hb L17
    clear hq
    rw [← HQ.out]
    go_wp2
    go_ret
    exact ⟨rfl, L18.out.below⟩
  · subst hx2
    go_wp2
    go_ret
    exact ⟨rfl, L0.out.below⟩
end Go.Proofs.Ytahpoemmlpbgdaa
