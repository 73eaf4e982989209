/- Texts are marked from any number on, and found marked: markStringS, heldStringS, walked. What the exact law of ScanSeg needs: an answer of two rows, how few spots there are. The exact law of ScanSeg, walked. Made by program. -/
import Derived.Test.YtinhgonmdnbdiaaTexts
import Derived.Test.YtinhgonmdnbdiaaSpecScan
import Derived.Test.YtinhgonmdnbdiaaMarkSpot
import Derived.Test.YtinhgonmdnbdiaaLaw
namespace Go.Proofs.Ytinhgonmdnbdiaa
open Go.RowKit
set_option linter.unusedVariables false

set_option maxHeartbeats 1000000 in
set_option maxRecDepth 100000 in
theorem mark_from (k : Nat) (h0k : 0 < k) (hkk : k ≤ 100000000) {ps : List (List UInt8)} {va : Value} {B n : Nat} (hn : ps.length = n) (hn2 : n ≤ 20000) (w : World) (hA : w.ownsRow B 9 1 va n (cellsS ps)) :
    Calls Try.prog 13 #[va, .int .i64 (k : Int)] w fun e w' => e = .returned (.int .i64 ((k + n : Nat) : Int)) ∧ w'.ownsRow B 9 1 va n (cellsS (marks k n)) ∧ w.grownBy w' va.ownBlock := by
  by_cases h0 : n = 0
  · subst h0
    obtain ⟨x, c, hva⟩ : ∃ x c, va = .slice x 0 c := by
      rcases hA.2 with ⟨rfl, _⟩ | ⟨g, cap, cur, rfl, _⟩
      · exact ⟨_, _, rfl⟩
      · exact ⟨_, _, rfl⟩
    have hps : ps = [] := List.length_eq_zero_iff.1 hn
    have HA : Hid (w.ownsRow B 9 1 va 0 (cellsS (marks k 0))) := by subst hps; exact hA
    clear hA hps hn
    subst hva
    go_enter Try.func13, Try.ntmps13
    go_wp2
    refine wp_loop_rounds 1 ?_
    rw [rounds_succ]
    go_wp2
    go_ret
    exact ⟨rfl, HA.out, World.grownBy.refl _ _⟩
  · rcases hA.2 with ⟨rfl, h⟩ | ⟨g, cap, cur, rfl, _⟩
    · exact absurd h h0
    have HN : Hid (ps.length = n) := hn
    clear hn
    go_enter Try.func13, Try.ntmps13
    go_wp2
    go_loopw [1, 5] (fun x i wr => ∃ j : Nat, j ≤ n ∧ i = .int .i64 (j : Int) ∧ x = .int .i64 ((k + j : Nat) : Int) ∧ wr.ownsRow B 9 1 (.slice (some ⟨g, 0, none⟩) n cap) n (cellsS (half k n j ps)) ∧ w.grownBy wr (some g)) (fun _ i _ => n - (intOf i).toNat)
    case atStart => exact ⟨0, by omega, rfl, rfl, by rw [half_zero]; exact hA, World.grownBy.refl _ _⟩
    case round =>
      obtain ⟨j, hj, rfl, rfl, hown, hgr⟩ := hrel
      by_cases hlt : j < n
      · have hk0 : (0 : Int) ≤ (j : Int) := by omega
        have hk1 : (j : Int) < (n : Int) := by omega
        obtain ⟨M, hM⟩ : ∃ M : Nat, M = k + j := ⟨_, rfl⟩
        have HM : Hid (M = k + j) := hM
        have hMb : 0 < M ∧ M ≤ 100020000 := by omega
        rw [← hM]
        clear hM
        go_wp2_with fail
        refine (markText_int (M : Int) (by omega) (by omega) _).mono ?_
        rintro e w1 ⟨rfl, hb1⟩
        have hown1 := hown.kept (grown_of hb1 none) (Classical.em _)
        have hgr1 := hgr.trans (grown_of hb1 (some g))
        have hfz := hown1.frozenAt j
        have hl1 := hown1.1
        obtain ⟨u0, hcl⟩ : ∃ u0, w1.cell? ⟨g, j, none⟩ = some u0 := by
          rw [hown1.cellAt j (by omega)]
          exact ⟨_, List.getElem?_eq_getElem (by omega)⟩
        have hst := hown1.stored j (.string ⟨(mark (k + j)).toArray⟩)
        rw [half_set HN.out hlt, ← HM.out] at hst
        have HS : Hid (_ ∧ _) := hst
        clear hst hl1
        go_wp2
        go_roundw
        case rel => exact ⟨j + 1, by omega, by go_num, congrArg (Value.int .i64) (by have := HM.out; omega), HS.out.1, hgr1.trans HS.out.2⟩
        case measure => simp [intOf]; omega
      · have hk1 : ¬ (j : Int) < (n : Int) := by omega
        have HJ : Hid (j = n) := by show _ = _; omega
        go_wp2
        go_ret
        refine ⟨?_, ?_, hgr⟩
        · rw [HJ.out]; rfl
        · have := hown
          rw [HJ.out, half_all HN.out] at this
          exact this

set_option maxHeartbeats 1000000 in
set_option maxRecDepth 100000 in
theorem held_from (k : Nat) (h0k : 0 < k) (hkk : k ≤ 100000000) {va : Value} {B n : Nat} (hn2 : n ≤ 20000) (w : World) (hA : w.ownsRow B 9 1 va n (cellsS (marks k n))) :
    Calls Try.prog 15 #[va, .int .i64 (k : Int)] w fun e w' => e = .returned (.int .i64 ((k + n : Nat) : Int)) ∧ Below w.heap.size w w' := by
  by_cases h0 : n = 0
  · subst h0
    obtain ⟨x, c, hva⟩ : ∃ x c, va = .slice x 0 c := by
      rcases hA.2 with ⟨rfl, _⟩ | ⟨g, cap, cur, rfl, _⟩
      · exact ⟨_, _, rfl⟩
      · exact ⟨_, _, rfl⟩
    clear hA
    subst hva
    go_enter Try.func15, Try.ntmps15
    go_wp2
    refine wp_loop_rounds 1 ?_
    rw [rounds_succ]
    go_wp2
    go_ret
    exact ⟨rfl, Below.refl _ _⟩
  · rcases hA.2 with ⟨rfl, h⟩ | ⟨g, cap, cur, rfl, _⟩
    · exact absurd h h0
    have hg := (hA.lt g rfl).2
    have HA : Hid (∀ j, j < n → w.cell? ⟨g, j, none⟩ = some (.string ⟨(mark (k + j)).toArray⟩)) := by
      intro j hj
      rw [hA.cellAt j (by omega)]
      have := marks_at k n j hj
      simp only [cellsS, List.getElem?_map]
      rw [List.getElem?_eq_getElem (by rw [marks_len]; exact hj), this]
      rfl
    clear hA
    go_enter Try.func15, Try.ntmps15
    go_wp2
    go_loopw [1, 5] (fun x i wr => ∃ j : Nat, j ≤ n ∧ i = .int .i64 (j : Int) ∧ x = .int .i64 ((k + j : Nat) : Int) ∧ Below w.heap.size w wr) (fun _ i _ => n - (intOf i).toNat)
    case atStart => exact ⟨0, by omega, rfl, rfl, Below.refl _ _⟩
    case round =>
      obtain ⟨j, hj, rfl, rfl, hbel⟩ := hrel
      by_cases hlt : j < n
      · have hk0 : (0 : Int) ≤ (j : Int) := by omega
        have hk1 : (j : Int) < (n : Int) := by omega
        obtain ⟨M, hM⟩ : ∃ M : Nat, M = k + j := ⟨_, rfl⟩
        have HM : Hid (M = k + j) := hM
        have hMb : 0 < M ∧ M ≤ 100020000 := by omega
        obtain ⟨q, HQ⟩ : ∃ q, Hid (q = mark M) := ⟨mark M, (rfl : mark M = mark M)⟩
        have hc : wr.cell? ⟨g, j, none⟩ = some (.string ⟨q.toArray⟩) := by
          rw [hbel.cell (p := ⟨g, j, none⟩) hg, HA.out j hlt, HQ.out, hM]
        have hgz : g < wr.heap.size := by have := hbel.size; omega
        have hmk : ∀ wx, Calls Try.prog 33 #[.int .i64 (M : Int)] wx fun e w' => e = .returned (.string ⟨q.toArray⟩) ∧ Below wx.heap.size wx w' := fun wx => by
          have := markText_int (M : Int) (by omega) (by omega) wx
          rw [show (M : Int).toNat = M from by omega, ← HQ.out] at this
          exact this
        have HMK : Hid (∀ wx, Calls Try.prog 33 #[.int .i64 (M : Int)] wx fun e w' => e = .returned (.string ⟨q.toArray⟩) ∧ Below wx.heap.size wx w') := hmk
        clear hmk
        rw [← hM]
        clear hM
        go_wp2
        go_region_held3 (fun w' => w'.cell? ⟨g, j, none⟩ = some (.string ⟨q.toArray⟩)) (first | go_keep | (rw [hb1.cell (p := ⟨g, j, none⟩) hgz]; assumption)) (first | (go_at_call 33; refine (HMK.out _).mono ?_; rintro e w1 ⟨rfl, hb1⟩))
        go_wp2
        go_roundw
        case rel => exact ⟨j + 1, by omega, by go_num, congrArg (Value.int .i64) (by have := HM.out; omega), (hbel.drew).trans (hb1.mono hbel.size)⟩
        case measure => simp [intOf]; omega
      · have hk1 : ¬ (j : Int) < (n : Int) := by omega
        have HJ : Hid (j = n) := by show _ = _; omega
        go_wp2
        go_ret
        exact ⟨by rw [HJ.out]; rfl, hbel⟩
open Go.RowKit
set_option linter.unusedVariables false

/-- An answer of two rows and a number. -/
def TwoPost (w : World) (SP : List SpotL) (TX : List (List UInt8)) (ST : Int) (en : Ending) (w' : World) : Prop :=
  ∃ v1 v2, en = .returned (.tuple #[v1, v2, .int .i64 ST]) ∧ w'.ownsRow w.heap.size 56 4 v1 SP.length (cellsSpot SP) ∧ w'.ownsRow w.heap.size 9 1 v2 TX.length (cellsS TX) ∧ Below w.heap.size w w'
/-- A call that answers with two rows of its own. -/
theorem LawS.call2 {w W W' : World} {bs : List (Nat × Obj)} {rows : List RowD} (h : LawS w bs rows W) (hb : Below W.heap.size W W') {v u : Value} {e f : TypeId} {z y n m : Nat} {xs ys : List Value} (hv : W'.ownsRow W.heap.size e z v n xs) (hu : W'.ownsRow W.heap.size f y u m ys) (hne : f ≠ e) : LawS w bs (⟨u, f, y, m, ys⟩ :: ⟨v, e, z, n, xs⟩ :: rows) W' := by
  have h2 := h.call hb hv
  refine ⟨h2.below, h2.has, fun p hp => ?_, fun p hp q hq => ?_, List.Pairwise.cons (fun q hq => ?_) h2.apart, h.dist, h.up⟩
  · rcases List.mem_cons.1 hp with rfl | hp
    · exact own_mono hu h.below.size
    · exact h2.own p hp
  · rcases List.mem_cons.1 hq with rfl | hq
    · intro e
      have h3 := (hu.lt _ e).1
      have h4 := h.bsz p hp
      omega
    · exact h2.sep p hp q hq
  · cases e : u.ownBlock with
    | none => exact Or.inl rfl
    | some k =>
      right
      intro e2
      rcases List.mem_cons.1 hq with rfl | hq
      · exact own_apart hu hv hne k e e2.symm
      · have h3 := (hu.lt _ e).1
        have h4 := h.rsz q hq k e2.symm
        omega
theorem many_ge : ∀ l : List ChangeL, l.length ≤ (Batches.many l).length
  | [] => by simp [Batches.many]
  | c :: l => by
    have := many_ge l
    rw [Batches.many, List.length_append, List.length_cons, Batches.one, List.length_append, List.length_cons]
    omega
theorem got_len {r : List UInt8} {st : Nat} {l : List ChangeL} (h : Batches.Got ⟨r.toArray⟩ st l) : l.length ≤ r.length := by
  have h1 := h.1
  have h2 := many_ge l
  have h3 : r = Batches.text st l := by simpa [Batches.by_] using h1
  rw [h3, Batches.text, List.length_append, List.length_append]
  omega
theorem spots_end {seg : Int} : ∀ (l : List Scan.It) (a : Nat), (∀ x ∈ l, x.ch.length ≤ x.bytes.length) → a + (Scan.itSpots seg a l).length ≤ Scan.itEnd a l
  | [], a, _ => by simp [Scan.itSpots, Scan.itEnd]
  | x :: l, a, h => by
    have h1 := h x List.mem_cons_self
    have h2 := spots_end (seg := seg) l (Scan.itNext a x) (fun y hy => h y (List.mem_cons_of_mem _ hy))
    rw [Scan.itSpots, Scan.itEnd, List.length_append, Scan.chSpots_len]
    unfold Scan.itNext at *
    omega
theorem spots_few {s : ByteArray} {seg : Int} {items : List Scan.It} (h : Scan.Reads (unS s) items) : (Scan.itSpots seg 0 items).length ≤ 20000 := by
  have h1 := spots_end (seg := seg) items 0 (fun x hx => by
    obtain ⟨i, hi, rfl⟩ := List.getElem_of_mem hx
    obtain ⟨q1, q2⟩ := h.2.1 i hi (by have := h.1; omega)
    rw [q1]
    exact got_len q2)
  have h2 := Scan.reads_end h items.length (Nat.le_refl _) 0
  rw [List.take_length] at h2
  have h3 := Scan.recEnd_take (rs := unS s) (a := 0) items.length
  have h4 := unE_rec s
  have h5 := unE_le s
  omega
open Go.RowKit
set_option linter.unusedVariables false

set_option maxHeartbeats 2000000 in
set_option maxRecDepth 100000 in
theorem lawScan_any (s : ByteArray) (hmax : s.size ≤ maxLen) (seg : Int) (w : World) :
    Calls Try.prog 3 #[.string s, .int .i64 seg] w fun e w' => e = .returned (.bool true) ∧ Below w.heap.size w w' := by
  unfold maxLen at hmax
  by_cases hbig : 1048576 < s.size
  · go_enter Try.func3, Try.ntmps3
    go_wp2
    go_ret
    exact ⟨rfl, Below.refl _ _⟩
  · obtain ⟨items, hR⟩ := Scan.reads_ex (unS s)
    have HI : Hid (∀ w : World, Calls Try.prog 9 #[.string s, .int .i64 seg] w fun en w' => ∃ v1 v2, en = .returned (.tuple #[v1, v2, .int .i64 (Scan.itStamp (-1) items)]) ∧ ScanPost w seg items v1 v2 w') := fun w => implScan_any s (by unfold maxLen; omega) seg items hR w
    have HP : Hid (∀ w : World, Calls Try.prog 8 #[.string s, .int .i64 seg] w fun en w' => ∃ v1 v2, en = .returned (.tuple #[v1, v2, .int .i64 (Scan.itStamp (-1) items)]) ∧ ScanPost w seg items v1 v2 w') := fun w => specScan_any s (by unfold maxLen; omega) seg items hR w
    obtain ⟨SP, hSP⟩ : ∃ SP, SP = Scan.itSpots seg 0 items := ⟨_, rfl⟩
    obtain ⟨TX, hTX⟩ : ∃ TX, TX = items.map (fun x => x.bytes) := ⟨_, rfl⟩
    obtain ⟨ST, hST⟩ : ∃ ST, ST = Scan.itStamp (-1) items := ⟨_, rfl⟩
    have htl : TX.length = items.length := by rw [hTX, List.length_map]
    have hsl : SP.length ≤ 20000 := by rw [hSP]; exact spots_few hR
    have hxl : TX.length ≤ 20000 := by rw [htl]; exact Nat.le_trans hR.1 (unS_len s)
    have HII : Hid (∀ w : World, Calls Try.prog 9 #[.string s, .int .i64 seg] w (TwoPost w SP TX ST)) := fun w => (HI.out w).mono fun e w' ⟨v1, v2, h1, h2, h3, h4⟩ => ⟨v1, v2, by rw [hST]; exact h1, by rw [hSP]; exact h2, by rw [htl, hTX]; exact h3, h4⟩
    have HPP : Hid (∀ w : World, Calls Try.prog 8 #[.string s, .int .i64 seg] w (TwoPost w SP TX ST)) := fun w => (HP.out w).mono fun e w' ⟨v1, v2, h1, h2, h3, h4⟩ => ⟨v1, v2, by rw [hST]; exact h1, by rw [hSP]; exact h2, by rw [htl, hTX]; exact h3, h4⟩
    clear HI HP hSP hTX hST htl hR
    go_enter Try.func3, Try.ntmps3
    have L1 : Hid (LawS w [] [] w) := LawS.start w
    go_wp2_with fail
    refine Calls.mono (HPP.out _) ?_
    rintro en w1_ ⟨v1, v2, rfl, ho1, ho2, hb⟩
    obtain ⟨aW1, cW1, rfl⟩ := own_slice ho1
    obtain ⟨aW2, cW2, rfl⟩ := own_slice ho2
    have L2 : Hid (LawS w [] [⟨.slice aW2 TX.length cW2, 9, 1, TX.length, cellsS TX⟩, ⟨.slice aW1 SP.length cW1, 56, 4, SP.length, cellsSpot SP⟩] w1_) := L1.out.call2 hb ho1 ho2 (by decide)
    clear hb ho1 ho2 L1
    go_wp2_with fail
    refine Calls.mono (HII.out _) ?_
    rintro en w2_ ⟨v1, v2, rfl, ho1, ho2, hb⟩
    obtain ⟨aG1, cG1, rfl⟩ := own_slice ho1
    obtain ⟨aG2, cG2, rfl⟩ := own_slice ho2
    have L3 : Hid (LawS w [] [⟨.slice aG2 TX.length cG2, 9, 1, TX.length, cellsS TX⟩, ⟨.slice aG1 SP.length cG1, 56, 4, SP.length, cellsSpot SP⟩, ⟨.slice aW2 TX.length cW2, 9, 1, TX.length, cellsS TX⟩, ⟨.slice aW1 SP.length cW1, 56, 4, SP.length, cellsSpot SP⟩] w2_) := L2.out.call2 hb ho1 ho2 (by decide)
    clear hb ho1 ho2 L2
    go_wp2_with fail
    obtain ⟨_, ghA1, _, ehA1, hA1⟩ := cellsSpot_slice (L3.out.row 1 rfl)
    cases ehA1
    obtain ⟨_, ghA2, _, ehA2, hA2⟩ := cellsSpot_slice (L3.out.row 3 rfl)
    cases ehA2
    refine (eqSpotS_same SP (by omega) _ hA1 hA2).mono ?_
    rintro en w3_ ⟨rfl, hb⟩
    have L4 : Hid (LawS w [] [⟨.slice aG2 TX.length cG2, 9, 1, TX.length, cellsS TX⟩, ⟨.slice aG1 SP.length cG1, 56, 4, SP.length, cellsSpot SP⟩, ⟨.slice aW2 TX.length cW2, 9, 1, TX.length, cellsS TX⟩, ⟨.slice aW1 SP.length cW1, 56, 4, SP.length, cellsSpot SP⟩] w3_) := L3.out.step hb
    clear hb L3
    clear hA1 hA2
    go_wp2_with fail
    refine (eq_any (ps := TX) hxl _ (L4.out.row 0 rfl) (L4.out.row 2 rfl)).mono ?_
    rintro en w4_ ⟨rfl, _, hb⟩
    have L5 : Hid (LawS w [] [⟨.slice aG2 TX.length cG2, 9, 1, TX.length, cellsS TX⟩, ⟨.slice aG1 SP.length cG1, 56, 4, SP.length, cellsSpot SP⟩, ⟨.slice aW2 TX.length cW2, 9, 1, TX.length, cellsS TX⟩, ⟨.slice aW1 SP.length cW1, 56, 4, SP.length, cellsSpot SP⟩] w4_) := L4.out.step hb
    clear hb L4
    go_wp2_with fail
    refine (markSpotS_own SP (by omega) 1 (by omega) (by omega) _ (L5.out.row 1 rfl)).mono ?_
    rintro en w5_ ⟨rfl, hown, hg⟩
    have L6 : Hid (LawS w [] [⟨.slice aG2 TX.length cG2, 9, 1, TX.length, cellsS TX⟩, ⟨.slice aG1 SP.length cG1, 56, 4, SP.length, cellsSpot (marksSpot 1 SP.length)⟩, ⟨.slice aW2 TX.length cW2, 9, 1, TX.length, cellsS TX⟩, ⟨.slice aW1 SP.length cW1, 56, 4, SP.length, cellsSpot SP⟩] w5_) := L5.out.mark 1 (r := ⟨.slice aG1 SP.length cG1, 56, 4, SP.length, cellsSpot SP⟩) rfl hg hown
    clear hown hg L5
    obtain ⟨Q, hQ⟩ : ∃ Q : Nat, Q = 1 + 4 * SP.length := ⟨_, rfl⟩
    rw [← hQ]
    have hQ0 : ¬ (Q : Int) < 0 := by omega
    have HQ : Hid (Q = 1 + 4 * SP.length) := hQ
    clear hQ
    have hQb : 0 < Q ∧ Q ≤ 100000000 := by have := HQ.out; omega
    go_wp2_with fail
    refine (mark_from Q hQb.1 hQb.2 (ps := TX) rfl hxl _ (L6.out.row 0 rfl)).mono ?_
    rintro en w6_ ⟨rfl, hown, hg⟩
    have L7 : Hid (LawS w [] [⟨.slice aG2 TX.length cG2, 9, 1, TX.length, cellsS (marks Q TX.length)⟩, ⟨.slice aG1 SP.length cG1, 56, 4, SP.length, cellsSpot (marksSpot 1 SP.length)⟩, ⟨.slice aW2 TX.length cW2, 9, 1, TX.length, cellsS TX⟩, ⟨.slice aW1 SP.length cW1, 56, 4, SP.length, cellsSpot SP⟩] w6_) := L6.out.mark 0 (r := ⟨.slice aG2 TX.length cG2, 9, 1, TX.length, cellsS TX⟩) rfl hg hown
    clear hown hg L6
    obtain ⟨M, hM⟩ : ∃ M : Nat, M = Q + TX.length := ⟨_, rfl⟩
    rw [← hM]
    have hM0 : ¬ (M : Int) < 0 := by omega
    have HM : Hid (M = Q + TX.length) := hM
    clear hM
    go_wp2_with fail
    obtain ⟨_, gq, _, eq, hq⟩ := marksSpot_row (L7.out.row 1 rfl)
    cases eq
    refine (heldSpotS_is SP.length (by omega) 1 (by omega) (by omega) _ hq).mono ?_
    rintro en w7_ ⟨rfl, hb⟩
    have L8 : Hid (LawS w [] [⟨.slice aG2 TX.length cG2, 9, 1, TX.length, cellsS (marks Q TX.length)⟩, ⟨.slice aG1 SP.length cG1, 56, 4, SP.length, cellsSpot (marksSpot 1 SP.length)⟩, ⟨.slice aW2 TX.length cW2, 9, 1, TX.length, cellsS TX⟩, ⟨.slice aW1 SP.length cW1, 56, 4, SP.length, cellsSpot SP⟩] w7_) := L7.out.step hb
    clear hb L7
    clear hq
    rw [← HQ.out]
    go_wp2_with fail
    refine (held_from Q hQb.1 hQb.2 (n := TX.length) hxl _ (L8.out.row 0 rfl)).mono ?_
    rintro en w8_ ⟨rfl, hb⟩
    have L9 : Hid (LawS w [] [⟨.slice aG2 TX.length cG2, 9, 1, TX.length, cellsS (marks Q TX.length)⟩, ⟨.slice aG1 SP.length cG1, 56, 4, SP.length, cellsSpot (marksSpot 1 SP.length)⟩, ⟨.slice aW2 TX.length cW2, 9, 1, TX.length, cellsS TX⟩, ⟨.slice aW1 SP.length cW1, 56, 4, SP.length, cellsSpot SP⟩] w8_) := L8.out.step hb
    clear hb L8
    rw [← HM.out]
    go_wp2_with fail
    refine Calls.mono (HII.out _) ?_
    rintro en w9_ ⟨v1, v2, rfl, ho1, ho2, hb⟩
    obtain ⟨aH1, cH1, rfl⟩ := own_slice ho1
    obtain ⟨aH2, cH2, rfl⟩ := own_slice ho2
    have L10 : Hid (LawS w [] [⟨.slice aH2 TX.length cH2, 9, 1, TX.length, cellsS TX⟩, ⟨.slice aH1 SP.length cH1, 56, 4, SP.length, cellsSpot SP⟩, ⟨.slice aG2 TX.length cG2, 9, 1, TX.length, cellsS (marks Q TX.length)⟩, ⟨.slice aG1 SP.length cG1, 56, 4, SP.length, cellsSpot (marksSpot 1 SP.length)⟩, ⟨.slice aW2 TX.length cW2, 9, 1, TX.length, cellsS TX⟩, ⟨.slice aW1 SP.length cW1, 56, 4, SP.length, cellsSpot SP⟩] w9_) := L9.out.call2 hb ho1 ho2 (by decide)
    clear hb ho1 ho2 L9
    go_wp2_with fail
    obtain ⟨_, ghA1, _, ehA1, hA1⟩ := cellsSpot_slice (L10.out.row 1 rfl)
    cases ehA1
    obtain ⟨_, ghA2, _, ehA2, hA2⟩ := cellsSpot_slice (L10.out.row 5 rfl)
    cases ehA2
    refine (eqSpotS_same SP (by omega) _ hA1 hA2).mono ?_
    rintro en w10_ ⟨rfl, hb⟩
    have L11 : Hid (LawS w [] [⟨.slice aH2 TX.length cH2, 9, 1, TX.length, cellsS TX⟩, ⟨.slice aH1 SP.length cH1, 56, 4, SP.length, cellsSpot SP⟩, ⟨.slice aG2 TX.length cG2, 9, 1, TX.length, cellsS (marks Q TX.length)⟩, ⟨.slice aG1 SP.length cG1, 56, 4, SP.length, cellsSpot (marksSpot 1 SP.length)⟩, ⟨.slice aW2 TX.length cW2, 9, 1, TX.length, cellsS TX⟩, ⟨.slice aW1 SP.length cW1, 56, 4, SP.length, cellsSpot SP⟩] w10_) := L10.out.step hb
    clear hb L10
    clear hA1 hA2
    go_wp2_with fail
    refine (eq_any (ps := TX) hxl _ (L11.out.row 0 rfl) (L11.out.row 4 rfl)).mono ?_
    rintro en w11_ ⟨rfl, _, hb⟩
    have L12 : Hid (LawS w [] [⟨.slice aH2 TX.length cH2, 9, 1, TX.length, cellsS TX⟩, ⟨.slice aH1 SP.length cH1, 56, 4, SP.length, cellsSpot SP⟩, ⟨.slice aG2 TX.length cG2, 9, 1, TX.length, cellsS (marks Q TX.length)⟩, ⟨.slice aG1 SP.length cG1, 56, 4, SP.length, cellsSpot (marksSpot 1 SP.length)⟩, ⟨.slice aW2 TX.length cW2, 9, 1, TX.length, cellsS TX⟩, ⟨.slice aW1 SP.length cW1, 56, 4, SP.length, cellsSpot SP⟩] w11_) := L11.out.step hb
    clear hb L11
    go_wp2_with fail
    obtain ⟨_, gq, _, eq, hq⟩ := marksSpot_row (L12.out.row 3 rfl)
    cases eq
    refine (heldSpotS_is SP.length (by omega) 1 (by omega) (by omega) _ hq).mono ?_
    rintro en w12_ ⟨rfl, hb⟩
    have L13 : Hid (LawS w [] [⟨.slice aH2 TX.length cH2, 9, 1, TX.length, cellsS TX⟩, ⟨.slice aH1 SP.length cH1, 56, 4, SP.length, cellsSpot SP⟩, ⟨.slice aG2 TX.length cG2, 9, 1, TX.length, cellsS (marks Q TX.length)⟩, ⟨.slice aG1 SP.length cG1, 56, 4, SP.length, cellsSpot (marksSpot 1 SP.length)⟩, ⟨.slice aW2 TX.length cW2, 9, 1, TX.length, cellsS TX⟩, ⟨.slice aW1 SP.length cW1, 56, 4, SP.length, cellsSpot SP⟩] w12_) := L12.out.step hb
    clear hb L12
    clear hq
    rw [← HQ.out]
    go_wp2_with fail
    refine (held_from Q hQb.1 hQb.2 (n := TX.length) hxl _ (L13.out.row 2 rfl)).mono ?_
    rintro en w13_ ⟨rfl, hb⟩
    have L14 : Hid (LawS w [] [⟨.slice aH2 TX.length cH2, 9, 1, TX.length, cellsS TX⟩, ⟨.slice aH1 SP.length cH1, 56, 4, SP.length, cellsSpot SP⟩, ⟨.slice aG2 TX.length cG2, 9, 1, TX.length, cellsS (marks Q TX.length)⟩, ⟨.slice aG1 SP.length cG1, 56, 4, SP.length, cellsSpot (marksSpot 1 SP.length)⟩, ⟨.slice aW2 TX.length cW2, 9, 1, TX.length, cellsS TX⟩, ⟨.slice aW1 SP.length cW1, 56, 4, SP.length, cellsSpot SP⟩] w13_) := L13.out.step hb
    clear hb L13
    rw [← HM.out]
    go_wp2
    go_ret
    exact ⟨rfl, L14.out.below⟩
end Go.Proofs.Ytinhgonmdnbdiaa
