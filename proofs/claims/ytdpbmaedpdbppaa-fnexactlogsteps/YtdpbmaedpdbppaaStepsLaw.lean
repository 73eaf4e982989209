/- The exact law of LogSteps, walked. Made by program. -/
import Derived.Test.YtdpbmaedpdbppaaSpecSteps
import Derived.Test.YtdpbmaedpdbppaaReadLaw2
namespace Go.Proofs.Ytdpbmaedpdbppaa
open Go.RowKit
set_option linter.unusedVariables false
set_option linter.unusedSimpArgs false

theorem rl_ok {ps : List (List UInt8)} {z : Nat} {l : LogL} {e : Nat} {R : Bool} (h : RLIs ps z l e R) (hR : R = true) : Logs.okL l = true := by
  obtain ⟨r, _, ⟨m, _, _, h3, rfl, _⟩ | ⟨_, _, _, h4⟩⟩ := h
  · exact h3
  · rw [hR] at h4; cases h4
theorem steps_ex (s : ByteArray) (old now lr : LogL) (er : Nat) (Rr : Bool) (k : Nat) : ∃ L ok, StepsIs s old now lr er Rr k L ok := by
  by_cases hg : Logs.okL now = true ∧ Rr = true ∧ er = s.size ∧ lr = old
  · by_cases hs : old = now
    · exact ⟨[], true, Or.inr ⟨hg, rfl, Or.inl ⟨hs, rfl⟩⟩⟩
    · by_cases hb : Behind s old now k
      · exact ⟨_, true, Or.inr ⟨hg, rfl, Or.inr ⟨hs, Or.inl ⟨hb, rfl⟩⟩⟩⟩
      · exact ⟨_, true, Or.inr ⟨hg, rfl, Or.inr ⟨hs, Or.inr ⟨hb, rfl⟩⟩⟩⟩
  · exact ⟨[], false, Or.inl ⟨hg, rfl, rfl⟩⟩
theorem steps_len {s : ByteArray} {old now lr : LogL} {er : Nat} {Rr : Bool} {k : Nat} {L : List RawL} {ok : Bool} (h : StepsIs s old now lr er Rr k L ok) : L.length ≤ 1048576 := by
  rcases h with ⟨_, rfl, _⟩ | ⟨_, _, ⟨_, rfl⟩ | ⟨_, ⟨_, rfl⟩ | ⟨_, rfl⟩⟩⟩ <;> simp
set_option maxHeartbeats 8000000 in
set_option maxRecDepth 100000 in
theorem lawSteps_any {aO aN : Option Addr} {gO gN offO offN capO capN : Nat} (s : ByteArray) (hs : s.size ≤ maxLen) (lO lN : LogL) (hlenO : lO.ents.length ≤ maxLen) (hszO : ∀ r ∈ lO.ents, smallEn maxLen r) (hlenN : lN.ents.length ≤ maxLen) (hszN : ∀ r ∈ lN.ents, smallEn maxLen r) (w : World) (hfO : EnAt w aO gO offO lO.ents) (hfN : EnAt w aN gN offN lN.ents) :
    Calls Try.prog 9 #[.string s, logV lO aO capO, logV lN aN capN] w fun e w' => e = .returned (.bool true) ∧ Below w.heap.size w w' := by
  unfold maxLen at hs
  have HFO : Hid (EnAt w aO gO offO lO.ents) := hfO
  have HFN : Hid (EnAt w aN gN offN lN.ents) := hfN
  have HSZO : Hid (∀ X (left : Nat), left ≤ 1048576 → EnAt X aO gO offO lO.ents → Calls Try.prog 19 #[.agg #[.int .i64 lO.start, .int .i64 lO.sterm, .slice aO lO.ents.length capO], .int .i64 (left : Int)] X fun e w' => ∃ x : Int, e = .returned (.int .i64 x) ∧ Left left (totEn lO.ents) x ∧ Below X.heap.size X w') := fun X left hl h => szLog_any lO hlenO hszO left hl X h
  have HSZN : Hid (∀ X (left : Nat), left ≤ 1048576 → EnAt X aN gN offN lN.ents → Calls Try.prog 19 #[.agg #[.int .i64 lN.start, .int .i64 lN.sterm, .slice aN lN.ents.length capN], .int .i64 (left : Int)] X fun e w' => ∃ x : Int, e = .returned (.int .i64 x) ∧ Left left (totEn lN.ents) x ∧ Below X.heap.size X w') := fun X left hl h => szLog_any lN hlenN hszN left hl X h
  clear hfO hfN hszO hszN hlenO hlenN
  unfold logV
  obtain ⟨W, hW⟩ : ∃ W, W = (w.alloc (Obj.cells #[.int .i64 lO.start, .int .i64 lO.sterm, .slice aO lO.ents.length capO] 41)).alloc (Obj.cells #[.int .i64 lN.start, .int .i64 lN.sterm, .slice aN lN.ents.length capN] 41) := ⟨_, rfl⟩
  have hs1 : (w.alloc (Obj.cells #[.int .i64 lO.start, .int .i64 lO.sterm, .slice aO lO.ents.length capO] 41)).heap.size = w.heap.size + 1 := by simp
  have LA : Hid (LawS w [(w.heap.size + 1, (Obj.cells #[.int .i64 lN.start, .int .i64 lN.sterm, .slice aN lN.ents.length capN] 41)), (w.heap.size, (Obj.cells #[.int .i64 lO.start, .int .i64 lO.sterm, .slice aO lO.ents.length capO] 41))] [] W) := by
    have h := ((LawS.start w).alloc (Obj.cells #[.int .i64 lO.start, .int .i64 lO.sterm, .slice aO lO.ents.length capO] 41)).alloc (Obj.cells #[.int .i64 lN.start, .int .i64 lN.sterm, .slice aN lN.ents.length capN] 41)
    rw [hs1, ← hW] at h
    exact h
  obtain ⟨bA, hbA⟩ : ∃ bA, bA = w.heap.size := ⟨_, rfl⟩
  obtain ⟨bB, hbB⟩ : ∃ bB, bB = w.heap.size + 1 := ⟨_, rfl⟩
  rw [← hbB, ← hbA] at LA
  by_cases hbig : 1048576 < s.size
  · have h1 : (1048576 : Int) < (s.size : Int) := by omega
    go_enter Try.func9, Try.ntmps9
    go_wp2
    go_ret
    exact ⟨rfl, by rw [← hW]; exact LA.out.below⟩
  have h1 : ¬ (1048576 : Int) < (s.size : Int) := by omega
  obtain ⟨p0, p1, p2⟩ := LA.out.three (List.Mem.tail _ (List.Mem.head _))
  rw [hW, hbA] at p0 p1 p2
  go_enter Try.func9, Try.ntmps9
  go_wp2_with fail
  rw [← hW, ← hbB, ← hbA]
  clear hW hbA hbB hs1 p0 p1 p2
  refine Calls.mono (HSZO.out W 1048576 (Nat.le_refl _) (HFO.out.kept LA.out.below)) ?_
  rintro e w1 ⟨x, rfl, hx, hb1⟩
  have LZ : Hid (LawS w [(bB, (Obj.cells #[.int .i64 lN.start, .int .i64 lN.sterm, .slice aN lN.ents.length capN] 41)), (bA, (Obj.cells #[.int .i64 lO.start, .int .i64 lO.sterm, .slice aO lO.ents.length capO] 41))] [] w1) := LA.out.step hb1
  clear LA hb1 HSZO
  rcases hx with ⟨hx1, hx2⟩ | ⟨hx1, hx2⟩
  case inr =>
    subst hx2
    go_wp2
    go_ret
    exact ⟨rfl, LZ.out.below⟩
  obtain ⟨Y, hY⟩ : ∃ Y : Nat, Y = 1048576 - totEn lO.ents := ⟨_, rfl⟩
  rw [← hY] at hx2
  subst hx2
  have hYb : Y ≤ 1048576 := by omega
  clear hY
  obtain ⟨hlO, hsO⟩ := totEn_small hx1
  have HDO : Hid (∀ e ∈ lO.ents, e.data.size ≤ 1048576) := hsO
  clear hx1 hsO
  obtain ⟨p0, p1, p2⟩ := LZ.out.three (List.Mem.head _)
  go_wp2_with fail
  clear p0 p1 p2
  refine Calls.mono (HSZN.out w1 Y hYb (HFN.out.kept LZ.out.below)) ?_
  rintro e w2 ⟨x, rfl, hx, hb2⟩
  have L0 : Hid (LawS w [(bB, (Obj.cells #[.int .i64 lN.start, .int .i64 lN.sterm, .slice aN lN.ents.length capN] 41)), (bA, (Obj.cells #[.int .i64 lO.start, .int .i64 lO.sterm, .slice aO lO.ents.length capO] 41))] [] w2) := LZ.out.step hb2
  clear LZ hb2 HSZN
  rcases hx with ⟨hx1, hx2⟩ | ⟨hx1, hx2⟩
  case inr =>
    subst hx2
    go_wp2
    go_ret
    exact ⟨rfl, L0.out.below⟩
  case inl =>
    obtain ⟨Z, hZ⟩ : ∃ Z : Nat, Z = Y - totEn lN.ents := ⟨_, rfl⟩
    rw [← hZ] at hx2
    subst hx2
    clear hZ
    obtain ⟨hlN, hsN⟩ := totEn_small (Nat.le_trans hx1 hYb)
    have HDN : Hid (∀ e ∈ lN.ents, e.data.size ≤ 1048576) := hsN
    clear hx1 hsN
    have HTOO : Hid (∀ X, EnAt X aO gO offO lO.ents → Calls Try.prog 21 #[.agg #[.int .i64 lO.start, .int .i64 lO.sterm, .slice aO lO.ents.length capO]] X fun e w' => ∃ g1 : Nat, e = .returned (.agg #[.int .i64 lO.start, .int .i64 lO.sterm, .slice (some ⟨g1, 0, none⟩) lO.ents.length lO.ents.length]) ∧ w'.ownsRow X.heap.size 38 3 (.slice (some ⟨g1, 0, none⟩) lO.ents.length lO.ents.length) lO.ents.length (cellsEn lO.ents) ∧ Below X.heap.size X w') := fun X h => toLog_any lO hlO X h
    have HEQO : Hid (∀ (X : World) (g1 g2 : Nat), EnAt X (some ⟨g1, 0, none⟩) g1 0 lO.ents → EnAt X (some ⟨g2, 0, none⟩) g2 0 lO.ents → Calls Try.prog 22 #[.agg #[.int .i64 lO.start, .int .i64 lO.sterm, .slice (some ⟨g1, 0, none⟩) lO.ents.length lO.ents.length], .agg #[.int .i64 lO.start, .int .i64 lO.sterm, .slice (some ⟨g2, 0, none⟩) lO.ents.length lO.ents.length]] X fun e w' => e = .returned (.bool true) ∧ Below X.heap.size X w') := fun X g1 g2 h1 h2 => eqLog_same lO hlO X h1 h2
    have HMKO : Hid (∀ (X : World) (B g1 : Nat), B ≤ X.heap.size → X.ownsRow B 38 3 (.slice (some ⟨g1, 0, none⟩) lO.ents.length lO.ents.length) lO.ents.length (cellsEn lO.ents) → ∀ k : Nat, 0 < k → k ≤ 100000000 → Calls Try.prog 29 #[.agg #[.int .i64 lO.start, .int .i64 lO.sterm, .slice (some ⟨g1, 0, none⟩) lO.ents.length lO.ents.length], .int .i64 (k : Int)] X fun e w' => e = .returned (.int .i64 ((k + 3 * lO.ents.length : Nat) : Int)) ∧ w'.ownsRow B 38 3 (.slice (some ⟨g1, 0, none⟩) lO.ents.length lO.ents.length) lO.ents.length (cellsEn (marksEn k lO.ents.length)) ∧ X.grownBy w' (Value.slice (some ⟨g1, 0, none⟩) lO.ents.length lO.ents.length).ownBlock) := fun X B g1 hB h k h0 hk => markLog_own lO hlO k h0 hk X hB h
    have HTON : Hid (∀ X, EnAt X aN gN offN lN.ents → Calls Try.prog 21 #[.agg #[.int .i64 lN.start, .int .i64 lN.sterm, .slice aN lN.ents.length capN]] X fun e w' => ∃ g1 : Nat, e = .returned (.agg #[.int .i64 lN.start, .int .i64 lN.sterm, .slice (some ⟨g1, 0, none⟩) lN.ents.length lN.ents.length]) ∧ w'.ownsRow X.heap.size 38 3 (.slice (some ⟨g1, 0, none⟩) lN.ents.length lN.ents.length) lN.ents.length (cellsEn lN.ents) ∧ Below X.heap.size X w') := fun X h => toLog_any lN hlN X h
    have HEQN : Hid (∀ (X : World) (g1 g2 : Nat), EnAt X (some ⟨g1, 0, none⟩) g1 0 lN.ents → EnAt X (some ⟨g2, 0, none⟩) g2 0 lN.ents → Calls Try.prog 22 #[.agg #[.int .i64 lN.start, .int .i64 lN.sterm, .slice (some ⟨g1, 0, none⟩) lN.ents.length lN.ents.length], .agg #[.int .i64 lN.start, .int .i64 lN.sterm, .slice (some ⟨g2, 0, none⟩) lN.ents.length lN.ents.length]] X fun e w' => e = .returned (.bool true) ∧ Below X.heap.size X w') := fun X g1 g2 h1 h2 => eqLog_same lN hlN X h1 h2
    have HMKN : Hid (∀ (X : World) (B g1 : Nat), B ≤ X.heap.size → X.ownsRow B 38 3 (.slice (some ⟨g1, 0, none⟩) lN.ents.length lN.ents.length) lN.ents.length (cellsEn lN.ents) → ∀ k : Nat, 0 < k → k ≤ 100000000 → Calls Try.prog 29 #[.agg #[.int .i64 lN.start, .int .i64 lN.sterm, .slice (some ⟨g1, 0, none⟩) lN.ents.length lN.ents.length], .int .i64 (k : Int)] X fun e w' => e = .returned (.int .i64 ((k + 3 * lN.ents.length : Nat) : Int)) ∧ w'.ownsRow B 38 3 (.slice (some ⟨g1, 0, none⟩) lN.ents.length lN.ents.length) lN.ents.length (cellsEn (marksEn k lN.ents.length)) ∧ X.grownBy w' (Value.slice (some ⟨g1, 0, none⟩) lN.ents.length lN.ents.length).ownBlock) := fun X B g1 hB h k h0 hk => markLog_own lN hlN k h0 hk X hB h
    obtain ⟨ps, z, hu1, hu2, hpl, hps⟩ := un_of s (by omega)
    obtain ⟨lr, er, Rr, hR⟩ := rl_ex ps z
    have hrl := rl_len hR
    have hro := rl_ok hR
    obtain ⟨kk, hkk⟩ := sameN_ex lO.ents lN.ents
    obtain ⟨Ls, ok, hst⟩ := steps_ex s lO lN lr er Rr kk
    have hLs : Ls.length ≤ 1048576 := steps_len hst
    have HSP : Hid (∀ (X : World) (g1 g2 : Nat), EnAt X (some ⟨g1, 0, none⟩) g1 0 lO.ents → EnAt X (some ⟨g2, 0, none⟩) g2 0 lN.ents → Calls Try.prog 31 #[.string s, .agg #[.int .i64 lO.start, .int .i64 lO.sterm, .slice (some ⟨g1, 0, none⟩) lO.ents.length lO.ents.length], .agg #[.int .i64 lN.start, .int .i64 lN.sterm, .slice (some ⟨g2, 0, none⟩) lN.ents.length lN.ents.length]] X fun en w' => ∃ v, en = .returned (.tuple #[v, .bool ok]) ∧ w'.ownsRow X.heap.size 85 4 v Ls.length (cellsRw Ls) ∧ Below X.heap.size X w') := fun X g1 g2 h1 h2 => specSteps_is s (by omega) lO lN lr er Rr (fun W => specRead12_is s hu1 hpl hps hR W) hro hlO hrl hlN HDO.out HDN.out kk hkk Ls ok hst X h1 h2
    have HIM : Hid (∀ (X : World) (g1 g2 : Nat), EnAt X (some ⟨g1, 0, none⟩) g1 0 lO.ents → EnAt X (some ⟨g2, 0, none⟩) g2 0 lN.ents → Calls Try.prog 32 #[.string s, .agg #[.int .i64 lO.start, .int .i64 lO.sterm, .slice (some ⟨g1, 0, none⟩) lO.ents.length lO.ents.length], .agg #[.int .i64 lN.start, .int .i64 lN.sterm, .slice (some ⟨g2, 0, none⟩) lN.ents.length lN.ents.length]] X fun en w' => ∃ v, en = .returned (.tuple #[v, .bool ok]) ∧ w'.ownsRow X.heap.size 85 4 v Ls.length (cellsRw Ls) ∧ Below X.heap.size X w') := fun X g1 g2 h1 h2 => implSteps_is s (by omega) lO lN lr er Rr (fun W => implRead12_is s hu2 hpl hps hR W) hlO hrl hlN (Nat.le_refl _) HDN.out kk hkk Ls ok hst X h1 h2
    have HEQR : Hid (∀ (X : World) (a1 a2 : Option Addr) (g1 g2 o1 o2 c1 c2 : Nat), RwAt X a1 g1 o1 Ls → RwAt X a2 g2 o2 Ls → Calls Try.prog 33 #[.slice a1 Ls.length c1, .slice a2 Ls.length c2] X fun e w' => e = .returned (.bool true) ∧ Below X.heap.size X w') := fun X a1 a2 g1 g2 o1 o2 c1 c2 h1 h2 => eqRwS_same Ls hLs X h1 h2
    have HMR : Hid (∀ (X : World) (B : Nat) (a1 : Option Addr) (c1 : Nat), X.ownsRow B 85 4 (.slice a1 Ls.length c1) Ls.length (cellsRw Ls) → Calls Try.prog 34 #[.slice a1 Ls.length c1, .int .i64 ((1 : Nat) : Int)] X fun e w' => e = .returned (.int .i64 ((1 + 4 * Ls.length : Nat) : Int)) ∧ w'.ownsRow B 85 4 (.slice a1 Ls.length c1) Ls.length (cellsRw (marksRw 1 Ls.length)) ∧ X.grownBy w' (Value.slice a1 Ls.length c1).ownBlock) := fun X B a1 c1 h => markRwS_own Ls hLs 1 (by omega) (by omega) X h
    have HHR : Hid (∀ (X : World) (B : Nat) (a1 : Option Addr) (c1 : Nat), X.ownsRow B 85 4 (.slice a1 Ls.length c1) Ls.length (cellsRw (marksRw 1 Ls.length)) → Calls Try.prog 35 #[.slice a1 Ls.length c1, .int .i64 ((1 : Nat) : Int)] X fun e w' => e = .returned (.int .i64 ((1 + 4 * Ls.length : Nat) : Int)) ∧ Below X.heap.size X w') := fun X B a1 c1 h => heldRwS_own hLs 1 (by omega) (by omega) X h
    have hn2 : (!(ok == ok)) = false := by simp
    have hlb : (1 : Nat) + 3 * lO.ents.length ≤ 100000000 := by omega
    clear hst hR hu1 hu2 hpl hps hrl hro hkk HDO HDN hLs
    obtain ⟨p0, p1, p2⟩ := L0.out.three (List.Mem.tail _ (List.Mem.head _))
    obtain ⟨q0, q1, q2⟩ := L0.out.three (List.Mem.head _)
    have HX : Hid (∀ w', Below w2.heap.size w2 w' → (w'.cell? ⟨bA, 0, none⟩ = some (.int .i64 lO.start) ∧ w'.cell? ⟨bA, 1, none⟩ = some (.int .i64 lO.sterm) ∧ w'.cell? ⟨bA, 2, none⟩ = some (.slice aO lO.ents.length capO)) ∧ (w'.cell? ⟨bB, 0, none⟩ = some (.int .i64 lN.start) ∧ w'.cell? ⟨bB, 1, none⟩ = some (.int .i64 lN.sterm) ∧ w'.cell? ⟨bB, 2, none⟩ = some (.slice aN lN.ents.length capN))) := fun w' h => ⟨(L0.out.step h).three (List.Mem.tail _ (List.Mem.head _)), (L0.out.step h).three (List.Mem.head _)⟩
    have HFA : Hid (EnAt w2.drew aO gO offO lO.ents) := HFO.out.kept L0.out.below.drew
    have HFB : Hid (∀ X, Below w2.drew.heap.size w2.drew X → EnAt X aN gN offN lN.ents) := fun X h => (HFN.out.kept L0.out.below.drew).kept h
    go_wp2_with fail
    go_region_held3 (fun w' => (w'.cell? ⟨bA, 0, none⟩ = some (.int .i64 lO.start) ∧ w'.cell? ⟨bA, 1, none⟩ = some (.int .i64 lO.sterm) ∧ w'.cell? ⟨bA, 2, none⟩ = some (.slice aO lO.ents.length capO)) ∧ (w'.cell? ⟨bB, 0, none⟩ = some (.int .i64 lN.start) ∧ w'.cell? ⟨bB, 1, none⟩ = some (.int .i64 lN.sterm) ∧ w'.cell? ⟨bB, 2, none⟩ = some (.slice aN lN.ents.length capN))) (first | go_keep | exact HX.out _ (below_undrew hb7) | exact HX.out _ ((below_undrew hb7).trans (hb8.mono hb7.size)) | exact HX.out _ (((below_undrew hb7).trans (hb8.mono hb7.size)).trans (hb9.mono ((below_undrew hb7).trans (hb8.mono hb7.size)).size)))
      (first | (go_at_call 21; (with_reducible refine Calls.mono (HTOO.out _ HFA.out) ?_); rintro e w7 ⟨g7, rfl, hown7, hb7⟩) | (go_at_call 21; (with_reducible refine Calls.mono (HTON.out _ (HFB.out _ hb7)) ?_); rintro e w8 ⟨g8, rfl, hown8, hb8⟩) | (go_at_call 31; refine Calls.mono (HSP.out _ _ _ (cellsEn_own rfl (own_kept hown7 hb8)) (cellsEn_own rfl hown8)) ?_; rintro e w9 ⟨v9, rfl, hown9, hb9⟩; obtain ⟨aW, cW, hv_⟩ := own_slice hown9; subst hv_) | fail)
    have L1 : Hid (LawS w [(bB, (Obj.cells #[.int .i64 lN.start, .int .i64 lN.sterm, .slice aN lN.ents.length capN] 41)), (bA, (Obj.cells #[.int .i64 lO.start, .int .i64 lO.sterm, .slice aO lO.ents.length capO] 41))] [⟨.slice (some ⟨g7, 0, none⟩) lO.ents.length lO.ents.length, 38, 3, lO.ents.length, cellsEn lO.ents⟩] w7) := L0.out.drew.call hb7 hown7
    have L2 : Hid (LawS w [(bB, (Obj.cells #[.int .i64 lN.start, .int .i64 lN.sterm, .slice aN lN.ents.length capN] 41)), (bA, (Obj.cells #[.int .i64 lO.start, .int .i64 lO.sterm, .slice aO lO.ents.length capO] 41))] [⟨.slice (some ⟨g8, 0, none⟩) lN.ents.length lN.ents.length, 38, 3, lN.ents.length, cellsEn lN.ents⟩, ⟨.slice (some ⟨g7, 0, none⟩) lO.ents.length lO.ents.length, 38, 3, lO.ents.length, cellsEn lO.ents⟩] w8) := L1.out.call hb8 hown8
    have L3 : Hid (LawS w [(bB, (Obj.cells #[.int .i64 lN.start, .int .i64 lN.sterm, .slice aN lN.ents.length capN] 41)), (bA, (Obj.cells #[.int .i64 lO.start, .int .i64 lO.sterm, .slice aO lO.ents.length capO] 41))] [⟨.slice aW Ls.length cW, 85, 4, Ls.length, cellsRw Ls⟩, ⟨.slice (some ⟨g8, 0, none⟩) lN.ents.length lN.ents.length, 38, 3, lN.ents.length, cellsEn lN.ents⟩, ⟨.slice (some ⟨g7, 0, none⟩) lO.ents.length lO.ents.length, 38, 3, lO.ents.length, cellsEn lO.ents⟩] w9) := L2.out.call hb9 hown9
    clear L0 L1 L2 hown7 hown8 hown9 hb7 hb8 hb9 p0 p1 p2 q0 q1 q2 HX HFA HFB
    obtain ⟨wz1, hwz1⟩ : ∃ wz1, wz1 = w9 := ⟨_, rfl⟩
    rw [← hwz1] at L3 ⊢
    clear hwz1
    obtain ⟨gS, hgS⟩ : ∃ gS, gS = g7 := ⟨_, rfl⟩
    rw [← hgS] at L3
    clear hgS
    obtain ⟨gT, hgT⟩ : ∃ gT, gT = g8 := ⟨_, rfl⟩
    rw [← hgT] at L3
    clear hgT
    obtain ⟨d00, d01, d02⟩ := L3.out.three (List.Mem.tail _ (List.Mem.head _))
    go_wp2_with fail
    clear d00 d01 d02
    refine Calls.mono (HTOO.out _ (HFO.out.kept L3.out.below)) ?_
    rintro en w2_ ⟨gX, rfl, ho, hb⟩
    have L4 : Hid (LawS w [(bB, (Obj.cells #[.int .i64 lN.start, .int .i64 lN.sterm, .slice aN lN.ents.length capN] 41)), (bA, (Obj.cells #[.int .i64 lO.start, .int .i64 lO.sterm, .slice aO lO.ents.length capO] 41))] [⟨.slice (some ⟨gX, 0, none⟩) lO.ents.length lO.ents.length, 38, 3, lO.ents.length, cellsEn lO.ents⟩, ⟨.slice aW Ls.length cW, 85, 4, Ls.length, cellsRw Ls⟩, ⟨.slice (some ⟨gT, 0, none⟩) lN.ents.length lN.ents.length, 38, 3, lN.ents.length, cellsEn lN.ents⟩, ⟨.slice (some ⟨gS, 0, none⟩) lO.ents.length lO.ents.length, 38, 3, lO.ents.length, cellsEn lO.ents⟩] w2_) := L3.out.call hb ho
    clear hb ho L3
    obtain ⟨W3, hW3⟩ : ∃ W3, W3 = w2_.alloc (Obj.cells #[.int .i64 lO.start, .int .i64 lO.sterm, .slice (some ⟨gX, 0, none⟩) lO.ents.length lO.ents.length] 26) := ⟨_, rfl⟩
    have L5 : Hid (LawS w [(w2_.heap.size, (Obj.cells #[.int .i64 lO.start, .int .i64 lO.sterm, .slice (some ⟨gX, 0, none⟩) lO.ents.length lO.ents.length] 26)), (bB, (Obj.cells #[.int .i64 lN.start, .int .i64 lN.sterm, .slice aN lN.ents.length capN] 41)), (bA, (Obj.cells #[.int .i64 lO.start, .int .i64 lO.sterm, .slice aO lO.ents.length capO] 41))] [⟨.slice (some ⟨gX, 0, none⟩) lO.ents.length lO.ents.length, 38, 3, lO.ents.length, cellsEn lO.ents⟩, ⟨.slice aW Ls.length cW, 85, 4, Ls.length, cellsRw Ls⟩, ⟨.slice (some ⟨gT, 0, none⟩) lN.ents.length lN.ents.length, 38, 3, lN.ents.length, cellsEn lN.ents⟩, ⟨.slice (some ⟨gS, 0, none⟩) lO.ents.length lO.ents.length, 38, 3, lO.ents.length, cellsEn lO.ents⟩] W3) := by rw [hW3]; exact L4.out.alloc _
    obtain ⟨d00, d01, d02⟩ := L5.out.three (List.Mem.tail _ (List.Mem.head _))
    rw [hW3] at d00 d01 d02
    go_wp2_with fail
    rw [← hW3]
    clear hW3 L4 d00 d01 d02
    obtain ⟨bX, hbX⟩ : ∃ bX, bX = w2_.heap.size := ⟨_, rfl⟩
    rw [← hbX] at L5 ⊢
    clear hbX
    refine Calls.mono (HTON.out _ (HFN.out.kept L5.out.below)) ?_
    rintro en w4_ ⟨gV, rfl, ho, hb⟩
    have L6 : Hid (LawS w [(bX, (Obj.cells #[.int .i64 lO.start, .int .i64 lO.sterm, .slice (some ⟨gX, 0, none⟩) lO.ents.length lO.ents.length] 26)), (bB, (Obj.cells #[.int .i64 lN.start, .int .i64 lN.sterm, .slice aN lN.ents.length capN] 41)), (bA, (Obj.cells #[.int .i64 lO.start, .int .i64 lO.sterm, .slice aO lO.ents.length capO] 41))] [⟨.slice (some ⟨gV, 0, none⟩) lN.ents.length lN.ents.length, 38, 3, lN.ents.length, cellsEn lN.ents⟩, ⟨.slice (some ⟨gX, 0, none⟩) lO.ents.length lO.ents.length, 38, 3, lO.ents.length, cellsEn lO.ents⟩, ⟨.slice aW Ls.length cW, 85, 4, Ls.length, cellsRw Ls⟩, ⟨.slice (some ⟨gT, 0, none⟩) lN.ents.length lN.ents.length, 38, 3, lN.ents.length, cellsEn lN.ents⟩, ⟨.slice (some ⟨gS, 0, none⟩) lO.ents.length lO.ents.length, 38, 3, lO.ents.length, cellsEn lO.ents⟩] w4_) := L5.out.call hb ho
    clear hb ho L5
    obtain ⟨W5, hW5⟩ : ∃ W5, W5 = w4_.alloc (Obj.cells #[.int .i64 lN.start, .int .i64 lN.sterm, .slice (some ⟨gV, 0, none⟩) lN.ents.length lN.ents.length] 26) := ⟨_, rfl⟩
    have L7 : Hid (LawS w [(w4_.heap.size, (Obj.cells #[.int .i64 lN.start, .int .i64 lN.sterm, .slice (some ⟨gV, 0, none⟩) lN.ents.length lN.ents.length] 26)), (bX, (Obj.cells #[.int .i64 lO.start, .int .i64 lO.sterm, .slice (some ⟨gX, 0, none⟩) lO.ents.length lO.ents.length] 26)), (bB, (Obj.cells #[.int .i64 lN.start, .int .i64 lN.sterm, .slice aN lN.ents.length capN] 41)), (bA, (Obj.cells #[.int .i64 lO.start, .int .i64 lO.sterm, .slice aO lO.ents.length capO] 41))] [⟨.slice (some ⟨gV, 0, none⟩) lN.ents.length lN.ents.length, 38, 3, lN.ents.length, cellsEn lN.ents⟩, ⟨.slice (some ⟨gX, 0, none⟩) lO.ents.length lO.ents.length, 38, 3, lO.ents.length, cellsEn lO.ents⟩, ⟨.slice aW Ls.length cW, 85, 4, Ls.length, cellsRw Ls⟩, ⟨.slice (some ⟨gT, 0, none⟩) lN.ents.length lN.ents.length, 38, 3, lN.ents.length, cellsEn lN.ents⟩, ⟨.slice (some ⟨gS, 0, none⟩) lO.ents.length lO.ents.length, 38, 3, lO.ents.length, cellsEn lO.ents⟩] W5) := by rw [hW5]; exact L6.out.alloc _
    obtain ⟨d00, d01, d02⟩ := L7.out.three (List.Mem.tail _ (List.Mem.head _))
    obtain ⟨d10, d11, d12⟩ := L7.out.three (List.Mem.head _)
    rw [hW5] at d00 d01 d02 d10 d11 d12
    go_wp2_with fail
    rw [← hW5]
    clear hW5 L6 d00 d01 d02 d10 d11 d12
    obtain ⟨bV, hbV⟩ : ∃ bV, bV = w4_.heap.size := ⟨_, rfl⟩
    rw [← hbV] at L7 ⊢
    clear hbV
    refine Calls.mono (HIM.out _ _ _ (cellsEn_own rfl (L7.out.row 1 rfl)) (cellsEn_own rfl (L7.out.row 0 rfl))) ?_
    rintro en w6_ ⟨vG, rfl, ho, hb⟩
    obtain ⟨aG, cG, hv_⟩ := own_slice ho
    subst hv_
    have L8 : Hid (LawS w [(bV, (Obj.cells #[.int .i64 lN.start, .int .i64 lN.sterm, .slice (some ⟨gV, 0, none⟩) lN.ents.length lN.ents.length] 26)), (bX, (Obj.cells #[.int .i64 lO.start, .int .i64 lO.sterm, .slice (some ⟨gX, 0, none⟩) lO.ents.length lO.ents.length] 26)), (bB, (Obj.cells #[.int .i64 lN.start, .int .i64 lN.sterm, .slice aN lN.ents.length capN] 41)), (bA, (Obj.cells #[.int .i64 lO.start, .int .i64 lO.sterm, .slice aO lO.ents.length capO] 41))] [⟨.slice aG Ls.length cG, 85, 4, Ls.length, cellsRw Ls⟩, ⟨.slice (some ⟨gV, 0, none⟩) lN.ents.length lN.ents.length, 38, 3, lN.ents.length, cellsEn lN.ents⟩, ⟨.slice (some ⟨gX, 0, none⟩) lO.ents.length lO.ents.length, 38, 3, lO.ents.length, cellsEn lO.ents⟩, ⟨.slice aW Ls.length cW, 85, 4, Ls.length, cellsRw Ls⟩, ⟨.slice (some ⟨gT, 0, none⟩) lN.ents.length lN.ents.length, 38, 3, lN.ents.length, cellsEn lN.ents⟩, ⟨.slice (some ⟨gS, 0, none⟩) lO.ents.length lO.ents.length, 38, 3, lO.ents.length, cellsEn lO.ents⟩] w6_) := L7.out.call hb ho
    clear hb ho L7
    go_wp2_with fail
    obtain ⟨_, ghA1, _, ehA1, hA1⟩ := cellsRw_slice (L8.out.row 0 rfl)
    cases ehA1
    obtain ⟨_, ghA2, _, ehA2, hA2⟩ := cellsRw_slice (L8.out.row 3 rfl)
    cases ehA2
    refine Calls.mono (HEQR.out _ _ _ _ _ _ _ _ _ hA1 hA2) ?_
    rintro en w7_ ⟨rfl, hb⟩
    have L9 : Hid (LawS w [(bV, (Obj.cells #[.int .i64 lN.start, .int .i64 lN.sterm, .slice (some ⟨gV, 0, none⟩) lN.ents.length lN.ents.length] 26)), (bX, (Obj.cells #[.int .i64 lO.start, .int .i64 lO.sterm, .slice (some ⟨gX, 0, none⟩) lO.ents.length lO.ents.length] 26)), (bB, (Obj.cells #[.int .i64 lN.start, .int .i64 lN.sterm, .slice aN lN.ents.length capN] 41)), (bA, (Obj.cells #[.int .i64 lO.start, .int .i64 lO.sterm, .slice aO lO.ents.length capO] 41))] [⟨.slice aG Ls.length cG, 85, 4, Ls.length, cellsRw Ls⟩, ⟨.slice (some ⟨gV, 0, none⟩) lN.ents.length lN.ents.length, 38, 3, lN.ents.length, cellsEn lN.ents⟩, ⟨.slice (some ⟨gX, 0, none⟩) lO.ents.length lO.ents.length, 38, 3, lO.ents.length, cellsEn lO.ents⟩, ⟨.slice aW Ls.length cW, 85, 4, Ls.length, cellsRw Ls⟩, ⟨.slice (some ⟨gT, 0, none⟩) lN.ents.length lN.ents.length, 38, 3, lN.ents.length, cellsEn lN.ents⟩, ⟨.slice (some ⟨gS, 0, none⟩) lO.ents.length lO.ents.length, 38, 3, lO.ents.length, cellsEn lO.ents⟩] w7_) := L8.out.step hb
    clear hb L8
    clear hA1 hA2
    obtain ⟨p0, p1, p2⟩ := L9.out.three (List.Mem.tail _ (List.Mem.head _))
    obtain ⟨q0, q1, q2⟩ := L9.out.three (List.Mem.tail _ (List.Mem.tail _ (List.Mem.tail _ (List.Mem.head _))))
    have HX : Hid (∀ w', Below w7_.heap.size w7_ w' → (w'.cell? ⟨bX, 0, none⟩ = some (.int .i64 lO.start) ∧ w'.cell? ⟨bX, 1, none⟩ = some (.int .i64 lO.sterm) ∧ w'.cell? ⟨bX, 2, none⟩ = some (.slice (some ⟨gX, 0, none⟩) lO.ents.length lO.ents.length)) ∧ (w'.cell? ⟨bA, 0, none⟩ = some (.int .i64 lO.start) ∧ w'.cell? ⟨bA, 1, none⟩ = some (.int .i64 lO.sterm) ∧ w'.cell? ⟨bA, 2, none⟩ = some (.slice aO lO.ents.length capO))) := fun w' h => ⟨(L9.out.step h).three (List.Mem.tail _ (List.Mem.head _)), (L9.out.step h).three (List.Mem.tail _ (List.Mem.tail _ (List.Mem.tail _ (List.Mem.head _))))⟩
    go_wp2_with fail
    go_region_held3 (fun w' => (w'.cell? ⟨bX, 0, none⟩ = some (.int .i64 lO.start) ∧ w'.cell? ⟨bX, 1, none⟩ = some (.int .i64 lO.sterm) ∧ w'.cell? ⟨bX, 2, none⟩ = some (.slice (some ⟨gX, 0, none⟩) lO.ents.length lO.ents.length)) ∧ (w'.cell? ⟨bA, 0, none⟩ = some (.int .i64 lO.start) ∧ w'.cell? ⟨bA, 1, none⟩ = some (.int .i64 lO.sterm) ∧ w'.cell? ⟨bA, 2, none⟩ = some (.slice aO lO.ents.length capO))) (first | go_keep | exact HX.out _ (below_undrew hb7) | exact HX.out _ ((below_undrew hb7).trans (hb8.mono hb7.size)))
      (first | (go_at_call 21; refine Calls.mono (HTOO.out _ (HFO.out.kept L9.out.below.drew)) ?_; rintro e w7 ⟨g7, rfl, hown7, hb7⟩) | (go_at_call 22; refine Calls.mono (HEQO.out _ _ _ (EnAt.kept (w := w7_.drew) (cellsEn_own rfl (L9.out.row 2 rfl)) hb7) (cellsEn_own rfl hown7)) ?_; rintro e w8 ⟨rfl, hb8⟩) | fail)
    have L10 : Hid (LawS w [(bV, (Obj.cells #[.int .i64 lN.start, .int .i64 lN.sterm, .slice (some ⟨gV, 0, none⟩) lN.ents.length lN.ents.length] 26)), (bX, (Obj.cells #[.int .i64 lO.start, .int .i64 lO.sterm, .slice (some ⟨gX, 0, none⟩) lO.ents.length lO.ents.length] 26)), (bB, (Obj.cells #[.int .i64 lN.start, .int .i64 lN.sterm, .slice aN lN.ents.length capN] 41)), (bA, (Obj.cells #[.int .i64 lO.start, .int .i64 lO.sterm, .slice aO lO.ents.length capO] 41))] [⟨.slice aG Ls.length cG, 85, 4, Ls.length, cellsRw Ls⟩, ⟨.slice (some ⟨gV, 0, none⟩) lN.ents.length lN.ents.length, 38, 3, lN.ents.length, cellsEn lN.ents⟩, ⟨.slice (some ⟨gX, 0, none⟩) lO.ents.length lO.ents.length, 38, 3, lO.ents.length, cellsEn lO.ents⟩, ⟨.slice aW Ls.length cW, 85, 4, Ls.length, cellsRw Ls⟩, ⟨.slice (some ⟨gT, 0, none⟩) lN.ents.length lN.ents.length, 38, 3, lN.ents.length, cellsEn lN.ents⟩, ⟨.slice (some ⟨gS, 0, none⟩) lO.ents.length lO.ents.length, 38, 3, lO.ents.length, cellsEn lO.ents⟩] w8) := L9.out.step ((below_undrew hb7).trans (hb8.mono hb7.size))
    clear L9 hown7 hb7 hb8 p0 p1 p2 q0 q1 q2 HX
    obtain ⟨wz8, hwz8⟩ : ∃ wz8, wz8 = w8 := ⟨_, rfl⟩
    rw [← hwz8] at L10 ⊢
    clear hwz8
    obtain ⟨p0, p1, p2⟩ := L10.out.three (List.Mem.head _)
    obtain ⟨q0, q1, q2⟩ := L10.out.three (List.Mem.tail _ (List.Mem.tail _ (List.Mem.head _)))
    have HX : Hid (∀ w', Below wz8.heap.size wz8 w' → (w'.cell? ⟨bV, 0, none⟩ = some (.int .i64 lN.start) ∧ w'.cell? ⟨bV, 1, none⟩ = some (.int .i64 lN.sterm) ∧ w'.cell? ⟨bV, 2, none⟩ = some (.slice (some ⟨gV, 0, none⟩) lN.ents.length lN.ents.length)) ∧ (w'.cell? ⟨bB, 0, none⟩ = some (.int .i64 lN.start) ∧ w'.cell? ⟨bB, 1, none⟩ = some (.int .i64 lN.sterm) ∧ w'.cell? ⟨bB, 2, none⟩ = some (.slice aN lN.ents.length capN))) := fun w' h => ⟨(L10.out.step h).three (List.Mem.head _), (L10.out.step h).three (List.Mem.tail _ (List.Mem.tail _ (List.Mem.head _)))⟩
    go_wp2_with fail
    go_region_held3 (fun w' => (w'.cell? ⟨bV, 0, none⟩ = some (.int .i64 lN.start) ∧ w'.cell? ⟨bV, 1, none⟩ = some (.int .i64 lN.sterm) ∧ w'.cell? ⟨bV, 2, none⟩ = some (.slice (some ⟨gV, 0, none⟩) lN.ents.length lN.ents.length)) ∧ (w'.cell? ⟨bB, 0, none⟩ = some (.int .i64 lN.start) ∧ w'.cell? ⟨bB, 1, none⟩ = some (.int .i64 lN.sterm) ∧ w'.cell? ⟨bB, 2, none⟩ = some (.slice aN lN.ents.length capN))) (first | go_keep | exact HX.out _ (below_undrew hb7) | exact HX.out _ ((below_undrew hb7).trans (hb8.mono hb7.size)))
      (first | (go_at_call 21; refine Calls.mono (HTON.out _ (HFN.out.kept L10.out.below.drew)) ?_; rintro e w7 ⟨g7, rfl, hown7, hb7⟩) | (go_at_call 22; refine Calls.mono (HEQN.out _ _ _ (EnAt.kept (w := wz8.drew) (cellsEn_own rfl (L10.out.row 1 rfl)) hb7) (cellsEn_own rfl hown7)) ?_; rintro e w8 ⟨rfl, hb8⟩) | fail)
    have L11 : Hid (LawS w [(bV, (Obj.cells #[.int .i64 lN.start, .int .i64 lN.sterm, .slice (some ⟨gV, 0, none⟩) lN.ents.length lN.ents.length] 26)), (bX, (Obj.cells #[.int .i64 lO.start, .int .i64 lO.sterm, .slice (some ⟨gX, 0, none⟩) lO.ents.length lO.ents.length] 26)), (bB, (Obj.cells #[.int .i64 lN.start, .int .i64 lN.sterm, .slice aN lN.ents.length capN] 41)), (bA, (Obj.cells #[.int .i64 lO.start, .int .i64 lO.sterm, .slice aO lO.ents.length capO] 41))] [⟨.slice aG Ls.length cG, 85, 4, Ls.length, cellsRw Ls⟩, ⟨.slice (some ⟨gV, 0, none⟩) lN.ents.length lN.ents.length, 38, 3, lN.ents.length, cellsEn lN.ents⟩, ⟨.slice (some ⟨gX, 0, none⟩) lO.ents.length lO.ents.length, 38, 3, lO.ents.length, cellsEn lO.ents⟩, ⟨.slice aW Ls.length cW, 85, 4, Ls.length, cellsRw Ls⟩, ⟨.slice (some ⟨gT, 0, none⟩) lN.ents.length lN.ents.length, 38, 3, lN.ents.length, cellsEn lN.ents⟩, ⟨.slice (some ⟨gS, 0, none⟩) lO.ents.length lO.ents.length, 38, 3, lO.ents.length, cellsEn lO.ents⟩] w8) := L10.out.step ((below_undrew hb7).trans (hb8.mono hb7.size))
    clear L10 hown7 hb7 hb8 p0 p1 p2 q0 q1 q2 HX
    obtain ⟨wz9, hwz9⟩ : ∃ wz9, wz9 = w8 := ⟨_, rfl⟩
    rw [← hwz9] at L11 ⊢
    clear hwz9
    obtain ⟨d00, d01, d02⟩ := L11.out.three (List.Mem.tail _ (List.Mem.head _))
    go_wp2_with fail
    clear d00 d01 d02
    refine Calls.mono (HMKO.out _ _ _ L11.out.below.size (L11.out.row 2 rfl) 1 (by omega) (by omega)) ?_
    rintro en w10_ ⟨rfl, hown, hg⟩
    have L12 : Hid (LawS w [(bV, (Obj.cells #[.int .i64 lN.start, .int .i64 lN.sterm, .slice (some ⟨gV, 0, none⟩) lN.ents.length lN.ents.length] 26)), (bX, (Obj.cells #[.int .i64 lO.start, .int .i64 lO.sterm, .slice (some ⟨gX, 0, none⟩) lO.ents.length lO.ents.length] 26)), (bB, (Obj.cells #[.int .i64 lN.start, .int .i64 lN.sterm, .slice aN lN.ents.length capN] 41)), (bA, (Obj.cells #[.int .i64 lO.start, .int .i64 lO.sterm, .slice aO lO.ents.length capO] 41))] [⟨.slice aG Ls.length cG, 85, 4, Ls.length, cellsRw Ls⟩, ⟨.slice (some ⟨gV, 0, none⟩) lN.ents.length lN.ents.length, 38, 3, lN.ents.length, cellsEn lN.ents⟩, ⟨.slice (some ⟨gX, 0, none⟩) lO.ents.length lO.ents.length, 38, 3, lO.ents.length, cellsEn (marksEn 1 lO.ents.length)⟩, ⟨.slice aW Ls.length cW, 85, 4, Ls.length, cellsRw Ls⟩, ⟨.slice (some ⟨gT, 0, none⟩) lN.ents.length lN.ents.length, 38, 3, lN.ents.length, cellsEn lN.ents⟩, ⟨.slice (some ⟨gS, 0, none⟩) lO.ents.length lO.ents.length, 38, 3, lO.ents.length, cellsEn lO.ents⟩] w10_) := L11.out.mark 2 (r := ⟨.slice (some ⟨gX, 0, none⟩) lO.ents.length lO.ents.length, 38, 3, lO.ents.length, cellsEn lO.ents⟩) rfl hg hown
    clear hown hg L11
    obtain ⟨M, hM⟩ : ∃ M : Nat, M = 1 + 3 * lO.ents.length := ⟨_, rfl⟩
    rw [← hM]
    have hM0 : ¬ (M : Int) < 0 := by omega
    have HM : Hid (M = 1 + 3 * lO.ents.length) := hM
    clear hM
    obtain ⟨d00, d01, d02⟩ := L12.out.three (List.Mem.head _)
    go_wp2_with fail
    clear d00 d01 d02
    refine Calls.mono (HMKN.out _ _ _ L12.out.below.size (L12.out.row 1 rfl) M (by have := HM.out; omega) (by have := HM.out; omega)) ?_
    rintro en w11_ ⟨rfl, hown, hg⟩
    have L13 : Hid (LawS w [(bV, (Obj.cells #[.int .i64 lN.start, .int .i64 lN.sterm, .slice (some ⟨gV, 0, none⟩) lN.ents.length lN.ents.length] 26)), (bX, (Obj.cells #[.int .i64 lO.start, .int .i64 lO.sterm, .slice (some ⟨gX, 0, none⟩) lO.ents.length lO.ents.length] 26)), (bB, (Obj.cells #[.int .i64 lN.start, .int .i64 lN.sterm, .slice aN lN.ents.length capN] 41)), (bA, (Obj.cells #[.int .i64 lO.start, .int .i64 lO.sterm, .slice aO lO.ents.length capO] 41))] [⟨.slice aG Ls.length cG, 85, 4, Ls.length, cellsRw Ls⟩, ⟨.slice (some ⟨gV, 0, none⟩) lN.ents.length lN.ents.length, 38, 3, lN.ents.length, cellsEn (marksEn M lN.ents.length)⟩, ⟨.slice (some ⟨gX, 0, none⟩) lO.ents.length lO.ents.length, 38, 3, lO.ents.length, cellsEn (marksEn 1 lO.ents.length)⟩, ⟨.slice aW Ls.length cW, 85, 4, Ls.length, cellsRw Ls⟩, ⟨.slice (some ⟨gT, 0, none⟩) lN.ents.length lN.ents.length, 38, 3, lN.ents.length, cellsEn lN.ents⟩, ⟨.slice (some ⟨gS, 0, none⟩) lO.ents.length lO.ents.length, 38, 3, lO.ents.length, cellsEn lO.ents⟩] w11_) := L12.out.mark 1 (r := ⟨.slice (some ⟨gV, 0, none⟩) lN.ents.length lN.ents.length, 38, 3, lN.ents.length, cellsEn lN.ents⟩) rfl hg hown
    clear hown hg L12
    obtain ⟨M2, hM2⟩ : ∃ M2 : Nat, M2 = M + 3 * lN.ents.length := ⟨_, rfl⟩
    rw [← hM2]
    have hM20 : ¬ (M2 : Int) < 0 := by omega
    clear hM2
    go_wp2_with fail
    obtain ⟨_, ghA1, _, ehA1, hA1⟩ := cellsRw_slice (L13.out.row 0 rfl)
    cases ehA1
    obtain ⟨_, ghA2, _, ehA2, hA2⟩ := cellsRw_slice (L13.out.row 3 rfl)
    cases ehA2
    refine Calls.mono (HEQR.out _ _ _ _ _ _ _ _ _ hA1 hA2) ?_
    rintro en w12_ ⟨rfl, hb⟩
    have L14 : Hid (LawS w [(bV, (Obj.cells #[.int .i64 lN.start, .int .i64 lN.sterm, .slice (some ⟨gV, 0, none⟩) lN.ents.length lN.ents.length] 26)), (bX, (Obj.cells #[.int .i64 lO.start, .int .i64 lO.sterm, .slice (some ⟨gX, 0, none⟩) lO.ents.length lO.ents.length] 26)), (bB, (Obj.cells #[.int .i64 lN.start, .int .i64 lN.sterm, .slice aN lN.ents.length capN] 41)), (bA, (Obj.cells #[.int .i64 lO.start, .int .i64 lO.sterm, .slice aO lO.ents.length capO] 41))] [⟨.slice aG Ls.length cG, 85, 4, Ls.length, cellsRw Ls⟩, ⟨.slice (some ⟨gV, 0, none⟩) lN.ents.length lN.ents.length, 38, 3, lN.ents.length, cellsEn (marksEn M lN.ents.length)⟩, ⟨.slice (some ⟨gX, 0, none⟩) lO.ents.length lO.ents.length, 38, 3, lO.ents.length, cellsEn (marksEn 1 lO.ents.length)⟩, ⟨.slice aW Ls.length cW, 85, 4, Ls.length, cellsRw Ls⟩, ⟨.slice (some ⟨gT, 0, none⟩) lN.ents.length lN.ents.length, 38, 3, lN.ents.length, cellsEn lN.ents⟩, ⟨.slice (some ⟨gS, 0, none⟩) lO.ents.length lO.ents.length, 38, 3, lO.ents.length, cellsEn lO.ents⟩] w12_) := L13.out.step hb
    clear hb L13
    clear hA1 hA2
    go_wp2_with fail
    refine Calls.mono (HMR.out _ _ _ _ (L14.out.row 0 rfl)) ?_
    rintro en w13_ ⟨rfl, hown, hg⟩
    have L15 : Hid (LawS w [(bV, (Obj.cells #[.int .i64 lN.start, .int .i64 lN.sterm, .slice (some ⟨gV, 0, none⟩) lN.ents.length lN.ents.length] 26)), (bX, (Obj.cells #[.int .i64 lO.start, .int .i64 lO.sterm, .slice (some ⟨gX, 0, none⟩) lO.ents.length lO.ents.length] 26)), (bB, (Obj.cells #[.int .i64 lN.start, .int .i64 lN.sterm, .slice aN lN.ents.length capN] 41)), (bA, (Obj.cells #[.int .i64 lO.start, .int .i64 lO.sterm, .slice aO lO.ents.length capO] 41))] [⟨.slice aG Ls.length cG, 85, 4, Ls.length, cellsRw (marksRw 1 Ls.length)⟩, ⟨.slice (some ⟨gV, 0, none⟩) lN.ents.length lN.ents.length, 38, 3, lN.ents.length, cellsEn (marksEn M lN.ents.length)⟩, ⟨.slice (some ⟨gX, 0, none⟩) lO.ents.length lO.ents.length, 38, 3, lO.ents.length, cellsEn (marksEn 1 lO.ents.length)⟩, ⟨.slice aW Ls.length cW, 85, 4, Ls.length, cellsRw Ls⟩, ⟨.slice (some ⟨gT, 0, none⟩) lN.ents.length lN.ents.length, 38, 3, lN.ents.length, cellsEn lN.ents⟩, ⟨.slice (some ⟨gS, 0, none⟩) lO.ents.length lO.ents.length, 38, 3, lO.ents.length, cellsEn lO.ents⟩] w13_) := L14.out.mark 0 (r := ⟨.slice aG Ls.length cG, 85, 4, Ls.length, cellsRw Ls⟩) rfl hg hown
    clear hown hg L14
    obtain ⟨Q, hQ⟩ : ∃ Q : Nat, Q = 1 + 4 * Ls.length := ⟨_, rfl⟩
    rw [← hQ]
    have hQ0 : ¬ (Q : Int) < 0 := by omega
    have HQ : Hid (Q = 1 + 4 * Ls.length) := hQ
    clear hQ
    go_wp2_with fail
    refine Calls.mono (HHR.out _ _ _ _ (L15.out.row 0 rfl)) ?_
    rintro en w14_ ⟨rfl, hb⟩
    have L16 : Hid (LawS w [(bV, (Obj.cells #[.int .i64 lN.start, .int .i64 lN.sterm, .slice (some ⟨gV, 0, none⟩) lN.ents.length lN.ents.length] 26)), (bX, (Obj.cells #[.int .i64 lO.start, .int .i64 lO.sterm, .slice (some ⟨gX, 0, none⟩) lO.ents.length lO.ents.length] 26)), (bB, (Obj.cells #[.int .i64 lN.start, .int .i64 lN.sterm, .slice aN lN.ents.length capN] 41)), (bA, (Obj.cells #[.int .i64 lO.start, .int .i64 lO.sterm, .slice aO lO.ents.length capO] 41))] [⟨.slice aG Ls.length cG, 85, 4, Ls.length, cellsRw (marksRw 1 Ls.length)⟩, ⟨.slice (some ⟨gV, 0, none⟩) lN.ents.length lN.ents.length, 38, 3, lN.ents.length, cellsEn (marksEn M lN.ents.length)⟩, ⟨.slice (some ⟨gX, 0, none⟩) lO.ents.length lO.ents.length, 38, 3, lO.ents.length, cellsEn (marksEn 1 lO.ents.length)⟩, ⟨.slice aW Ls.length cW, 85, 4, Ls.length, cellsRw Ls⟩, ⟨.slice (some ⟨gT, 0, none⟩) lN.ents.length lN.ents.length, 38, 3, lN.ents.length, cellsEn lN.ents⟩, ⟨.slice (some ⟨gS, 0, none⟩) lO.ents.length lO.ents.length, 38, 3, lO.ents.length, cellsEn lO.ents⟩] w14_) := L15.out.step hb
    clear hb L15
    rw [← HQ.out]
    obtain ⟨p0, p1, p2⟩ := L16.out.three (List.Mem.tail _ (List.Mem.tail _ (List.Mem.tail _ (List.Mem.head _))))
    obtain ⟨q0, q1, q2⟩ := L16.out.three (List.Mem.tail _ (List.Mem.tail _ (List.Mem.head _)))
    have HX : Hid (∀ w', Below w14_.heap.size w14_ w' → (w'.cell? ⟨bA, 0, none⟩ = some (.int .i64 lO.start) ∧ w'.cell? ⟨bA, 1, none⟩ = some (.int .i64 lO.sterm) ∧ w'.cell? ⟨bA, 2, none⟩ = some (.slice aO lO.ents.length capO)) ∧ (w'.cell? ⟨bB, 0, none⟩ = some (.int .i64 lN.start) ∧ w'.cell? ⟨bB, 1, none⟩ = some (.int .i64 lN.sterm) ∧ w'.cell? ⟨bB, 2, none⟩ = some (.slice aN lN.ents.length capN))) := fun w' h => ⟨(L16.out.step h).three (List.Mem.tail _ (List.Mem.tail _ (List.Mem.tail _ (List.Mem.head _)))), (L16.out.step h).three (List.Mem.tail _ (List.Mem.tail _ (List.Mem.head _)))⟩
    have HFA : Hid (EnAt w14_.drew aO gO offO lO.ents) := HFO.out.kept L16.out.below.drew
    have HFB : Hid (∀ X, Below w14_.drew.heap.size w14_.drew X → EnAt X aN gN offN lN.ents) := fun X h => (HFN.out.kept L16.out.below.drew).kept h
    go_wp2_with fail
    go_region_held3 (fun w' => (w'.cell? ⟨bA, 0, none⟩ = some (.int .i64 lO.start) ∧ w'.cell? ⟨bA, 1, none⟩ = some (.int .i64 lO.sterm) ∧ w'.cell? ⟨bA, 2, none⟩ = some (.slice aO lO.ents.length capO)) ∧ (w'.cell? ⟨bB, 0, none⟩ = some (.int .i64 lN.start) ∧ w'.cell? ⟨bB, 1, none⟩ = some (.int .i64 lN.sterm) ∧ w'.cell? ⟨bB, 2, none⟩ = some (.slice aN lN.ents.length capN))) (first | go_keep | exact HX.out _ (below_undrew hb7) | exact HX.out _ ((below_undrew hb7).trans (hb8.mono hb7.size)) | exact HX.out _ (((below_undrew hb7).trans (hb8.mono hb7.size)).trans (hb9.mono ((below_undrew hb7).trans (hb8.mono hb7.size)).size)))
      (first | (go_at_call 21; (with_reducible refine Calls.mono (HTOO.out _ HFA.out) ?_); rintro e w7 ⟨g7, rfl, hown7, hb7⟩) | (go_at_call 21; (with_reducible refine Calls.mono (HTON.out _ (HFB.out _ hb7)) ?_); rintro e w8 ⟨g8, rfl, hown8, hb8⟩) | (go_at_call 32; refine Calls.mono (HIM.out _ _ _ (cellsEn_own rfl (own_kept hown7 hb8)) (cellsEn_own rfl hown8)) ?_; rintro e w9 ⟨v9, rfl, hown9, hb9⟩; obtain ⟨aH, cH, hv_⟩ := own_slice hown9; subst hv_) | fail)
    have L17 : Hid (LawS w [(bV, (Obj.cells #[.int .i64 lN.start, .int .i64 lN.sterm, .slice (some ⟨gV, 0, none⟩) lN.ents.length lN.ents.length] 26)), (bX, (Obj.cells #[.int .i64 lO.start, .int .i64 lO.sterm, .slice (some ⟨gX, 0, none⟩) lO.ents.length lO.ents.length] 26)), (bB, (Obj.cells #[.int .i64 lN.start, .int .i64 lN.sterm, .slice aN lN.ents.length capN] 41)), (bA, (Obj.cells #[.int .i64 lO.start, .int .i64 lO.sterm, .slice aO lO.ents.length capO] 41))] [⟨.slice (some ⟨g7, 0, none⟩) lO.ents.length lO.ents.length, 38, 3, lO.ents.length, cellsEn lO.ents⟩, ⟨.slice aG Ls.length cG, 85, 4, Ls.length, cellsRw (marksRw 1 Ls.length)⟩, ⟨.slice (some ⟨gV, 0, none⟩) lN.ents.length lN.ents.length, 38, 3, lN.ents.length, cellsEn (marksEn M lN.ents.length)⟩, ⟨.slice (some ⟨gX, 0, none⟩) lO.ents.length lO.ents.length, 38, 3, lO.ents.length, cellsEn (marksEn 1 lO.ents.length)⟩, ⟨.slice aW Ls.length cW, 85, 4, Ls.length, cellsRw Ls⟩, ⟨.slice (some ⟨gT, 0, none⟩) lN.ents.length lN.ents.length, 38, 3, lN.ents.length, cellsEn lN.ents⟩, ⟨.slice (some ⟨gS, 0, none⟩) lO.ents.length lO.ents.length, 38, 3, lO.ents.length, cellsEn lO.ents⟩] w7) := L16.out.drew.call hb7 hown7
    have L18 : Hid (LawS w [(bV, (Obj.cells #[.int .i64 lN.start, .int .i64 lN.sterm, .slice (some ⟨gV, 0, none⟩) lN.ents.length lN.ents.length] 26)), (bX, (Obj.cells #[.int .i64 lO.start, .int .i64 lO.sterm, .slice (some ⟨gX, 0, none⟩) lO.ents.length lO.ents.length] 26)), (bB, (Obj.cells #[.int .i64 lN.start, .int .i64 lN.sterm, .slice aN lN.ents.length capN] 41)), (bA, (Obj.cells #[.int .i64 lO.start, .int .i64 lO.sterm, .slice aO lO.ents.length capO] 41))] [⟨.slice (some ⟨g8, 0, none⟩) lN.ents.length lN.ents.length, 38, 3, lN.ents.length, cellsEn lN.ents⟩, ⟨.slice (some ⟨g7, 0, none⟩) lO.ents.length lO.ents.length, 38, 3, lO.ents.length, cellsEn lO.ents⟩, ⟨.slice aG Ls.length cG, 85, 4, Ls.length, cellsRw (marksRw 1 Ls.length)⟩, ⟨.slice (some ⟨gV, 0, none⟩) lN.ents.length lN.ents.length, 38, 3, lN.ents.length, cellsEn (marksEn M lN.ents.length)⟩, ⟨.slice (some ⟨gX, 0, none⟩) lO.ents.length lO.ents.length, 38, 3, lO.ents.length, cellsEn (marksEn 1 lO.ents.length)⟩, ⟨.slice aW Ls.length cW, 85, 4, Ls.length, cellsRw Ls⟩, ⟨.slice (some ⟨gT, 0, none⟩) lN.ents.length lN.ents.length, 38, 3, lN.ents.length, cellsEn lN.ents⟩, ⟨.slice (some ⟨gS, 0, none⟩) lO.ents.length lO.ents.length, 38, 3, lO.ents.length, cellsEn lO.ents⟩] w8) := L17.out.call hb8 hown8
    have L19 : Hid (LawS w [(bV, (Obj.cells #[.int .i64 lN.start, .int .i64 lN.sterm, .slice (some ⟨gV, 0, none⟩) lN.ents.length lN.ents.length] 26)), (bX, (Obj.cells #[.int .i64 lO.start, .int .i64 lO.sterm, .slice (some ⟨gX, 0, none⟩) lO.ents.length lO.ents.length] 26)), (bB, (Obj.cells #[.int .i64 lN.start, .int .i64 lN.sterm, .slice aN lN.ents.length capN] 41)), (bA, (Obj.cells #[.int .i64 lO.start, .int .i64 lO.sterm, .slice aO lO.ents.length capO] 41))] [⟨.slice aH Ls.length cH, 85, 4, Ls.length, cellsRw Ls⟩, ⟨.slice (some ⟨g8, 0, none⟩) lN.ents.length lN.ents.length, 38, 3, lN.ents.length, cellsEn lN.ents⟩, ⟨.slice (some ⟨g7, 0, none⟩) lO.ents.length lO.ents.length, 38, 3, lO.ents.length, cellsEn lO.ents⟩, ⟨.slice aG Ls.length cG, 85, 4, Ls.length, cellsRw (marksRw 1 Ls.length)⟩, ⟨.slice (some ⟨gV, 0, none⟩) lN.ents.length lN.ents.length, 38, 3, lN.ents.length, cellsEn (marksEn M lN.ents.length)⟩, ⟨.slice (some ⟨gX, 0, none⟩) lO.ents.length lO.ents.length, 38, 3, lO.ents.length, cellsEn (marksEn 1 lO.ents.length)⟩, ⟨.slice aW Ls.length cW, 85, 4, Ls.length, cellsRw Ls⟩, ⟨.slice (some ⟨gT, 0, none⟩) lN.ents.length lN.ents.length, 38, 3, lN.ents.length, cellsEn lN.ents⟩, ⟨.slice (some ⟨gS, 0, none⟩) lO.ents.length lO.ents.length, 38, 3, lO.ents.length, cellsEn lO.ents⟩] w9) := L18.out.call hb9 hown9
    clear L16 L17 L18 hown7 hown8 hown9 hb7 hb8 hb9 p0 p1 p2 q0 q1 q2 HX HFA HFB
    obtain ⟨wz15, hwz15⟩ : ∃ wz15, wz15 = w9 := ⟨_, rfl⟩
    rw [← hwz15] at L19 ⊢
    clear hwz15
    obtain ⟨gY, hgY⟩ : ∃ gY, gY = g7 := ⟨_, rfl⟩
    rw [← hgY] at L19
    clear hgY
    obtain ⟨gZ, hgZ⟩ : ∃ gZ, gZ = g8 := ⟨_, rfl⟩
    rw [← hgZ] at L19
    clear hgZ
    go_wp2_with fail
    obtain ⟨_, ghA1, _, ehA1, hA1⟩ := cellsRw_slice (L19.out.row 0 rfl)
    cases ehA1
    obtain ⟨_, ghA2, _, ehA2, hA2⟩ := cellsRw_slice (L19.out.row 6 rfl)
    cases ehA2
    refine Calls.mono (HEQR.out _ _ _ _ _ _ _ _ _ hA1 hA2) ?_
    rintro en w16_ ⟨rfl, hb⟩
    have L20 : Hid (LawS w [(bV, (Obj.cells #[.int .i64 lN.start, .int .i64 lN.sterm, .slice (some ⟨gV, 0, none⟩) lN.ents.length lN.ents.length] 26)), (bX, (Obj.cells #[.int .i64 lO.start, .int .i64 lO.sterm, .slice (some ⟨gX, 0, none⟩) lO.ents.length lO.ents.length] 26)), (bB, (Obj.cells #[.int .i64 lN.start, .int .i64 lN.sterm, .slice aN lN.ents.length capN] 41)), (bA, (Obj.cells #[.int .i64 lO.start, .int .i64 lO.sterm, .slice aO lO.ents.length capO] 41))] [⟨.slice aH Ls.length cH, 85, 4, Ls.length, cellsRw Ls⟩, ⟨.slice (some ⟨gZ, 0, none⟩) lN.ents.length lN.ents.length, 38, 3, lN.ents.length, cellsEn lN.ents⟩, ⟨.slice (some ⟨gY, 0, none⟩) lO.ents.length lO.ents.length, 38, 3, lO.ents.length, cellsEn lO.ents⟩, ⟨.slice aG Ls.length cG, 85, 4, Ls.length, cellsRw (marksRw 1 Ls.length)⟩, ⟨.slice (some ⟨gV, 0, none⟩) lN.ents.length lN.ents.length, 38, 3, lN.ents.length, cellsEn (marksEn M lN.ents.length)⟩, ⟨.slice (some ⟨gX, 0, none⟩) lO.ents.length lO.ents.length, 38, 3, lO.ents.length, cellsEn (marksEn 1 lO.ents.length)⟩, ⟨.slice aW Ls.length cW, 85, 4, Ls.length, cellsRw Ls⟩, ⟨.slice (some ⟨gT, 0, none⟩) lN.ents.length lN.ents.length, 38, 3, lN.ents.length, cellsEn lN.ents⟩, ⟨.slice (some ⟨gS, 0, none⟩) lO.ents.length lO.ents.length, 38, 3, lO.ents.length, cellsEn lO.ents⟩] w16_) := L19.out.step hb
    clear hb L19
    clear hA1 hA2
    go_wp2_with fail
    refine Calls.mono (HHR.out _ _ _ _ (L20.out.row 3 rfl)) ?_
    rintro en w17_ ⟨rfl, hb⟩
    have L21 : Hid (LawS w [(bV, (Obj.cells #[.int .i64 lN.start, .int .i64 lN.sterm, .slice (some ⟨gV, 0, none⟩) lN.ents.length lN.ents.length] 26)), (bX, (Obj.cells #[.int .i64 lO.start, .int .i64 lO.sterm, .slice (some ⟨gX, 0, none⟩) lO.ents.length lO.ents.length] 26)), (bB, (Obj.cells #[.int .i64 lN.start, .int .i64 lN.sterm, .slice aN lN.ents.length capN] 41)), (bA, (Obj.cells #[.int .i64 lO.start, .int .i64 lO.sterm, .slice aO lO.ents.length capO] 41))] [⟨.slice aH Ls.length cH, 85, 4, Ls.length, cellsRw Ls⟩, ⟨.slice (some ⟨gZ, 0, none⟩) lN.ents.length lN.ents.length, 38, 3, lN.ents.length, cellsEn lN.ents⟩, ⟨.slice (some ⟨gY, 0, none⟩) lO.ents.length lO.ents.length, 38, 3, lO.ents.length, cellsEn lO.ents⟩, ⟨.slice aG Ls.length cG, 85, 4, Ls.length, cellsRw (marksRw 1 Ls.length)⟩, ⟨.slice (some ⟨gV, 0, none⟩) lN.ents.length lN.ents.length, 38, 3, lN.ents.length, cellsEn (marksEn M lN.ents.length)⟩, ⟨.slice (some ⟨gX, 0, none⟩) lO.ents.length lO.ents.length, 38, 3, lO.ents.length, cellsEn (marksEn 1 lO.ents.length)⟩, ⟨.slice aW Ls.length cW, 85, 4, Ls.length, cellsRw Ls⟩, ⟨.slice (some ⟨gT, 0, none⟩) lN.ents.length lN.ents.length, 38, 3, lN.ents.length, cellsEn lN.ents⟩, ⟨.slice (some ⟨gS, 0, none⟩) lO.ents.length lO.ents.length, 38, 3, lO.ents.length, cellsEn lO.ents⟩] w17_) := L20.out.step hb
    clear hb L20
    rw [← HQ.out]
    go_wp2
    go_ret
    exact ⟨rfl, L21.out.below⟩
end Go.Proofs.Ytdpbmaedpdbppaa
