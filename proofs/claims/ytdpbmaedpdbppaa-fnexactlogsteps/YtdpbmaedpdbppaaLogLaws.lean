/- The exact laws of LogOk and LogLast, walked. -/
import Derived.Test.YtdpbmaedpdbppaaLogArg
import Derived.Test.YtdpbmaedpdbppaaImplLog
import Derived.Deep.RegionHeld3
namespace Go.Proofs.Ytdpbmaedpdbppaa
open Go.RowKit
open Logs (okL)
set_option linter.unusedVariables false
set_option linter.unusedSimpArgs false
theorem below_undrew {w w' : World} (h : Below w.drew.heap.size w.drew w') : Below w.heap.size w w' := ((Below.refl _ _).drew).trans h

set_option maxHeartbeats 4000000 in
set_option maxRecDepth 100000 in
theorem lawLogOk_any {a : Option Addr} {g off cap : Nat} (l : LogL) (hlen : l.ents.length ≤ maxLen) (hsz : ∀ r ∈ l.ents, smallEn maxLen r) (w : World) (hf : EnAt w a g off l.ents) :
    Calls Try.prog 4 #[logV l a cap] w fun e w' => e = .returned (.bool true) ∧ Below w.heap.size w w' := by
  have HF : Hid (EnAt w a g off l.ents) := hf
  have HSZ : Hid (∀ X, EnAt X a g off l.ents → Calls Try.prog 19 #[logV l a cap, .int .i64 ((1048576 : Nat) : Int)] X fun e w' => ∃ x : Int, e = .returned (.int .i64 x) ∧ Left 1048576 (totEn l.ents) x ∧ Below X.heap.size X w') := fun X h => szLog_any l hlen hsz 1048576 (Nat.le_refl _) X h
  clear hf hsz hlen
  unfold logV
  go_enter Try.func4, Try.ntmps4
  go_wp2_with fail
  obtain ⟨W, hW⟩ : ∃ W, W = w.alloc (Obj.cells #[.int .i64 l.start, .int .i64 l.sterm, .slice a l.ents.length cap] 41) := ⟨_, rfl⟩
  rw [← hW]
  have hWb : Below w.heap.size w W := by rw [hW]; exact (Below.refl _ _).alloc (Nat.le_refl _) _
  have hla : LogAt W w.heap.size l a cap := by rw [hW]; exact LogAt.new w l a cap 41
  clear hW
  refine Calls.mono (HSZ.out W (HF.out.kept hWb)) ?_
  rintro e w1 ⟨x, rfl, hx, hb1⟩
  have hB1 : Below w.heap.size w w1 := hWb.trans (hb1.mono hWb.size)
  have HC1 : Hid (Below W.heap.size W w1) := hb1
  have HC : Hid (∀ w', Below W.heap.size W w' → LogAt w' w.heap.size l a cap) := fun w' h => hla.kept h
  have HB1 : Hid (Below w.heap.size w w1) := hB1
  clear hWb hb1 hla HSZ hB1
  rcases hx with ⟨hx1, hx2⟩ | ⟨hx1, hx2⟩
  · obtain ⟨Y, hY⟩ : ∃ Y : Nat, Y = 1048576 - totEn l.ents := ⟨_, rfl⟩
    rw [← hY] at hx2
    subst hx2
    clear hY
    obtain ⟨hl, hs⟩ := totEn_small hx1
    have HTO : Hid (∀ X, EnAt X a g off l.ents → Calls Try.prog 21 #[.agg #[.int .i64 l.start, .int .i64 l.sterm, .slice a l.ents.length cap]] X fun e w' => ∃ g1 : Nat, e = .returned (.agg #[.int .i64 l.start, .int .i64 l.sterm, .slice (some ⟨g1, 0, none⟩) l.ents.length l.ents.length]) ∧ w'.ownsRow X.heap.size 38 3 (.slice (some ⟨g1, 0, none⟩) l.ents.length l.ents.length) l.ents.length (cellsEn l.ents) ∧ Below X.heap.size X w') := fun X h => toLog_any l hl X h
    have HD : Hid (∀ e ∈ l.ents, e.data.size ≤ 1048576) := hs
    obtain ⟨O, hO⟩ : ∃ O, O = okL l := ⟨_, rfl⟩
    have HSP : Hid (∀ (X : World) (g1 : Nat), EnAt X (some ⟨g1, 0, none⟩) g1 0 l.ents → Calls Try.prog 20 #[.agg #[.int .i64 l.start, .int .i64 l.sterm, .slice (some ⟨g1, 0, none⟩) l.ents.length l.ents.length]] X fun en w' => en = .returned (.bool O) ∧ Below X.heap.size X w') := fun X g1 h => by rw [hO]; exact specLogOk_is l hl HD.out X h
    have HIM : Hid (∀ (X : World) (g1 : Nat), EnAt X (some ⟨g1, 0, none⟩) g1 0 l.ents → Calls Try.prog 17 #[.agg #[.int .i64 l.start, .int .i64 l.sterm, .slice (some ⟨g1, 0, none⟩) l.ents.length l.ents.length]] X fun en w' => en = .returned (.bool O) ∧ Below X.heap.size X w') := fun X g1 h => by rw [hO]; exact implLogOk_is l hl HD.out X h
    
    have HEQ : Hid (∀ (X : World) (g1 g2 : Nat), EnAt X (some ⟨g1, 0, none⟩) g1 0 l.ents → EnAt X (some ⟨g2, 0, none⟩) g2 0 l.ents → Calls Try.prog 22 #[.agg #[.int .i64 l.start, .int .i64 l.sterm, .slice (some ⟨g1, 0, none⟩) l.ents.length l.ents.length], .agg #[.int .i64 l.start, .int .i64 l.sterm, .slice (some ⟨g2, 0, none⟩) l.ents.length l.ents.length]] X fun e w' => e = .returned (.bool true) ∧ Below X.heap.size X w') := fun X g1 g2 h1 h2 => eqLog_same l hl X h1 h2
    clear hs hx1 hO HD
    obtain ⟨q0, q1, q2⟩ := HC.out w1 HC1.out
    go_wp2_with fail
    refine Calls.mono (HTO.out w1 (HF.out.kept HB1.out)) ?_
    rintro e w2 ⟨g2, rfl, hown2, hb2⟩
    have HB2 : Hid (Below w.heap.size w w2) := HB1.out.trans (hb2.mono HB1.out.size)
    have HC2 : Hid (Below W.heap.size W w2) := HC1.out.trans (hb2.mono HC1.out.size)
    have HF2 : Hid (EnAt w2 (some ⟨g2, 0, none⟩) g2 0 l.ents) := cellsEn_own rfl hown2
    clear hb2 hown2 q0 q1 q2 HB1 HC1
    go_wp2_with fail
    refine Calls.mono (HSP.out w2 g2 HF2.out) ?_
    rintro e w3 ⟨rfl, hb3⟩
    have HB3 : Hid (Below w.heap.size w w3) := HB2.out.trans (hb3.mono HB2.out.size)
    have HC3 : Hid (Below W.heap.size W w3) := HC2.out.trans (hb3.mono HC2.out.size)
    clear hb3 HF2 HB2 HC2 HSP
    obtain ⟨q0, q1, q2⟩ := HC.out w3 HC3.out
    go_wp2_with fail
    refine Calls.mono (HTO.out w3 (HF.out.kept HB3.out)) ?_
    rintro e w4 ⟨g4, rfl, hown4, hb4⟩
    have HB4 : Hid (Below w.heap.size w w4) := HB3.out.trans (hb4.mono HB3.out.size)
    have HC4 : Hid (Below W.heap.size W w4) := HC3.out.trans (hb4.mono HC3.out.size)
    have HF4 : Hid (EnAt w4 (some ⟨g4, 0, none⟩) g4 0 l.ents) := cellsEn_own rfl hown4
    clear hb4 hown4 q0 q1 q2 HB3 HC3
    go_wp2_with fail
    obtain ⟨W5, hW5⟩ : ∃ W5, W5 = w4.alloc (Obj.cells #[.int .i64 l.start, .int .i64 l.sterm, .slice (some ⟨g4, 0, none⟩) l.ents.length l.ents.length] 26) := ⟨_, rfl⟩
    rw [← hW5]
    have hb5 : Below w4.heap.size w4 W5 := by rw [hW5]; exact (Below.refl _ _).alloc (Nat.le_refl _) _
    have hla5 : LogAt W5 w4.heap.size l (some ⟨g4, 0, none⟩) l.ents.length := by rw [hW5]; exact LogAt.new w4 l _ _ 26
    have HB5 : Hid (Below w.heap.size w W5) := HB4.out.trans (hb5.mono HB4.out.size)
    have HC5 : Hid (Below W.heap.size W W5) := HC4.out.trans (hb5.mono HC4.out.size)
    have HF5 : Hid (EnAt W5 (some ⟨g4, 0, none⟩) g4 0 l.ents) := HF4.out.kept hb5
    clear hW5 hb5 HB4 HC4 HF4
    refine Calls.mono (HIM.out W5 g4 HF5.out) ?_
    rintro e w6 ⟨rfl, hb6⟩
    have HB6 : Hid (Below w.heap.size w w6) := HB5.out.trans (hb6.mono HB5.out.size)
    have HC6 : Hid (Below W.heap.size W w6) := HC5.out.trans (hb6.mono HC5.out.size)
    have HF6 : Hid (EnAt w6 (some ⟨g4, 0, none⟩) g4 0 l.ents) := HF5.out.kept hb6
    have hla6 := hla5.kept hb6
    have HX : Hid (∀ w', Below w6.heap.size w6 w' → LogAt w' w4.heap.size l (some ⟨g4, 0, none⟩) l.ents.length ∧ LogAt w' w.heap.size l a cap) := fun w' h => ⟨hla6.kept h, HC.out w' (HC6.out.trans (h.mono HC6.out.size))⟩
    obtain ⟨p0, p1, p2⟩ := hla6
    obtain ⟨q0, q1, q2⟩ := HC.out w6 HC6.out
    clear hla5 hb6 HB5 HC5 HF5 HIM HC
    unfold LogAt at HX
    go_wp2_with fail
    go_region_held3 (fun w' => (w'.cell? ⟨w4.heap.size, 0, none⟩ = some (.int .i64 l.start) ∧ w'.cell? ⟨w4.heap.size, 1, none⟩ = some (.int .i64 l.sterm) ∧ w'.cell? ⟨w4.heap.size, 2, none⟩ = some (.slice (some ⟨g4, 0, none⟩) l.ents.length l.ents.length)) ∧ w'.cell? ⟨w.heap.size, 0, none⟩ = some (.int .i64 l.start) ∧ w'.cell? ⟨w.heap.size, 1, none⟩ = some (.int .i64 l.sterm) ∧ w'.cell? ⟨w.heap.size, 2, none⟩ = some (.slice a l.ents.length cap)) (first | go_keep | exact HX.out _ (below_undrew hb7) | exact HX.out _ ((below_undrew hb7).trans (hb8.mono hb7.size)))
      (first | (go_at_call 21; refine Calls.mono (HTO.out _ (HF.out.kept HB6.out.drew)) ?_; rintro e w7 ⟨g7, rfl, hown7, hb7⟩) | (go_at_call 22; refine Calls.mono (HEQ.out _ _ _ (EnAt.kept (w := w6.drew) HF6.out hb7) (cellsEn_own rfl hown7)) ?_; rintro e w8 ⟨rfl, hb8⟩) | fail)
    all_goals
      go_wp2
      go_ret
      have hB7 : Below w.heap.size w w7 := (HB6.out.drew).trans (hb7.mono HB6.out.size)
      exact ⟨rfl, hB7.trans (hb8.mono hB7.size)⟩
  · subst hx2
    go_wp2
    go_ret
    exact ⟨rfl, HB1.out⟩

set_option maxHeartbeats 4000000 in
set_option maxRecDepth 100000 in
theorem lawLast_any {a : Option Addr} {g off cap : Nat} (l : LogL) (hlen : l.ents.length ≤ maxLen) (hsz : ∀ r ∈ l.ents, smallEn maxLen r) (w : World) (hf : EnAt w a g off l.ents) :
    Calls Try.prog 5 #[logV l a cap] w fun e w' => e = .returned (.bool true) ∧ Below w.heap.size w w' := by
  have HF : Hid (EnAt w a g off l.ents) := hf
  have HSZ : Hid (∀ X, EnAt X a g off l.ents → Calls Try.prog 19 #[logV l a cap, .int .i64 ((1048576 : Nat) : Int)] X fun e w' => ∃ x : Int, e = .returned (.int .i64 x) ∧ Left 1048576 (totEn l.ents) x ∧ Below X.heap.size X w') := fun X h => szLog_any l hlen hsz 1048576 (Nat.le_refl _) X h
  clear hf hsz hlen
  unfold logV
  go_enter Try.func5, Try.ntmps5
  go_wp2_with fail
  obtain ⟨W, hW⟩ : ∃ W, W = w.alloc (Obj.cells #[.int .i64 l.start, .int .i64 l.sterm, .slice a l.ents.length cap] 41) := ⟨_, rfl⟩
  rw [← hW]
  have hWb : Below w.heap.size w W := by rw [hW]; exact (Below.refl _ _).alloc (Nat.le_refl _) _
  have hla : LogAt W w.heap.size l a cap := by rw [hW]; exact LogAt.new w l a cap 41
  clear hW
  refine Calls.mono (HSZ.out W (HF.out.kept hWb)) ?_
  rintro e w1 ⟨x, rfl, hx, hb1⟩
  have hB1 : Below w.heap.size w w1 := hWb.trans (hb1.mono hWb.size)
  have HC1 : Hid (Below W.heap.size W w1) := hb1
  have HC : Hid (∀ w', Below W.heap.size W w' → LogAt w' w.heap.size l a cap) := fun w' h => hla.kept h
  have HB1 : Hid (Below w.heap.size w w1) := hB1
  clear hWb hb1 hla HSZ hB1
  rcases hx with ⟨hx1, hx2⟩ | ⟨hx1, hx2⟩
  · obtain ⟨Y, hY⟩ : ∃ Y : Nat, Y = 1048576 - totEn l.ents := ⟨_, rfl⟩
    rw [← hY] at hx2
    subst hx2
    clear hY
    obtain ⟨hl, hs⟩ := totEn_small hx1
    have HTO : Hid (∀ X, EnAt X a g off l.ents → Calls Try.prog 21 #[.agg #[.int .i64 l.start, .int .i64 l.sterm, .slice a l.ents.length cap]] X fun e w' => ∃ g1 : Nat, e = .returned (.agg #[.int .i64 l.start, .int .i64 l.sterm, .slice (some ⟨g1, 0, none⟩) l.ents.length l.ents.length]) ∧ w'.ownsRow X.heap.size 38 3 (.slice (some ⟨g1, 0, none⟩) l.ents.length l.ents.length) l.ents.length (cellsEn l.ents) ∧ Below X.heap.size X w') := fun X h => toLog_any l hl X h
    obtain ⟨A, hA⟩ : ∃ A, A = if l.ents.length = 0 then l.start else lastI l := ⟨_, rfl⟩
    obtain ⟨B, hB⟩ : ∃ B, B = Logs.lastT l := ⟨_, rfl⟩
    have HSP : Hid (∀ (X : World) (g1 : Nat), EnAt X (some ⟨g1, 0, none⟩) g1 0 l.ents → Calls Try.prog 23 #[.agg #[.int .i64 l.start, .int .i64 l.sterm, .slice (some ⟨g1, 0, none⟩) l.ents.length l.ents.length]] X fun en w' => en = .returned (.tuple #[.int .i64 A, .int .i64 B]) ∧ Below X.heap.size X w') := fun X g1 h => by rw [hA, hB]; exact specLast_is l hl X h
    have HIM : Hid (∀ (X : World) (g1 : Nat), EnAt X (some ⟨g1, 0, none⟩) g1 0 l.ents → Calls Try.prog 16 #[.agg #[.int .i64 l.start, .int .i64 l.sterm, .slice (some ⟨g1, 0, none⟩) l.ents.length l.ents.length]] X fun en w' => en = .returned (.tuple #[.int .i64 A, .int .i64 B]) ∧ Below X.heap.size X w') := fun X g1 h => by rw [hA, hB]; exact implLast_is l hl X h
    have HEQ : Hid (∀ (X : World) (g1 g2 : Nat), EnAt X (some ⟨g1, 0, none⟩) g1 0 l.ents → EnAt X (some ⟨g2, 0, none⟩) g2 0 l.ents → Calls Try.prog 22 #[.agg #[.int .i64 l.start, .int .i64 l.sterm, .slice (some ⟨g1, 0, none⟩) l.ents.length l.ents.length], .agg #[.int .i64 l.start, .int .i64 l.sterm, .slice (some ⟨g2, 0, none⟩) l.ents.length l.ents.length]] X fun e w' => e = .returned (.bool true) ∧ Below X.heap.size X w') := fun X g1 g2 h1 h2 => eqLog_same l hl X h1 h2
    clear hs hx1 hA hB
    obtain ⟨q0, q1, q2⟩ := HC.out w1 HC1.out
    go_wp2_with fail
    refine Calls.mono (HTO.out w1 (HF.out.kept HB1.out)) ?_
    rintro e w2 ⟨g2, rfl, hown2, hb2⟩
    have HB2 : Hid (Below w.heap.size w w2) := HB1.out.trans (hb2.mono HB1.out.size)
    have HC2 : Hid (Below W.heap.size W w2) := HC1.out.trans (hb2.mono HC1.out.size)
    have HF2 : Hid (EnAt w2 (some ⟨g2, 0, none⟩) g2 0 l.ents) := cellsEn_own rfl hown2
    clear hb2 hown2 q0 q1 q2 HB1 HC1
    go_wp2_with fail
    refine Calls.mono (HSP.out w2 g2 HF2.out) ?_
    rintro e w3 ⟨rfl, hb3⟩
    have HB3 : Hid (Below w.heap.size w w3) := HB2.out.trans (hb3.mono HB2.out.size)
    have HC3 : Hid (Below W.heap.size W w3) := HC2.out.trans (hb3.mono HC2.out.size)
    clear hb3 HF2 HB2 HC2 HSP
    obtain ⟨q0, q1, q2⟩ := HC.out w3 HC3.out
    go_wp2_with fail
    refine Calls.mono (HTO.out w3 (HF.out.kept HB3.out)) ?_
    rintro e w4 ⟨g4, rfl, hown4, hb4⟩
    have HB4 : Hid (Below w.heap.size w w4) := HB3.out.trans (hb4.mono HB3.out.size)
    have HC4 : Hid (Below W.heap.size W w4) := HC3.out.trans (hb4.mono HC3.out.size)
    have HF4 : Hid (EnAt w4 (some ⟨g4, 0, none⟩) g4 0 l.ents) := cellsEn_own rfl hown4
    clear hb4 hown4 q0 q1 q2 HB3 HC3
    go_wp2_with fail
    obtain ⟨W5, hW5⟩ : ∃ W5, W5 = w4.alloc (Obj.cells #[.int .i64 l.start, .int .i64 l.sterm, .slice (some ⟨g4, 0, none⟩) l.ents.length l.ents.length] 26) := ⟨_, rfl⟩
    rw [← hW5]
    have hb5 : Below w4.heap.size w4 W5 := by rw [hW5]; exact (Below.refl _ _).alloc (Nat.le_refl _) _
    have hla5 : LogAt W5 w4.heap.size l (some ⟨g4, 0, none⟩) l.ents.length := by rw [hW5]; exact LogAt.new w4 l _ _ 26
    have HB5 : Hid (Below w.heap.size w W5) := HB4.out.trans (hb5.mono HB4.out.size)
    have HC5 : Hid (Below W.heap.size W W5) := HC4.out.trans (hb5.mono HC4.out.size)
    have HF5 : Hid (EnAt W5 (some ⟨g4, 0, none⟩) g4 0 l.ents) := HF4.out.kept hb5
    clear hW5 hb5 HB4 HC4 HF4
    refine Calls.mono (HIM.out W5 g4 HF5.out) ?_
    rintro e w6 ⟨rfl, hb6⟩
    have HB6 : Hid (Below w.heap.size w w6) := HB5.out.trans (hb6.mono HB5.out.size)
    have HC6 : Hid (Below W.heap.size W w6) := HC5.out.trans (hb6.mono HC5.out.size)
    have HF6 : Hid (EnAt w6 (some ⟨g4, 0, none⟩) g4 0 l.ents) := HF5.out.kept hb6
    have hla6 := hla5.kept hb6
    have HX : Hid (∀ w', Below w6.heap.size w6 w' → LogAt w' w4.heap.size l (some ⟨g4, 0, none⟩) l.ents.length ∧ LogAt w' w.heap.size l a cap) := fun w' h => ⟨hla6.kept h, HC.out w' (HC6.out.trans (h.mono HC6.out.size))⟩
    obtain ⟨p0, p1, p2⟩ := hla6
    obtain ⟨q0, q1, q2⟩ := HC.out w6 HC6.out
    clear hla5 hb6 HB5 HC5 HF5 HIM HC
    unfold LogAt at HX
    go_wp2_with fail
    go_region_held3 (fun w' => (w'.cell? ⟨w4.heap.size, 0, none⟩ = some (.int .i64 l.start) ∧ w'.cell? ⟨w4.heap.size, 1, none⟩ = some (.int .i64 l.sterm) ∧ w'.cell? ⟨w4.heap.size, 2, none⟩ = some (.slice (some ⟨g4, 0, none⟩) l.ents.length l.ents.length)) ∧ w'.cell? ⟨w.heap.size, 0, none⟩ = some (.int .i64 l.start) ∧ w'.cell? ⟨w.heap.size, 1, none⟩ = some (.int .i64 l.sterm) ∧ w'.cell? ⟨w.heap.size, 2, none⟩ = some (.slice a l.ents.length cap)) (first | go_keep | exact HX.out _ (below_undrew hb7) | exact HX.out _ ((below_undrew hb7).trans (hb8.mono hb7.size)))
      (first | (go_at_call 21; refine Calls.mono (HTO.out _ (HF.out.kept HB6.out.drew)) ?_; rintro e w7 ⟨g7, rfl, hown7, hb7⟩) | (go_at_call 22; refine Calls.mono (HEQ.out _ _ _ (EnAt.kept (w := w6.drew) HF6.out hb7) (cellsEn_own rfl hown7)) ?_; rintro e w8 ⟨rfl, hb8⟩) | fail)
    all_goals
      go_wp2
      go_ret
      have hB7 : Below w.heap.size w w7 := (HB6.out.drew).trans (hb7.mono HB6.out.size)
      exact ⟨rfl, hB7.trans (hb8.mono hB7.size)⟩
  · subst hx2
    go_wp2
    go_ret
    exact ⟨rfl, HB1.out⟩
end Go.Proofs.Ytdpbmaedpdbppaa
