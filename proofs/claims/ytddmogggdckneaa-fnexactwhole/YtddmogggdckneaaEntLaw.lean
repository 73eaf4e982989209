/- The exact law of EntryAt, walked. -/
import Derived.Test.YtddmogggdckneaaEntA
import Derived.Test.YtddmogggdckneaaLogLaws
namespace Go.Proofs.Ytddmogggdckneaa
open Go.RowKit
open Logs (okL)
set_option linter.unusedVariables false
set_option linter.unusedSimpArgs false

set_option maxHeartbeats 4000000 in
set_option maxRecDepth 100000 in
theorem lawEntryAt_any {a : Option Addr} {g off cap : Nat} (l : LogL) (hlen : l.ents.length ≤ maxLen) (hsz : ∀ r ∈ l.ents, smallEn maxLen r) (i : Int) (hi : -9223372036854775808 ≤ i ∧ i ≤ 9223372036854775807) (w : World) (hf : EnAt w a g off l.ents) :
    Calls Try.prog 3 #[logV l a cap, .int .i64 i] w fun e w' => e = .returned (.bool true) ∧ Below w.heap.size w w' := by
  have HF : Hid (EnAt w a g off l.ents) := hf
  have HSZ : Hid (∀ X, EnAt X a g off l.ents → Calls Try.prog 8 #[logV l a cap, .int .i64 ((1048576 : Nat) : Int)] X fun e w' => ∃ x : Int, e = .returned (.int .i64 x) ∧ Left 1048576 (totEn l.ents) x ∧ Below X.heap.size X w') := fun X h => szLog_any l hlen hsz 1048576 (Nat.le_refl _) X h
  clear hf hsz hlen
  unfold logV
  go_enter Try.func3, Try.ntmps3
  go_wp2_with fail
  obtain ⟨W, hW⟩ : ∃ W, W = w.alloc (Obj.cells #[.int .i64 l.start, .int .i64 l.sterm, .slice a l.ents.length cap] 24) := ⟨_, rfl⟩
  rw [← hW]
  have hWb : Below w.heap.size w W := by rw [hW]; exact (Below.refl _ _).alloc (Nat.le_refl _) _
  have hla : LogAt W w.heap.size l a cap := by rw [hW]; exact LogAt.new w l a cap 24
  clear hW
  refine Calls.mono (HSZ.out W (HF.out.kept hWb)) ?_
  rintro e w1 ⟨x, rfl, hx, hb1⟩
  have hB1 : Below w.heap.size w w1 := hWb.trans (hb1.mono hWb.size)
  have HC1 : Hid (Below W.heap.size W w1) := hb1
  have HC : Hid (∀ w', Below W.heap.size W w' → LogAt w' w.heap.size l a cap) := fun w' h => hla.kept h
  have HB1 : Hid (Below w.heap.size w w1) := hB1
  clear hWb hb1 hla HSZ hB1
  rcases hx with ⟨hx1, hx2⟩ | ⟨hx1, hx2⟩
  · obtain ⟨Y, hY⟩ : ∃ Y : Nat, Y = 1048576 - totEn l.ents := ⟨_, rfl⟩
    rw [← hY] at hx2
    subst hx2
    clear hY
    obtain ⟨hl, hs⟩ := totEn_small hx1
    have HTO : Hid (∀ X, EnAt X a g off l.ents → Calls Try.prog 10 #[.agg #[.int .i64 l.start, .int .i64 l.sterm, .slice a l.ents.length cap]] X fun e w' => ∃ g1 : Nat, e = .returned (.agg #[.int .i64 l.start, .int .i64 l.sterm, .slice (some ⟨g1, 0, none⟩) l.ents.length l.ents.length]) ∧ w'.ownsRow X.heap.size 27 3 (.slice (some ⟨g1, 0, none⟩) l.ents.length l.ents.length) l.ents.length (cellsEn l.ents) ∧ Below X.heap.size X w') := fun X h => toLog_any l hl X h
    have HD : Hid (∀ e ∈ l.ents, e.data.size ≤ 1048576) := hs
    obtain ⟨B, hB⟩ : ∃ B, B = entB l i := ⟨_, rfl⟩
    obtain ⟨D, hD⟩ : ∃ D, D = entD l i := ⟨_, rfl⟩
    obtain ⟨e0, he0⟩ : ∃ e0, e0 = D.term := ⟨_, rfl⟩
    obtain ⟨e1, he1⟩ : ∃ e1, e1 = D.kind := ⟨_, rfl⟩
    obtain ⟨e2, he2⟩ : ∃ e2, e2 = D.data := ⟨_, rfl⟩
    have hE : entV D = .agg #[.int .i64 e0, .int .i64 e1, .string e2] := by rw [he0, he1, he2]; rfl
    have HSP : Hid (∀ (X : World) (g1 : Nat), EnAt X (some ⟨g1, 0, none⟩) g1 0 l.ents → Calls Try.prog 9 #[.agg #[.int .i64 l.start, .int .i64 l.sterm, .slice (some ⟨g1, 0, none⟩) l.ents.length l.ents.length], .int .i64 i] X fun en w' => en = .returned (.tuple #[.agg #[.int .i64 e0, .int .i64 e1, .string e2], .bool B]) ∧ Below X.heap.size X w') := fun X g1 h => by rw [hB, ← hE, hD]; exact specEntryAt_is l hl HD.out i hi X h
    have HIM : Hid (∀ (X : World) (g1 : Nat), EnAt X (some ⟨g1, 0, none⟩) g1 0 l.ents → Calls Try.prog 11 #[.agg #[.int .i64 l.start, .int .i64 l.sterm, .slice (some ⟨g1, 0, none⟩) l.ents.length l.ents.length], .int .i64 i] X fun en w' => en = .returned (.tuple #[.agg #[.int .i64 e0, .int .i64 e1, .string e2], .bool B]) ∧ Below X.heap.size X w') := fun X g1 h => by rw [hB, ← hE, hD]; exact implEntryAt_is l hl HD.out i hi X h
    have HEE : Hid (∀ X, Calls Try.prog 12 #[.agg #[.int .i64 e0, .int .i64 e1, .string e2], .agg #[.int .i64 e0, .int .i64 e1, .string e2]] X fun e w' => e = .returned (.bool true) ∧ Below X.heap.size X w') := fun X => by rw [← hE]; exact eqEn1_same D X
    have HEQ : Hid (∀ (X : World) (g1 g2 : Nat), EnAt X (some ⟨g1, 0, none⟩) g1 0 l.ents → EnAt X (some ⟨g2, 0, none⟩) g2 0 l.ents → Calls Try.prog 13 #[.agg #[.int .i64 l.start, .int .i64 l.sterm, .slice (some ⟨g1, 0, none⟩) l.ents.length l.ents.length], .agg #[.int .i64 l.start, .int .i64 l.sterm, .slice (some ⟨g2, 0, none⟩) l.ents.length l.ents.length]] X fun e w' => e = .returned (.bool true) ∧ Below X.heap.size X w') := fun X g1 g2 h1 h2 => eqLog_same l hl X h1 h2
    clear hs hx1 hB hD HD he0 he1 he2 hE D
    obtain ⟨q0, q1, q2⟩ := HC.out w1 HC1.out
    go_wp2_with fail
    refine Calls.mono (HTO.out w1 (HF.out.kept HB1.out)) ?_
    rintro e w2 ⟨g2, rfl, hown2, hb2⟩
    have HB2 : Hid (Below w.heap.size w w2) := HB1.out.trans (hb2.mono HB1.out.size)
    have HC2 : Hid (Below W.heap.size W w2) := HC1.out.trans (hb2.mono HC1.out.size)
    have HF2 : Hid (EnAt w2 (some ⟨g2, 0, none⟩) g2 0 l.ents) := cellsEn_own rfl hown2
    clear hb2 hown2 q0 q1 q2 HB1 HC1
    go_wp2_with fail
    refine Calls.mono (HSP.out w2 g2 HF2.out) ?_
    rintro e w3 ⟨rfl, hb3⟩
    have HB3 : Hid (Below w.heap.size w w3) := HB2.out.trans (hb3.mono HB2.out.size)
    have HC3 : Hid (Below W.heap.size W w3) := HC2.out.trans (hb3.mono HC2.out.size)
    clear hb3 HF2 HB2 HC2 HSP
    obtain ⟨V3, hV3⟩ : ∃ V3, V3 = w3.alloc (Obj.cells #[.int .i64 e0, .int .i64 e1, .string e2] 27) := ⟨_, rfl⟩
    have hv3 : Below w3.heap.size w3 V3 := by rw [hV3]; exact (Below.refl _ _).alloc (Nat.le_refl _) _
    have HR3 : Hid (V3.heap[w3.heap.size]? = some (.cells #[.int .i64 e0, .int .i64 e1, .string e2] 27 (0, 0))) := by
      show _ = _; rw [hV3]; exact heap_alloc_new w3 _
    have HB3' : Hid (Below w.heap.size w V3) := HB3.out.trans (hv3.mono HB3.out.size)
    have HC3' : Hid (Below W.heap.size W V3) := HC3.out.trans (hv3.mono HC3.out.size)
    obtain ⟨q0, q1, q2⟩ := HC.out V3 HC3'.out
    have p0 := q0
    have p1 := q1
    have p2 := q2
    rw [hV3] at q0 q1 q2
    go_wp2_with fail
    rw [← hV3]
    clear q0 q1 q2 hV3 hv3 HB3 HC3 p0 p1 p2
    refine Calls.mono (HTO.out V3 (HF.out.kept HB3'.out)) ?_
    rintro e w4 ⟨g4, rfl, hown4, hb4⟩
    have HB4 : Hid (Below w.heap.size w w4) := HB3'.out.trans (hb4.mono HB3'.out.size)
    have HC4 : Hid (Below W.heap.size W w4) := HC3'.out.trans (hb4.mono HC3'.out.size)
    have HF4 : Hid (EnAt w4 (some ⟨g4, 0, none⟩) g4 0 l.ents) := cellsEn_own rfl hown4
    have HR4 : Hid (w4.heap[w3.heap.size]? = some (.cells #[.int .i64 e0, .int .i64 e1, .string e2] 27 (0, 0))) := (hb4.block _ (Array.getElem?_eq_some_iff.1 HR3.out).1).trans HR3.out
    clear hb4 hown4 HB3' HC3' HR3
    go_wp2_with fail
    obtain ⟨W5, hW5⟩ : ∃ W5, W5 = w4.alloc (Obj.cells #[.int .i64 l.start, .int .i64 l.sterm, .slice (some ⟨g4, 0, none⟩) l.ents.length l.ents.length] 32) := ⟨_, rfl⟩
    rw [← hW5]
    have hb5 : Below w4.heap.size w4 W5 := by rw [hW5]; exact (Below.refl _ _).alloc (Nat.le_refl _) _
    have hla5 : LogAt W5 w4.heap.size l (some ⟨g4, 0, none⟩) l.ents.length := by rw [hW5]; exact LogAt.new w4 l _ _ 32
    have HB5 : Hid (Below w.heap.size w W5) := HB4.out.trans (hb5.mono HB4.out.size)
    have HC5 : Hid (Below W.heap.size W W5) := HC4.out.trans (hb5.mono HC4.out.size)
    have HF5 : Hid (EnAt W5 (some ⟨g4, 0, none⟩) g4 0 l.ents) := HF4.out.kept hb5
    have HR5 : Hid (W5.heap[w3.heap.size]? = some (.cells #[.int .i64 e0, .int .i64 e1, .string e2] 27 (0, 0))) := (hb5.block _ (Array.getElem?_eq_some_iff.1 HR4.out).1).trans HR4.out
    clear hW5 hb5 HB4 HC4 HF4 HR4
    refine Calls.mono (HIM.out W5 g4 HF5.out) ?_
    rintro e w6 ⟨rfl, hb6⟩
    obtain ⟨V6, hV6⟩ : ∃ V6, V6 = w6.alloc (Obj.cells #[.int .i64 e0, .int .i64 e1, .string e2] 27) := ⟨_, rfl⟩
    have hv6 : Below w6.heap.size w6 V6 := by rw [hV6]; exact (Below.refl _ _).alloc (Nat.le_refl _) _
    have HR6 : Hid (V6.heap[w6.heap.size]? = some (.cells #[.int .i64 e0, .int .i64 e1, .string e2] 27 (0, 0))) := by
      show _ = _; rw [hV6]; exact heap_alloc_new w6 _
    have hb7 := hb6.trans (hv6.mono hb6.size)
    have HRV : Hid (V6.heap[w3.heap.size]? = some (.cells #[.int .i64 e0, .int .i64 e1, .string e2] 27 (0, 0))) := (hb7.block _ (Array.getElem?_eq_some_iff.1 HR5.out).1).trans HR5.out
    have HB6 : Hid (Below w.heap.size w V6) := HB5.out.trans (hb7.mono HB5.out.size)
    have HC6 : Hid (Below W.heap.size W V6) := HC5.out.trans (hb7.mono HC5.out.size)
    have HF6 : Hid (EnAt V6 (some ⟨g4, 0, none⟩) g4 0 l.ents) := HF5.out.kept hb7
    have HL6 : Hid (LogAt V6 w4.heap.size l (some ⟨g4, 0, none⟩) l.ents.length) := hla5.kept hb7
    clear hla5 hb6 HB5 HC5 HF5 HIM HR5 hb7 hv6
    have r0 := cell_of_row _ _ 0 _ _ _ HR6.out
    have r1 := cell_of_row _ _ 1 _ _ _ HR6.out
    have r2 := cell_of_row _ _ 2 _ _ _ HR6.out
    have s0 := cell_of_row _ _ 0 _ _ _ HRV.out
    have s1 := cell_of_row _ _ 1 _ _ _ HRV.out
    have s2 := cell_of_row _ _ 2 _ _ _ HRV.out
    simp at r0 r1 r2 s0 s1 s2
    rw [hV6] at r0 r1 r2 s0 s1 s2
    go_wp2_with fail
    rw [← hV6]
    clear r0 r1 r2 s0 s1 s2 hV6 HR6 HRV
    refine Calls.mono (HEE.out V6) ?_
    rintro e w7 ⟨rfl, hb8⟩
    have HB7 : Hid (Below w.heap.size w w7) := HB6.out.trans (hb8.mono HB6.out.size)
    have HC7 : Hid (Below W.heap.size W w7) := HC6.out.trans (hb8.mono HC6.out.size)
    have HF7 : Hid (EnAt w7 (some ⟨g4, 0, none⟩) g4 0 l.ents) := HF6.out.kept hb8
    have hla6 := HL6.out.kept hb8
    have HX : Hid (∀ w', Below w7.heap.size w7 w' → LogAt w' w4.heap.size l (some ⟨g4, 0, none⟩) l.ents.length ∧ LogAt w' w.heap.size l a cap) := fun w' h => ⟨hla6.kept h, HC.out w' (HC7.out.trans (h.mono HC7.out.size))⟩
    obtain ⟨p0, p1, p2⟩ := hla6
    obtain ⟨q0, q1, q2⟩ := HC.out w7 HC7.out
    clear hb8 HB6 HC6 HF6 HL6 HC
    unfold LogAt at HX
    cases B
    all_goals
      go_wp2_with fail
      go_region_held3 (fun w' => (w'.cell? ⟨w4.heap.size, 0, none⟩ = some (.int .i64 l.start) ∧ w'.cell? ⟨w4.heap.size, 1, none⟩ = some (.int .i64 l.sterm) ∧ w'.cell? ⟨w4.heap.size, 2, none⟩ = some (.slice (some ⟨g4, 0, none⟩) l.ents.length l.ents.length)) ∧ w'.cell? ⟨w.heap.size, 0, none⟩ = some (.int .i64 l.start) ∧ w'.cell? ⟨w.heap.size, 1, none⟩ = some (.int .i64 l.sterm) ∧ w'.cell? ⟨w.heap.size, 2, none⟩ = some (.slice a l.ents.length cap)) (first | go_keep | exact HX.out _ (below_undrew hb7) | exact HX.out _ ((below_undrew hb7).trans (hb8.mono hb7.size)))
        (first | (go_at_call 10; refine Calls.mono (HTO.out _ (HF.out.kept HB7.out.drew)) ?_; rintro e w8 ⟨g7, rfl, hown7, hb7⟩) | (go_at_call 13; refine Calls.mono (HEQ.out _ _ _ (EnAt.kept (w := w7.drew) HF7.out hb7) (cellsEn_own rfl hown7)) ?_; rintro e w9 ⟨rfl, hb8⟩) | fail)
      all_goals
        go_wp2
        go_ret
        have hB8 : Below w.heap.size w w8 := (HB7.out.drew).trans (hb7.mono HB7.out.size)
        exact ⟨rfl, hB8.trans (hb8.mono hB8.size)⟩
  · subst hx2
    go_wp2
    go_ret
    exact ⟨rfl, HB1.out⟩
theorem i64_wf {n : Int} (h : (Lit.int .i64 n).wf = true) : -9223372036854775808 ≤ n ∧ n ≤ 9223372036854775807 := by
  simpa [Lit.wf, IntKind.min, IntKind.max, IntKind.signed, IntKind.bits] using h
end Go.Proofs.Ytddmogggdckneaa
