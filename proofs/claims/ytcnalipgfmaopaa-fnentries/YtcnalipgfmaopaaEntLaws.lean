/- The laws of EntryOk and EntryText, walked. -/
import Derived.Test.YtcnalipgfmaopaaImplEntT
namespace Go.Proofs.Ytcnalipgfmaopaa
open Go.RowKit
open Ents (okB kindB text textS right confOf confS)
set_option linter.unusedVariables false
set_option linter.unusedSimpArgs false

theorem szEntry_is (e : EntL) (R : Int) (hs : e.data.size ≤ maxLen) (hR : R = if e.data.size ≤ 1048576 then ((1048576 - e.data.size : Nat) : Int) else -1) (w : World) : Calls Try.prog 18 #[entV e, .int .i64 1048576] w fun en w' => en = .returned (.int .i64 R) ∧ Below w.heap.size w w' := by
  unfold maxLen at hs
  unfold entV
  have HB : Hid (Below w.heap.size w (w.alloc (Obj.cells #[.int .i64 e.term, .int .i64 e.kind, .string e.data] 33))) := (Below.refl _ _).alloc (Nat.le_refl _) _
  by_cases h : e.data.size ≤ 1048576
  · rw [if_pos h] at hR
    have hl : ¬ (1048576 : Int) - (e.data.size : Int) < 0 := by omega
    have HR : Hid (R = (1048576 : Int) - (e.data.size : Int)) := by show _ = _; rw [hR]; omega
    clear hR
    go_enter Try.func18, Try.ntmps18
    go_wp2
    go_ret
    exact ⟨by rw [HR.out]; rfl, HB.out⟩
  · rw [if_neg h] at hR
    have hl : (1048576 : Int) - (e.data.size : Int) < 0 := by omega
    have HR : Hid (R = -1) := hR
    clear hR
    go_enter Try.func18, Try.ntmps18
    go_wp2
    go_ret
    exact ⟨by rw [HR.out]; rfl, HB.out⟩
set_option maxHeartbeats 1000000 in
theorem toEntry_is (e : EntL) (w : World) : Calls Try.prog 20 #[entV e] w fun en w' => en = .returned (entV e) ∧ Below w.heap.size w w' := by
  unfold entV
  go_enter Try.func20, Try.ntmps20
  go_wp2
  refine bodyPost_ret (v := .agg #[.int .i64 e.term, .int .i64 e.kind, .string e.data]) (by simp [results, Try.results20, go_sem]) rfl ⟨rfl, ?_⟩
  exact (((Below.refl _ _).alloc (Nat.le_refl _) _).alloc (by simp) _).alloc (by simp; omega) _
theorem eqEntry_same (e : EntL) (w : World) : Calls Try.prog 26 #[entV e, entV e] w fun en w' => en = .returned (.bool true) ∧ Below w.heap.size w w' := by
  unfold entV
  go_enter Try.func26, Try.ntmps26
  go_wp2
  go_ret
  exact ⟨rfl, ((Below.refl _ _).alloc (Nat.le_refl _) _).alloc (by simp) _⟩
theorem entV_kept {w w1 W : World} {e : EntL} {t : TypeId} (hW : W = w.alloc (Obj.cells #[.int .i64 e.term, .int .i64 e.kind, .string e.data] t)) (hb : Below W.heap.size W w1) :
    w1.cell? ⟨w.heap.size, 0, none⟩ = some (.int .i64 e.term) ∧ w1.cell? ⟨w.heap.size, 1, none⟩ = some (.int .i64 e.kind) ∧ w1.cell? ⟨w.heap.size, 2, none⟩ = some (.string e.data) := by
  have p0 := heap_alloc_new w (Obj.cells #[.int .i64 e.term, .int .i64 e.kind, .string e.data] t)
  rw [← hW] at p0
  have q := (hb.block _ (Array.getElem?_eq_some_iff.1 p0).1).trans p0
  exact ⟨cell_of_row _ _ 0 _ _ _ q, cell_of_row _ _ 1 _ _ _ q, cell_of_row _ _ 2 _ _ _ q⟩
set_option maxHeartbeats 2000000 in
set_option maxRecDepth 100000 in
theorem lawEntOk_any (e : EntL) (hs : e.data.size ≤ maxLen) (w : World) : Calls Try.prog 5 #[entV e] w fun en w' => en = .returned (.bool true) ∧ Below w.heap.size w w' := by
  obtain ⟨W, hW⟩ : ∃ W, W = w.alloc (Obj.cells #[.int .i64 e.term, .int .i64 e.kind, .string e.data] 33) := ⟨_, rfl⟩
  obtain ⟨g, hg⟩ : ∃ g, g = w.heap.size := ⟨_, rfl⟩
  have HC : Hid (∀ w1, Below W.heap.size W w1 → w1.cell? ⟨g, 0, none⟩ = some (.int .i64 e.term) ∧ w1.cell? ⟨g, 1, none⟩ = some (.int .i64 e.kind) ∧ w1.cell? ⟨g, 2, none⟩ = some (.string e.data)) := fun w1 hb => by rw [hg]; exact entV_kept hW hb
  have HB : Hid (Below w.heap.size w W) := by show Below _ _ _; rw [hW]; exact (Below.refl _ _).alloc (Nat.le_refl _) _
  obtain ⟨R, hR⟩ : ∃ R : Int, R = if e.data.size ≤ 1048576 then ((1048576 - e.data.size : Nat) : Int) else -1 := ⟨_, rfl⟩
  have HSZ : Hid (∀ W, Calls Try.prog 18 #[entV e, .int .i64 1048576] W fun en w' => en = .returned (.int .i64 R) ∧ Below W.heap.size W w') := fun W => szEntry_is e R hs hR W
  have HTO : Hid (∀ W, Calls Try.prog 20 #[entV e] W fun en w' => en = .returned (entV e) ∧ Below W.heap.size W w') := fun W => toEntry_is e W
  unfold entV at HSZ HTO ⊢
  by_cases h : e.data.size ≤ 1048576
  · rw [if_pos h] at hR
    have hR0 : ¬ R < 0 := by rw [hR]; omega
    obtain ⟨O, hO⟩ : ∃ O, O = okB e := ⟨_, rfl⟩
    have HSP : Hid (∀ W, Calls Try.prog 19 #[.agg #[.int .i64 e.term, .int .i64 e.kind, .string e.data]] W fun en w' => en = .returned (.bool O) ∧ Below W.heap.size W w') := fun W => by rw [hO]; exact specEntOk_is e h W
    have HIM : Hid (∀ W, Calls Try.prog 21 #[.agg #[.int .i64 e.term, .int .i64 e.kind, .string e.data]] W fun en w' => en = .returned (.bool O) ∧ Below W.heap.size W w') := fun W => by rw [hO]; exact implEntOk_is e h W
    have hn2 : (!(O == O)) = false := by simp
    clear hR hO h hs
    go_enter Try.func5, Try.ntmps5
    go_wp2_with fail
    rw [← hW, ← hg]
    clear hW hg
    refine Calls.mono (HSZ.out _) ?_
    rintro en w1 ⟨rfl, hb1⟩
    obtain ⟨c0, c1, c2⟩ := HC.out _ hb1
    have HB1 : Hid (Below W.heap.size W w1) := hb1
    clear hb1
    go_wp2_with fail
    refine Calls.mono (HTO.out _) ?_
    rintro en w2 ⟨rfl, hb2⟩
    clear c0 c1 c2
    have HB2 : Hid (Below W.heap.size W w2) := HB1.out.trans (hb2.mono HB1.out.size)
    clear hb2
    go_wp2_with fail
    refine Calls.mono (HSP.out _) ?_
    rintro en w3 ⟨rfl, hb3⟩
    have HB3 : Hid (Below W.heap.size W w3) := HB2.out.trans (hb3.mono HB2.out.size)
    clear hb3
    obtain ⟨c0, c1, c2⟩ := HC.out _ HB3.out
    go_wp2_with fail
    refine Calls.mono (HTO.out _) ?_
    rintro en w4 ⟨rfl, hb4⟩
    clear c0 c1 c2
    have HB4 : Hid (Below W.heap.size W w4) := HB3.out.trans (hb4.mono HB3.out.size)
    clear hb4
    go_wp2_with fail
    refine Calls.mono (HIM.out _) ?_
    rintro en w5 ⟨rfl, hb5⟩
    have HB5 : Hid (Below W.heap.size W w5) := HB4.out.trans (hb5.mono HB4.out.size)
    clear hb5
    go_wp2
    go_ret
    exact ⟨rfl, HB.out.trans (HB5.out.mono HB.out.size)⟩
  · rw [if_neg h] at hR
    have hR0 : R < 0 := by rw [hR]; omega
    clear hR h hs
    go_enter Try.func5, Try.ntmps5
    go_wp2_with fail
    rw [← hW, ← hg]
    clear hW hg
    refine Calls.mono (HSZ.out _) ?_
    rintro en w1 ⟨rfl, hb1⟩
    have HB1 : Hid (Below W.heap.size W w1) := hb1
    clear hb1
    go_wp2
    go_ret
    exact ⟨rfl, HB.out.trans (HB1.out.mono HB.out.size)⟩
theorem ent_tuple (i : Int) (e : EntL) : ∃ T : ByteArray, ∃ R : Bool, entTuple i e = .tuple #[.string T, .bool R] := by
  unfold entTuple
  split
  · exact ⟨_, _, rfl⟩
  · exact ⟨_, _, rfl⟩
set_option maxHeartbeats 2000000 in
set_option maxRecDepth 100000 in
theorem lawEntText_any (i : Int) (e : EntL) (hs : e.data.size ≤ maxLen) (w : World) : Calls Try.prog 6 #[.int .i64 i, entV e] w fun en w' => en = .returned (.bool true) ∧ Below w.heap.size w w' := by
  obtain ⟨W, hW⟩ : ∃ W, W = w.alloc (Obj.cells #[.int .i64 e.term, .int .i64 e.kind, .string e.data] 33) := ⟨_, rfl⟩
  obtain ⟨g, hg⟩ : ∃ g, g = w.heap.size := ⟨_, rfl⟩
  have HC : Hid (∀ w1, Below W.heap.size W w1 → w1.cell? ⟨g, 0, none⟩ = some (.int .i64 e.term) ∧ w1.cell? ⟨g, 1, none⟩ = some (.int .i64 e.kind) ∧ w1.cell? ⟨g, 2, none⟩ = some (.string e.data)) := fun w1 hb => by rw [hg]; exact entV_kept hW hb
  have HB : Hid (Below w.heap.size w W) := by show Below _ _ _; rw [hW]; exact (Below.refl _ _).alloc (Nat.le_refl _) _
  obtain ⟨R, hR⟩ : ∃ R : Int, R = if e.data.size ≤ 1048576 then ((1048576 - e.data.size : Nat) : Int) else -1 := ⟨_, rfl⟩
  have HSZ : Hid (∀ W, Calls Try.prog 18 #[entV e, .int .i64 1048576] W fun en w' => en = .returned (.int .i64 R) ∧ Below W.heap.size W w') := fun W => szEntry_is e R hs hR W
  have HTO : Hid (∀ W, Calls Try.prog 20 #[entV e] W fun en w' => en = .returned (entV e) ∧ Below W.heap.size W w') := fun W => toEntry_is e W
  unfold entV at HSZ HTO ⊢
  by_cases h : e.data.size ≤ 1048576
  · rw [if_pos h] at hR
    have hR0 : ¬ R < 0 := by rw [hR]; omega
    obtain ⟨T, O, hO⟩ := ent_tuple i e
    have HSP : Hid (∀ W, Calls Try.prog 22 #[.int .i64 i, .agg #[.int .i64 e.term, .int .i64 e.kind, .string e.data]] W fun en w' => en = .returned (.tuple #[.string T, .bool O]) ∧ Below W.heap.size W w') := fun W => by rw [← hO]; exact specEntText_is i e h W
    have HIM : Hid (∀ W, Calls Try.prog 23 #[.int .i64 i, .agg #[.int .i64 e.term, .int .i64 e.kind, .string e.data]] W fun en w' => en = .returned (.tuple #[.string T, .bool O]) ∧ Below W.heap.size W w') := fun W => by rw [← hO]; exact implEntText_is i e h W
    have hn1 : (!(T.toList == T.toList)) = false := by simp
    have hn2 : (!(O == O)) = false := by simp
    clear hR hO h hs
    go_enter Try.func6, Try.ntmps6
    go_wp2_with fail
    rw [← hW, ← hg]
    clear hW hg
    refine Calls.mono (HSZ.out _) ?_
    rintro en w1 ⟨rfl, hb1⟩
    obtain ⟨c0, c1, c2⟩ := HC.out _ hb1
    have HB1 : Hid (Below W.heap.size W w1) := hb1
    clear hb1
    go_wp2_with fail
    refine Calls.mono (HTO.out _) ?_
    rintro en w2 ⟨rfl, hb2⟩
    clear c0 c1 c2
    have HB2 : Hid (Below W.heap.size W w2) := HB1.out.trans (hb2.mono HB1.out.size)
    clear hb2
    go_wp2_with fail
    refine Calls.mono (HSP.out _) ?_
    rintro en w3 ⟨rfl, hb3⟩
    have HB3 : Hid (Below W.heap.size W w3) := HB2.out.trans (hb3.mono HB2.out.size)
    clear hb3
    obtain ⟨c0, c1, c2⟩ := HC.out _ HB3.out
    go_wp2_with fail
    refine Calls.mono (HTO.out _) ?_
    rintro en w4 ⟨rfl, hb4⟩
    clear c0 c1 c2
    have HB4 : Hid (Below W.heap.size W w4) := HB3.out.trans (hb4.mono HB3.out.size)
    clear hb4
    go_wp2_with fail
    refine Calls.mono (HIM.out _) ?_
    rintro en w5 ⟨rfl, hb5⟩
    have HB5 : Hid (Below W.heap.size W w5) := HB4.out.trans (hb5.mono HB4.out.size)
    clear hb5
    go_wp2
    go_ret
    exact ⟨rfl, HB.out.trans (HB5.out.mono HB.out.size)⟩
  · rw [if_neg h] at hR
    have hR0 : R < 0 := by rw [hR]; omega
    clear hR h hs
    go_enter Try.func6, Try.ntmps6
    go_wp2_with fail
    rw [← hW, ← hg]
    clear hW hg
    refine Calls.mono (HSZ.out _) ?_
    rintro en w1 ⟨rfl, hb1⟩
    have HB1 : Hid (Below W.heap.size W w1) := hb1
    clear hb1
    go_wp2
    go_ret
    exact ⟨rfl, HB.out.trans (HB1.out.mono HB.out.size)⟩
end Go.Proofs.Ytcnalipgfmaopaa
