/- The calls of the specification's cursor over a text, walked: l05Var, l05Take, l05ReadShort. -/
import Derived.Test.YtlmjhobijgmolaaReader
namespace Go.Proofs.Ytlmjhobijgmolaa
open Go.RowKit
set_option linter.unusedVariables false

/-- A cursor at cb, that far in its text, bad or not. -/
def C5 (w : World) (cb : Nat) (t : ByteArray) (a : Nat) (bad : Bool) : Prop := w.heap[cb]? = some (.cells #[.string t, .int .i64 (a : Int), .bool bad] 44 (0, 0)) ∧ a ≤ t.size
section
variable {w w' : World} {cb a : Nat} {t : ByteArray} {bad : Bool}
theorem C5.c0 (h : C5 w cb t a bad) : w.cell? ⟨cb, 0, none⟩ = some (.string t) := cell_of_row _ _ 0 _ _ _ h.1
theorem C5.c1 (h : C5 w cb t a bad) : w.cell? ⟨cb, 1, none⟩ = some (.int .i64 (a : Int)) := cell_of_row _ _ 1 _ _ _ h.1
theorem C5.c2 (h : C5 w cb t a bad) : w.cell? ⟨cb, 2, none⟩ = some (.bool bad) := cell_of_row _ _ 2 _ _ _ h.1
theorem C5.fz (h : C5 w cb t a bad) (i : Nat) : w.frozen? ⟨cb, i, none⟩ = false := frozen_of_row _ _ _ _ _ h.1
theorem C5.lt (h : C5 w cb t a bad) : cb < w.heap.size := (Array.getElem?_eq_some_iff.1 h.1).1
theorem C5.below (h : C5 w cb t a bad) (hb : Below w.heap.size w w') : C5 w' cb t a bad := ⟨(hb.block _ h.lt).trans h.1, h.2⟩
theorem C5.setAt (h : C5 w cb t a bad) {b : Nat} (hb : b ≤ t.size) : C5 (w.setCell ⟨cb, 1, none⟩ (.int .i64 (b : Int))) cb t b bad := by
  refine ⟨?_, hb⟩
  have := heap_setCell_same w cb 1 _ 44 (.int .i64 (b : Int)) h.1
  simpa using this
theorem C5.setBad (h : C5 w cb t a bad) : C5 (w.setCell ⟨cb, 2, none⟩ (.bool true)) cb t a true := by
  refine ⟨?_, h.2⟩
  have := heap_setCell_same w cb 2 _ 44 (.bool true) h.1
  simpa using this
theorem C5.far (h : C5 w cb t a bad) {k : Nat} (hk : cb ≠ k) (j : Nat) (v : Value) : C5 (w.setCell ⟨k, j, none⟩ v) cb t a bad := ⟨set_far h.1 hk j v, h.2⟩
end

set_option maxHeartbeats 1000000 in
theorem l05Var_ok {cb : Nat} {t : ByteArray} {a n b : Nat} (hs : t.size ≤ 1048576) (w : World) (hc : C5 w cb t a false) (h : Words.rd t.data.toList a = some (n, b)) :
    Calls Try.prog 27 #[.pointer (some ⟨cb, 0, none⟩)] w fun e w' => e = .returned (.int .i64 (n : Int)) ∧ C5 w' cb t b false ∧ w.grownBy w' (some cb) := by
  have hb := (Batches.rd_cut h).2.1
  have HC : Hid (C5 w cb t a false) := hc
  have HZ : Hid (rdZ t (a : Int) = some (n, b)) := (rdZ_at hc.2).trans h
  have c0 := hc.c0
  have c1 := hc.c1
  clear h hc
  go_enter Try.func27, Try.ntmps27
  go_wp2_with fail
  have NE := Abv.ne w
  have F0 := fun x : Abv w => x.cell c0
  have F1 := fun x : Abv w => x.cell c1
  refine wp_region_above (by kernel_rfl) (by kernel_rfl) ?_
  repeat (go_big_quiet_step (first | (go_at_call 36; exact calls_above (specRead_some hs HZ.out _))))
  refine wpQuiet_nil ?_
  rintro w1 ⟨⟨_, hb1⟩, rfl⟩
  clear NE F0 F1
  rename World => w1
  have hc1 := HC.out.below hb1
  have HC1 : Hid (C5 w1 cb t a false) := hc1
  have d1 := hc1.c1
  have d2 := hc1.c2
  have f1 := hc1.fz 1
  clear hc1
  go_wp2
  go_ret
  exact ⟨rfl, HC1.out.setAt hb, (own_below' hb1).trans (grown_set _ _ _ _)⟩
set_option maxHeartbeats 1000000 in
theorem l05Var_none {cb : Nat} {t : ByteArray} {a : Nat} (hs : t.size ≤ 1048576) (w : World) (hc : C5 w cb t a false) (h : Words.rd t.data.toList a = none) :
    Calls Try.prog 27 #[.pointer (some ⟨cb, 0, none⟩)] w fun e w' => e = .returned (.int .i64 0) ∧ C5 w' cb t a true ∧ w.grownBy w' (some cb) := by
  have HC : Hid (C5 w cb t a false) := hc
  have HZ : Hid (rdZ t (a : Int) = none) := (rdZ_at hc.2).trans h
  have c0 := hc.c0
  have c1 := hc.c1
  clear h hc
  go_enter Try.func27, Try.ntmps27
  go_wp2_with fail
  have NE := Abv.ne w
  have F0 := fun x : Abv w => x.cell c0
  have F1 := fun x : Abv w => x.cell c1
  refine wp_region_above (by kernel_rfl) (by kernel_rfl) ?_
  repeat (go_big_quiet_step (first | (go_at_call 36; exact calls_above (specRead_none hs HZ.out _))))
  refine wpQuiet_nil ?_
  rintro w1 ⟨⟨_, hb1⟩, rfl⟩
  clear NE F0 F1
  rename World => w1
  have hc1 := HC.out.below hb1
  have HC1 : Hid (C5 w1 cb t a false) := hc1
  have d2 := hc1.c2
  have f2 := hc1.fz 2
  clear hc1
  go_wp2
  go_ret
  exact ⟨rfl, HC1.out.setBad, (own_below' hb1).trans (grown_set _ _ _ _)⟩
set_option maxHeartbeats 1000000 in
theorem l05Var_bad {cb : Nat} {t : ByteArray} {a : Nat} (hs : t.size ≤ 1048576) (w : World) (hc : C5 w cb t a true) :
    Calls Try.prog 27 #[.pointer (some ⟨cb, 0, none⟩)] w fun e w' => e = .returned (.int .i64 0) ∧ C5 w' cb t a true ∧ w.grownBy w' (some cb) := by
  have HC : Hid (C5 w cb t a true) := hc
  have c0 := hc.c0
  have c1 := hc.c1
  have ha := hc.2
  clear hc
  cases hrd : rdTuple (rdZ t (a : Int)) with
  | tuple vs =>
    obtain ⟨x, y, z, hxyz⟩ : ∃ x y z, rdTuple (rdZ t (a : Int)) = .tuple #[.int .i64 x, .int .i64 y, .bool z] := by
      cases rdZ t (a : Int) with
      | none => exact ⟨_, _, _, rfl⟩
      | some p => exact ⟨_, _, _, rfl⟩
    have HK : Hid (∀ w, Calls Try.prog 36 #[.string t, .int .i64 (a : Int)] w fun e w' => e = .returned (.tuple #[.int .i64 x, .int .i64 y, .bool z]) ∧ Below w.heap.size w w') := fun w => by
      have := specRead_any t hs (a : Int) w
      rwa [hxyz] at this
    clear hrd hxyz
    go_enter Try.func27, Try.ntmps27
    go_wp2_with fail
    have NE := Abv.ne w
    have F0 := fun x : Abv w => x.cell c0
    have F1 := fun x : Abv w => x.cell c1
    refine wp_region_above (by kernel_rfl) (by kernel_rfl) ?_
    repeat (go_big_quiet_step (first | (go_at_call 36; exact calls_above (HK.out _))))
    refine wpQuiet_nil ?_
    rintro w1 ⟨⟨_, hb1⟩, rfl⟩
    clear NE F0 F1
    rename World => w1
    have hc1 := HC.out.below hb1
    have HC1 : Hid (C5 w1 cb t a true) := hc1
    have d2 := hc1.c2
    have f2 := hc1.fz 2
    clear hc1
    go_wp2
    go_ret
    exact ⟨rfl, HC1.out.setBad, (own_below' hb1).trans (grown_set _ _ _ _)⟩
  | _ => cases hz : rdZ t (a : Int) <;> rw [hz] at hrd <;> cases hrd
/-- What a read leaves, whatever is read. -/
def Some5 (w w' : World) (cb : Nat) (t : ByteArray) (a : Nat) : Prop := ∃ a' bad, C5 w' cb t a' bad ∧ a ≤ a' ∧ (bad = true ∨ a < a') ∧ w.grownBy w' (some cb)
theorem l05Var_any {cb : Nat} {t : ByteArray} {a : Nat} (hs : t.size ≤ 1048576) (w : World) (bad : Bool) (hc : C5 w cb t a bad) :
    Calls Try.prog 27 #[.pointer (some ⟨cb, 0, none⟩)] w fun e w' => ∃ n : Nat, e = .returned (.int .i64 (n : Int)) ∧ n ≤ 1000000000 ∧ Some5 w w' cb t a := by
  cases bad with
  | true => exact (l05Var_bad hs w hc).mono fun e w' ⟨h1, h2, h3⟩ => ⟨0, h1, by omega, a, true, h2, Nat.le_refl _, Or.inl rfl, h3⟩
  | false =>
    cases h : Words.rd t.data.toList a with
    | none => exact (l05Var_none hs w hc h).mono fun e w' ⟨h1, h2, h3⟩ => ⟨0, h1, by omega, a, true, h2, Nat.le_refl _, Or.inl rfl, h3⟩
    | some p =>
      obtain ⟨n, b⟩ := p
      have hb := Batches.rd_cut h
      exact (l05Var_ok hs w hc h).mono fun e w' ⟨h1, h2, h3⟩ => ⟨n, h1, hb.2.2.2, b, false, h2, Nat.le_of_lt hb.1, Or.inr hb.1, h3⟩
end Go.Proofs.Ytlmjhobijgmolaa
