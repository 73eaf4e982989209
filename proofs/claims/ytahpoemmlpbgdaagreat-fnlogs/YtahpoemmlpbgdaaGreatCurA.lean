/- The calls of the program's reader, walked: need, number, count; each ends with its answer or with the panic that the reader throws. The calls of the specification's cursor over a text, walked: l05Var, l05Take, l05ReadShort. The specification's l05Take, walked. The calls of the program's reader, walked: one. The calls of the closure that reads a manifest and of readWhole, walked: the deferred closure that recovers. -/
import Derived.Test.YtahpoemmlpbgdaaGreatTxtA
import Derived.Test.YtahpoemmlpbgdaaGreatMathB
import Derived.Test.YtahpoemmlpbgdaaGreatMarkA
import Derived.Deep.QuietTactic
import Derived.StillTailTactics
import Derived.Defers
import Derived.Recover
namespace Go.Proofs.YtahpoemmlpbgdaaGreat
section
open Go.RowKit
set_option linter.unusedVariables false

/-- A reader at rb, that far in its text. -/
def Rd (w : World) (rb : Nat) (t : ByteArray) (a : Nat) : Prop := w.heap[rb]? = some (.cells #[.string t, .int .i64 (a : Int)] 129 (0, 0)) ∧ a ≤ t.size
theorem Rd.c0 {w : World} {rb : Nat} {t : ByteArray} {a : Nat} (h : Rd w rb t a) : w.cell? ⟨rb, 0, none⟩ = some (.string t) := cell_of_row _ _ 0 _ _ _ h.1
theorem Rd.c1 {w : World} {rb : Nat} {t : ByteArray} {a : Nat} (h : Rd w rb t a) : w.cell? ⟨rb, 1, none⟩ = some (.int .i64 (a : Int)) := cell_of_row _ _ 1 _ _ _ h.1
theorem Rd.fz {w : World} {rb : Nat} {t : ByteArray} {a : Nat} (h : Rd w rb t a) (i : Nat) : w.frozen? ⟨rb, i, none⟩ = false := frozen_of_row _ _ _ _ _ h.1
theorem Rd.set {w : World} {rb : Nat} {t : ByteArray} {a : Nat} (h : Rd w rb t a) {b : Nat} (hb : b ≤ t.size) : Rd (w.setCell ⟨rb, 1, none⟩ (.int .i64 (b : Int))) rb t b := by
  refine ⟨?_, hb⟩
  have := heap_setCell_same w rb 1 _ 129 (.int .i64 (b : Int)) h.1
  simpa using this
theorem Rd.lt {w : World} {rb : Nat} {t : ByteArray} {a : Nat} (h : Rd w rb t a) : rb < w.heap.size := (Array.getElem?_eq_some_iff.1 h.1).1
theorem Rd.below {w w' : World} {rb : Nat} {t : ByteArray} {a : Nat} (h : Rd w rb t a) (hb : Below w.heap.size w w') : Rd w' rb t a := ⟨(hb.block _ h.lt).trans h.1, h.2⟩
theorem Rd.setNew {w : World} {rb : Nat} {t : ByteArray} {a : Nat} (h : Rd w rb t a) {k : Nat} (hk : rb ≠ k) (j : Nat) (v : Value) : Rd (w.setCell ⟨k, j, none⟩ v) rb t a := ⟨set_far h.1 hk j v, h.2⟩
theorem Rd.drew {w : World} {rb : Nat} {t : ByteArray} {a : Nat} (h : Rd w rb t a) : Rd w.drew rb t a := h
/-- What the reader throws. -/
def thrown : List PanicEntry := [{ v := .iface 157 (.agg #[]), recovered := false }]

set_option maxHeartbeats 400000 in
theorem need_yes (r : Value) (w : World) : Calls Tryz.prog 92 #[r, .bool true] w fun e w' => e = .returned (.tuple #[]) ∧ w = w' := by
  go_enter Tryz.func92, Tryz.ntmps92
  go_wp2
  go_end0
  exact ⟨rfl, rfl⟩
set_option maxHeartbeats 400000 in
theorem need_no (r : Value) (w : World) : Calls Tryz.prog 92 #[r, .bool false] w fun e w' => e = .panicked thrown ∧ w = w' := by
  go_enter Tryz.func92, Tryz.ntmps92
  go_wp2
  exact ⟨rfl, rfl, rfl⟩

theorem rdZ_at {t : ByteArray} {a : Nat} (h : a ≤ t.size) : rdZ t (a : Int) = Words.rd t.data.toList a := by
  rw [rdZ, if_pos ⟨by omega, by omega⟩, Int.toNat_natCast]

set_option maxHeartbeats 1000000 in
theorem number_some {rb : Nat} {t : ByteArray} {a n b : Nat} (hs : t.size ≤ 1048576) (w : World) (hr : Rd w rb t a) (h : Words.rd t.data.toList a = some (n, b)) :
    Calls Tryz.prog 94 #[.pointer (some ⟨rb, 0, none⟩)] w fun e w' => e = .returned (.int .i64 (n : Int)) ∧ Rd w' rb t b ∧ w.grownBy w' (some rb) := by
  have hb := (Batches.rd_cut h).2.1
  have HR : Hid (Rd w rb t a) := hr
  have HZ : Hid (rdZ t (a : Int) = some (n, b)) := (rdZ_at hr.2).trans h
  have c0 := hr.c0
  have c1 := hr.c1
  have f1 := hr.fz 1
  clear h hr
  go_enter Tryz.func94, Tryz.ntmps94
  go_wp2_with fail
  go_quiet (first | (go_at_call 109; exact Calls.quiet_of_same (implRead_some hs HZ.out _)))
  go_wp2_with (go_at_call 92; refine (need_yes _ _).mono ?_; rintro e w2 ⟨rfl, rfl⟩)
  go_ret
  exact ⟨rfl, Rd.set (w := w.drewN nq) HR.out hb, (grown_drewN (World.grownBy.refl w _) nq).trans (grown_set _ _ _ _)⟩
set_option maxHeartbeats 1000000 in
theorem number_none {rb : Nat} {t : ByteArray} {a : Nat} (hs : t.size ≤ 1048576) (w : World) (hr : Rd w rb t a) (h : Words.rd t.data.toList a = none) :
    Calls Tryz.prog 94 #[.pointer (some ⟨rb, 0, none⟩)] w fun e w' => e = .panicked thrown ∧ w.grownBy w' (some rb) := by
  have HZ : Hid (rdZ t (a : Int) = none) := (rdZ_at hr.2).trans h
  have c0 := hr.c0
  have c1 := hr.c1
  clear h hr
  go_enter Tryz.func94, Tryz.ntmps94
  go_wp2_with fail
  go_quiet (first | (go_at_call 109; exact Calls.quiet_of_same (implRead_none hs HZ.out _)))
  go_wp2_with (go_at_call 92; refine (need_no _ _).mono ?_; rintro e w2 ⟨rfl, rfl⟩)
  exact ⟨rfl, rfl, grown_drewN (World.grownBy.refl w _) nq⟩
end
section
open Go.RowKit
set_option linter.unusedVariables false

/-- A cursor at cb, that far in its text, bad or not. -/
def C5 (w : World) (cb : Nat) (t : ByteArray) (a : Nat) (bad : Bool) : Prop := w.heap[cb]? = some (.cells #[.string t, .int .i64 (a : Int), .bool bad] 139 (0, 0)) ∧ a ≤ t.size
section
variable {w w' : World} {cb a : Nat} {t : ByteArray} {bad : Bool}
theorem C5.c0 (h : C5 w cb t a bad) : w.cell? ⟨cb, 0, none⟩ = some (.string t) := cell_of_row _ _ 0 _ _ _ h.1
theorem C5.c1 (h : C5 w cb t a bad) : w.cell? ⟨cb, 1, none⟩ = some (.int .i64 (a : Int)) := cell_of_row _ _ 1 _ _ _ h.1
theorem C5.c2 (h : C5 w cb t a bad) : w.cell? ⟨cb, 2, none⟩ = some (.bool bad) := cell_of_row _ _ 2 _ _ _ h.1
theorem C5.fz (h : C5 w cb t a bad) (i : Nat) : w.frozen? ⟨cb, i, none⟩ = false := frozen_of_row _ _ _ _ _ h.1
theorem C5.lt (h : C5 w cb t a bad) : cb < w.heap.size := (Array.getElem?_eq_some_iff.1 h.1).1
theorem C5.below (h : C5 w cb t a bad) (hb : Below w.heap.size w w') : C5 w' cb t a bad := ⟨(hb.block _ h.lt).trans h.1, h.2⟩
theorem C5.setAt (h : C5 w cb t a bad) {b : Nat} (hb : b ≤ t.size) : C5 (w.setCell ⟨cb, 1, none⟩ (.int .i64 (b : Int))) cb t b bad := by
  refine ⟨?_, hb⟩
  have := heap_setCell_same w cb 1 _ 139 (.int .i64 (b : Int)) h.1
  simpa using this
theorem C5.setBad (h : C5 w cb t a bad) : C5 (w.setCell ⟨cb, 2, none⟩ (.bool true)) cb t a true := by
  refine ⟨?_, h.2⟩
  have := heap_setCell_same w cb 2 _ 139 (.bool true) h.1
  simpa using this
theorem C5.far (h : C5 w cb t a bad) {k : Nat} (hk : cb ≠ k) (j : Nat) (v : Value) : C5 (w.setCell ⟨k, j, none⟩ v) cb t a bad := ⟨set_far h.1 hk j v, h.2⟩
end

set_option maxHeartbeats 1000000 in
theorem l05Var_ok {cb : Nat} {t : ByteArray} {a n b : Nat} (hs : t.size ≤ 1048576) (w : World) (hc : C5 w cb t a false) (h : Words.rd t.data.toList a = some (n, b)) :
    Calls Tryz.prog 99 #[.pointer (some ⟨cb, 0, none⟩)] w fun e w' => e = .returned (.int .i64 (n : Int)) ∧ C5 w' cb t b false ∧ w.grownBy w' (some cb) := by
  have hb := (Batches.rd_cut h).2.1
  have HC : Hid (C5 w cb t a false) := hc
  have HZ : Hid (rdZ t (a : Int) = some (n, b)) := (rdZ_at hc.2).trans h
  have c0 := hc.c0
  have c1 := hc.c1
  clear h hc
  go_enter Tryz.func99, Tryz.ntmps99
  go_wp2_with fail
  have NE := Abv.ne w
  have F0 := fun x : Abv w => x.cell c0
  have F1 := fun x : Abv w => x.cell c1
  refine wp_region_above (by kernel_rfl) (by kernel_rfl) ?_
  repeat (go_big_quiet_step (first | (go_at_call 97; exact calls_above (specRead_some hs HZ.out _))))
  refine wpQuiet_nil ?_
  rintro w1 ⟨⟨_, hb1⟩, rfl⟩
  clear NE F0 F1
  rename World => w1
  have hc1 := HC.out.below hb1
  have HC1 : Hid (C5 w1 cb t a false) := hc1
  have d1 := hc1.c1
  have d2 := hc1.c2
  have f1 := hc1.fz 1
  clear hc1
  go_wp2
  go_ret
  exact ⟨rfl, HC1.out.setAt hb, (own_below' hb1).trans (grown_set _ _ _ _)⟩
set_option maxHeartbeats 1000000 in
theorem l05Var_none {cb : Nat} {t : ByteArray} {a : Nat} (hs : t.size ≤ 1048576) (w : World) (hc : C5 w cb t a false) (h : Words.rd t.data.toList a = none) :
    Calls Tryz.prog 99 #[.pointer (some ⟨cb, 0, none⟩)] w fun e w' => e = .returned (.int .i64 0) ∧ C5 w' cb t a true ∧ w.grownBy w' (some cb) := by
  have HC : Hid (C5 w cb t a false) := hc
  have HZ : Hid (rdZ t (a : Int) = none) := (rdZ_at hc.2).trans h
  have c0 := hc.c0
  have c1 := hc.c1
  clear h hc
  go_enter Tryz.func99, Tryz.ntmps99
  go_wp2_with fail
  have NE := Abv.ne w
  have F0 := fun x : Abv w => x.cell c0
  have F1 := fun x : Abv w => x.cell c1
  refine wp_region_above (by kernel_rfl) (by kernel_rfl) ?_
  repeat (go_big_quiet_step (first | (go_at_call 97; exact calls_above (specRead_none hs HZ.out _))))
  refine wpQuiet_nil ?_
  rintro w1 ⟨⟨_, hb1⟩, rfl⟩
  clear NE F0 F1
  rename World => w1
  have hc1 := HC.out.below hb1
  have HC1 : Hid (C5 w1 cb t a false) := hc1
  have d2 := hc1.c2
  have f2 := hc1.fz 2
  clear hc1
  go_wp2
  go_ret
  exact ⟨rfl, HC1.out.setBad, (own_below' hb1).trans (grown_set _ _ _ _)⟩
set_option maxHeartbeats 1000000 in
theorem l05Var_bad {cb : Nat} {t : ByteArray} {a : Nat} (hs : t.size ≤ 1048576) (w : World) (hc : C5 w cb t a true) :
    Calls Tryz.prog 99 #[.pointer (some ⟨cb, 0, none⟩)] w fun e w' => e = .returned (.int .i64 0) ∧ C5 w' cb t a true ∧ w.grownBy w' (some cb) := by
  have HC : Hid (C5 w cb t a true) := hc
  have c0 := hc.c0
  have c1 := hc.c1
  have ha := hc.2
  clear hc
  cases hrd : rdTuple (rdZ t (a : Int)) with
  | tuple vs =>
    obtain ⟨x, y, z, hxyz⟩ : ∃ x y z, rdTuple (rdZ t (a : Int)) = .tuple #[.int .i64 x, .int .i64 y, .bool z] := by
      cases rdZ t (a : Int) with
      | none => exact ⟨_, _, _, rfl⟩
      | some p => exact ⟨_, _, _, rfl⟩
    have HK : Hid (∀ w, Calls Tryz.prog 97 #[.string t, .int .i64 (a : Int)] w fun e w' => e = .returned (.tuple #[.int .i64 x, .int .i64 y, .bool z]) ∧ Below w.heap.size w w') := fun w => by
      have := specRead_any t hs (a : Int) w
      rwa [hxyz] at this
    clear hrd hxyz
    go_enter Tryz.func99, Tryz.ntmps99
    go_wp2_with fail
    have NE := Abv.ne w
    have F0 := fun x : Abv w => x.cell c0
    have F1 := fun x : Abv w => x.cell c1
    refine wp_region_above (by kernel_rfl) (by kernel_rfl) ?_
    repeat (go_big_quiet_step (first | (go_at_call 97; exact calls_above (HK.out _))))
    refine wpQuiet_nil ?_
    rintro w1 ⟨⟨_, hb1⟩, rfl⟩
    clear NE F0 F1
    rename World => w1
    have hc1 := HC.out.below hb1
    have HC1 : Hid (C5 w1 cb t a true) := hc1
    have d2 := hc1.c2
    have f2 := hc1.fz 2
    clear hc1
    go_wp2
    go_ret
    exact ⟨rfl, HC1.out.setBad, (own_below' hb1).trans (grown_set _ _ _ _)⟩
  | _ => cases hz : rdZ t (a : Int) <;> rw [hz] at hrd <;> cases hrd
end
section
open Go.RowKit
set_option linter.unusedVariables false

set_option maxHeartbeats 1000000 in
theorem take_ok {cb : Nat} {t : ByteArray} {a n : Nat} (hs : t.size ≤ 1048576) (w : World) (hc : C5 w cb t a false) (h : a + n ≤ t.size) :
    Calls Tryz.prog 98 #[.pointer (some ⟨cb, 0, none⟩), .int .i64 (n : Int)] w fun e w' => e = .returned (.string (t.extract a (a + n))) ∧ C5 w' cb t (a + n) false ∧ w.grownBy w' (some cb) := by
  obtain ⟨M, hM⟩ : ∃ M : Nat, M = a + n := ⟨_, rfl⟩
  rw [← hM]
  have HM : Hid (M = a + n) := hM
  clear hM
  have HC : Hid (C5 w cb t a false) := hc
  have c0 := hc.c0
  have c1 := hc.c1
  have c2 := hc.c2
  have f1 := hc.fz 1
  obtain ⟨D, hD⟩ : ∃ D : Nat, D = t.size - a := ⟨_, rfl⟩
  have hm : IntKind.i64.wrap ((t.size : Int) - (a : Int)) = (D : Int) := by rw [IntWalk.i64_in _ (by omega)]; omega
  have h1 : decide ((D : Int) < (n : Int)) = false := decide_eq_false (by omega)
  have h2 : decide (D < n) = false := decide_eq_false (by omega)
  clear hc hD
  go_enter Tryz.func98, Tryz.ntmps98
  go_wp2_with fail
  have NE := Abv.ne w
  have F0 := fun x : Abv w => x.cell c0
  have F1 := fun x : Abv w => x.cell c1
  have F2 := fun x : Abv w => x.cell c2
  refine wp_region_above (by kernel_rfl) (by kernel_rfl) ?_
  repeat (go_big_quiet_step (fail))
  refine wpQuiet_nil ?_
  rintro w1 ⟨⟨_, hb1⟩, rfl⟩
  clear NE F0 F1 F2
  rename World => w1
  have hc1 := HC.out.below hb1
  have HC1 : Hid (C5 w1 cb t a false) := hc1
  have d0 := hc1.c0
  have d1 := hc1.c1
  have d2 := hc1.c2
  have g1 := hc1.fz 1
  clear hc1 hm h1 h2 c0 c1 c2 f1 HC
  go_wp2_with fail
  have hM := HM.out
  rw [show (a : Int) + (n : Int) = (M : Int) by omega]
  have hC2 := HC1.out.setAt (b := M) (by omega)
  obtain ⟨W2, hW2⟩ : ∃ W2, W2 = w1.setCell ⟨cb, 1, none⟩ (.int .i64 (M : Int)) := ⟨_, rfl⟩
  have hg2 : w.grownBy W2 (some cb) := by rw [hW2]; exact (own_below' hb1).trans (grown_set _ _ _ _)
  rw [← hW2] at hC2 ⊢
  have HC2 : Hid (C5 W2 cb t M false) := hC2
  have e0 := hC2.c0
  have e1 := hC2.c1
  have hm : IntKind.i64.wrap ((M : Int) - (n : Int)) = (a : Int) := by rw [IntWalk.i64_in _ (by omega)]; omega
  have hsl : ∀ wx, (Instr.slice 9 (.string t) (some (.int .i64 (a : Int))) (some (.int .i64 (M : Int))) none).run Tryz.prog wx = .ok (.string (t.extract a M)) wx := fun wx => by
    rw [run_slice_string wx 9 t .i64 .i64 _ _ Tryz.underlying9 (by omega) (by omega) (by omega)]
    congr 2
  clear hW2 hC2 d0 d1 d2 g1 HC1 hM hb1
  have NE := Abv.ne W2
  have F0 := fun x : Abv W2 => x.cell e0
  have F1 := fun x : Abv W2 => x.cell e1
  refine wp_region_above (by kernel_rfl) (by kernel_rfl) ?_
  repeat (go_big_quiet_step (fail))
  refine wpQuiet_nil ?_
  rintro w3 ⟨⟨_, hb3⟩, rfl⟩
  clear NE F0 F1 hm hsl
  go_wp2
  go_ret
  exact ⟨rfl, HC2.out.below hb3, hg2.trans (own_below' hb3)⟩
set_option maxHeartbeats 1000000 in
theorem take_bad {cb : Nat} {t : ByteArray} {a : Nat} {n : Int} (hs : t.size ≤ 1048576) (w : World) (bad : Bool) (hc : C5 w cb t a bad) (h : bad = true ∨ (t.size : Int) - (a : Int) < n) (hn : n ≤ 1000000000) :
    Calls Tryz.prog 98 #[.pointer (some ⟨cb, 0, none⟩), .int .i64 n] w fun e w' => e = .returned (.string ⟨#[]⟩) ∧ C5 w' cb t a true ∧ w.grownBy w' (some cb) := by
  have HC : Hid (C5 w cb t a bad) := hc
  have ha := hc.2
  have c0 := hc.c0
  have c1 := hc.c1
  have c2 := hc.c2
  have f2 := hc.fz 2
  clear hc
  cases bad with
  | true =>
    clear h
    go_enter Tryz.func98, Tryz.ntmps98
    go_wp2_with fail
    have NE := Abv.ne w
    have F0 := fun x : Abv w => x.cell c0
    have F1 := fun x : Abv w => x.cell c1
    have F2 := fun x : Abv w => x.cell c2
    refine wp_region_above (by kernel_rfl) (by kernel_rfl) ?_
    repeat (go_big_quiet_step (fail))
    refine wpQuiet_nil ?_
    rintro w1 ⟨⟨_, hb1⟩, rfl⟩
    clear NE F0 F1 F2
    rename World => w1
    have hc1 := HC.out.below hb1
    have HC1 : Hid (C5 w1 cb t a true) := hc1
    have d2 := hc1.c2
    have g2 := hc1.fz 2
    clear hc1
    go_wp2
    go_ret
    exact ⟨rfl, HC1.out.setBad, (own_below' hb1).trans (grown_set _ _ _ _)⟩
  | false =>
    have h1 : (t.size : Int) - (a : Int) < n := by simpa using h
    obtain ⟨D, hD⟩ : ∃ D : Nat, D = t.size - a := ⟨_, rfl⟩
    have hm : IntKind.i64.wrap ((t.size : Int) - (a : Int)) = (D : Int) := by rw [IntWalk.i64_in _ (by omega)]; omega
    have h2 : decide ((D : Int) < n) = true := decide_eq_true (by omega)
    clear h h1 hD
    go_enter Tryz.func98, Tryz.ntmps98
    go_wp2_with fail
    have NE := Abv.ne w
    have F0 := fun x : Abv w => x.cell c0
    have F1 := fun x : Abv w => x.cell c1
    have F2 := fun x : Abv w => x.cell c2
    refine wp_region_above (by kernel_rfl) (by kernel_rfl) ?_
    repeat (go_big_quiet_step (fail))
    refine wpQuiet_nil ?_
    rintro w1 ⟨⟨_, hb1⟩, rfl⟩
    clear NE F0 F1 F2
    rename World => w1
    have hc1 := HC.out.below hb1
    have HC1 : Hid (C5 w1 cb t a false) := hc1
    have d2 := hc1.c2
    have g2 := hc1.fz 2
    clear hc1 hm h2
    go_wp2
    go_ret
    exact ⟨rfl, HC1.out.setBad, (own_below' hb1).trans (grown_set _ _ _ _)⟩
end
section
open Go.RowKit
set_option linter.unusedVariables false

theorem need_yes_q (r : Value) (w : World) : Calls Tryz.prog 92 #[r, .bool true] w fun e w' => e = .returned (.tuple #[]) ∧ w' = w := (need_yes r w).mono fun _ _ ⟨h1, h2⟩ => ⟨h1, h2.symm⟩
set_option maxHeartbeats 400000 in
theorem one_some {rb : Nat} {t : ByteArray} {a : Nat} (hs : t.size ≤ 1048576) (w : World) (hr : Rd w rb t a) (h : a < t.size) :
    Calls Tryz.prog 93 #[.pointer (some ⟨rb, 0, none⟩)] w fun e w' => e = .returned (.int .u8 (t[a].toNat : Int)) ∧ Rd w' rb t (a + 1) ∧ w.grownBy w' (some rb) := by
  have HR : Hid (Rd w rb t a) := hr
  have c0 := hr.c0
  have c1 := hr.c1
  have f1 := hr.fz 1
  have h' : (a : Int) < (t.size : Int) := by omega
  clear hr
  go_enter Tryz.func93, Tryz.ntmps93
  go_wp2_with fail
  go_quiet (first | (go_at_call 92; exact Calls.quiet_of_same (need_yes_q _ _)))
  go_wp2_with fail
  go_quiet (fail)
  go_wp2_with fail
  go_ret
  exact ⟨rfl, Rd.set (w := w.drewN _) (a := a) HR.out (b := a + 1) (by omega), (grown_drewN (World.grownBy.refl w _) _).trans (grown_set _ _ _ _)⟩
set_option maxHeartbeats 400000 in
set_option maxRecDepth 100000 in
theorem one_none {rb : Nat} {t : ByteArray} {a : Nat} (hs : t.size ≤ 1048576) (w : World) (hr : Rd w rb t a) (h : ¬ a < t.size) :
    Calls Tryz.prog 93 #[.pointer (some ⟨rb, 0, none⟩)] w fun e w' => e = .panicked thrown ∧ w.grownBy w' (some rb) := by
  have HR : Hid (Rd w rb t a) := hr
  have c0 := hr.c0
  have c1 := hr.c1
  have h' : decide ((a : Int) < (t.size : Int)) = false := decide_eq_false (by omega)
  have h2 : decide (a < t.size) = false := decide_eq_false h
  clear hr h
  go_enter Tryz.func93, Tryz.ntmps93
  go_wp2_with fail
  go_still_tail 11, (by kernel_rfl)
  go_wp2_with (go_at_call 92; refine (need_no _ _).mono ?_; rintro e w2 ⟨rfl, rfl⟩)
  exact ⟨rfl, rfl, grown_drew (World.grownBy.refl w _)⟩
end
section
open Go.RowKit
set_option linter.unusedVariables false

theorem catch_panicking (p : Addr) (x : Bool) (u : TypeId) (pv : Value) (older : List PanicEntry) (w : World) (hc : w.cell? p = some (.bool x)) (hz : w.frozen? p = false) :
    CallsD Tryz.prog 91 #[.pointer (some p)] (.panicking ({ v := .iface u pv, recovered := false } :: older)) w fun e u' w' =>
      e = .returned (.tuple #[]) ∧ u' = .panicking ({ v := .iface u pv, recovered := true } :: older) ∧ w' = w.setCell p (.bool false) := by
  refine callsD_of_wpS Tryz.func91 rfl fun c₀ cs hu => ?_
  apply wpS_seq
  apply wpS_region
  simp [wpOpsS, go_sem, recoverD, hu, Tryz.ntmps91, Exit.thenS]
  refine wpS_cond (t := true) (by simp [Act.eval, Array.replicate]) ?_
  simp only [if_true]
  apply wpS_region
  simp [wpOpsS, go_sem, hc, hz, bodyPostS, results, Tryz.results91]

theorem catch_idle (p : Addr) (w : World) :
    CallsD Tryz.prog 91 #[.pointer (some p)] .returning w fun e u' w' => e = .returned (.tuple #[]) ∧ u' = .returning ∧ w' = w := by
  refine callsD_of_wpS Tryz.func91 rfl fun c₀ cs hu => ?_
  apply wpS_seq
  apply wpS_region
  simp [wpOpsS, go_sem, recoverD, hu, Tryz.ntmps91, Exit.thenS]
  refine wpS_cond (t := false) (by simp [Act.eval, Array.replicate]) ?_
  simp only [Bool.false_eq_true, if_false]
  refine wpS_of_wp (wp_skip ?_)
  cases c₀
  simp_all [bodyPostS, results, Tryz.results91]

/-- What readWhole lays ahead of the reading: the named result, the reader. -/
theorem whole_start (t : ByteArray) (w : World) (B0 : Nat) : ∃ W, W = ((w.alloc (Obj.cells #[Value.bool false] 4)).alloc (Obj.cells #[Value.string t, Value.int IntKind.i64 0] 129)) ∧ Rd W (w.heap.size + 1) t 0 ∧ W.heap[w.heap.size]? = some (.cells #[.bool false] 4 (0, 0)) ∧ w.grownBy W (some B0) ∧ w.heap.size + 2 ≤ W.heap.size := by
  refine ⟨_, rfl, ⟨?_, Nat.zero_le _⟩, ?_, (grown_alloc _ _).trans (grown_alloc _ _), by simp⟩
  · have := heap_alloc_new (w.alloc (Obj.cells #[Value.bool false] 4)) (Obj.cells #[Value.string t, Value.int IntKind.i64 0] 129)
    simpa using this
  · rw [Below.heap_alloc _ _ _ (by simp)]
    exact heap_alloc_new w _
end
end Go.Proofs.YtahpoemmlpbgdaaGreat
