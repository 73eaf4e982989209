/- The calls of the program's reader, walked: need, number, count; each ends with its answer or with the panic that the reader throws. The calls of the specification's cursor over a text, walked: l05Var, l05Take, l05ReadShort. The specification's l05Take, walked. The calls of the program's reader, walked: one. The calls of the closure that reads a manifest and of readWhole, walked: the deferred closure that recovers. -/
import Derived.Test.YtahpoemmlpbgdaaDoorTxtA
import Derived.Test.YtahpoemmlpbgdaaDoorMathB
import Derived.Test.YtahpoemmlpbgdaaDoorKit
import Derived.Deep.QuietTactic
import Derived.StillTailTactics
import Derived.Defers
import Derived.Recover
namespace Go.Proofs.YtahpoemmlpbgdaaDoor
section
open Go.RowKit
set_option linter.unusedVariables false

/-- A reader at rb, that far in its text. -/
def Rd (w : World) (rb : Nat) (t : ByteArray) (a : Nat) : Prop := w.heap[rb]? = some (.cells #[.string t, .int .i64 (a : Int)] 77 (0, 0)) ∧ a ≤ t.size
theorem Rd.c0 {w : World} {rb : Nat} {t : ByteArray} {a : Nat} (h : Rd w rb t a) : w.cell? ⟨rb, 0, none⟩ = some (.string t) := cell_of_row _ _ 0 _ _ _ h.1
theorem Rd.c1 {w : World} {rb : Nat} {t : ByteArray} {a : Nat} (h : Rd w rb t a) : w.cell? ⟨rb, 1, none⟩ = some (.int .i64 (a : Int)) := cell_of_row _ _ 1 _ _ _ h.1
theorem Rd.fz {w : World} {rb : Nat} {t : ByteArray} {a : Nat} (h : Rd w rb t a) (i : Nat) : w.frozen? ⟨rb, i, none⟩ = false := frozen_of_row _ _ _ _ _ h.1
theorem Rd.set {w : World} {rb : Nat} {t : ByteArray} {a : Nat} (h : Rd w rb t a) {b : Nat} (hb : b ≤ t.size) : Rd (w.setCell ⟨rb, 1, none⟩ (.int .i64 (b : Int))) rb t b := by
  refine ⟨?_, hb⟩
  have := heap_setCell_same w rb 1 _ 77 (.int .i64 (b : Int)) h.1
  simpa using this
theorem Rd.lt {w : World} {rb : Nat} {t : ByteArray} {a : Nat} (h : Rd w rb t a) : rb < w.heap.size := (Array.getElem?_eq_some_iff.1 h.1).1
theorem Rd.below {w w' : World} {rb : Nat} {t : ByteArray} {a : Nat} (h : Rd w rb t a) (hb : Below w.heap.size w w') : Rd w' rb t a := ⟨(hb.block _ h.lt).trans h.1, h.2⟩
theorem Rd.setNew {w : World} {rb : Nat} {t : ByteArray} {a : Nat} (h : Rd w rb t a) {k : Nat} (hk : rb ≠ k) (j : Nat) (v : Value) : Rd (w.setCell ⟨k, j, none⟩ v) rb t a := ⟨set_far h.1 hk j v, h.2⟩
theorem Rd.drew {w : World} {rb : Nat} {t : ByteArray} {a : Nat} (h : Rd w rb t a) : Rd w.drew rb t a := h
/-- What the reader throws. -/
def thrown : List PanicEntry := [{ v := .iface 85 (.agg #[]), recovered := false }]

set_option maxHeartbeats 400000 in
theorem need_yes (r : Value) (w : World) : Calls Tryd.prog 50 #[r, .bool true] w fun e w' => e = .returned (.tuple #[]) ∧ w = w' := by
  go_enter Tryd.func50, Tryd.ntmps50
  go_wp2
  go_end0
  exact ⟨rfl, rfl⟩
set_option maxHeartbeats 400000 in
theorem need_no (r : Value) (w : World) : Calls Tryd.prog 50 #[r, .bool false] w fun e w' => e = .panicked thrown ∧ w = w' := by
  go_enter Tryd.func50, Tryd.ntmps50
  go_wp2
  exact ⟨rfl, rfl, rfl⟩

theorem rdZ_at {t : ByteArray} {a : Nat} (h : a ≤ t.size) : rdZ t (a : Int) = Words.rd t.data.toList a := by
  rw [rdZ, if_pos ⟨by omega, by omega⟩, Int.toNat_natCast]

set_option maxHeartbeats 1000000 in
theorem number_some {rb : Nat} {t : ByteArray} {a n b : Nat} (hs : t.size ≤ 1048576) (w : World) (hr : Rd w rb t a) (h : Words.rd t.data.toList a = some (n, b)) :
    Calls Tryd.prog 47 #[.pointer (some ⟨rb, 0, none⟩)] w fun e w' => e = .returned (.int .i64 (n : Int)) ∧ Rd w' rb t b ∧ w.grownBy w' (some rb) := by
  have hb := (Batches.rd_cut h).2.1
  have HR : Hid (Rd w rb t a) := hr
  have HZ : Hid (rdZ t (a : Int) = some (n, b)) := (rdZ_at hr.2).trans h
  have c0 := hr.c0
  have c1 := hr.c1
  have f1 := hr.fz 1
  clear h hr
  go_enter Tryd.func47, Tryd.ntmps47
  go_wp2_with fail
  go_quiet (first | (go_at_call 49; exact Calls.quiet_of_same (implRead_some hs HZ.out _)))
  go_wp2_with (go_at_call 50; refine (need_yes _ _).mono ?_; rintro e w2 ⟨rfl, rfl⟩)
  go_ret
  exact ⟨rfl, Rd.set (w := w.drewN nq) HR.out hb, (grown_drewN (World.grownBy.refl w _) nq).trans (grown_set _ _ _ _)⟩
set_option maxHeartbeats 1000000 in
theorem number_none {rb : Nat} {t : ByteArray} {a : Nat} (hs : t.size ≤ 1048576) (w : World) (hr : Rd w rb t a) (h : Words.rd t.data.toList a = none) :
    Calls Tryd.prog 47 #[.pointer (some ⟨rb, 0, none⟩)] w fun e w' => e = .panicked thrown ∧ w.grownBy w' (some rb) := by
  have HZ : Hid (rdZ t (a : Int) = none) := (rdZ_at hr.2).trans h
  have c0 := hr.c0
  have c1 := hr.c1
  clear h hr
  go_enter Tryd.func47, Tryd.ntmps47
  go_wp2_with fail
  go_quiet (first | (go_at_call 49; exact Calls.quiet_of_same (implRead_none hs HZ.out _)))
  go_wp2_with (go_at_call 50; refine (need_no _ _).mono ?_; rintro e w2 ⟨rfl, rfl⟩)
  exact ⟨rfl, rfl, grown_drewN (World.grownBy.refl w _) nq⟩
end
section
open Go.RowKit
set_option linter.unusedVariables false

/-- A cursor at cb, that far in its text, bad or not. -/
def C5 (w : World) (cb : Nat) (t : ByteArray) (a : Nat) (bad : Bool) : Prop := w.heap[cb]? = some (.cells #[.string t, .int .i64 (a : Int), .bool bad] 43 (0, 0)) ∧ a ≤ t.size
section
variable {w w' : World} {cb a : Nat} {t : ByteArray} {bad : Bool}
theorem C5.c0 (h : C5 w cb t a bad) : w.cell? ⟨cb, 0, none⟩ = some (.string t) := cell_of_row _ _ 0 _ _ _ h.1
theorem C5.c1 (h : C5 w cb t a bad) : w.cell? ⟨cb, 1, none⟩ = some (.int .i64 (a : Int)) := cell_of_row _ _ 1 _ _ _ h.1
theorem C5.c2 (h : C5 w cb t a bad) : w.cell? ⟨cb, 2, none⟩ = some (.bool bad) := cell_of_row _ _ 2 _ _ _ h.1
theorem C5.fz (h : C5 w cb t a bad) (i : Nat) : w.frozen? ⟨cb, i, none⟩ = false := frozen_of_row _ _ _ _ _ h.1
theorem C5.lt (h : C5 w cb t a bad) : cb < w.heap.size := (Array.getElem?_eq_some_iff.1 h.1).1
theorem C5.below (h : C5 w cb t a bad) (hb : Below w.heap.size w w') : C5 w' cb t a bad := ⟨(hb.block _ h.lt).trans h.1, h.2⟩
theorem C5.setAt (h : C5 w cb t a bad) {b : Nat} (hb : b ≤ t.size) : C5 (w.setCell ⟨cb, 1, none⟩ (.int .i64 (b : Int))) cb t b bad := by
  refine ⟨?_, hb⟩
  have := heap_setCell_same w cb 1 _ 43 (.int .i64 (b : Int)) h.1
  simpa using this
theorem C5.setBad (h : C5 w cb t a bad) : C5 (w.setCell ⟨cb, 2, none⟩ (.bool true)) cb t a true := by
  refine ⟨?_, h.2⟩
  have := heap_setCell_same w cb 2 _ 43 (.bool true) h.1
  simpa using this
theorem C5.far (h : C5 w cb t a bad) {k : Nat} (hk : cb ≠ k) (j : Nat) (v : Value) : C5 (w.setCell ⟨k, j, none⟩ v) cb t a bad := ⟨set_far h.1 hk j v, h.2⟩
end

set_option maxHeartbeats 1000000 in
theorem l05Var_ok {cb : Nat} {t : ByteArray} {a n b : Nat} (hs : t.size ≤ 1048576) (w : World) (hc : C5 w cb t a false) (h : Words.rd t.data.toList a = some (n, b)) :
    Calls Tryd.prog 19 #[.pointer (some ⟨cb, 0, none⟩)] w fun e w' => e = .returned (.int .i64 (n : Int)) ∧ C5 w' cb t b false ∧ w.grownBy w' (some cb) := by
  have hb := (Batches.rd_cut h).2.1
  have HC : Hid (C5 w cb t a false) := hc
  have HZ : Hid (rdZ t (a : Int) = some (n, b)) := (rdZ_at hc.2).trans h
  have c0 := hc.c0
  have c1 := hc.c1
  clear h hc
  go_enter Tryd.func19, Tryd.ntmps19
  go_wp2_with fail
  have NE := Abv.ne w
  have F0 := fun x : Abv w => x.cell c0
  have F1 := fun x : Abv w => x.cell c1
  refine wp_region_above (by kernel_rfl) (by kernel_rfl) ?_
  repeat (go_big_quiet_step (first | (go_at_call 33; exact calls_above (specRead_some hs HZ.out _))))
  refine wpQuiet_nil ?_
  rintro w1 ⟨⟨_, hb1⟩, rfl⟩
  clear NE F0 F1
  rename World => w1
  have hc1 := HC.out.below hb1
  have HC1 : Hid (C5 w1 cb t a false) := hc1
  have d1 := hc1.c1
  have d2 := hc1.c2
  have f1 := hc1.fz 1
  clear hc1
  go_wp2
  go_ret
  exact ⟨rfl, HC1.out.setAt hb, (own_below' hb1).trans (grown_set _ _ _ _)⟩
set_option maxHeartbeats 1000000 in
theorem l05Var_none {cb : Nat} {t : ByteArray} {a : Nat} (hs : t.size ≤ 1048576) (w : World) (hc : C5 w cb t a false) (h : Words.rd t.data.toList a = none) :
    Calls Tryd.prog 19 #[.pointer (some ⟨cb, 0, none⟩)] w fun e w' => e = .returned (.int .i64 0) ∧ C5 w' cb t a true ∧ w.grownBy w' (some cb) := by
  have HC : Hid (C5 w cb t a false) := hc
  have HZ : Hid (rdZ t (a : Int) = none) := (rdZ_at hc.2).trans h
  have c0 := hc.c0
  have c1 := hc.c1
  clear h hc
  go_enter Tryd.func19, Tryd.ntmps19
  go_wp2_with fail
  have NE := Abv.ne w
  have F0 := fun x : Abv w => x.cell c0
  have F1 := fun x : Abv w => x.cell c1
  refine wp_region_above (by kernel_rfl) (by kernel_rfl) ?_
  repeat (go_big_quiet_step (first | (go_at_call 33; exact calls_above (specRead_none hs HZ.out _))))
  refine wpQuiet_nil ?_
  rintro w1 ⟨⟨_, hb1⟩, rfl⟩
  clear NE F0 F1
  rename World => w1
  have hc1 := HC.out.below hb1
  have HC1 : Hid (C5 w1 cb t a false) := hc1
  have d2 := hc1.c2
  have f2 := hc1.fz 2
  clear hc1
  go_wp2
  go_ret
  exact ⟨rfl, HC1.out.setBad, (own_below' hb1).trans (grown_set _ _ _ _)⟩
set_option maxHeartbeats 1000000 in
theorem l05Var_bad {cb : Nat} {t : ByteArray} {a : Nat} (hs : t.size ≤ 1048576) (w : World) (hc : C5 w cb t a true) :
    Calls Tryd.prog 19 #[.pointer (some ⟨cb, 0, none⟩)] w fun e w' => e = .returned (.int .i64 0) ∧ C5 w' cb t a true ∧ w.grownBy w' (some cb) := by
  have HC : Hid (C5 w cb t a true) := hc
  have c0 := hc.c0
  have c1 := hc.c1
  have ha := hc.2
  clear hc
  cases hrd : rdTuple (rdZ t (a : Int)) with
  | tuple vs =>
    obtain ⟨x, y, z, hxyz⟩ : ∃ x y z, rdTuple (rdZ t (a : Int)) = .tuple #[.int .i64 x, .int .i64 y, .bool z] := by
      cases rdZ t (a : Int) with
      | none => exact ⟨_, _, _, rfl⟩
      | some p => exact ⟨_, _, _, rfl⟩
    have HK : Hid (∀ w, Calls Tryd.prog 33 #[.string t, .int .i64 (a : Int)] w fun e w' => e = .returned (.tuple #[.int .i64 x, .int .i64 y, .bool z]) ∧ Below w.heap.size w w') := fun w => by
      have := specRead_any t hs (a : Int) w
      rwa [hxyz] at this
    clear hrd hxyz
    go_enter Tryd.func19, Tryd.ntmps19
    go_wp2_with fail
    have NE := Abv.ne w
    have F0 := fun x : Abv w => x.cell c0
    have F1 := fun x : Abv w => x.cell c1
    refine wp_region_above (by kernel_rfl) (by kernel_rfl) ?_
    repeat (go_big_quiet_step (first | (go_at_call 33; exact calls_above (HK.out _))))
    refine wpQuiet_nil ?_
    rintro w1 ⟨⟨_, hb1⟩, rfl⟩
    clear NE F0 F1
    rename World => w1
    have hc1 := HC.out.below hb1
    have HC1 : Hid (C5 w1 cb t a true) := hc1
    have d2 := hc1.c2
    have f2 := hc1.fz 2
    clear hc1
    go_wp2
    go_ret
    exact ⟨rfl, HC1.out.setBad, (own_below' hb1).trans (grown_set _ _ _ _)⟩
  | _ => cases hz : rdZ t (a : Int) <;> rw [hz] at hrd <;> cases hrd
/-- What a read leaves, whatever is read. -/
def Some5 (w w' : World) (cb : Nat) (t : ByteArray) (a : Nat) : Prop := ∃ a' bad, C5 w' cb t a' bad ∧ a ≤ a' ∧ (bad = true ∨ a < a') ∧ w.grownBy w' (some cb)
theorem l05Var_any {cb : Nat} {t : ByteArray} {a : Nat} (hs : t.size ≤ 1048576) (w : World) (bad : Bool) (hc : C5 w cb t a bad) :
    Calls Tryd.prog 19 #[.pointer (some ⟨cb, 0, none⟩)] w fun e w' => ∃ n : Nat, e = .returned (.int .i64 (n : Int)) ∧ n ≤ 1000000000 ∧ Some5 w w' cb t a := by
  cases bad with
  | true => exact (l05Var_bad hs w hc).mono fun e w' ⟨h1, h2, h3⟩ => ⟨0, h1, by omega, a, true, h2, Nat.le_refl _, Or.inl rfl, h3⟩
  | false =>
    cases h : Words.rd t.data.toList a with
    | none => exact (l05Var_none hs w hc h).mono fun e w' ⟨h1, h2, h3⟩ => ⟨0, h1, by omega, a, true, h2, Nat.le_refl _, Or.inl rfl, h3⟩
    | some p =>
      obtain ⟨n, b⟩ := p
      have hb := Batches.rd_cut h
      exact (l05Var_ok hs w hc h).mono fun e w' ⟨h1, h2, h3⟩ => ⟨n, h1, hb.2.2.2, b, false, h2, Nat.le_of_lt hb.1, Or.inr hb.1, h3⟩
end
section
open Go.RowKit
set_option linter.unusedVariables false

end
section
open Go.RowKit
set_option linter.unusedVariables false

theorem need_yes_q (r : Value) (w : World) : Calls Tryd.prog 50 #[r, .bool true] w fun e w' => e = .returned (.tuple #[]) ∧ w' = w := (need_yes r w).mono fun _ _ ⟨h1, h2⟩ => ⟨h1, h2.symm⟩
end
section
open Go.RowKit
set_option linter.unusedVariables false

theorem catch_panicking (p : Addr) (x : Bool) (u : TypeId) (pv : Value) (older : List PanicEntry) (w : World) (hc : w.cell? p = some (.bool x)) (hz : w.frozen? p = false) :
    CallsD Tryd.prog 46 #[.pointer (some p)] (.panicking ({ v := .iface u pv, recovered := false } :: older)) w fun e u' w' =>
      e = .returned (.tuple #[]) ∧ u' = .panicking ({ v := .iface u pv, recovered := true } :: older) ∧ w' = w.setCell p (.bool false) := by
  refine callsD_of_wpS Tryd.func46 rfl fun c₀ cs hu => ?_
  apply wpS_seq
  apply wpS_region
  simp [wpOpsS, go_sem, recoverD, hu, Tryd.ntmps46, Exit.thenS]
  refine wpS_cond (t := true) (by simp [Act.eval, Array.replicate]) ?_
  simp only [if_true]
  apply wpS_region
  simp [wpOpsS, go_sem, hc, hz, bodyPostS, results, Tryd.results46]

theorem catch_idle (p : Addr) (w : World) :
    CallsD Tryd.prog 46 #[.pointer (some p)] .returning w fun e u' w' => e = .returned (.tuple #[]) ∧ u' = .returning ∧ w' = w := by
  refine callsD_of_wpS Tryd.func46 rfl fun c₀ cs hu => ?_
  apply wpS_seq
  apply wpS_region
  simp [wpOpsS, go_sem, recoverD, hu, Tryd.ntmps46, Exit.thenS]
  refine wpS_cond (t := false) (by simp [Act.eval, Array.replicate]) ?_
  simp only [Bool.false_eq_true, if_false]
  refine wpS_of_wp (wp_skip ?_)
  cases c₀
  simp_all [bodyPostS, results, Tryd.results46]

/-- What readWhole lays ahead of the reading: the named result, the reader. -/
theorem whole_start (t : ByteArray) (w : World) (B0 : Nat) : ∃ W, W = ((w.alloc (Obj.cells #[Value.bool false] 4)).alloc (Obj.cells #[Value.string t, Value.int IntKind.i64 0] 77)) ∧ Rd W (w.heap.size + 1) t 0 ∧ W.heap[w.heap.size]? = some (.cells #[.bool false] 4 (0, 0)) ∧ w.grownBy W (some B0) ∧ w.heap.size + 2 ≤ W.heap.size := by
  refine ⟨_, rfl, ⟨?_, Nat.zero_le _⟩, ?_, (grown_alloc _ _).trans (grown_alloc _ _), by simp⟩
  · have := heap_alloc_new (w.alloc (Obj.cells #[Value.bool false] 4)) (Obj.cells #[Value.string t, Value.int IntKind.i64 0] 77)
    simpa using this
  · rw [Below.heap_alloc _ _ _ (by simp)]
    exact heap_alloc_new w _
end
end Go.Proofs.YtahpoemmlpbgdaaDoor
