/- The calls of the program's reader, walked: need, number, count; each ends with its answer or with the panic that the reader throws. The calls of the program's reader, walked: one. -/
import Derived.Test.YtimacmijinblmaaGreatReadLaw
import Derived.Test.YtimacmijinblmaaGreatMathMan
import Derived.Test.YtimacmijinblmaaGreatKit
import Derived.Deep.QuietTactic
import Derived.StillTailTactics
namespace Go.Proofs.YtimacmijinblmaaGreat
open Go.RowKit
set_option linter.unusedVariables false

/-- A reader at rb, that far in its text. -/
def Rd (w : World) (rb : Nat) (t : ByteArray) (a : Nat) : Prop := w.heap[rb]? = some (.cells #[.string t, .int .i64 (a : Int)] 76 (0, 0)) ∧ a ≤ t.size
theorem Rd.c0 {w : World} {rb : Nat} {t : ByteArray} {a : Nat} (h : Rd w rb t a) : w.cell? ⟨rb, 0, none⟩ = some (.string t) := cell_of_row _ _ 0 _ _ _ h.1
theorem Rd.c1 {w : World} {rb : Nat} {t : ByteArray} {a : Nat} (h : Rd w rb t a) : w.cell? ⟨rb, 1, none⟩ = some (.int .i64 (a : Int)) := cell_of_row _ _ 1 _ _ _ h.1
theorem Rd.fz {w : World} {rb : Nat} {t : ByteArray} {a : Nat} (h : Rd w rb t a) (i : Nat) : w.frozen? ⟨rb, i, none⟩ = false := frozen_of_row _ _ _ _ _ h.1
theorem Rd.set {w : World} {rb : Nat} {t : ByteArray} {a : Nat} (h : Rd w rb t a) {b : Nat} (hb : b ≤ t.size) : Rd (w.setCell ⟨rb, 1, none⟩ (.int .i64 (b : Int))) rb t b := by
  refine ⟨?_, hb⟩
  have := heap_setCell_same w rb 1 _ 76 (.int .i64 (b : Int)) h.1
  simpa using this
theorem Rd.lt {w : World} {rb : Nat} {t : ByteArray} {a : Nat} (h : Rd w rb t a) : rb < w.heap.size := (Array.getElem?_eq_some_iff.1 h.1).1
theorem Rd.below {w w' : World} {rb : Nat} {t : ByteArray} {a : Nat} (h : Rd w rb t a) (hb : Below w.heap.size w w') : Rd w' rb t a := ⟨(hb.block _ h.lt).trans h.1, h.2⟩
theorem Rd.setNew {w : World} {rb : Nat} {t : ByteArray} {a : Nat} (h : Rd w rb t a) {k : Nat} (hk : rb ≠ k) (j : Nat) (v : Value) : Rd (w.setCell ⟨k, j, none⟩ v) rb t a := ⟨set_far h.1 hk j v, h.2⟩
theorem Rd.drew {w : World} {rb : Nat} {t : ByteArray} {a : Nat} (h : Rd w rb t a) : Rd w.drew rb t a := h
/-- What the reader throws. -/
def thrown : List PanicEntry := [{ v := .iface 112 (.agg #[]), recovered := false }]

set_option maxHeartbeats 400000 in
theorem need_yes (r : Value) (w : World) : Calls Tryz.prog 97 #[r, .bool true] w fun e w' => e = .returned (.tuple #[]) ∧ w = w' := by
  go_enter Tryz.func97, Tryz.ntmps97
  go_wp2
  go_end0
  exact ⟨rfl, rfl⟩
set_option maxHeartbeats 400000 in
theorem need_no (r : Value) (w : World) : Calls Tryz.prog 97 #[r, .bool false] w fun e w' => e = .panicked thrown ∧ w = w' := by
  go_enter Tryz.func97, Tryz.ntmps97
  go_wp2
  exact ⟨rfl, rfl, rfl⟩

theorem rdZ_at {t : ByteArray} {a : Nat} (h : a ≤ t.size) : rdZ t (a : Int) = Words.rd t.data.toList a := by
  rw [rdZ, if_pos ⟨by omega, by omega⟩, Int.toNat_natCast]

set_option maxHeartbeats 1000000 in
theorem number_some {rb : Nat} {t : ByteArray} {a n b : Nat} (hs : t.size ≤ 1048576) (w : World) (hr : Rd w rb t a) (h : Words.rd t.data.toList a = some (n, b)) :
    Calls Tryz.prog 59 #[.pointer (some ⟨rb, 0, none⟩)] w fun e w' => e = .returned (.int .i64 (n : Int)) ∧ Rd w' rb t b ∧ w.grownBy w' (some rb) := by
  have hb := (Batches.rd_cut h).2.1
  have HR : Hid (Rd w rb t a) := hr
  have HZ : Hid (rdZ t (a : Int) = some (n, b)) := (rdZ_at hr.2).trans h
  have c0 := hr.c0
  have c1 := hr.c1
  have f1 := hr.fz 1
  clear h hr
  go_enter Tryz.func59, Tryz.ntmps59
  go_wp2_with fail
  go_quiet (first | (go_at_call 99; exact Calls.quiet_of_same (implRead_some hs HZ.out _)))
  go_wp2_with (go_at_call 97; refine (need_yes _ _).mono ?_; rintro e w2 ⟨rfl, rfl⟩)
  go_ret
  exact ⟨rfl, Rd.set (w := w.drewN nq) HR.out hb, (grown_drewN (World.grownBy.refl w _) nq).trans (grown_set _ _ _ _)⟩
set_option maxHeartbeats 1000000 in
theorem number_none {rb : Nat} {t : ByteArray} {a : Nat} (hs : t.size ≤ 1048576) (w : World) (hr : Rd w rb t a) (h : Words.rd t.data.toList a = none) :
    Calls Tryz.prog 59 #[.pointer (some ⟨rb, 0, none⟩)] w fun e w' => e = .panicked thrown ∧ w.grownBy w' (some rb) := by
  have HZ : Hid (rdZ t (a : Int) = none) := (rdZ_at hr.2).trans h
  have c0 := hr.c0
  have c1 := hr.c1
  clear h hr
  go_enter Tryz.func59, Tryz.ntmps59
  go_wp2_with fail
  go_quiet (first | (go_at_call 99; exact Calls.quiet_of_same (implRead_none hs HZ.out _)))
  go_wp2_with (go_at_call 97; refine (need_no _ _).mono ?_; rintro e w2 ⟨rfl, rfl⟩)
  exact ⟨rfl, rfl, grown_drewN (World.grownBy.refl w _) nq⟩

end Go.Proofs.YtimacmijinblmaaGreat
namespace Go.Proofs.YtimacmijinblmaaGreat
open Go.RowKit
set_option linter.unusedVariables false

theorem need_yes_q (r : Value) (w : World) : Calls Tryz.prog 97 #[r, .bool true] w fun e w' => e = .returned (.tuple #[]) ∧ w' = w := (need_yes r w).mono fun _ _ ⟨h1, h2⟩ => ⟨h1, h2.symm⟩
set_option maxHeartbeats 400000 in
theorem one_some {rb : Nat} {t : ByteArray} {a : Nat} (hs : t.size ≤ 1048576) (w : World) (hr : Rd w rb t a) (h : a < t.size) :
    Calls Tryz.prog 51 #[.pointer (some ⟨rb, 0, none⟩)] w fun e w' => e = .returned (.int .u8 (t[a].toNat : Int)) ∧ Rd w' rb t (a + 1) ∧ w.grownBy w' (some rb) := by
  have HR : Hid (Rd w rb t a) := hr
  have c0 := hr.c0
  have c1 := hr.c1
  have f1 := hr.fz 1
  have h' : (a : Int) < (t.size : Int) := by omega
  clear hr
  go_enter Tryz.func51, Tryz.ntmps51
  go_wp2_with fail
  go_quiet (first | (go_at_call 97; exact Calls.quiet_of_same (need_yes_q _ _)))
  go_wp2_with fail
  go_quiet (fail)
  go_wp2_with fail
  go_ret
  exact ⟨rfl, Rd.set (w := w.drewN _) (a := a) HR.out (b := a + 1) (by omega), (grown_drewN (World.grownBy.refl w _) _).trans (grown_set _ _ _ _)⟩
set_option maxHeartbeats 400000 in
set_option maxRecDepth 100000 in
theorem one_none {rb : Nat} {t : ByteArray} {a : Nat} (hs : t.size ≤ 1048576) (w : World) (hr : Rd w rb t a) (h : ¬ a < t.size) :
    Calls Tryz.prog 51 #[.pointer (some ⟨rb, 0, none⟩)] w fun e w' => e = .panicked thrown ∧ w.grownBy w' (some rb) := by
  have HR : Hid (Rd w rb t a) := hr
  have c0 := hr.c0
  have c1 := hr.c1
  have h' : decide ((a : Int) < (t.size : Int)) = false := decide_eq_false (by omega)
  have h2 : decide (a < t.size) = false := decide_eq_false h
  clear hr h
  go_enter Tryz.func51, Tryz.ntmps51
  go_wp2_with fail
  go_still_tail 11, (by kernel_rfl)
  go_wp2_with (go_at_call 97; refine (need_no _ _).mono ?_; rintro e w2 ⟨rfl, rfl⟩)
  exact ⟨rfl, rfl, grown_drew (World.grownBy.refl w _)⟩

end Go.Proofs.YtimacmijinblmaaGreat
