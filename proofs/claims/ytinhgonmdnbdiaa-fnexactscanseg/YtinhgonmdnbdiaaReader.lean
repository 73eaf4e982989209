/- The calls of the program's reader, walked: need, number, count, short, one, flag, change; each ends with its answer or with the panic that the reader throws. -/
import Derived.Test.YtinhgonmdnbdiaaReadShort
import Derived.Test.YtinhgonmdnbdiaaLChange
import Derived.Deep.QuietTactic
namespace Go.Proofs.Ytinhgonmdnbdiaa
open Go.RowKit

/-- A reader at rb, that far in its text. -/
def Rd (w : World) (rb : Nat) (t : ByteArray) (a : Nat) : Prop := w.heap[rb]? = some (.cells #[.string t, .int .i64 (a : Int)] 92 (0, 0)) ∧ a ≤ t.size
theorem Rd.c0 {w : World} {rb : Nat} {t : ByteArray} {a : Nat} (h : Rd w rb t a) : w.cell? ⟨rb, 0, none⟩ = some (.string t) := cell_of_row _ _ 0 _ _ _ h.1
theorem Rd.c1 {w : World} {rb : Nat} {t : ByteArray} {a : Nat} (h : Rd w rb t a) : w.cell? ⟨rb, 1, none⟩ = some (.int .i64 (a : Int)) := cell_of_row _ _ 1 _ _ _ h.1
theorem Rd.fz {w : World} {rb : Nat} {t : ByteArray} {a : Nat} (h : Rd w rb t a) (i : Nat) : w.frozen? ⟨rb, i, none⟩ = false := frozen_of_row _ _ _ _ _ h.1
theorem Rd.set {w : World} {rb : Nat} {t : ByteArray} {a : Nat} (h : Rd w rb t a) {b : Nat} (hb : b ≤ t.size) : Rd (w.setCell ⟨rb, 1, none⟩ (.int .i64 (b : Int))) rb t b := by
  refine ⟨?_, hb⟩
  have := heap_setCell_same w rb 1 _ 92 (.int .i64 (b : Int)) h.1
  simpa using this
theorem Rd.lt {w : World} {rb : Nat} {t : ByteArray} {a : Nat} (h : Rd w rb t a) : rb < w.heap.size := (Array.getElem?_eq_some_iff.1 h.1).1
theorem Rd.below {w w' : World} {rb : Nat} {t : ByteArray} {a : Nat} (h : Rd w rb t a) (hb : Below w.heap.size w w') : Rd w' rb t a := ⟨(hb.block _ h.lt).trans h.1, h.2⟩
theorem Rd.drew {w : World} {rb : Nat} {t : ByteArray} {a : Nat} (h : Rd w rb t a) : Rd w.drew rb t a := h
/-- What the reader throws. -/
def thrown : List PanicEntry := [{ v := .iface 133 (.agg #[]), recovered := false }]

set_option maxHeartbeats 400000 in
theorem need_yes (r : Value) (w : World) : Calls Try.prog 83 #[r, .bool true] w fun e w' => e = .returned (.tuple #[]) ∧ w = w' := by
  go_enter Try.func83, Try.ntmps83
  go_wp2
  go_end0
  exact ⟨rfl, rfl⟩
set_option maxHeartbeats 400000 in
theorem need_no (r : Value) (w : World) : Calls Try.prog 83 #[r, .bool false] w fun e w' => e = .panicked thrown ∧ w = w' := by
  go_enter Try.func83, Try.ntmps83
  go_wp2
  exact ⟨rfl, rfl, rfl⟩

theorem rdZ_at {t : ByteArray} {a : Nat} (h : a ≤ t.size) : rdZ t (a : Int) = Words.rd t.data.toList a := by
  rw [rdZ, if_pos ⟨by omega, by omega⟩, Int.toNat_natCast]

set_option maxHeartbeats 1000000 in
theorem number_some {rb : Nat} {t : ByteArray} {a n b : Nat} (hs : t.size ≤ 1048576) (w : World) (hr : Rd w rb t a) (h : Words.rd t.data.toList a = some (n, b)) :
    Calls Try.prog 82 #[.pointer (some ⟨rb, 0, none⟩)] w fun e w' => e = .returned (.int .i64 (n : Int)) ∧ Rd w' rb t b ∧ w.grownBy w' (some rb) := by
  have hb := (Batches.rd_cut h).2.1
  have HR : Hid (Rd w rb t a) := hr
  have HZ : Hid (rdZ t (a : Int) = some (n, b)) := (rdZ_at hr.2).trans h
  have c0 := hr.c0
  have c1 := hr.c1
  have f1 := hr.fz 1
  clear h hr
  go_enter Try.func82, Try.ntmps82
  go_wp2_with fail
  go_quiet (first | (go_at_call 104; exact Calls.quiet_of_same (implRead_some hs HZ.out _)))
  go_wp2_with (go_at_call 83; refine (need_yes _ _).mono ?_; rintro e w2 ⟨rfl, rfl⟩)
  go_ret
  exact ⟨rfl, Rd.set (w := w.drewN nq) HR.out hb, (grown_drewN (World.grownBy.refl w _) nq).trans (grown_set _ _ _ _)⟩
set_option maxHeartbeats 1000000 in
theorem number_none {rb : Nat} {t : ByteArray} {a : Nat} (hs : t.size ≤ 1048576) (w : World) (hr : Rd w rb t a) (h : Words.rd t.data.toList a = none) :
    Calls Try.prog 82 #[.pointer (some ⟨rb, 0, none⟩)] w fun e w' => e = .panicked thrown ∧ w.grownBy w' (some rb) := by
  have HZ : Hid (rdZ t (a : Int) = none) := (rdZ_at hr.2).trans h
  have c0 := hr.c0
  have c1 := hr.c1
  clear h hr
  go_enter Try.func82, Try.ntmps82
  go_wp2_with fail
  go_quiet (first | (go_at_call 104; exact Calls.quiet_of_same (implRead_none hs HZ.out _)))
  go_wp2_with (go_at_call 83; refine (need_no _ _).mono ?_; rintro e w2 ⟨rfl, rfl⟩)
  exact ⟨rfl, rfl, grown_drewN (World.grownBy.refl w _) nq⟩

set_option maxHeartbeats 1000000 in
theorem count_some {rb : Nat} {t : ByteArray} {a n b : Nat} (hs : t.size ≤ 1048576) (w : World) (hr : Rd w rb t a) (h : Words.rd t.data.toList a = some (n, b)) (hn : n ≤ 60) :
    Calls Try.prog 68 #[.pointer (some ⟨rb, 0, none⟩), .int .i64 60] w fun e w' => e = .returned (.int .i64 (n : Int)) ∧ Rd w' rb t b ∧ w.grownBy w' (some rb) := by
  have HR : Hid (Rd w rb t a) := hr
  have HH : Hid (Words.rd t.data.toList a = some (n, b)) := h
  have hn' : (n : Int) ≤ 60 := by omega
  clear h hr
  go_enter Try.func68, Try.ntmps68
  go_wp2_with (first | (go_at_call 82; refine (number_some hs _ HR.out HH.out).mono ?_; rintro e w1 ⟨rfl, h1, h2⟩) | (go_at_call 83; refine (need_yes _ _).mono ?_; rintro e w2 ⟨rfl, rfl⟩))
  go_ret
  exact ⟨rfl, h1, h2⟩
set_option maxHeartbeats 1000000 in
theorem count_none {rb : Nat} {t : ByteArray} {a : Nat} (hs : t.size ≤ 1048576) (w : World) (hr : Rd w rb t a) (h : Words.rd t.data.toList a = none) :
    Calls Try.prog 68 #[.pointer (some ⟨rb, 0, none⟩), .int .i64 60] w fun e w' => e = .panicked thrown ∧ w.grownBy w' (some rb) := by
  have HR : Hid (Rd w rb t a) := hr
  have HH : Hid (Words.rd t.data.toList a = none) := h
  clear h hr
  go_enter Try.func68, Try.ntmps68
  go_wp2_with (first | (go_at_call 82; refine (number_none hs _ HR.out HH.out).mono ?_; rintro e w1 ⟨rfl, h2⟩))
  exact ⟨rfl, rfl, h2⟩
set_option maxHeartbeats 200000 in
theorem count_over {rb : Nat} {t : ByteArray} {a n b : Nat} (hs : t.size ≤ 1048576) (w : World) (hr : Rd w rb t a) (h : Words.rd t.data.toList a = some (n, b)) (hn : ¬ n ≤ 60) :
    Calls Try.prog 68 #[.pointer (some ⟨rb, 0, none⟩), .int .i64 60] w fun e w' => e = .panicked thrown ∧ w.grownBy w' (some rb) := by
  have HR : Hid (Rd w rb t a) := hr
  have HH : Hid (Words.rd t.data.toList a = some (n, b)) := h
  have hn' : decide ((n : Int) ≤ 60) = false := decide_eq_false (by omega)
  have hn2 : decide (n ≤ 60) = false := decide_eq_false hn
  clear hn
  clear h hr
  go_enter Try.func68, Try.ntmps68
  go_wp2_with (first | (go_at_call 82; refine (number_some hs _ HR.out HH.out).mono ?_; rintro e w1 ⟨rfl, h1, h2⟩) | (go_at_call 83; refine (need_no _ _).mono ?_; rintro e w2 ⟨rfl, rfl⟩))
  exact ⟨rfl, rfl, h2⟩

theorem rdShort_parts {t : ByteArray} {a b : Nat} {x : ByteArray} (ha : a ≤ t.size) (h : Batches.rdShort t a = some (x, b)) : ∃ n k, rdZ t (a : Int) = some (n, k) ∧ n ≤ 20000 ∧ k + n ≤ t.size ∧ x = t.extract k (k + n) ∧ b = k + n := by
  unfold Batches.rdShort at h
  split at h
  · cases h
  · rename_i n k hr
    split at h
    · rename_i hn
      simp only [Option.some.injEq, Prod.mk.injEq] at h
      exact ⟨n, k, (rdZ_at ha).trans hr, hn.1, hn.2, h.1.symm, h.2.symm⟩
    · cases h
theorem rdShort_not {t : ByteArray} {a : Nat} (ha : a ≤ t.size) (h : Batches.rdShort t a = none) : rdZ t (a : Int) = none ∨ ∃ n k, rdZ t (a : Int) = some (n, k) ∧ (20000 < n ∨ t.size < k + n) ∧ k ≤ t.size ∧ n ≤ 1000000000 := by
  unfold Batches.rdShort at h
  split at h
  · rename_i hr; exact Or.inl ((rdZ_at ha).trans hr)
  · rename_i n k hr
    split at h
    · cases h
    · rename_i hn
      obtain ⟨_, h2, _, h4⟩ := Batches.rd_cut hr
      exact Or.inr ⟨n, k, (rdZ_at ha).trans hr, by omega, h2, h4⟩
theorem implRS_some {t : ByteArray} {a b : Nat} {x : ByteArray} (hs : t.size ≤ 1048576) (ha : a ≤ t.size) (h : Batches.rdShort t a = some (x, b)) (w : World) :
    Calls Try.prog 105 #[.string t, .int .i64 (a : Int)] w fun e w' => e = .returned (.tuple #[.string x, .int .i64 (b : Int), .bool true]) ∧ Below w.heap.size w w' := by
  obtain ⟨n, k, h1, h2, h3, rfl, rfl⟩ := rdShort_parts ha h
  have := implRS_yes hs h1 h2 h3 w
  exact this
theorem implRS_not {t : ByteArray} {a : Nat} (hs : t.size ≤ 1048576) (ha : a ≤ t.size) (h : Batches.rdShort t a = none) (w : World) :
    Calls Try.prog 105 #[.string t, .int .i64 (a : Int)] w fun e w' => e = .returned (.tuple #[.string ⟨#[]⟩, .int .i64 0, .bool false]) ∧ Below w.heap.size w w' := by
  rcases rdShort_not ha h with h1 | ⟨n, k, h1, h2, h3, h4⟩
  · exact implRS_none hs h1 w
  · exact implRS_no hs h1 h3 h2 h4 w

set_option maxHeartbeats 1000000 in
theorem short_some {rb : Nat} {t : ByteArray} {a b : Nat} {x : ByteArray} (hs : t.size ≤ 1048576) (w : World) (hr : Rd w rb t a) (h : Batches.rdShort t a = some (x, b)) :
    Calls Try.prog 84 #[.pointer (some ⟨rb, 0, none⟩)] w fun e w' => e = .returned (.string x) ∧ Rd w' rb t b ∧ w.grownBy w' (some rb) := by
  have hb := (Batches.rdShort_cut h).2.1
  have ha := hr.2
  have HR : Hid (Rd w rb t a) := hr
  have HH : Hid (Batches.rdShort t a = some (x, b)) := h
  have c0 := hr.c0
  have c1 := hr.c1
  clear h hr
  go_enter Try.func84, Try.ntmps84
  go_wp2_with fail
  have NE := Abv.ne w
  have F0 := fun x : Abv w => x.cell c0
  have F1 := fun x : Abv w => x.cell c1
  refine wp_region_above (by kernel_rfl) (by kernel_rfl) ?_
  repeat (go_big_quiet_step (first | (go_at_call 105; exact calls_above (implRS_some hs ha HH.out _))))
  refine wpQuiet_nil ?_
  rintro w1 ⟨⟨_, hb1⟩, rfl⟩
  clear NE F0 F1
  rename World => w1
  have hr1 := HR.out.below hb1
  have f1 := hr1.fz 1
  have d1 := hr1.c1
  have HR1 : Hid (Rd w1 rb t a) := hr1
  clear hr1
  go_wp2_with (go_at_call 83; refine (need_yes _ _).mono ?_; rintro e w2 ⟨rfl, rfl⟩)
  go_ret
  exact ⟨rfl, HR1.out.set hb, (own_below' hb1).trans (grown_set _ _ _ _)⟩
set_option maxHeartbeats 1000000 in
theorem short_none {rb : Nat} {t : ByteArray} {a : Nat} (hs : t.size ≤ 1048576) (w : World) (hr : Rd w rb t a) (h : Batches.rdShort t a = none) :
    Calls Try.prog 84 #[.pointer (some ⟨rb, 0, none⟩)] w fun e w' => e = .panicked thrown ∧ w.grownBy w' (some rb) := by
  have ha := hr.2
  have HH : Hid (Batches.rdShort t a = none) := h
  have c0 := hr.c0
  have c1 := hr.c1
  clear h hr
  go_enter Try.func84, Try.ntmps84
  go_wp2_with fail
  have NE := Abv.ne w
  have F0 := fun x : Abv w => x.cell c0
  have F1 := fun x : Abv w => x.cell c1
  refine wp_region_above (by kernel_rfl) (by kernel_rfl) ?_
  repeat (go_big_quiet_step (first | (go_at_call 105; exact calls_above (implRS_not hs ha HH.out _))))
  refine wpQuiet_nil ?_
  rintro w1 ⟨⟨_, hb1⟩, rfl⟩
  clear NE F0 F1
  go_wp2_with (go_at_call 83; refine (need_no _ _).mono ?_; rintro e w2 ⟨rfl, rfl⟩)
  exact ⟨rfl, rfl, own_below' hb1⟩
end Go.Proofs.Ytinhgonmdnbdiaa
