/- More of the program's reader, walked: count, short, flag. -/
import Derived.Test.YtlmjhobijgmolaaReader2
import Derived.Test.YtlmjhobijgmolaaCur3
import Derived.Test.YtlmjhobijgmolaaClone
import Derived.StillTailTactics
namespace Go.Proofs.Ytlmjhobijgmolaa
open Go.RowKit
set_option linter.unusedVariables false
set_option linter.unusedSimpArgs false

set_option maxHeartbeats 400000 in
theorem implRS_none {s : ByteArray} {x : Int} (hs : s.size ≤ 1048576) (h : rdZ s x = none) (w : World) :
    Calls Try.prog 48 #[.string s, .int .i64 x] w fun e w' => e = .returned (.tuple #[.string ⟨#[]⟩, .int .i64 0, .bool false]) ∧ Below w.heap.size w w' := by
  have HR : Hid (_ = _) := h
  clear h
  go_enter Try.func48, Try.ntmps48
  go_wp2_with (go_at_call 47; refine (implRead_none hs HR.out _).mono ?_; rintro e w1 ⟨rfl, rfl⟩)
  go_ret3
  exact ⟨rfl, Below.refl _ _⟩
set_option maxHeartbeats 400000 in
theorem implRS_no {s : ByteArray} {x : Int} {n k : Nat} (hs : s.size ≤ 1048576) (h : rdZ s x = some (n, k)) (hk : k ≤ s.size) (hn : 20000 < n ∨ s.size < k + n) (hn2 : n ≤ 1000000000) (w : World) :
    Calls Try.prog 48 #[.string s, .int .i64 x] w fun e w' => e = .returned (.tuple #[.string ⟨#[]⟩, .int .i64 0, .bool false]) ∧ Below w.heap.size w w' := by
  have HR : Hid (_ = _) := h
  clear h
  by_cases h1 : 20000 < n
  · clear hn
    go_enter Try.func48, Try.ntmps48
    go_wp2_with (go_at_call 47; refine (implRead_some hs HR.out _).mono ?_; rintro e w1 ⟨rfl, rfl⟩)
    go_ret3
    exact ⟨rfl, Below.refl _ _⟩
  · have h2 : (s.size : Int) - (k : Int) < (n : Int) := by omega
    clear hn
    go_enter Try.func48, Try.ntmps48
    go_wp2_with (go_at_call 47; refine (implRead_some hs HR.out _).mono ?_; rintro e w1 ⟨rfl, rfl⟩)
    go_ret3
    exact ⟨rfl, Below.refl _ _⟩
set_option maxHeartbeats 400000 in
theorem implRS_yes {s : ByteArray} {x : Int} {n k : Nat} (hs : s.size ≤ 1048576) (h : rdZ s x = some (n, k)) (hn : n ≤ 20000) (hk : k + n ≤ s.size) (w : World) :
    Calls Try.prog 48 #[.string s, .int .i64 x] w fun e w' => e = .returned (.tuple #[.string (s.extract k (k + n)), .int .i64 ((k : Int) + (n : Int)), .bool true]) ∧ Below w.heap.size w w' := by
  have HR : Hid (_ = _) := h
  clear h
  have hsl : ∀ wx, (Instr.slice 9 (.string s) (some (.int .i64 (k : Int))) (some (.int .i64 ((k : Int) + (n : Int)))) none).run Try.prog wx = .ok (.string (s.extract k (k + n))) wx := fun wx => by
    rw [run_slice_string wx 9 s .i64 .i64 _ _ Try.underlying9 (by omega) (by omega) (by omega)]
    congr 2
  have hx : (s.extract k (k + n)).size ≤ 281474976710656 := by rw [ByteArray.size_extract]; omega
  have h2 : ¬ (s.size : Int) - (k : Int) < (n : Int) := by omega
  go_enter Try.func48, Try.ntmps48
  go_wp2_with (first | (go_at_call 47; refine (implRead_some hs HR.out _).mono ?_; rintro e w1 ⟨rfl, rfl⟩) | (go_at_call 50; refine (clone_any _ hx _).mono ?_; rintro e w2 ⟨rfl, hb2⟩))
  go_ret3
  exact ⟨rfl, hb2⟩

theorem implRS_some {t : ByteArray} {a b : Nat} {x : ByteArray} (hs : t.size ≤ 1048576) (ha : a ≤ t.size) (h : Batches.rdShort t a = some (x, b)) (w : World) :
    Calls Try.prog 48 #[.string t, .int .i64 (a : Int)] w fun e w' => e = .returned (.tuple #[.string x, .int .i64 (b : Int), .bool true]) ∧ Below w.heap.size w w' := by
  obtain ⟨n, k, h1, h2, h3, rfl, rfl⟩ := rdShort_parts ha h
  have := implRS_yes hs h1 h2 h3 w
  exact this
theorem implRS_not {t : ByteArray} {a : Nat} (hs : t.size ≤ 1048576) (ha : a ≤ t.size) (h : Batches.rdShort t a = none) (w : World) :
    Calls Try.prog 48 #[.string t, .int .i64 (a : Int)] w fun e w' => e = .returned (.tuple #[.string ⟨#[]⟩, .int .i64 0, .bool false]) ∧ Below w.heap.size w w' := by
  rcases rdShort_not ha h with h1 | ⟨n, k, h1, h2, h3, h4⟩
  · exact implRS_none hs h1 w
  · exact implRS_no hs h1 h3 h2 h4 w
set_option maxHeartbeats 1000000 in
theorem short_some {rb : Nat} {t : ByteArray} {a b : Nat} {x : ByteArray} (hs : t.size ≤ 1048576) (w : World) (hr : Rd w rb t a) (h : Batches.rdShort t a = some (x, b)) :
    Calls Try.prog 40 #[.pointer (some ⟨rb, 0, none⟩)] w fun e w' => e = .returned (.string x) ∧ Rd w' rb t b ∧ w.grownBy w' (some rb) := by
  have hb := (Batches.rdShort_cut h).2.1
  have ha := hr.2
  have HR : Hid (Rd w rb t a) := hr
  have HH : Hid (Batches.rdShort t a = some (x, b)) := h
  have c0 := hr.c0
  have c1 := hr.c1
  clear h hr
  go_enter Try.func40, Try.ntmps40
  go_wp2_with fail
  have NE := Abv.ne w
  have F0 := fun x : Abv w => x.cell c0
  have F1 := fun x : Abv w => x.cell c1
  refine wp_region_above (by kernel_rfl) (by kernel_rfl) ?_
  repeat (go_big_quiet_step (first | (go_at_call 48; exact calls_above (implRS_some hs ha HH.out _))))
  refine wpQuiet_nil ?_
  rintro w1 ⟨⟨_, hb1⟩, rfl⟩
  clear NE F0 F1
  rename World => w1
  have hr1 := HR.out.below hb1
  have f1 := hr1.fz 1
  have d1 := hr1.c1
  have HR1 : Hid (Rd w1 rb t a) := hr1
  clear hr1
  go_wp2_with (go_at_call 46; refine (need_yes _ _).mono ?_; rintro e w2 ⟨rfl, rfl⟩)
  go_ret
  exact ⟨rfl, HR1.out.set hb, (own_below' hb1).trans (grown_set _ _ _ _)⟩
set_option maxHeartbeats 1000000 in
theorem short_none {rb : Nat} {t : ByteArray} {a : Nat} (hs : t.size ≤ 1048576) (w : World) (hr : Rd w rb t a) (h : Batches.rdShort t a = none) :
    Calls Try.prog 40 #[.pointer (some ⟨rb, 0, none⟩)] w fun e w' => e = .panicked thrown ∧ w.grownBy w' (some rb) := by
  have ha := hr.2
  have HH : Hid (Batches.rdShort t a = none) := h
  have c0 := hr.c0
  have c1 := hr.c1
  clear h hr
  go_enter Try.func40, Try.ntmps40
  go_wp2_with fail
  have NE := Abv.ne w
  have F0 := fun x : Abv w => x.cell c0
  have F1 := fun x : Abv w => x.cell c1
  refine wp_region_above (by kernel_rfl) (by kernel_rfl) ?_
  repeat (go_big_quiet_step (first | (go_at_call 48; exact calls_above (implRS_not hs ha HH.out _))))
  refine wpQuiet_nil ?_
  rintro w1 ⟨⟨_, hb1⟩, rfl⟩
  clear NE F0 F1
  go_wp2_with (go_at_call 46; refine (need_no _ _).mono ?_; rintro e w2 ⟨rfl, rfl⟩)
  exact ⟨rfl, rfl, own_below' hb1⟩
end Go.Proofs.Ytlmjhobijgmolaa
