/- More of the program's reader, walked: count, short, flag. -/
import Derived.Test.YtimacmijinblmaaGreatRdCont
import Derived.Test.YtimacmijinblmaaGreatCur3
import Derived.Test.YtimacmijinblmaaGreatImplEnt
import Derived.StillTailTactics
namespace Go.Proofs.YtimacmijinblmaaGreat
open Go.RowKit
set_option linter.unusedVariables false
set_option linter.unusedSimpArgs false

set_option maxHeartbeats 400000 in
theorem implRS_none {s : ByteArray} {x : Int} (hs : s.size ≤ 1048576) (h : rdZ s x = none) (w : World) :
    Calls Tryz.prog 106 #[.string s, .int .i64 x] w fun e w' => e = .returned (.tuple #[.string ⟨#[]⟩, .int .i64 0, .bool false]) ∧ Below w.heap.size w w' := by
  have HR : Hid (_ = _) := h
  clear h
  go_enter Tryz.func106, Tryz.ntmps106
  go_wp2_with (go_at_call 99; refine (implRead_none hs HR.out _).mono ?_; rintro e w1 ⟨rfl, rfl⟩)
  go_ret3
  exact ⟨rfl, Below.refl _ _⟩
set_option maxHeartbeats 400000 in
theorem implRS_no {s : ByteArray} {x : Int} {n k : Nat} (hs : s.size ≤ 1048576) (h : rdZ s x = some (n, k)) (hk : k ≤ s.size) (hn : 20000 < n ∨ s.size < k + n) (hn2 : n ≤ 1000000000) (w : World) :
    Calls Tryz.prog 106 #[.string s, .int .i64 x] w fun e w' => e = .returned (.tuple #[.string ⟨#[]⟩, .int .i64 0, .bool false]) ∧ Below w.heap.size w w' := by
  have HR : Hid (_ = _) := h
  clear h
  by_cases h1 : 20000 < n
  · clear hn
    go_enter Tryz.func106, Tryz.ntmps106
    go_wp2_with (go_at_call 99; refine (implRead_some hs HR.out _).mono ?_; rintro e w1 ⟨rfl, rfl⟩)
    go_ret3
    exact ⟨rfl, Below.refl _ _⟩
  · have h2 : (s.size : Int) - (k : Int) < (n : Int) := by omega
    clear hn
    go_enter Tryz.func106, Tryz.ntmps106
    go_wp2_with (go_at_call 99; refine (implRead_some hs HR.out _).mono ?_; rintro e w1 ⟨rfl, rfl⟩)
    go_ret3
    exact ⟨rfl, Below.refl _ _⟩
set_option maxHeartbeats 400000 in
theorem implRS_yes {s : ByteArray} {x : Int} {n k : Nat} (hs : s.size ≤ 1048576) (h : rdZ s x = some (n, k)) (hn : n ≤ 20000) (hk : k + n ≤ s.size) (w : World) :
    Calls Tryz.prog 106 #[.string s, .int .i64 x] w fun e w' => e = .returned (.tuple #[.string (s.extract k (k + n)), .int .i64 ((k : Int) + (n : Int)), .bool true]) ∧ Below w.heap.size w w' := by
  have HR : Hid (_ = _) := h
  clear h
  have hsl : ∀ wx, (Instr.slice 9 (.string s) (some (.int .i64 (k : Int))) (some (.int .i64 ((k : Int) + (n : Int)))) none).run Tryz.prog wx = .ok (.string (s.extract k (k + n))) wx := fun wx => by
    rw [run_slice_string wx 9 s .i64 .i64 _ _ Tryz.underlying9 (by omega) (by omega) (by omega)]
    congr 2
  have hx : (s.extract k (k + n)).size ≤ 281474976710656 := by rw [ByteArray.size_extract]; omega
  have h2 : ¬ (s.size : Int) - (k : Int) < (n : Int) := by omega
  go_enter Tryz.func106, Tryz.ntmps106
  go_wp2_with (first | (go_at_call 99; refine (implRead_some hs HR.out _).mono ?_; rintro e w1 ⟨rfl, rfl⟩) | (go_at_call 122; refine (clone_any _ hx _).mono ?_; rintro e w2 ⟨rfl, hb2⟩))
  go_ret3
  exact ⟨rfl, hb2⟩

set_option maxHeartbeats 1000000 in
theorem count_some {rb : Nat} {t : ByteArray} {a n b : Nat} (hs : t.size ≤ 1048576) (w : World) (hr : Rd w rb t a) (h : Words.rd t.data.toList a = some (n, b)) (hn : n ≤ 4) :
    Calls Tryz.prog 101 #[.pointer (some ⟨rb, 0, none⟩), .int .i64 4] w fun e w' => e = .returned (.int .i64 (n : Int)) ∧ Rd w' rb t b ∧ w.grownBy w' (some rb) := by
  have HR : Hid (Rd w rb t a) := hr
  have HH : Hid (Words.rd t.data.toList a = some (n, b)) := h
  have hn' : (n : Int) ≤ 4 := by omega
  clear h hr
  go_enter Tryz.func101, Tryz.ntmps101
  go_wp2_with (first | (go_at_call 59; refine (number_some hs _ HR.out HH.out).mono ?_; rintro e w1 ⟨rfl, h1, h2⟩) | (go_at_call 97; refine (need_yes _ _).mono ?_; rintro e w2 ⟨rfl, rfl⟩))
  go_ret
  exact ⟨rfl, h1, h2⟩
set_option maxHeartbeats 1000000 in
theorem count_none {rb : Nat} {t : ByteArray} {a : Nat} (hs : t.size ≤ 1048576) (w : World) (hr : Rd w rb t a) (h : Words.rd t.data.toList a = none) :
    Calls Tryz.prog 101 #[.pointer (some ⟨rb, 0, none⟩), .int .i64 4] w fun e w' => e = .panicked thrown ∧ w.grownBy w' (some rb) := by
  have HR : Hid (Rd w rb t a) := hr
  have HH : Hid (Words.rd t.data.toList a = none) := h
  clear h hr
  go_enter Tryz.func101, Tryz.ntmps101
  go_wp2_with (first | (go_at_call 59; refine (number_none hs _ HR.out HH.out).mono ?_; rintro e w1 ⟨rfl, h2⟩))
  exact ⟨rfl, rfl, h2⟩
set_option maxHeartbeats 200000 in
theorem count_over {rb : Nat} {t : ByteArray} {a n b : Nat} (hs : t.size ≤ 1048576) (w : World) (hr : Rd w rb t a) (h : Words.rd t.data.toList a = some (n, b)) (hn : ¬ n ≤ 4) :
    Calls Tryz.prog 101 #[.pointer (some ⟨rb, 0, none⟩), .int .i64 4] w fun e w' => e = .panicked thrown ∧ w.grownBy w' (some rb) := by
  have HR : Hid (Rd w rb t a) := hr
  have HH : Hid (Words.rd t.data.toList a = some (n, b)) := h
  have hn' : decide ((n : Int) ≤ 4) = false := decide_eq_false (by omega)
  have hn2 : decide (n ≤ 4) = false := decide_eq_false hn
  clear hn
  clear h hr
  go_enter Tryz.func101, Tryz.ntmps101
  go_wp2_with (first | (go_at_call 59; refine (number_some hs _ HR.out HH.out).mono ?_; rintro e w1 ⟨rfl, h1, h2⟩) | (go_at_call 97; refine (need_no _ _).mono ?_; rintro e w2 ⟨rfl, rfl⟩))
  exact ⟨rfl, rfl, h2⟩
theorem implRS_some {t : ByteArray} {a b : Nat} {x : ByteArray} (hs : t.size ≤ 1048576) (ha : a ≤ t.size) (h : Batches.rdShort t a = some (x, b)) (w : World) :
    Calls Tryz.prog 106 #[.string t, .int .i64 (a : Int)] w fun e w' => e = .returned (.tuple #[.string x, .int .i64 (b : Int), .bool true]) ∧ Below w.heap.size w w' := by
  obtain ⟨n, k, h1, h2, h3, rfl, rfl⟩ := rdShort_parts ha h
  have := implRS_yes hs h1 h2 h3 w
  exact this
theorem implRS_not {t : ByteArray} {a : Nat} (hs : t.size ≤ 1048576) (ha : a ≤ t.size) (h : Batches.rdShort t a = none) (w : World) :
    Calls Tryz.prog 106 #[.string t, .int .i64 (a : Int)] w fun e w' => e = .returned (.tuple #[.string ⟨#[]⟩, .int .i64 0, .bool false]) ∧ Below w.heap.size w w' := by
  rcases rdShort_not ha h with h1 | ⟨n, k, h1, h2, h3, h4⟩
  · exact implRS_none hs h1 w
  · exact implRS_no hs h1 h3 h2 h4 w
set_option maxHeartbeats 1000000 in
theorem short_some {rb : Nat} {t : ByteArray} {a b : Nat} {x : ByteArray} (hs : t.size ≤ 1048576) (w : World) (hr : Rd w rb t a) (h : Batches.rdShort t a = some (x, b)) :
    Calls Tryz.prog 83 #[.pointer (some ⟨rb, 0, none⟩)] w fun e w' => e = .returned (.string x) ∧ Rd w' rb t b ∧ w.grownBy w' (some rb) := by
  have hb := (Batches.rdShort_cut h).2.1
  have ha := hr.2
  have HR : Hid (Rd w rb t a) := hr
  have HH : Hid (Batches.rdShort t a = some (x, b)) := h
  have c0 := hr.c0
  have c1 := hr.c1
  clear h hr
  go_enter Tryz.func83, Tryz.ntmps83
  go_wp2_with fail
  have NE := Abv.ne w
  have F0 := fun x : Abv w => x.cell c0
  have F1 := fun x : Abv w => x.cell c1
  refine wp_region_above (by kernel_rfl) (by kernel_rfl) ?_
  repeat (go_big_quiet_step (first | (go_at_call 106; exact calls_above (implRS_some hs ha HH.out _))))
  refine wpQuiet_nil ?_
  rintro w1 ⟨⟨_, hb1⟩, rfl⟩
  clear NE F0 F1
  rename World => w1
  have hr1 := HR.out.below hb1
  have f1 := hr1.fz 1
  have d1 := hr1.c1
  have HR1 : Hid (Rd w1 rb t a) := hr1
  clear hr1
  go_wp2_with (go_at_call 97; refine (need_yes _ _).mono ?_; rintro e w2 ⟨rfl, rfl⟩)
  go_ret
  exact ⟨rfl, HR1.out.set hb, (own_below' hb1).trans (grown_set _ _ _ _)⟩
set_option maxHeartbeats 1000000 in
theorem short_none {rb : Nat} {t : ByteArray} {a : Nat} (hs : t.size ≤ 1048576) (w : World) (hr : Rd w rb t a) (h : Batches.rdShort t a = none) :
    Calls Tryz.prog 83 #[.pointer (some ⟨rb, 0, none⟩)] w fun e w' => e = .panicked thrown ∧ w.grownBy w' (some rb) := by
  have ha := hr.2
  have HH : Hid (Batches.rdShort t a = none) := h
  have c0 := hr.c0
  have c1 := hr.c1
  clear h hr
  go_enter Tryz.func83, Tryz.ntmps83
  go_wp2_with fail
  have NE := Abv.ne w
  have F0 := fun x : Abv w => x.cell c0
  have F1 := fun x : Abv w => x.cell c1
  refine wp_region_above (by kernel_rfl) (by kernel_rfl) ?_
  repeat (go_big_quiet_step (first | (go_at_call 106; exact calls_above (implRS_not hs ha HH.out _))))
  refine wpQuiet_nil ?_
  rintro w1 ⟨⟨_, hb1⟩, rfl⟩
  clear NE F0 F1
  go_wp2_with (go_at_call 97; refine (need_no _ _).mono ?_; rintro e w2 ⟨rfl, rfl⟩)
  exact ⟨rfl, rfl, own_below' hb1⟩
theorem rdFlag_parts {t : ByteArray} {a b : Nat} {g : Bool} (h : Batches.rdFlag t a = some (g, b)) : ∃ ha : a < t.size, t[a].toNat ≤ 1 ∧ g = ((t[a].toNat : Int) == 1) ∧ b = a + 1 := by
  unfold Batches.rdFlag at h
  split at h
  · cases h
  · rename_i x hx
    obtain ⟨ha, hxe⟩ := List.getElem?_eq_some_iff.1 hx
    have ha' : a < t.size := ha
    have e : t[a] = x := hxe
    split at h
    · rename_i hb
      simp only [Option.some.injEq, Prod.mk.injEq] at h
      refine ⟨ha', by rw [e]; exact hb, ?_, h.2.symm⟩
      rw [e, ← h.1]
      rcases (show x.toNat = 0 ∨ x.toNat = 1 by omega) with q | q <;> rw [q] <;> rfl
    · cases h
theorem rdFlag_not {t : ByteArray} {a : Nat} (h : Batches.rdFlag t a = none) : ¬ a < t.size ∨ ∃ ha : a < t.size, ¬ t[a].toNat ≤ 1 := by
  by_cases ha : a < t.size
  · right
    refine ⟨ha, fun hb => ?_⟩
    unfold Batches.rdFlag at h
    have hx : (Batches.by_ t)[a]? = some t[a] := by
      rw [List.getElem?_eq_getElem (show a < (Batches.by_ t).length from ha)]; rfl
    rw [hx] at h
    simp only [if_pos hb] at h
    cases h
  · exact Or.inl ha
set_option maxHeartbeats 400000 in
theorem flag_some {rb : Nat} {t : ByteArray} {a b : Nat} {g : Bool} (hs : t.size ≤ 1048576) (w : World) (hr : Rd w rb t a) (h : Batches.rdFlag t a = some (g, b)) :
    Calls Tryz.prog 69 #[.pointer (some ⟨rb, 0, none⟩)] w fun e w' => e = .returned (.bool g) ∧ Rd w' rb t b ∧ w.grownBy w' (some rb) := by
  obtain ⟨ha, h1, hg, rfl⟩ := rdFlag_parts h
  have HR : Hid (Rd w rb t a) := hr
  obtain ⟨X, hX⟩ : ∃ X : Nat, X = t[a].toNat := ⟨_, rfl⟩
  have HX : Hid (X = t[a].toNat) := hX
  rw [← hX] at h1 hg
  have HA : Hid (a < t.size) := ha
  have h1' : (X : Int) ≤ 1 := by omega
  have HG : Hid (g = ((X : Int) == 1)) := hg
  clear hr h hX hg
  go_enter Tryz.func69, Tryz.ntmps69
  go_wp2_with (first | (go_at_call 51; refine (one_some hs _ HR.out HA.out).mono ?_; rintro e w1 ⟨rfl, hr1, hg1⟩; rw [← HX.out]) | (go_at_call 97; refine (need_yes _ _).mono ?_; rintro e w2 ⟨rfl, rfl⟩))
  go_ret
  exact ⟨by rw [HG.out]; rfl, hr1, hg1⟩
set_option maxHeartbeats 400000 in
theorem flag_none {rb : Nat} {t : ByteArray} {a : Nat} (hs : t.size ≤ 1048576) (w : World) (hr : Rd w rb t a) (h : Batches.rdFlag t a = none) :
    Calls Tryz.prog 69 #[.pointer (some ⟨rb, 0, none⟩)] w fun e w' => e = .panicked thrown ∧ w.grownBy w' (some rb) := by
  have HR : Hid (Rd w rb t a) := hr
  clear hr
  rcases rdFlag_not h with ha | ⟨ha, hb⟩
  · have HA : Hid (¬ a < t.size) := ha
    clear h ha
    go_enter Tryz.func69, Tryz.ntmps69
    go_wp2_with (first | (go_at_call 51; refine (one_none hs _ HR.out HA.out).mono ?_; rintro e w1 ⟨rfl, hg1⟩))
    exact ⟨rfl, rfl, hg1⟩
  · obtain ⟨X, hX⟩ : ∃ X : Nat, X = t[a].toNat := ⟨_, rfl⟩
    have HX : Hid (X = t[a].toNat) := hX
    rw [← hX] at hb
    have HA : Hid (a < t.size) := ha
    have h1 : decide ((X : Int) ≤ 1) = false := decide_eq_false (by omega)
    have h2 : decide (X ≤ 1) = false := decide_eq_false (by omega)
    clear h hX hb
    go_enter Tryz.func69, Tryz.ntmps69
    go_wp2_with (first | (go_at_call 51; refine (one_some hs _ HR.out HA.out).mono ?_; rintro e w1 ⟨rfl, hr1, hg1⟩; rw [← HX.out]) | (go_at_call 97; refine (need_no _ _).mono ?_; rintro e w2 ⟨rfl, rfl⟩))
    exact ⟨rfl, rfl, hg1⟩
end Go.Proofs.YtimacmijinblmaaGreat
