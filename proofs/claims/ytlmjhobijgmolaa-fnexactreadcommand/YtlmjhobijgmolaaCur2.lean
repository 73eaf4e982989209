/- The specification's l05Take, walked. -/
import Derived.Test.YtlmjhobijgmolaaSpecCur
namespace Go.Proofs.Ytlmjhobijgmolaa
open Go.RowKit
set_option linter.unusedVariables false

set_option maxHeartbeats 1000000 in
theorem take_ok {cb : Nat} {t : ByteArray} {a n : Nat} (hs : t.size ≤ 1048576) (w : World) (hc : C5 w cb t a false) (h : a + n ≤ t.size) :
    Calls Try.prog 26 #[.pointer (some ⟨cb, 0, none⟩), .int .i64 (n : Int)] w fun e w' => e = .returned (.string (t.extract a (a + n))) ∧ C5 w' cb t (a + n) false ∧ w.grownBy w' (some cb) := by
  obtain ⟨M, hM⟩ : ∃ M : Nat, M = a + n := ⟨_, rfl⟩
  rw [← hM]
  have HM : Hid (M = a + n) := hM
  clear hM
  have HC : Hid (C5 w cb t a false) := hc
  have c0 := hc.c0
  have c1 := hc.c1
  have c2 := hc.c2
  have f1 := hc.fz 1
  obtain ⟨D, hD⟩ : ∃ D : Nat, D = t.size - a := ⟨_, rfl⟩
  have hm : IntKind.i64.wrap ((t.size : Int) - (a : Int)) = (D : Int) := by rw [IntWalk.i64_in _ (by omega)]; omega
  have h1 : decide ((D : Int) < (n : Int)) = false := decide_eq_false (by omega)
  have h2 : decide (D < n) = false := decide_eq_false (by omega)
  clear hc hD
  go_enter Try.func26, Try.ntmps26
  go_wp2_with fail
  have NE := Abv.ne w
  have F0 := fun x : Abv w => x.cell c0
  have F1 := fun x : Abv w => x.cell c1
  have F2 := fun x : Abv w => x.cell c2
  refine wp_region_above (by kernel_rfl) (by kernel_rfl) ?_
  repeat (go_big_quiet_step (fail))
  refine wpQuiet_nil ?_
  rintro w1 ⟨⟨_, hb1⟩, rfl⟩
  clear NE F0 F1 F2
  rename World => w1
  have hc1 := HC.out.below hb1
  have HC1 : Hid (C5 w1 cb t a false) := hc1
  have d0 := hc1.c0
  have d1 := hc1.c1
  have d2 := hc1.c2
  have g1 := hc1.fz 1
  clear hc1 hm h1 h2 c0 c1 c2 f1 HC
  go_wp2_with fail
  have hM := HM.out
  rw [show (a : Int) + (n : Int) = (M : Int) by omega]
  have hC2 := HC1.out.setAt (b := M) (by omega)
  obtain ⟨W2, hW2⟩ : ∃ W2, W2 = w1.setCell ⟨cb, 1, none⟩ (.int .i64 (M : Int)) := ⟨_, rfl⟩
  have hg2 : w.grownBy W2 (some cb) := by rw [hW2]; exact (own_below' hb1).trans (grown_set _ _ _ _)
  rw [← hW2] at hC2 ⊢
  have HC2 : Hid (C5 W2 cb t M false) := hC2
  have e0 := hC2.c0
  have e1 := hC2.c1
  have hm : IntKind.i64.wrap ((M : Int) - (n : Int)) = (a : Int) := by rw [IntWalk.i64_in _ (by omega)]; omega
  have hsl : ∀ wx, (Instr.slice 9 (.string t) (some (.int .i64 (a : Int))) (some (.int .i64 (M : Int))) none).run Try.prog wx = .ok (.string (t.extract a M)) wx := fun wx => by
    rw [run_slice_string wx 9 t .i64 .i64 _ _ Try.underlying9 (by omega) (by omega) (by omega)]
    congr 2
  clear hW2 hC2 d0 d1 d2 g1 HC1 hM hb1
  have NE := Abv.ne W2
  have F0 := fun x : Abv W2 => x.cell e0
  have F1 := fun x : Abv W2 => x.cell e1
  refine wp_region_above (by kernel_rfl) (by kernel_rfl) ?_
  repeat (go_big_quiet_step (fail))
  refine wpQuiet_nil ?_
  rintro w3 ⟨⟨_, hb3⟩, rfl⟩
  clear NE F0 F1 hm hsl
  go_wp2
  go_ret
  exact ⟨rfl, HC2.out.below hb3, hg2.trans (own_below' hb3)⟩
set_option maxHeartbeats 1000000 in
theorem take_bad {cb : Nat} {t : ByteArray} {a : Nat} {n : Int} (hs : t.size ≤ 1048576) (w : World) (bad : Bool) (hc : C5 w cb t a bad) (h : bad = true ∨ (t.size : Int) - (a : Int) < n) (hn : n ≤ 1000000000) :
    Calls Try.prog 26 #[.pointer (some ⟨cb, 0, none⟩), .int .i64 n] w fun e w' => e = .returned (.string ⟨#[]⟩) ∧ C5 w' cb t a true ∧ w.grownBy w' (some cb) := by
  have HC : Hid (C5 w cb t a bad) := hc
  have ha := hc.2
  have c0 := hc.c0
  have c1 := hc.c1
  have c2 := hc.c2
  have f2 := hc.fz 2
  clear hc
  cases bad with
  | true =>
    clear h
    go_enter Try.func26, Try.ntmps26
    go_wp2_with fail
    have NE := Abv.ne w
    have F0 := fun x : Abv w => x.cell c0
    have F1 := fun x : Abv w => x.cell c1
    have F2 := fun x : Abv w => x.cell c2
    refine wp_region_above (by kernel_rfl) (by kernel_rfl) ?_
    repeat (go_big_quiet_step (fail))
    refine wpQuiet_nil ?_
    rintro w1 ⟨⟨_, hb1⟩, rfl⟩
    clear NE F0 F1 F2
    rename World => w1
    have hc1 := HC.out.below hb1
    have HC1 : Hid (C5 w1 cb t a true) := hc1
    have d2 := hc1.c2
    have g2 := hc1.fz 2
    clear hc1
    go_wp2
    go_ret
    exact ⟨rfl, HC1.out.setBad, (own_below' hb1).trans (grown_set _ _ _ _)⟩
  | false =>
    have h1 : (t.size : Int) - (a : Int) < n := by simpa using h
    obtain ⟨D, hD⟩ : ∃ D : Nat, D = t.size - a := ⟨_, rfl⟩
    have hm : IntKind.i64.wrap ((t.size : Int) - (a : Int)) = (D : Int) := by rw [IntWalk.i64_in _ (by omega)]; omega
    have h2 : decide ((D : Int) < n) = true := decide_eq_true (by omega)
    clear h h1 hD
    go_enter Try.func26, Try.ntmps26
    go_wp2_with fail
    have NE := Abv.ne w
    have F0 := fun x : Abv w => x.cell c0
    have F1 := fun x : Abv w => x.cell c1
    have F2 := fun x : Abv w => x.cell c2
    refine wp_region_above (by kernel_rfl) (by kernel_rfl) ?_
    repeat (go_big_quiet_step (fail))
    refine wpQuiet_nil ?_
    rintro w1 ⟨⟨_, hb1⟩, rfl⟩
    clear NE F0 F1 F2
    rename World => w1
    have hc1 := HC.out.below hb1
    have HC1 : Hid (C5 w1 cb t a false) := hc1
    have d2 := hc1.c2
    have g2 := hc1.fz 2
    clear hc1 hm h2
    go_wp2
    go_ret
    exact ⟨rfl, HC1.out.setBad, (own_below' hb1).trans (grown_set _ _ _ _)⟩

end Go.Proofs.Ytlmjhobijgmolaa
