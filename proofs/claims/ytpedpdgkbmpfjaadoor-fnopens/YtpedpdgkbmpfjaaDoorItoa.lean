/- The call of the specification's Decimal at every int, walked. -/
import Derived.Test.YtpedpdgkbmpfjaaDoorDec
import Derived.Lib.ItoaNum
namespace Go.Proofs.YtpedpdgkbmpfjaaDoor
open Go.RowKit

theorem dec_lib : ∀ (f m : Nat), m ≤ f → Words.dec m = Lib.decDigits m
  | 0, m, h => by
    obtain rfl : m = 0 := by omega
    rw [Lib.decDigits, dif_pos (by omega)]; rfl
  | f + 1, m, h => by
    by_cases h10 : m < 10
    · rw [Lib.decDigits, dif_pos h10]
      by_cases h0 : m = 0
      · subst h0; rfl
      · rw [Words.dec, if_neg h0, Words.dig_step m h0, show m / 10 = 0 from by omega, Words.dig_zero, show m % 10 = m from by omega, Words.fig, if_pos h10]; rfl
    · have ih := dec_lib f (m / 10) (by omega)
      rw [Words.dec, if_neg (by omega)] at ih
      rw [Lib.decDigits, dif_neg h10, ← ih, Words.dec, if_neg (by omega), Words.dig_step m (by omega), Words.fig, if_pos (by omega)]
theorem itoa_neg {n : Int} (h : n < 0) : Lib.itoa n = 45 :: Words.dig n.natAbs := by
  rw [Lib.itoa, if_pos h, ← dec_lib n.natAbs n.natAbs (Nat.le_refl _), Words.dec, if_neg (by omega)]
theorem itoa_pos {n : Int} (h : ¬ n < 0) (h0 : n ≠ 0) : Lib.itoa n = Words.dig n.natAbs := by
  rw [Lib.itoa, if_neg h, show n.toNat = n.natAbs from by omega, ← dec_lib n.natAbs n.natAbs (Nat.le_refl _), Words.dec, if_neg (by omega)]
theorem itoa_zero : Lib.itoa 0 = [48] := by
  rw [Lib.itoa, if_neg (by omega), Int.toNat_zero, Lib.decDigits, dif_pos (by omega)]; rfl

theorem fig_zero (w : World) : Calls Tryd.prog 70 #[.int .i64 0] w fun e w' => e = .returned (.int .u8 ((Words.fig 0).toNat : Int)) ∧ w' = w := figure_nat 0 (by omega) w

theorem step_pos {x : Int} (h0 : 0 < x) : ∃ X : Nat, Hid (X = x.natAbs % 10) ∧ x % 10 = (X : Int) ∧ X < 16 := ⟨x.natAbs % 10, rfl, by omega, by omega⟩
theorem step_neg {x : Int} (h0 : x < 0) : ∃ (X : Nat) (y : Int), Hid (X = x.natAbs % 10) ∧ x.tmod 10 = -(X : Int) ∧ X < 16 ∧ Hid (y.natAbs = x.natAbs / 10) ∧ y ≤ 0 ∧ x.tdiv 10 = y := by
  refine ⟨x.natAbs % 10, x.tdiv 10, rfl, ?_, by omega, ?_, ?_, rfl⟩
  · obtain ⟨m, rfl⟩ : ∃ m : Nat, x = -(m : Int) := ⟨x.natAbs, by omega⟩
    rw [Int.neg_tmod, Int.natAbs_neg, Int.natAbs_natCast, Int.tmod_eq_emod_of_nonneg (by omega)]
    omega
  · show _ = _
    rw [Int.natAbs_tdiv]; rfl
  · obtain ⟨m, rfl⟩ : ∃ m : Nat, x = -(m : Int) := ⟨x.natAbs, by omega⟩
    rw [Int.neg_tdiv, Int.tdiv_eq_ediv_of_nonneg (by omega)]
    omega

set_option maxHeartbeats 1000000 in
set_option maxRecDepth 100000 in
theorem specDec_any (n : Int) (hn1 : -9223372036854775808 ≤ n) (hn2 : n ≤ 9223372036854775807) (w : World) :
    Calls Tryd.prog 53 #[.int .i64 n] w fun e w' => e = .returned (.string ⟨(Lib.itoa n).toArray⟩) ∧ Below w.heap.size w w' := by
  have HL : Hid ((Words.dig n.natAbs).length ≤ 20) := Words.dig_len 20 n.natAbs (by omega)
  by_cases h0 : n = 0
  · subst h0
    have HI : Hid (_ = _) := itoa_zero
    go_enter Tryd.func53, Tryd.ntmps53
    go_wp2
    go_ret
    exact ⟨by rw [HI.out]; rfl, Below.refl _ _⟩
  · have hne : (n == 0) = false := by simp; omega
    have HN1 : Hid (_ ≤ _) := hn1
    have HN2 : Hid (_ ≤ _) := hn2
    clear hn1 hn2
    by_cases hneg : n < 0
    · have HI : Hid (_ = _) := itoa_neg hneg
      go_enter Tryd.func53, Tryd.ntmps53
      go_wp2
      go_loopw [0, 4] (fun x v wr => ∃ (m : Int) (S : ByteArray), m ≤ 0 ∧ -9223372036854775808 ≤ m ∧ x = .int .i64 m ∧ v = .string S ∧ S.size ≤ 20 ∧ Words.dig m.natAbs ++ S.data.toList = Words.dig n.natAbs ∧ Below w.heap.size w wr)
        (fun x _ _ => (intOf x).natAbs)
      case atStart => exact ⟨n, ⟨#[]⟩, by omega, HN1.out, rfl, rfl, by decide, by simp, Below.refl _ _⟩
      case round =>
        obtain ⟨m, S, hm, hm1, rfl, rfl, hsz, heq, hbel⟩ := hrel
        have HE : Hid (_ = _) := heq
        have HM1 : Hid (_ ≤ _) := hm1
        clear heq hm1
        by_cases hz : m = 0
        · have hmz : (m != 0) = false := by simp; omega
          have HZ : Hid (m = 0) := hz
          clear hz
          go_wp2
          go_ret
          refine ⟨?_, hbel⟩
          have e := HE.out
          rw [HZ.out] at e
          have e2 : ((⟨#[45]⟩ : ByteArray) ++ S) = ⟨(Lib.itoa n).toArray⟩ := str_ext (by rw [str_app, HI.out, ← e]; rfl)
          rw [← e2]; rfl
        · have hmz : (m != 0) = true := by simp; omega
          obtain ⟨X, y, HX, hmod, hX16, HY, hy0, hdiv⟩ := step_neg (x := m) (by omega)
          have hcv := one_string wr (Words.fig X)
          have E : Hid (Words.dig y.natAbs ++ ((⟨#[Words.fig X]⟩ : ByteArray) ++ S).data.toList = Words.dig n.natAbs) := by
            show _ = _
            rw [str_app, ← HE.out, Words.dig_step m.natAbs (by omega), HY.out, HX.out]; simp
          have hlast : Hid (((⟨#[Words.fig X]⟩ : ByteArray) ++ S).size ≤ 20) := by
            have L := congrArg List.length E.out
            rw [List.length_append, Words.size_list] at L
            have := HL.out
            show _ ≤ _
            omega
          have hyb : Hid (-9223372036854775808 ≤ y ∧ y ≤ 9223372036854775807) := by
            have := HY.out
            have := HM1.out
            show _ ∧ _
            omega
          by_cases hX0 : X = 0
          · subst hX0
            go_wp2_with (go_at_call 70; refine (fig_zero _).mono ?_; rintro e w' ⟨rfl, rfl⟩)
            go_roundw
            case rel => exact ⟨y, _, hy0, hyb.out.1, by rw [IntWalk.wrap64_in y hyb.out], rfl, hlast.out, E.out, hbel.alloc hbel.size _⟩
            case measure =>
              show (wrap64 y).natAbs < m.natAbs
              rw [IntWalk.wrap64_in y hyb.out]
              have := HY.out
              omega
          · have hXp : (0 : Int) < (X : Int) := by omega
            have hXd : decide (0 < X) = true := by simp; omega
            have hX1 : -(X : Int) < 0 := by omega
            go_wp2_with (go_at_call 70; refine (figure_nat X hX16 _).mono ?_; rintro e w' ⟨rfl, rfl⟩)
            go_roundw
            case rel => exact ⟨y, _, hy0, hyb.out.1, by rw [IntWalk.wrap64_in y hyb.out], rfl, hlast.out, E.out, hbel.alloc hbel.size _⟩
            case measure =>
              show (wrap64 y).natAbs < m.natAbs
              rw [IntWalk.wrap64_in y hyb.out]
              have := HY.out
              omega
    · have HI : Hid (_ = _) := itoa_pos hneg h0
      go_enter Tryd.func53, Tryd.ntmps53
      go_wp2
      go_loopw [0, 4] (fun x v wr => ∃ (m : Nat) (S : ByteArray), m ≤ 9223372036854775807 ∧ x = .int .i64 (m : Int) ∧ v = .string S ∧ S.size ≤ 20 ∧ Words.dig m ++ S.data.toList = Words.dig n.natAbs ∧ Below w.heap.size w wr)
        (fun x _ _ => (intOf x).toNat)
      case atStart => exact ⟨n.natAbs, ⟨#[]⟩, by have := HN2.out; omega, by rw [show ((n.natAbs : Nat) : Int) = n from by omega], rfl, by decide, by simp, Below.refl _ _⟩
      case round =>
        obtain ⟨m, S, hm, rfl, rfl, hsz, heq, hbel⟩ := hrel
        have HE : Hid (_ = _) := heq
        clear heq
        by_cases hz : m = 0
        · have hmz : ((m : Int) != 0) = false := by simp; omega
          have HZ : Hid (m = 0) := hz
          clear hz
          go_wp2
          go_ret
          refine ⟨?_, hbel⟩
          have e := HE.out
          rw [HZ.out, Words.dig_zero, List.nil_append] at e
          rw [HI.out, ← str_ext e]; rfl
        · have hmz : ((m : Int) != 0) = true := by simp; omega
          obtain ⟨X, HX, hX⟩ : ∃ X : Nat, Hid (X = m % 10) ∧ (m : Int) % 10 = (X : Int) := ⟨m % 10, rfl, by omega⟩
          have hX16 : X < 16 := by have := HX.out; omega
          have hX10 : ¬ (X : Int) < 0 := by omega
          have hcv := one_string wr (Words.fig X)
          go_wp2_with (go_at_call 70; refine (figure_nat X hX16 _).mono ?_; rintro e w' ⟨rfl, hw⟩; subst hw)
          go_roundw
          case rel =>
            have E : Words.dig (m / 10) ++ ((⟨#[Words.fig X]⟩ : ByteArray) ++ S).data.toList = Words.dig n.natAbs := by
              rw [str_app, ← HE.out, Words.dig_step m hz, HX.out]; simp
            refine ⟨m / 10, _, by omega, by go_num, rfl, ?_, E, hbel.alloc hbel.size _⟩
            have L := congrArg List.length E
            rw [List.length_append, Words.size_list] at L
            have := HL.out
            omega
          case measure => simp [intOf]; omega
end Go.Proofs.YtpedpdgkbmpfjaaDoor
