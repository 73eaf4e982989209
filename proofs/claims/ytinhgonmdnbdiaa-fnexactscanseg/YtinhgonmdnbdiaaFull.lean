/- Plain facts on floats: a part of a whole, as a quotient of two small numbers, is below one just where it is not the whole; no program is named here. The calls of (*scan).full and math.NaN, walked: how full a segment is. -/
import Derived.Laws.FloatArith
import Derived.Test.YtinhgonmdnbdiaaKit
import Derived.Laws.Externs
namespace Go.Proofs.Ytinhgonmdnbdiaa
namespace Flt
open Go
open Ieee

theorem shl (a k : Nat) : a <<< k = a * 2 ^ k := Nat.shiftLeft_eq a k

/-- the number one, as a word -/
def one : Nat := 1023 * 2 ^ 52

theorem cut0 (n : Nat) : Toward.even.cut false n 0 = n := by
  simp [Toward.cut, Nat.mod_one]

theorem read_normal {r : Nat} (h1 : 2 ^ 52 ≤ r) (h2 : r < 2047 * 2 ^ 52) :
    double.read r = .number false (2 ^ 52 + r % 2 ^ 52) (-1074 + (r / 2 ^ 52 - 1 : Nat)) := by
  have hs : double.signWeight = 2 ^ 63 := rfl
  have hb : double.binade = 2 ^ 52 := rfl
  have hi : double.infRung = 2047 * 2 ^ 52 := rfl
  have hl : double.leastPlace = -1074 := by decide
  have e1 : r / 2 ^ 63 % 2 = 0 := by omega
  have e2 : r % 2 ^ 63 = r := by omega
  unfold Format.read
  simp only [hs, hb, hi, hl, e1, e2]
  rw [if_neg (by omega), if_pos h2]
  rfl

theorem read_small {r : Nat} (h1 : r < 2 ^ 52) : double.read r = .number false r (-1074) := by
  have hs : double.signWeight = 2 ^ 63 := rfl
  have hb : double.binade = 2 ^ 52 := rfl
  have hl : double.leastPlace = -1074 := by decide
  have e1 : r / 2 ^ 63 % 2 = 0 := by omega
  have e2 : r % 2 ^ 63 = r := by omega
  unfold Format.read
  simp only [hs, hb, hl, e1, e2]
  rw [if_pos h1]
  rfl

theorem order_one {r : Nat} (h : r < one) : double.order r one = some .lt := by
  have ho : double.read one = .number false (2 ^ 52) (-52) := by decide
  unfold Format.order
  rw [ho]
  unfold one at h
  by_cases hr : r < 2 ^ 52
  · rw [read_small hr]
    obtain ⟨k, hk⟩ : ∃ k : Nat, k = ((-52 : Int) - min (-1074) (-52)).toNat := ⟨_, rfl⟩
    have e : ((-52 : Int) - min (-1074) (-52)).toNat = k := hk.symm
    clear hk
    have e0 : ((-1074 : Int) - min (-1074) (-52)).toNat = 0 := by decide
    simp only [Datum.order, e, e0, signed, shl]
    have : compare (((r * 2 ^ 0 : Nat) : Int)) (((2 ^ 52 * 2 ^ k : Nat) : Int)) = .lt := by
      rw [Int.compare_eq_lt]
      have : r * 2 ^ 0 < 2 ^ 52 * 2 ^ k := Nat.lt_of_lt_of_le (show r * 2 ^ 0 < 2 ^ 52 * 1 by omega) (Nat.mul_le_mul_left _ Nat.one_le_two_pow)
      exact_mod_cast this
    simpa using this
  · have h1 : 2 ^ 52 ≤ r := by omega
    rw [read_normal h1 (by omega)]
    obtain ⟨q, hq⟩ : ∃ q, q = r / 2 ^ 52 := ⟨_, rfl⟩
    have hq1 : 1 ≤ q := by omega
    have hq2 : q ≤ 1022 := by omega
    rw [← hq]
    have ec : ((q - 1 : Nat) : Int) = (q : Int) - 1 := by omega
    have em : min (-1074 + ((q - 1 : Nat) : Int)) (-52) = -1075 + q := by omega
    have e0 : ((-1074 + ((q - 1 : Nat) : Int)) - (-1075 + (q : Int))).toNat = 0 := by omega
    have e1 : ((-52 : Int) - (-1075 + (q : Int))).toNat = 1023 - q := by omega
    simp only [Datum.order, em, e0, e1, signed, shl]
    have hlt : (2 ^ 52 + r % 2 ^ 52) * 2 ^ 0 < 2 ^ 52 * 2 ^ (1023 - q) := by
      have : (2:Nat) ^ 1 ≤ 2 ^ (1023 - q) := Nat.pow_le_pow_right (by omega) (by omega)
      have : (2:Nat) ^ 52 * 2 ^ 1 ≤ 2 ^ 52 * 2 ^ (1023 - q) := Nat.mul_le_mul_left _ this
      omega
    have : compare ((((2 ^ 52 + r % 2 ^ 52) * 2 ^ 0 : Nat) : Int)) (((2 ^ 52 * 2 ^ (1023 - q) : Nat) : Int)) = .lt := by
      rw [Int.compare_eq_lt]
      exact_mod_cast hlt
    simpa using this

theorem log2_bounds {n : Nat} (h : n ≠ 0) : 2 ^ n.log2 ≤ n ∧ n < 2 ^ (n.log2 + 1) := ⟨Nat.log2_self_le h, Nat.lt_log2_self⟩

theorem log2_mul_pow {n k : Nat} (h : n ≠ 0) : (n * 2 ^ k).log2 = n.log2 + k := by
  have := log2_bounds h
  have hp : 0 < 2 ^ k := Nat.two_pow_pos k
  rw [Nat.log2_eq_iff (by
    intro e
    rcases Nat.mul_eq_zero.1 e with e | e
    · exact h e
    · omega)]
  constructor
  · rw [Nat.pow_add]; exact Nat.mul_le_mul_right _ this.1
  · have e : n.log2 + k + 1 = (n.log2 + 1) + k := by omega
    rw [e, Nat.pow_add]
    exact Nat.mul_lt_mul_of_pos_right this.2 hp

/-- a whole number, read back from its float -/
theorem read_nat {n : Nat} (h0 : n ≠ 0) (h : n.log2 ≤ 52) :
    double.read (double.nearest false n 0) = .number false (n * 2 ^ (52 - n.log2)) ((n.log2 : Int) - 52) := by
  have hl : double.leastPlace = -1074 := by decide
  have hf : double.fractionBits = 52 := rfl
  have hb : double.binade = 2 ^ 52 := rfl
  have hi : double.infRung = 2047 * 2 ^ 52 := rfl
  have hbd := log2_bounds h0
  obtain ⟨l, hle⟩ : ∃ l, l = n.log2 := ⟨_, rfl⟩
  rw [← hle] at h hbd ⊢
  have em : max (0 + (n.log2 : Int) - (52 : Nat)) (-1074) = (l : Int) - 52 := by rw [← hle]; omega
  have e1 : (0 - ((l : Int) - 52)).toNat = 52 - l := by omega
  have e2 : (((l : Int) - 52) - 0).toNat = 0 := by omega
  have e3 : (((l : Int) - 52) - -1074).toNat = l + 1022 := by omega
  have hn : double.nearest false n 0 = (l + 1022) * 2 ^ 52 + n * 2 ^ (52 - l) := by
    unfold Format.nearest
    rw [if_neg h0]
    simp only [hl, hf, em, e1, e2, e3, hb, hi, cut0, shl]
    have lo : n * 2 ^ (52 - l) < 2 ^ 53 := by
      have e : 2 ^ 53 = 2 ^ (l + 1) * 2 ^ (52 - l) := by rw [← Nat.pow_add]; congr 1; omega
      rw [e]
      exact Nat.mul_lt_mul_of_pos_right hbd.2 (Nat.two_pow_pos _)
    rw [Nat.min_eq_left (by omega)]
    rfl
  have lo : n * 2 ^ (52 - l) < 2 ^ 53 := by
    have e : 2 ^ 53 = 2 ^ (l + 1) * 2 ^ (52 - l) := by rw [← Nat.pow_add]; congr 1; omega
    rw [e]
    exact Nat.mul_lt_mul_of_pos_right hbd.2 (Nat.two_pow_pos _)
  have hi' : 2 ^ 52 ≤ n * 2 ^ (52 - l) := by
    have e : 2 ^ 52 = 2 ^ l * 2 ^ (52 - l) := by rw [← Nat.pow_add]; congr 1; omega
    rw [e]
    exact Nat.mul_le_mul_right _ hbd.1
  rw [hn]
  obtain ⟨m, hm⟩ : ∃ m, m = n * 2 ^ (52 - l) := ⟨_, rfl⟩
  rw [← hm] at lo hi' ⊢
  rw [read_normal (by omega) (by omega)]
  have d1 : ((l + 1022) * 2 ^ 52 + m) % 2 ^ 52 = m - 2 ^ 52 := by omega
  have d2 : ((l + 1022) * 2 ^ 52 + m) / 2 ^ 52 = l + 1023 := by omega
  rw [d1, d2]
  have f1 : 2 ^ 52 + (m - 2 ^ 52) = m := by omega
  have f2 : (-1074 : Int) + ((l + 1023 - 1 : Nat) : Int) = (l : Int) - 52 := by omega
  rw [f1, f2]

theorem read_zero : double.read (double.nearest false 0 0) = .number false 0 (-1074) := by decide

/-- rounding goes up by one at the most -/
theorem cut_le (n d : Nat) (hd : d ≤ n.log2 + 2) : Toward.even.cut false n d ≤ n / 2 ^ d + 1 := by
  unfold Toward.cut
  rw [Nat.min_eq_left hd, shl, Nat.one_mul]
  have : ∀ b : Bool, b.toNat ≤ 1 := by decide
  exact Nat.add_le_add_left (this _) _

/-- A PART OF A WHOLE: float64(a)/float64(b) is valid, and below 1 just where a < b. -/
theorem part {a b : Nat} (hb : 0 < b) (hb2 : b < 2 ^ 20) (hab : a ≤ b) :
    ∃ r, double.div (double.nearest false a 0) (double.nearest false b 0) = some r ∧
      (double.order r one = some .lt ↔ a < b) := by
  have lb20 : b.log2 < 20 := (Nat.log2_lt (by omega)).2 hb2
  have hB := read_nat (n := b) (by omega) (by omega)
  have hf : double.fractionBits = 52 := rfl
  by_cases ha : a = 0
  · subst ha
    refine ⟨0, ?_, ?_⟩
    · unfold Format.div
      rw [read_zero, hB]
      have hn : b * 2 ^ (52 - b.log2) ≠ 0 := by
        have := Nat.two_pow_pos (52 - b.log2)
        intro e
        rcases Nat.mul_eq_zero.1 e with e | e <;> omega
      simp only [Datum.quotient, if_neg hn, Option.map_some, Format.write, shl, Nat.zero_mul, Nat.zero_div, Nat.zero_mod]
      simp [Format.nearest, Format.word]
    · have : double.order 0 one = some .lt := order_one (by unfold one; omega)
      simp [this, hb]
  · have la20 : a.log2 < 20 := (Nat.log2_lt ha).2 (by omega)
    have hA := read_nat (n := a) ha (by omega)
    have ba := log2_bounds ha
    have bb := log2_bounds (n := b) (by omega)
    have lab : a.log2 ≤ b.log2 := by
      by_cases h : a.log2 ≤ b.log2
      · exact h
      · have : 2 ^ (b.log2 + 1) ≤ 2 ^ a.log2 := Nat.pow_le_pow_right (by omega) (by omega)
        omega
    obtain ⟨la, hla⟩ : ∃ l, l = a.log2 := ⟨_, rfl⟩
    obtain ⟨lb, hlb⟩ : ∃ l, l = b.log2 := ⟨_, rfl⟩
    obtain ⟨m, hm⟩ : ∃ m, m = a * 2 ^ (52 - la) := ⟨_, rfl⟩
    obtain ⟨n, hn⟩ : ∃ n, n = b * 2 ^ (52 - lb) := ⟨_, rfl⟩
    have lm : m.log2 = 52 := by rw [hm, log2_mul_pow ha, ← hla]; omega
    have ln : n.log2 = 52 := by rw [hn, log2_mul_pow (by omega), ← hlb]; omega
    rw [← hla, ← hm] at hA
    rw [← hlb, ← hn] at hB
    have m0 : m ≠ 0 := by intro e; rw [e] at lm; simp at lm
    have n0 : n ≠ 0 := by intro e; rw [e] at ln; simp at ln
    have bm := log2_bounds m0
    have bn := log2_bounds n0
    rw [lm] at bm
    rw [ln] at bn
    rw [← hla, ← hlb] at lab
    -- the cross product
    have cross : n * (a * 2 ^ (lb - la)) = m * b := by
      rw [hm, hn]
      have : 2 ^ (52 - la) = 2 ^ (52 - lb) * 2 ^ (lb - la) := by rw [← Nat.pow_add]; congr 1; omega
      rw [this]
      ac_rfl
    obtain ⟨q, hq⟩ : ∃ q, q = m * 2 ^ 54 / n := ⟨_, rfl⟩
    obtain ⟨s, hs⟩ : ∃ s, s = (m * 2 ^ 54 % n != 0).toNat := ⟨_, rfl⟩
    have s1 : s ≤ 1 := by rw [hs]; exact Bool.toNat_le _
    have hdiv : double.div (double.nearest false a 0) (double.nearest false b 0) = some (double.nearest false (2 * q + s) ((la : Int) - lb - 55)) := by
      unfold Format.div
      rw [hA, hB]
      simp only [Datum.quotient, if_neg n0, Option.map_some, Format.write, hf, lm, ln, shl]
      have e : (52 + 2 + 52 - 52 : Nat) = 54 := rfl
      rw [e, ← hq, ← hs]
      congr 2
      omega
    refine ⟨_, hdiv, ?_⟩
    by_cases eab : a = b
    · have el : la = lb := by rw [hla, hlb, eab]
      have emn : m = n := by rw [hm, hn, el, eab]
      have eq : q = 2 ^ 54 := by rw [hq, emn, Nat.mul_comm, Nat.mul_div_cancel _ (by omega)]
      have es : s = 0 := by rw [hs, emn, Nat.mul_mod_right]; rfl
      rw [eq, es, el]
      have e : ((lb : Int) - lb - 55) = -55 := by omega
      rw [e]
      have : double.order (double.nearest false (2 * 2 ^ 54 + 0) (-55)) one = some .eq := by decide
      simp [this, eab]
    · have hlt : a < b := by omega
      have goal : double.nearest false (2 * q + s) ((la : Int) - lb - 55) < one := by
        obtain ⟨D, hD⟩ : ∃ D, D = lb - la := ⟨_, rfl⟩
        obtain ⟨g, hg⟩ : ∃ g, g = 2 * q + s := ⟨_, rfl⟩
        have q53 : 2 ^ 53 ≤ q := by
          rw [hq, Nat.le_div_iff_mul_le (by omega)]
          omega
        have g54 : 2 ^ 54 ≤ g := by omega
        have qle : q * n ≤ m * 2 ^ 54 := by rw [hq]; exact Nat.div_mul_le_self _ _
        -- q * b ≤ a * 2 ^ D * 2 ^ 54
        have qb : q * b ≤ a * 2 ^ D * 2 ^ 54 := by
          have h1 : n * (q * b) ≤ n * (a * 2 ^ D * 2 ^ 54) := by
            calc n * (q * b) = (q * n) * b := by ac_rfl
              _ ≤ (m * 2 ^ 54) * b := Nat.mul_le_mul_right _ qle
              _ = (m * b) * 2 ^ 54 := by ac_rfl
              _ = n * (a * 2 ^ D) * 2 ^ 54 := by rw [← cross, hD]
              _ = n * (a * 2 ^ D * 2 ^ 54) := by ac_rfl
          exact Nat.le_of_mul_le_mul_left h1 (by omega)
        obtain ⟨X, hX⟩ : ∃ X, X = 2 ^ D * 2 ^ 33 := ⟨_, rfl⟩
        have X0 : 0 < 2 ^ D := Nat.two_pow_pos _
        have hXe : a * 2 ^ D * 2 ^ 54 = a * (2 ^ 21 * X) := by
          rw [hX]
          have : (2:Nat) ^ 54 = 2 ^ 21 * 2 ^ 33 := by decide
          rw [this]; ac_rfl
        -- q + 2X ≤ 2^21 X
        have q2 : q + 2 * X ≤ 2 ^ 21 * X := by
          have h1 : b * (q + 2 * X) ≤ b * (2 ^ 21 * X) := by
            have h2 : a * (2 ^ 21 * X) + 2 ^ 21 * X ≤ b * (2 ^ 21 * X) := by
              have : (a + 1) * (2 ^ 21 * X) ≤ b * (2 ^ 21 * X) := Nat.mul_le_mul_right _ hlt
              rw [Nat.add_mul, Nat.one_mul] at this
              exact this
            have h3 : b * (2 * X) ≤ 2 ^ 21 * X := by
              have : b * 2 * X ≤ 2 ^ 21 * X := Nat.mul_le_mul_right _ (by omega)
              rw [Nat.mul_assoc] at this
              exact this
            rw [Nat.mul_add, Nat.mul_comm b q]
            omega
          exact Nat.le_of_mul_le_mul_left h1 hb
        have gX : g + 4 * X ≤ 2 ^ 22 * X + 1 := by omega
        have XX : 2 ^ 33 ≤ X := by rw [hX]; omega
        have pD : 2 ^ 22 * X = 2 ^ (55 + D) := by
          rw [hX, Nat.pow_add]
          have : (2:Nat) ^ 55 = 2 ^ 22 * 2 ^ 33 := by decide
          rw [this]; ac_rfl
        have g0 : g ≠ 0 := by omega
        have Lhi : g.log2 < 55 + D := (Nat.log2_lt g0).2 (by omega)
        have Llo : 54 ≤ g.log2 := (Nat.le_log2 g0).2 g54
        have bg := log2_bounds g0
        obtain ⟨L, hL⟩ : ∃ L, L = g.log2 := ⟨_, rfl⟩
        rw [← hL] at Lhi Llo bg
        have hl : double.leastPlace = -1074 := by decide
        have hbn : double.binade = 2 ^ 52 := rfl
        have em : max ((la : Int) - lb - 55 + (g.log2 : Int) - (52 : Nat)) (-1074) = (L : Int) - D - 107 := by rw [← hL]; omega
        have e1 : ((la : Int) - lb - 55 - ((L : Int) - D - 107)).toNat = 0 := by omega
        have e2 : ((L : Int) - D - 107 - ((la : Int) - lb - 55)).toNat = L - 52 := by omega
        have e3 : (((L : Int) - D - 107) - -1074).toNat = L - D + 967 ∨ L < D := by omega
        have D20 : D < 20 := by omega
        have e3' : (((L : Int) - D - 107) - -1074).toNat = L - D + 967 := by omega
        rw [← hg]
        unfold Format.nearest
        rw [if_neg g0]
        simp only [hl, hf, em, e1, e2, e3', hbn, shl, Nat.pow_zero, Nat.mul_one]
        have hc := cut_le g (L - 52) (by omega)
        have hw : ∀ x, double.word false x = x := fun x => rfl
        rw [hw]
        refine Nat.lt_of_le_of_lt (Nat.min_le_left _ _) ?_
        have hgd : g / 2 ^ (L - 52) < 2 ^ 53 := by
          rw [Nat.div_lt_iff_lt_mul (Nat.two_pow_pos _), ← Nat.pow_add]
          have e : 53 + (L - 52) = L + 1 := by omega
          rw [e]; exact bg.2
        unfold one
        by_cases hLD : L = 54 + D
        · have hk : g / 2 ^ (L - 52) + 2 ≤ 2 ^ 53 := by
            have e : L - 52 = D + 2 := by omega
            have hg2 : g < (2 ^ 53 - 1) * 2 ^ (D + 2) := by
              have p2 : 2 ^ (D + 2) = 2 ^ D * 4 := by rw [Nat.pow_add]
              rw [p2, Nat.sub_mul]
              have p3 : 2 ^ 53 * (2 ^ D * 4) = 2 ^ 22 * X := by
                rw [hX]
                have : (2:Nat) ^ 53 * (2 ^ D * 4) = (2 ^ 53 * 4) * 2 ^ D := by ac_rfl
                rw [this]
                have : (2:Nat) ^ 22 * (2 ^ D * 2 ^ 33) = (2 ^ 22 * 2 ^ 33) * 2 ^ D := by ac_rfl
                rw [this]
              rw [p3]
              omega
            have := (Nat.div_lt_iff_lt_mul (Nat.two_pow_pos (D + 2))).2 hg2
            rw [e]
            omega
          have e : L - D + 967 = 1021 := by omega
          rw [e]
          omega
        · have : L - D + 967 ≤ 1020 := by omega
          have : (L - D + 967) * 2 ^ 52 ≤ 1020 * 2 ^ 52 := Nat.mul_le_mul_right _ this
          omega
      have := order_one goal
      simp [this, hlt]

end Flt
open Go.RowKit
set_option linter.unusedVariables false

set_option maxRecDepth 100000 in
theorem frombits_is (w : World) : (callFunc 86 #[.int .u64 9221120237041090561]).run Try.prog w = .ok (.value (.float .f64 9221120237041090561)) w := by
  rw [run_callFunc_extern (fn := Try.f86) Try.func86 (by kernel_rfl) (by kernel_rfl) (by kernel_rfl) (e := Extern.MathFloatBits.float64frombits) (by rfl)]
  rfl
set_option maxHeartbeats 1000000 in
theorem nan_is (w : World) : Calls Try.prog 75 #[] w fun e w' => e = .returned (.float .f64 9221120237041090561) ∧ w' = w := by
  have hf := frombits_is
  go_enter Try.func75, Try.ntmps75
  go_wp2
  go_ret
  exact ⟨rfl, rfl⟩
theorem nan_order : Ieee.double.order 9221120237041090561 Flt.one = none := by decide
set_option maxHeartbeats 1000000 in
theorem full_nan (sb : Nat) (w : World) : Calls Try.prog 59 #[.pointer (some ⟨sb, 0, none⟩), .int .i64 0] w fun e w' => e = .returned (.float .f64 9221120237041090561) ∧ w' = w := by
  go_enter Try.func59, Try.ntmps59
  go_wp2_with (go_at_call 75; refine (nan_is _).mono ?_; rintro e w1 ⟨rfl, rfl⟩)
  go_ret
  exact ⟨rfl, rfl⟩
set_option maxHeartbeats 1000000 in
theorem full_part {sb e z : Nat} (hz : 0 < z) (hz2 : z ≤ 20000) (hez : e ≤ z) (w : World) (hc : w.cell? ⟨sb, 4, none⟩ = some (.int .i64 (e : Int))) :
    Calls Try.prog 59 #[.pointer (some ⟨sb, 0, none⟩), .int .i64 (z : Int)] w fun en w' => ∃ r : Nat, en = .returned (.float .f64 r) ∧ (Ieee.double.order r Flt.one = some .lt ↔ e < z) ∧ w' = w := by
  obtain ⟨r, h1, h2⟩ := Flt.part (a := e) (b := z) hz (by omega) hez
  have HR : Hid (Ieee.double.order r Flt.one = some .lt ↔ e < z) := h2
  have hq : ∀ w : World, (binOp .quo 87 (.float .f64 (floatOfInt .f64 (e : Int))) (.float .f64 (floatOfInt .f64 (z : Int)))).run Try.prog w = .ok (.float .f64 r) w := fun w => run_float_arith w .quo 87 .f64 _ _ r h1
  clear h1 h2
  have hz0 : ¬ (z : Int) = 0 := by omega
  go_enter Try.func59, Try.ntmps59
  go_wp2
  go_ret
  exact ⟨r, rfl, HR.out, rfl⟩
end Go.Proofs.Ytinhgonmdnbdiaa
