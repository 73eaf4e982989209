/- Plain facts on floats: a part of a whole, as a quotient of two small numbers, is below one just where it is not the whole; no program is named here. The calls of (*scan).full and math.NaN, walked: how full a segment is. The calls of both Frame: they answer with the bytes of the length, of the sum and of the text, and leave old memory as it was; for every text. The calls of framedAt and of whole, walked. The call of Unframe's yield, walked: a whole frame's record is put behind the records, and the place moves on; at a torn one it says false. -/
import Derived.Laws.FloatArith
import Derived.Test.YtbcfiiilikkkeaaGreatDoorKit
import Derived.Laws.Externs
import Derived.Test.YtbcfiiilikkkeaaGreatDoorImplSeal
import Derived.Test.YtbcfiiilikkkeaaGreatDoorReadLaw
import Derived.Test.YtbcfiiilikkkeaaGreatDoorMathScan
import Derived.Test.YtbcfiiilikkkeaaGreatDoorReader
import Derived.Maps.AppendAt
import Derived.OneCell
import Derived.Deep.AppendLies
import Derived.Deep.RegionHeld3
import Derived.Deep.RegionLaw
namespace Go.Proofs.YtbcfiiilikkkeaaGreatDoor
namespace Flt
open Go
open Ieee

theorem shl (a k : Nat) : a <<< k = a * 2 ^ k := Nat.shiftLeft_eq a k

/-- the number one, as a word -/
def one : Nat := 1023 * 2 ^ 52

theorem cut0 (n : Nat) : Toward.even.cut false n 0 = n := by
  simp [Toward.cut, Nat.mod_one]

theorem read_normal {r : Nat} (h1 : 2 ^ 52 ≤ r) (h2 : r < 2047 * 2 ^ 52) :
    double.read r = .number false (2 ^ 52 + r % 2 ^ 52) (-1074 + (r / 2 ^ 52 - 1 : Nat)) := by
  have hs : double.signWeight = 2 ^ 63 := rfl
  have hb : double.binade = 2 ^ 52 := rfl
  have hi : double.infRung = 2047 * 2 ^ 52 := rfl
  have hl : double.leastPlace = -1074 := by decide
  have e1 : r / 2 ^ 63 % 2 = 0 := by omega
  have e2 : r % 2 ^ 63 = r := by omega
  unfold Format.read
  simp only [hs, hb, hi, hl, e1, e2]
  rw [if_neg (by omega), if_pos h2]
  rfl

theorem read_small {r : Nat} (h1 : r < 2 ^ 52) : double.read r = .number false r (-1074) := by
  have hs : double.signWeight = 2 ^ 63 := rfl
  have hb : double.binade = 2 ^ 52 := rfl
  have hl : double.leastPlace = -1074 := by decide
  have e1 : r / 2 ^ 63 % 2 = 0 := by omega
  have e2 : r % 2 ^ 63 = r := by omega
  unfold Format.read
  simp only [hs, hb, hl, e1, e2]
  rw [if_pos h1]
  rfl

theorem order_one {r : Nat} (h : r < one) : double.order r one = some .lt := by
  have ho : double.read one = .number false (2 ^ 52) (-52) := by decide
  unfold Format.order
  rw [ho]
  unfold one at h
  by_cases hr : r < 2 ^ 52
  · rw [read_small hr]
    obtain ⟨k, hk⟩ : ∃ k : Nat, k = ((-52 : Int) - min (-1074) (-52)).toNat := ⟨_, rfl⟩
    have e : ((-52 : Int) - min (-1074) (-52)).toNat = k := hk.symm
    clear hk
    have e0 : ((-1074 : Int) - min (-1074) (-52)).toNat = 0 := by decide
    simp only [Datum.order, e, e0, signed, shl]
    have : compare (((r * 2 ^ 0 : Nat) : Int)) (((2 ^ 52 * 2 ^ k : Nat) : Int)) = .lt := by
      rw [Int.compare_eq_lt]
      have : r * 2 ^ 0 < 2 ^ 52 * 2 ^ k := Nat.lt_of_lt_of_le (show r * 2 ^ 0 < 2 ^ 52 * 1 by omega) (Nat.mul_le_mul_left _ Nat.one_le_two_pow)
      exact_mod_cast this
    simpa using this
  · have h1 : 2 ^ 52 ≤ r := by omega
    rw [read_normal h1 (by omega)]
    obtain ⟨q, hq⟩ : ∃ q, q = r / 2 ^ 52 := ⟨_, rfl⟩
    have hq1 : 1 ≤ q := by omega
    have hq2 : q ≤ 1022 := by omega
    rw [← hq]
    have ec : ((q - 1 : Nat) : Int) = (q : Int) - 1 := by omega
    have em : min (-1074 + ((q - 1 : Nat) : Int)) (-52) = -1075 + q := by omega
    have e0 : ((-1074 + ((q - 1 : Nat) : Int)) - (-1075 + (q : Int))).toNat = 0 := by omega
    have e1 : ((-52 : Int) - (-1075 + (q : Int))).toNat = 1023 - q := by omega
    simp only [Datum.order, em, e0, e1, signed, shl]
    have hlt : (2 ^ 52 + r % 2 ^ 52) * 2 ^ 0 < 2 ^ 52 * 2 ^ (1023 - q) := by
      have : (2:Nat) ^ 1 ≤ 2 ^ (1023 - q) := Nat.pow_le_pow_right (by omega) (by omega)
      have : (2:Nat) ^ 52 * 2 ^ 1 ≤ 2 ^ 52 * 2 ^ (1023 - q) := Nat.mul_le_mul_left _ this
      omega
    have : compare ((((2 ^ 52 + r % 2 ^ 52) * 2 ^ 0 : Nat) : Int)) (((2 ^ 52 * 2 ^ (1023 - q) : Nat) : Int)) = .lt := by
      rw [Int.compare_eq_lt]
      exact_mod_cast hlt
    simpa using this

theorem log2_bounds {n : Nat} (h : n ≠ 0) : 2 ^ n.log2 ≤ n ∧ n < 2 ^ (n.log2 + 1) := ⟨Nat.log2_self_le h, Nat.lt_log2_self⟩

theorem log2_mul_pow {n k : Nat} (h : n ≠ 0) : (n * 2 ^ k).log2 = n.log2 + k := by
  have := log2_bounds h
  have hp : 0 < 2 ^ k := Nat.two_pow_pos k
  rw [Nat.log2_eq_iff (by
    intro e
    rcases Nat.mul_eq_zero.1 e with e | e
    · exact h e
    · omega)]
  constructor
  · rw [Nat.pow_add]; exact Nat.mul_le_mul_right _ this.1
  · have e : n.log2 + k + 1 = (n.log2 + 1) + k := by omega
    rw [e, Nat.pow_add]
    exact Nat.mul_lt_mul_of_pos_right this.2 hp

/-- a whole number, read back from its float -/
theorem read_nat {n : Nat} (h0 : n ≠ 0) (h : n.log2 ≤ 52) :
    double.read (double.nearest false n 0) = .number false (n * 2 ^ (52 - n.log2)) ((n.log2 : Int) - 52) := by
  have hl : double.leastPlace = -1074 := by decide
  have hf : double.fractionBits = 52 := rfl
  have hb : double.binade = 2 ^ 52 := rfl
  have hi : double.infRung = 2047 * 2 ^ 52 := rfl
  have hbd := log2_bounds h0
  obtain ⟨l, hle⟩ : ∃ l, l = n.log2 := ⟨_, rfl⟩
  rw [← hle] at h hbd ⊢
  have em : max (0 + (n.log2 : Int) - (52 : Nat)) (-1074) = (l : Int) - 52 := by rw [← hle]; omega
  have e1 : (0 - ((l : Int) - 52)).toNat = 52 - l := by omega
  have e2 : (((l : Int) - 52) - 0).toNat = 0 := by omega
  have e3 : (((l : Int) - 52) - -1074).toNat = l + 1022 := by omega
  have hn : double.nearest false n 0 = (l + 1022) * 2 ^ 52 + n * 2 ^ (52 - l) := by
    unfold Format.nearest
    rw [if_neg h0]
    simp only [hl, hf, em, e1, e2, e3, hb, hi, cut0, shl]
    have lo : n * 2 ^ (52 - l) < 2 ^ 53 := by
      have e : 2 ^ 53 = 2 ^ (l + 1) * 2 ^ (52 - l) := by rw [← Nat.pow_add]; congr 1; omega
      rw [e]
      exact Nat.mul_lt_mul_of_pos_right hbd.2 (Nat.two_pow_pos _)
    rw [Nat.min_eq_left (by omega)]
    rfl
  have lo : n * 2 ^ (52 - l) < 2 ^ 53 := by
    have e : 2 ^ 53 = 2 ^ (l + 1) * 2 ^ (52 - l) := by rw [← Nat.pow_add]; congr 1; omega
    rw [e]
    exact Nat.mul_lt_mul_of_pos_right hbd.2 (Nat.two_pow_pos _)
  have hi' : 2 ^ 52 ≤ n * 2 ^ (52 - l) := by
    have e : 2 ^ 52 = 2 ^ l * 2 ^ (52 - l) := by rw [← Nat.pow_add]; congr 1; omega
    rw [e]
    exact Nat.mul_le_mul_right _ hbd.1
  rw [hn]
  obtain ⟨m, hm⟩ : ∃ m, m = n * 2 ^ (52 - l) := ⟨_, rfl⟩
  rw [← hm] at lo hi' ⊢
  rw [read_normal (by omega) (by omega)]
  have d1 : ((l + 1022) * 2 ^ 52 + m) % 2 ^ 52 = m - 2 ^ 52 := by omega
  have d2 : ((l + 1022) * 2 ^ 52 + m) / 2 ^ 52 = l + 1023 := by omega
  rw [d1, d2]
  have f1 : 2 ^ 52 + (m - 2 ^ 52) = m := by omega
  have f2 : (-1074 : Int) + ((l + 1023 - 1 : Nat) : Int) = (l : Int) - 52 := by omega
  rw [f1, f2]

theorem read_zero : double.read (double.nearest false 0 0) = .number false 0 (-1074) := by decide

/-- rounding goes up by one at the most -/
theorem cut_le (n d : Nat) (hd : d ≤ n.log2 + 2) : Toward.even.cut false n d ≤ n / 2 ^ d + 1 := by
  unfold Toward.cut
  rw [Nat.min_eq_left hd, shl, Nat.one_mul]
  have : ∀ b : Bool, b.toNat ≤ 1 := by decide
  exact Nat.add_le_add_left (this _) _

/-- A PART OF A WHOLE: float64(a)/float64(b) is valid, and below 1 just where a < b. -/
theorem part {a b : Nat} (hb : 0 < b) (hb2 : b < 2 ^ 20) (hab : a ≤ b) :
    ∃ r, double.div (double.nearest false a 0) (double.nearest false b 0) = some r ∧
      (double.order r one = some .lt ↔ a < b) := by
  have lb20 : b.log2 < 20 := (Nat.log2_lt (by omega)).2 hb2
  have hB := read_nat (n := b) (by omega) (by omega)
  have hf : double.fractionBits = 52 := rfl
  by_cases ha : a = 0
  · subst ha
    refine ⟨0, ?_, ?_⟩
    · unfold Format.div
      rw [read_zero, hB]
      have hn : b * 2 ^ (52 - b.log2) ≠ 0 := by
        have := Nat.two_pow_pos (52 - b.log2)
        intro e
        rcases Nat.mul_eq_zero.1 e with e | e <;> omega
      simp only [Datum.quotient, if_neg hn, Option.map_some, Format.write, shl, Nat.zero_mul, Nat.zero_div, Nat.zero_mod]
      simp [Format.nearest, Format.word]
    · have : double.order 0 one = some .lt := order_one (by unfold one; omega)
      simp [this, hb]
  · have la20 : a.log2 < 20 := (Nat.log2_lt ha).2 (by omega)
    have hA := read_nat (n := a) ha (by omega)
    have ba := log2_bounds ha
    have bb := log2_bounds (n := b) (by omega)
    have lab : a.log2 ≤ b.log2 := by
      by_cases h : a.log2 ≤ b.log2
      · exact h
      · have : 2 ^ (b.log2 + 1) ≤ 2 ^ a.log2 := Nat.pow_le_pow_right (by omega) (by omega)
        omega
    obtain ⟨la, hla⟩ : ∃ l, l = a.log2 := ⟨_, rfl⟩
    obtain ⟨lb, hlb⟩ : ∃ l, l = b.log2 := ⟨_, rfl⟩
    obtain ⟨m, hm⟩ : ∃ m, m = a * 2 ^ (52 - la) := ⟨_, rfl⟩
    obtain ⟨n, hn⟩ : ∃ n, n = b * 2 ^ (52 - lb) := ⟨_, rfl⟩
    have lm : m.log2 = 52 := by rw [hm, log2_mul_pow ha, ← hla]; omega
    have ln : n.log2 = 52 := by rw [hn, log2_mul_pow (by omega), ← hlb]; omega
    rw [← hla, ← hm] at hA
    rw [← hlb, ← hn] at hB
    have m0 : m ≠ 0 := by intro e; rw [e] at lm; simp at lm
    have n0 : n ≠ 0 := by intro e; rw [e] at ln; simp at ln
    have bm := log2_bounds m0
    have bn := log2_bounds n0
    rw [lm] at bm
    rw [ln] at bn
    rw [← hla, ← hlb] at lab
    -- the cross product
    have cross : n * (a * 2 ^ (lb - la)) = m * b := by
      rw [hm, hn]
      have : 2 ^ (52 - la) = 2 ^ (52 - lb) * 2 ^ (lb - la) := by rw [← Nat.pow_add]; congr 1; omega
      rw [this]
      ac_rfl
    obtain ⟨q, hq⟩ : ∃ q, q = m * 2 ^ 54 / n := ⟨_, rfl⟩
    obtain ⟨s, hs⟩ : ∃ s, s = (m * 2 ^ 54 % n != 0).toNat := ⟨_, rfl⟩
    have s1 : s ≤ 1 := by rw [hs]; exact Bool.toNat_le _
    have hdiv : double.div (double.nearest false a 0) (double.nearest false b 0) = some (double.nearest false (2 * q + s) ((la : Int) - lb - 55)) := by
      unfold Format.div
      rw [hA, hB]
      simp only [Datum.quotient, if_neg n0, Option.map_some, Format.write, hf, lm, ln, shl]
      have e : (52 + 2 + 52 - 52 : Nat) = 54 := rfl
      rw [e, ← hq, ← hs]
      congr 2
      omega
    refine ⟨_, hdiv, ?_⟩
    by_cases eab : a = b
    · have el : la = lb := by rw [hla, hlb, eab]
      have emn : m = n := by rw [hm, hn, el, eab]
      have eq : q = 2 ^ 54 := by rw [hq, emn, Nat.mul_comm, Nat.mul_div_cancel _ (by omega)]
      have es : s = 0 := by rw [hs, emn, Nat.mul_mod_right]; rfl
      rw [eq, es, el]
      have e : ((lb : Int) - lb - 55) = -55 := by omega
      rw [e]
      have : double.order (double.nearest false (2 * 2 ^ 54 + 0) (-55)) one = some .eq := by decide
      simp [this, eab]
    · have hlt : a < b := by omega
      have goal : double.nearest false (2 * q + s) ((la : Int) - lb - 55) < one := by
        obtain ⟨D, hD⟩ : ∃ D, D = lb - la := ⟨_, rfl⟩
        obtain ⟨g, hg⟩ : ∃ g, g = 2 * q + s := ⟨_, rfl⟩
        have q53 : 2 ^ 53 ≤ q := by
          rw [hq, Nat.le_div_iff_mul_le (by omega)]
          omega
        have g54 : 2 ^ 54 ≤ g := by omega
        have qle : q * n ≤ m * 2 ^ 54 := by rw [hq]; exact Nat.div_mul_le_self _ _
        -- q * b ≤ a * 2 ^ D * 2 ^ 54
        have qb : q * b ≤ a * 2 ^ D * 2 ^ 54 := by
          have h1 : n * (q * b) ≤ n * (a * 2 ^ D * 2 ^ 54) := by
            calc n * (q * b) = (q * n) * b := by ac_rfl
              _ ≤ (m * 2 ^ 54) * b := Nat.mul_le_mul_right _ qle
              _ = (m * b) * 2 ^ 54 := by ac_rfl
              _ = n * (a * 2 ^ D) * 2 ^ 54 := by rw [← cross, hD]
              _ = n * (a * 2 ^ D * 2 ^ 54) := by ac_rfl
          exact Nat.le_of_mul_le_mul_left h1 (by omega)
        obtain ⟨X, hX⟩ : ∃ X, X = 2 ^ D * 2 ^ 33 := ⟨_, rfl⟩
        have X0 : 0 < 2 ^ D := Nat.two_pow_pos _
        have hXe : a * 2 ^ D * 2 ^ 54 = a * (2 ^ 21 * X) := by
          rw [hX]
          have : (2:Nat) ^ 54 = 2 ^ 21 * 2 ^ 33 := by decide
          rw [this]; ac_rfl
        -- q + 2X ≤ 2^21 X
        have q2 : q + 2 * X ≤ 2 ^ 21 * X := by
          have h1 : b * (q + 2 * X) ≤ b * (2 ^ 21 * X) := by
            have h2 : a * (2 ^ 21 * X) + 2 ^ 21 * X ≤ b * (2 ^ 21 * X) := by
              have : (a + 1) * (2 ^ 21 * X) ≤ b * (2 ^ 21 * X) := Nat.mul_le_mul_right _ hlt
              rw [Nat.add_mul, Nat.one_mul] at this
              exact this
            have h3 : b * (2 * X) ≤ 2 ^ 21 * X := by
              have : b * 2 * X ≤ 2 ^ 21 * X := Nat.mul_le_mul_right _ (by omega)
              rw [Nat.mul_assoc] at this
              exact this
            rw [Nat.mul_add, Nat.mul_comm b q]
            omega
          exact Nat.le_of_mul_le_mul_left h1 hb
        have gX : g + 4 * X ≤ 2 ^ 22 * X + 1 := by omega
        have XX : 2 ^ 33 ≤ X := by rw [hX]; omega
        have pD : 2 ^ 22 * X = 2 ^ (55 + D) := by
          rw [hX, Nat.pow_add]
          have : (2:Nat) ^ 55 = 2 ^ 22 * 2 ^ 33 := by decide
          rw [this]; ac_rfl
        have g0 : g ≠ 0 := by omega
        have Lhi : g.log2 < 55 + D := (Nat.log2_lt g0).2 (by omega)
        have Llo : 54 ≤ g.log2 := (Nat.le_log2 g0).2 g54
        have bg := log2_bounds g0
        obtain ⟨L, hL⟩ : ∃ L, L = g.log2 := ⟨_, rfl⟩
        rw [← hL] at Lhi Llo bg
        have hl : double.leastPlace = -1074 := by decide
        have hbn : double.binade = 2 ^ 52 := rfl
        have em : max ((la : Int) - lb - 55 + (g.log2 : Int) - (52 : Nat)) (-1074) = (L : Int) - D - 107 := by rw [← hL]; omega
        have e1 : ((la : Int) - lb - 55 - ((L : Int) - D - 107)).toNat = 0 := by omega
        have e2 : ((L : Int) - D - 107 - ((la : Int) - lb - 55)).toNat = L - 52 := by omega
        have e3 : (((L : Int) - D - 107) - -1074).toNat = L - D + 967 ∨ L < D := by omega
        have D20 : D < 20 := by omega
        have e3' : (((L : Int) - D - 107) - -1074).toNat = L - D + 967 := by omega
        rw [← hg]
        unfold Format.nearest
        rw [if_neg g0]
        simp only [hl, hf, em, e1, e2, e3', hbn, shl, Nat.pow_zero, Nat.mul_one]
        have hc := cut_le g (L - 52) (by omega)
        have hw : ∀ x, double.word false x = x := fun x => rfl
        rw [hw]
        refine Nat.lt_of_le_of_lt (Nat.min_le_left _ _) ?_
        have hgd : g / 2 ^ (L - 52) < 2 ^ 53 := by
          rw [Nat.div_lt_iff_lt_mul (Nat.two_pow_pos _), ← Nat.pow_add]
          have e : 53 + (L - 52) = L + 1 := by omega
          rw [e]; exact bg.2
        unfold one
        by_cases hLD : L = 54 + D
        · have hk : g / 2 ^ (L - 52) + 2 ≤ 2 ^ 53 := by
            have e : L - 52 = D + 2 := by omega
            have hg2 : g < (2 ^ 53 - 1) * 2 ^ (D + 2) := by
              have p2 : 2 ^ (D + 2) = 2 ^ D * 4 := by rw [Nat.pow_add]
              rw [p2, Nat.sub_mul]
              have p3 : 2 ^ 53 * (2 ^ D * 4) = 2 ^ 22 * X := by
                rw [hX]
                have : (2:Nat) ^ 53 * (2 ^ D * 4) = (2 ^ 53 * 4) * 2 ^ D := by ac_rfl
                rw [this]
                have : (2:Nat) ^ 22 * (2 ^ D * 2 ^ 33) = (2 ^ 22 * 2 ^ 33) * 2 ^ D := by ac_rfl
                rw [this]
              rw [p3]
              omega
            have := (Nat.div_lt_iff_lt_mul (Nat.two_pow_pos (D + 2))).2 hg2
            rw [e]
            omega
          have e : L - D + 967 = 1021 := by omega
          rw [e]
          omega
        · have : L - D + 967 ≤ 1020 := by omega
          have : (L - D + 967) * 2 ^ 52 ≤ 1020 * 2 ^ 52 := Nat.mul_le_mul_right _ this
          omega
      have := order_one goal
      simp [this, hlt]

end Flt
open Go.RowKit
set_option linter.unusedVariables false

set_option maxRecDepth 100000 in
theorem frombits_is (w : World) : (callFunc 321 #[.int .u64 9221120237041090561]).run Tryz.prog w = .ok (.value (.float .f64 9221120237041090561)) w := by
  rw [run_callFunc_extern (fn := Tryz.f321) Tryz.func321 (by kernel_rfl) (by kernel_rfl) (by kernel_rfl) (e := Extern.MathFloatBits.float64frombits) (by rfl)]
  rfl
set_option maxHeartbeats 1000000 in
theorem nan_is (w : World) : Calls Tryz.prog 290 #[] w fun e w' => e = .returned (.float .f64 9221120237041090561) ∧ w' = w := by
  have hf := frombits_is
  go_enter Tryz.func290, Tryz.ntmps290
  go_wp2
  go_ret
  exact ⟨rfl, rfl⟩
theorem nan_order : Ieee.double.order 9221120237041090561 Flt.one = none := by decide
set_option maxHeartbeats 1000000 in
theorem full_nan (sb : Nat) (w : World) : Calls Tryz.prog 246 #[.pointer (some ⟨sb, 0, none⟩), .int .i64 0] w fun e w' => e = .returned (.float .f64 9221120237041090561) ∧ w' = w := by
  go_enter Tryz.func246, Tryz.ntmps246
  go_wp2_with (go_at_call 290; refine (nan_is _).mono ?_; rintro e w1 ⟨rfl, rfl⟩)
  go_ret
  exact ⟨rfl, rfl⟩
set_option maxHeartbeats 1000000 in
theorem full_part {sb e z : Nat} (hz : 0 < z) (hz2 : z ≤ 20000) (hez : e ≤ z) (w : World) (hc : w.cell? ⟨sb, 4, none⟩ = some (.int .i64 (e : Int))) :
    Calls Tryz.prog 246 #[.pointer (some ⟨sb, 0, none⟩), .int .i64 (z : Int)] w fun en w' => ∃ r : Nat, en = .returned (.float .f64 r) ∧ (Ieee.double.order r Flt.one = some .lt ↔ e < z) ∧ w' = w := by
  obtain ⟨r, h1, h2⟩ := Flt.part (a := e) (b := z) hz (by omega) hez
  have HR : Hid (Ieee.double.order r Flt.one = some .lt ↔ e < z) := h2
  have hq : ∀ w : World, (binOp .quo 302 (.float .f64 (floatOfInt .f64 (e : Int))) (.float .f64 (floatOfInt .f64 (z : Int)))).run Tryz.prog w = .ok (.float .f64 r) w := fun w => run_float_arith w .quo 302 .f64 _ _ r h1
  clear h1 h2
  have hz0 : ¬ (z : Int) = 0 := by omega
  go_enter Tryz.func246, Tryz.ntmps246
  go_wp2
  go_ret
  exact ⟨r, rfl, HR.out, rfl⟩
end Go.Proofs.YtbcfiiilikkkeaaGreatDoor
namespace Go.Proofs.YtbcfiiilikkkeaaGreatDoor
open Go.RowKit

set_option maxHeartbeats 400000 in
theorem sizeOk_yes (x : Int) (h : 1 ≤ x ∧ x ≤ 9000) (w : World) :
    Calls Tryz.prog 141 #[.int .i64 x] w fun e w' => e = .returned (.bool true) ∧ w' = w := by
  obtain ⟨h1, h2⟩ := h
  go_enter Tryz.func141, Tryz.ntmps141
  go_wp2
  go_ret
  exact ⟨rfl, rfl⟩
set_option maxHeartbeats 400000 in
theorem sizeOk_no (x : Int) (h : ¬ (1 ≤ x ∧ x ≤ 9000)) (w : World) :
    Calls Tryz.prog 141 #[.int .i64 x] w fun e w' => e = .returned (.bool false) ∧ w' = w := by
  by_cases h1 : 1 ≤ x
  · have h2 : ¬ x ≤ 9000 := fun h3 => h ⟨h1, h3⟩
    go_enter Tryz.func141, Tryz.ntmps141
    go_wp2
    go_ret
    exact ⟨rfl, rfl⟩
  · go_enter Tryz.func141, Tryz.ntmps141
    go_wp2
    go_ret
    exact ⟨rfl, rfl⟩

/-- The frame of a text. -/
def frameB (s : ByteArray) : ByteArray := (⟨(Words.var s.size).toArray⟩ : ByteArray) ++ (⟨(Sums.four (Sums.sumOf s.data.toList)).toArray⟩ : ByteArray) ++ s
def frameTuple (s : ByteArray) : Value := .tuple #[.string (frameB s), .bool true]

set_option maxHeartbeats 400000 in
theorem specFrame_no (s : ByteArray) (hs : s.size ≤ maxLen) (h : ¬ (1 ≤ s.size ∧ s.size ≤ 9000)) (w : World) :
    Calls Tryz.prog 60 #[.string s] w fun e w' => e = .returned (.tuple #[.string ⟨#[]⟩, .bool false]) ∧ Below w.heap.size w w' := by
  unfold maxLen at hs
  go_enter Tryz.func60, Tryz.ntmps60
  go_wp2_with (go_at_call 130; refine (in_no _ _ _ (by omega) _).mono ?_; rintro e w' ⟨rfl, rfl⟩)
  go_ret2
  exact ⟨rfl, Below.refl _ _⟩

set_option maxHeartbeats 400000 in
theorem specFrame_yes (s : ByteArray) (h1 : 1 ≤ s.size) (h2 : s.size ≤ 9000) (w : World) :
    Calls Tryz.prog 60 #[.string s] w fun e w' => e = .returned (frameTuple s) ∧ Below w.heap.size w w' := by
  have hv := Words.var_len s.size
  have hf := four_size (Sums.sumOf s.data.toList)
  go_enter Tryz.func60, Tryz.ntmps60
  go_wp2_with (first | (go_at_call 130; refine (in_yes _ _ _ (by omega) _).mono ?_; rintro e w' ⟨rfl, rfl⟩) | (go_at_call 128; refine (l01Var_any s.size (by omega) _).mono ?_; rintro e w1 ⟨rfl, hb1⟩) | (go_at_call 132; refine (specSumOf_any s (by omega) _).mono ?_; rintro e w' ⟨rfl, rfl⟩) | (go_at_call 131; refine (l02Four_any _ (sum_le s.data.toList) _).mono ?_; rintro e w2 ⟨rfl, hb2⟩))
  go_ret2
  exact ⟨rfl, hb1.trans (hb2.mono hb1.size)⟩

end Go.Proofs.YtbcfiiilikkkeaaGreatDoor
namespace Go.Proofs.YtbcfiiilikkkeaaGreatDoor
open Go.RowKit

def framedV (a b : ByteArray) (e : Int) : Value := .agg #[.string a, .string b, .int .i64 e]

theorem rdZ_nat (s : ByteArray) (a : Nat) (h : a ≤ s.size) : rdZ s (a : Int) = Words.rd s.data.toList a := by
  unfold rdZ
  rw [if_pos (by omega)]; simp

set_option maxHeartbeats 1000000 in
theorem framedAt_no (s : ByteArray) (hs : s.size ≤ 20000) (a : Nat) (ha : a ≤ s.size) (h : Words.fit s.data.toList a = none) (w : World) :
    Calls Tryz.prog 279 #[.string s, .int .i64 (a : Int)] w fun e w' => e = .returned (.tuple #[framedV ⟨#[]⟩ ⟨#[]⟩ 0, .bool false]) ∧ Below w.heap.size w w' := by
  rcases Words.fit_none h with hr | ⟨n, b, hr, hc⟩
  · have HR : Hid (rdZ s (a : Int) = none) := by show _ = _; rw [rdZ_nat s a ha]; exact hr
    clear hr h
    go_enter Tryz.func279, Tryz.ntmps279
    go_wp2_with (go_at_call 288; refine (implRead_none (by omega) HR.out _).mono ?_; rintro e w' ⟨rfl, rfl⟩)
    exact bodyPost_ret (v := .tuple #[.agg #[.string ⟨#[]⟩, .string ⟨#[]⟩, .int .i64 0], .bool false]) (by simp [results, Tryz.results279, go_sem]) rfl ⟨rfl, (Below.refl _ _).alloc (Nat.le_refl _) _⟩
  · have HR : Hid (rdZ s (a : Int) = some (n, b)) := by show _ = _; rw [rdZ_nat s a ha]; exact hr
    obtain ⟨g1, g2, g3, g4, g5, g6⟩ := Words.rd_front hr
    rw [Words.size_list] at g3 g4 hc
    clear hr h g5
    by_cases hn : 1 ≤ n ∧ n ≤ 9000
    · have hn1 := hn.1
      have hn2 := hn.2
      have hlt : ((s.size : Int) - (b : Int)) < 4 + (n : Int) := by omega
      clear hc
      go_enter Tryz.func279, Tryz.ntmps279
      go_wp2_with (first | (go_at_call 288; refine (implRead_some (by omega) HR.out _).mono ?_; rintro e w' ⟨rfl, rfl⟩) | (go_at_call 141; refine (sizeOk_yes _ (by omega) _).mono ?_; rintro e w' ⟨rfl, rfl⟩))
      exact bodyPost_ret (v := .tuple #[.agg #[.string ⟨#[]⟩, .string ⟨#[]⟩, .int .i64 0], .bool false]) (by simp [results, Tryz.results279, go_sem]) rfl ⟨rfl, (Below.refl _ _).alloc (Nat.le_refl _) _⟩
    · go_enter Tryz.func279, Tryz.ntmps279
      go_wp2_with (first | (go_at_call 288; refine (implRead_some (by omega) HR.out _).mono ?_; rintro e w' ⟨rfl, rfl⟩) | (go_at_call 141; refine (sizeOk_no _ (by omega) _).mono ?_; rintro e w' ⟨rfl, rfl⟩))
      exact bodyPost_ret (v := .tuple #[.agg #[.string ⟨#[]⟩, .string ⟨#[]⟩, .int .i64 0], .bool false]) (by simp [results, Tryz.results279, go_sem]) rfl ⟨rfl, (Below.refl _ _).alloc (Nat.le_refl _) _⟩

set_option maxHeartbeats 1000000 in
theorem framedAt_yes (s : ByteArray) (hs : s.size ≤ 20000) (a n b : Nat) (ha : a ≤ s.size) (h : Words.fit s.data.toList a = some (n, b)) (w : World) :
    Calls Tryz.prog 279 #[.string s, .int .i64 (a : Int)] w fun e w' => e = .returned (.tuple #[framedV (s.extract b (b + 4)) (s.extract (b + 4) (b + 4 + n)) ((b + 4 + n : Nat) : Int), .bool true]) ∧ Below w.heap.size w w' := by
  obtain ⟨hr, hn1, hn2, hn3⟩ := Words.fit_some h
  have HR : Hid (rdZ s (a : Int) = some (n, b)) := by show _ = _; rw [rdZ_nat s a ha]; exact hr
  obtain ⟨g1, g2, g3, g4, g5, g6⟩ := Words.rd_front hr
  rw [Words.size_list] at g3 g4 hn3
  clear hr h g5
  have hs1 : ∀ wx, (Instr.slice 9 (.string s) (some (.int .i64 (b : Int))) (some (.int .i64 ((b : Int) + 4))) none).run Tryz.prog wx = .ok (.string (s.extract b (b + 4))) wx := fun wx => by
    rw [run_slice_string wx 9 s .i64 .i64 _ _ Tryz.underlying9 (by omega) (by omega) (by omega), Int.toNat_natCast, show ((b : Int) + 4).toNat = b + 4 from by omega]
  have hs2 : ∀ wx, (Instr.slice 9 (.string s) (some (.int .i64 ((b : Int) + 4))) (some (.int .i64 ((b : Int) + 4 + (n : Int)))) none).run Tryz.prog wx = .ok (.string (s.extract (b + 4) (b + 4 + n))) wx := fun wx => by
    rw [run_slice_string wx 9 s .i64 .i64 _ _ Tryz.underlying9 (by omega) (by omega) (by omega), show ((b : Int) + 4).toNat = b + 4 from by omega, show ((b : Int) + 4 + (n : Int)).toNat = b + 4 + n from by omega]
  go_enter Tryz.func279, Tryz.ntmps279
  go_wp2_with (first | (go_at_call 288; refine (implRead_some (by omega) HR.out _).mono ?_; rintro e w' ⟨rfl, rfl⟩) | (go_at_call 141; refine (sizeOk_yes _ (by omega) _).mono ?_; rintro e w' ⟨rfl, rfl⟩))
  go_region_held3 (fun _ => True) (trivial) (fail)
  go_wp2
  have hres : (w.alloc (Obj.cells #[.string (s.extract b (b + 4)), .string (s.extract (b + 4) (b + 4 + n)), .int .i64 ((b : Int) + 4 + (n : Int))] 286)).cell? ⟨w.heap.size, 0, none⟩ = some (.string (s.extract b (b + 4))) := by simp
  exact bodyPost_ret (v := .tuple #[.agg #[.string (s.extract b (b + 4)), .string (s.extract (b + 4) (b + 4 + n)), .int .i64 ((b : Int) + 4 + (n : Int))], .bool true]) (by simp [results, Tryz.results279, go_sem]) rfl ⟨rfl, ((Below.refl _ _).alloc (Nat.le_refl _) _).drew⟩

set_option maxHeartbeats 1000000 in
theorem whole_is (A B : ByteArray) (E : Int) (hB : B.size ≤ 1048576) (w : World) :
    Calls Tryz.prog 226 #[framedV A B E] w fun e w' => e = .returned (.bool (A.toList == Sums.four (Sums.sumOf B.data.toList))) ∧ Below w.heap.size w w' := by
  unfold framedV
  have hA : (w.alloc (.cells #[.string A, .string B, .int .i64 E] 286)).cell? ⟨w.heap.size, 0, none⟩ = some (.string A) := by simp
  have hBc : (w.alloc (.cells #[.string A, .string B, .int .i64 E] 286)).cell? ⟨w.heap.size, 1, none⟩ = some (.string B) := by simp
  go_enter Tryz.func226, Tryz.ntmps226
  go_wp2
  go_region_held3 (fun wx => wx.cell? ⟨w.heap.size, 0, none⟩ = some (.string A) ∧ wx.cell? ⟨w.heap.size, 1, none⟩ = some (.string B)) (first | go_keep | exact ⟨(hb1.cell (p := ⟨w.heap.size, 0, none⟩) (by simp)).trans (by simp), (hb1.cell (p := ⟨w.heap.size, 1, none⟩) (by simp)).trans (by simp)⟩) (first | (go_at_call 143; refine (sealOf_any B (by omega) _).mono ?_; rintro e w1 ⟨rfl, hb1⟩))
  all_goals (try go_wp2)
  go_ret
  exact ⟨rfl, (((Below.refl _ _).alloc (Nat.le_refl _) _).drew).trans (hb1.mono (by simp))⟩
end Go.Proofs.YtbcfiiilikkkeaaGreatDoor
namespace Go.Proofs.YtbcfiiilikkkeaaGreatDoor
open Go.RowKit

theorem one_string_list (S : ByteArray) : ∀ u ∈ [Value.string S], u.oneCell' = true := by intro u hu; simp at hu; subst hu; rfl
theorem blk_kept {w w' : World} {k : Nat} {o : Obj} (h : w.heap[k]? = some o) (hb : Below w.heap.size w w') : w'.heap[k]? = some o := (hb.block k (Array.getElem?_eq_some_iff.1 h).1).trans h
theorem blk_alloc {w : World} {k : Nat} {o : Obj} (h : w.heap[k]? = some o) (x : Obj) : (w.alloc x).heap[k]? = some o := blk_kept h ((Below.refl _ _).alloc (Nat.le_refl _) x)
theorem blk_grown {w w' : World} {k : Nat} {o : Obj} {r : Option Nat} (h : w.heap[k]? = some o) (hg : w.grownBy w' r) (hne : some k ≠ r) : w'.heap[k]? = some o := (hg.block k (Array.getElem?_eq_some_iff.1 h).1 hne).trans h
theorem blk_cell {w : World} {k j : Nat} {cs : Array Value} {t : TypeId} {v : Value} (h : w.heap[k]? = some (.cells cs t (0, 0))) (hj : cs[j]? = some v) : w.cell? ⟨k, j, none⟩ = some v := by
  simp [World.cell?, h, hj]

/-- The two variables that yield writes: the records told so far, and the place behind the last. -/
def Tell (base R Q : Nat) (ps : List (List UInt8)) (z : Nat) (w : World) : Prop :=
  ∃ v, w.heap[R]? = some (.cells #[v] 158 (0, 0)) ∧ w.heap[Q]? = some (.cells #[.int .i64 (z : Int)] 3 (0, 0)) ∧ w.ownsRow base 9 1 v ps.length (cellsS ps)

/-- The structs that stood in their own cells are as they were. -/
def Kept64 (w w' : World) : Prop := ∀ (k : Nat) (cs : Array Value), w.heap[k]? = some (.cells cs 286 (0, 0)) → w'.heap[k]? = some (.cells cs 286 (0, 0))

set_option maxHeartbeats 1000000 in
set_option maxRecDepth 100000 in
theorem yield_no (R Q : Nat) (A B : ByteArray) (E : Int) (hB : B.size ≤ 20000) (h : (A.toList == Sums.four (Sums.sumOf B.data.toList)) = false) (w : World) :
    Calls Tryz.prog 225 #[framedV A B E, .pointer (some ⟨R, 0, none⟩), .pointer (some ⟨Q, 0, none⟩)] w fun e w' => e = .returned (.bool false) ∧ Below w.heap.size w w' := by
  have HW : Hid (∀ wx, Calls Tryz.prog 226 #[framedV A B E] wx fun e w' => e = .returned (.bool false) ∧ Below wx.heap.size wx w') := by
    intro wx
    have := whole_is A B E (by omega) wx
    rwa [h] at this
  clear h
  unfold framedV at *
  go_enter Tryz.func225, Tryz.ntmps225
  go_wp2_with (go_at_call 226; refine (HW.out _).mono ?_; rintro e w1 ⟨rfl, hb1⟩)
  go_ret
  exact ⟨rfl, ((Below.refl _ _).alloc (Nat.le_refl _) _).trans (hb1.mono (by simp))⟩

set_option maxHeartbeats 1000000 in
set_option maxRecDepth 100000 in
theorem yield_yes {base R Q : Nat} (hRB : R < base) (hQB : Q < base) (hRQ : R < Q) (A B : ByteArray) (E : Nat) (hB : B.size ≤ 20000) (h : (A.toList == Sums.four (Sums.sumOf B.data.toList)) = true)
    (ps : List (List UInt8)) (z : Nat) (hlen : ps.length ≤ 20000) (w : World) (hbase : base ≤ w.heap.size) (hT : Tell base R Q ps z w) :
    Calls Tryz.prog 225 #[framedV A B (E : Int), .pointer (some ⟨R, 0, none⟩), .pointer (some ⟨Q, 0, none⟩)] w fun e w' => e = .returned (.bool true) ∧ Tell base R Q (ps ++ [B.data.toList]) E w' ∧ Below R w w' ∧ Kept64 w w' := by
  obtain ⟨i0, hi, hz0, hz1, hz2⟩ := info_parts Tryz.info9
  obtain ⟨v, hR, hQ, hown⟩ := hT
  have HW : Hid (∀ wx, Calls Tryz.prog 226 #[framedV A B (E : Int)] wx fun e w' => e = .returned (.bool true) ∧ Below wx.heap.size wx w') := by
    intro wx
    have := whole_is A B E (by omega) wx
    rwa [h] at this
  clear h
  unfold framedV at *
  obtain ⟨va, vc, rfl⟩ := own_slice hown
  have hsz1 : ∀ x : Obj, (w.alloc x).heap.size = w.heap.size + 1 := fun x => by simp
  have HF : Hid ((w.alloc (.cells #[.string A, .string B, .int .i64 (E : Int)] 286)).heap[w.heap.size]? = some (.cells #[.string A, .string B, .int .i64 (E : Int)] 286 (0, 0))) := heap_alloc_new w _
  have HR : Hid (w.heap[R]? = some (.cells #[.slice va ps.length vc] 158 (0, 0))) := hR
  have HQ : Hid (w.heap[Q]? = some (.cells #[.int .i64 (z : Int)] 3 (0, 0))) := hQ
  have HO : Hid (w.ownsRow base 9 1 (.slice va ps.length vc) ps.length (cellsS ps)) := hown
  have HLT : Hid (∀ k, (Value.slice va ps.length vc).ownBlock = some k → base ≤ k ∧ k < w.heap.size) := fun k hk => hown.lt k hk
  have hneR : some R ≠ (Value.slice va ps.length vc).ownBlock := fun e => by have := HLT.out R e.symm; omega
  have hneQ : some Q ≠ (Value.slice va ps.length vc).ownBlock := fun e => by have := HLT.out Q e.symm; omega
  have hneF : some w.heap.size ≠ (Value.slice va ps.length vc).ownBlock := fun e => by have := HLT.out _ e.symm; omega
  have HK : Hid (∀ (k : Nat) (cs : Array Value), w.heap[k]? = some (.cells cs 286 (0, 0)) → k ≠ R ∧ k ≠ Q ∧ some k ≠ (Value.slice va ps.length vc).ownBlock) := by
    intro k cs hk
    refine ⟨fun e => by subst e; rw [hR] at hk; simp at hk, fun e => by subst e; rw [hQ] at hk; simp at hk, fun e => ?_⟩
    rcases hown.2 with ⟨h1, _⟩ | ⟨g, cap, cur, h1, _, hh, _⟩
    · rw [h1] at e; simp [Value.ownBlock] at e
    · rw [h1] at e
      obtain rfl : k = g := by simpa [Value.ownBlock] using e
      rw [hh] at hk; simp at hk
  clear hR hQ hown
  go_enter Tryz.func225, Tryz.ntmps225
  go_wp2_with fail
  refine (HW.out _).mono ?_
  rintro e w1 ⟨rfl, hb1⟩
  have HR1 : Hid (w1.heap[R]? = some (.cells #[.slice va ps.length vc] 158 (0, 0))) := blk_kept (blk_alloc HR.out _) hb1
  have HQ1 : Hid (w1.heap[Q]? = some (.cells #[.int .i64 (z : Int)] 3 (0, 0))) := blk_kept (blk_alloc HQ.out _) hb1
  have HF1 : Hid (w1.heap[w.heap.size]? = some (.cells #[.string A, .string B, .int .i64 (E : Int)] 286 (0, 0))) := blk_kept HF.out hb1
  have HO1 : Hid (w1.ownsRow base 9 1 (.slice va ps.length vc) ps.length (cellsS ps)) := own_kept (HO.out.alloc _) hb1
  have HB1 : Hid (Below w.heap.size w w1) := ((Below.refl _ _).alloc (Nat.le_refl _) _).trans (hb1.mono (by simp))
  have hz1' : w.heap.size + 1 ≤ w1.heap.size := by have := hb1.size; simpa using this
  clear hb1 HF HR HQ HO HW
  go_wp2_with fail
  have cR : w1.cell? ⟨R, 0, none⟩ = some (.slice va ps.length vc) := cell_of_one HR1.out
  have cB : w1.cell? ⟨w.heap.size, 1, none⟩ = some (.string B) := blk_cell HF1.out rfl
  have fR : w1.frozen? ⟨R, 0, none⟩ = false := free_of_one HR1.out
  have HC : Hid (∀ wx : World, (callFunc 95 #[.string B]).run Tryz.prog wx = .ok (.enter 95 #[.string B]) wx) := fun _ => by kernel_rfl
  have hnl : ps.length + 1 ≤ maxLen := by unfold maxLen; omega
  have hby : (ps.length + 1) * 16 ≤ 140737488355328 := by omega
  go_region_law (first
      | (refine step_call (by rfl) 95 _ _ (by rfl) (.string B) (by rfl) (.string B) _ HC.out (clone_any B (by omega) _) ?_; intro wa hba; have HRa : Hid (wa.heap[R]? = some (.cells #[.slice va ps.length vc] 158 (0, 0))) := blk_kept (w := w1.drew) HR1.out hba; have cRa := cell_of_one HRa.out; have cRb := fun o => cell_of_one (blk_alloc HRa.out o))
      | (refine step_append_lies _ (by rfl) _ _ _ (by rfl) base 9 i0 _ 1 16 Tryz.underlying158 hi hz0 hz1 hz2 rfl (Nat.zero_lt_succ _) _ ps.length (cellsS ps) (by rfl) ((own_kept (w := w1.drew) HO1.out hba).alloc _) ⟨wa.heap.size, 0, none⟩ 1 1 [.string B] (by rfl) (by rfl) (World.news_of_block (cs := #[.string B]) (t := 9) (fr := (0, 0)) (heap_alloc_new wa _)) (one_string_list B) (Nat.zero_lt_succ _) hnl hby (by have h2 := hba.size; simp at h2 ⊢; omega) (wa.heap.size + 1) (Array.size_push ..) ?_; intro g2 cap2 w8 hown8 hgrow hat hlt8; have HR8 : Hid (w8.heap[R]? = some (.cells #[.slice va ps.length vc] 158 (0, 0))) := blk_grown (blk_alloc HRa.out _) hgrow hneR; have cR8 := cell_of_one HR8.out; have fR8 := free_of_one HR8.out))
  all_goals
    have HQ8 : Hid (w8.heap[Q]? = some (.cells #[.int .i64 (z : Int)] 3 (0, 0))) := blk_grown (blk_alloc (blk_kept (w := w1.drew) HQ1.out hba) _) hgrow hneQ
    have HF8 : Hid (w8.heap[w.heap.size]? = some (.cells #[.string A, .string B, .int .i64 (E : Int)] 286 (0, 0))) := blk_grown (blk_alloc (blk_kept (w := w1.drew) HF1.out hba) _) hgrow hneF
    have HO8 : Hid (w8.ownsRow base 9 1 (.slice (some ⟨g2, 0, none⟩) (ps.length + 1) cap2) (ps.length + 1) (cellsS ps ++ [.string B])) := hown8
    have HB8 : Hid (Below R w w8) := (((HB1.out.mono (by omega)).drew.trans (hba.mono (by simp; omega))).alloc (by have := hba.size; simp at this; omega) _).grown hgrow (by have := hba.size; simp at this ⊢; omega) (fun j hj => by have := (HLT.out j hj).1; omega)
    have HK8 : Hid (∀ (k : Nat) (cs : Array Value), w.heap[k]? = some (.cells cs 286 (0, 0)) → w8.heap[k]? = some (.cells cs 286 (0, 0))) := fun k cs hk => blk_grown (blk_alloc (blk_kept (w := w1.drew) (blk_kept hk HB1.out.drew) hba) _) hgrow (HK.out k cs hk).2.2
    clear hba hown8 hgrow hat hlt8
    have cF9 : (w8.setCell ⟨R, 0, none⟩ (.slice (some ⟨g2, 0, none⟩) (ps.length + 1) cap2)).cell? ⟨w.heap.size, 2, none⟩ = some (.int .i64 (E : Int)) := blk_cell ((Below.heap_setCell _ _ _ _ (by show _ ≠ R; omega)).trans HF8.out) rfl
    have hQ9 : (w8.setCell ⟨R, 0, none⟩ (.slice (some ⟨g2, 0, none⟩) (ps.length + 1) cap2)).heap[Q]? = some (.cells #[.int .i64 (z : Int)] 3 (0, 0)) := (Below.heap_setCell _ _ _ _ (by show _ ≠ R; omega)).trans HQ8.out
    have cQ9 := cell_of_one hQ9
    have fQ9 := free_of_one hQ9
    have HQ9 : Hid (_ = _) := hQ9
    clear hQ9
    go_wp2
    go_ret
    refine ⟨rfl, ⟨.slice (some ⟨g2, 0, none⟩) (ps.length + 1) cap2, ?_, one_setCell HQ9.out, ?_⟩, (HB8.out.setCell (Nat.le_refl _) _).setCell (by show R ≤ Q; omega) _, fun k cs hk => ?_⟩
    · exact (Below.heap_setCell _ _ _ _ (by show R ≠ Q; omega)).trans (one_setCell HR8.out)
    · rw [cellsS_app, List.length_append]
      exact ownsRow_setCell_below (ownsRow_setCell_below HO8.out (by show R < base; omega) _) (by show Q < base; omega) _
    · exact (Below.heap_setCell _ _ _ _ (HK.out k cs hk).2.1).trans ((Below.heap_setCell _ _ _ _ (HK.out k cs hk).1).trans (HK8.out k cs hk))
end Go.Proofs.YtbcfiiilikkkeaaGreatDoor
