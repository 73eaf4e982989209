/- The calls of the program's reader, walked: need, number, count; each ends with its answer or with the panic that the reader throws. Plain facts on the specification's cursor: what it reads of a text, number by number, list by list, as functions; no program is named here. The calls of the specification's SumMore and SumOf, walked. The calls of the program's SumMore and SumOf, walked. The calls that seal a text, the specification's, walked. The calls of the program's Sealed and Unsealed, walked. -/
import Derived.Test.YtbcfiiilikkkeaaGreatDoorReader
import Derived.Test.YtbcfiiilikkkeaaGreatDoorReadLaw
import Derived.Test.YtbcfiiilikkkeaaGreatDoorMathMan
import Derived.Test.YtbcfiiilikkkeaaGreatDoorKit
import Derived.Deep.QuietTactic
import Derived.Test.YtbcfiiilikkkeaaGreatDoorMathScan
import Derived.Deep.RegionWith
import Derived.BigQuiet
import Derived.Deep.RegionHeld3
namespace Go.Proofs.YtbcfiiilikkkeaaGreatDoor
open Go.RowKit
set_option linter.unusedVariables false

set_option maxHeartbeats 1000000 in
theorem count_some_cm {rb : Nat} {t : ByteArray} {a n b : Nat} (hs : t.size ≤ 1048576) (w : World) (hr : Rd w rb t a) (h : Words.rd t.data.toList a = some (n, b)) {M : Nat} (hM : M ≤ 1000) (hn : n ≤ M) :
    Calls Tryz.prog 280 #[.pointer (some ⟨rb, 0, none⟩), .int .i64 (M : Int)] w fun e w' => e = .returned (.int .i64 (n : Int)) ∧ Rd w' rb t b ∧ w.grownBy w' (some rb) := by
  have HR : Hid (Rd w rb t a) := hr
  have HH : Hid (Words.rd t.data.toList a = some (n, b)) := h
  have hn' : (n : Int) ≤ (M : Int) := by omega
  clear h hr
  go_enter Tryz.func280, Tryz.ntmps280
  go_wp2_with (first | (go_at_call 245; refine (number_some hs _ HR.out HH.out).mono ?_; rintro e w1 ⟨rfl, h1, h2⟩) | (go_at_call 289; refine (need_yes _ _).mono ?_; rintro e w2 ⟨rfl, rfl⟩))
  go_ret
  exact ⟨rfl, h1, h2⟩
set_option maxHeartbeats 1000000 in
theorem count_none_cm {rb : Nat} {t : ByteArray} {a : Nat} {M : Nat} (hs : t.size ≤ 1048576) (w : World) (hr : Rd w rb t a) (h : Words.rd t.data.toList a = none) :
    Calls Tryz.prog 280 #[.pointer (some ⟨rb, 0, none⟩), .int .i64 (M : Int)] w fun e w' => e = .panicked thrown ∧ w.grownBy w' (some rb) := by
  have HR : Hid (Rd w rb t a) := hr
  have HH : Hid (Words.rd t.data.toList a = none) := h
  clear h hr
  go_enter Tryz.func280, Tryz.ntmps280
  go_wp2_with (first | (go_at_call 245; refine (number_none hs _ HR.out HH.out).mono ?_; rintro e w1 ⟨rfl, h2⟩))
  exact ⟨rfl, rfl, h2⟩
set_option maxHeartbeats 200000 in
theorem count_over_cm {rb : Nat} {t : ByteArray} {a n b : Nat} (hs : t.size ≤ 1048576) (w : World) (hr : Rd w rb t a) (h : Words.rd t.data.toList a = some (n, b)) {M : Nat} (hM : M ≤ 1000) (hn : ¬ n ≤ M) :
    Calls Tryz.prog 280 #[.pointer (some ⟨rb, 0, none⟩), .int .i64 (M : Int)] w fun e w' => e = .panicked thrown ∧ w.grownBy w' (some rb) := by
  have HR : Hid (Rd w rb t a) := hr
  have HH : Hid (Words.rd t.data.toList a = some (n, b)) := h
  have hn' : decide ((n : Int) ≤ (M : Int)) = false := decide_eq_false (by omega)
  have hn2 : decide (n ≤ M) = false := decide_eq_false hn
  clear hn
  clear h hr
  go_enter Tryz.func280, Tryz.ntmps280
  go_wp2_with (first | (go_at_call 245; refine (number_some hs _ HR.out HH.out).mono ?_; rintro e w1 ⟨rfl, h1, h2⟩) | (go_at_call 289; refine (need_no _ _).mono ?_; rintro e w2 ⟨rfl, rfl⟩))
  exact ⟨rfl, rfl, h2⟩

end Go.Proofs.YtbcfiiilikkkeaaGreatDoor
namespace Go.Proofs.YtbcfiiilikkkeaaGreatDoor
namespace Mans
open Batches (by_)
/-- One number: what is read, and the place and whether it went bad. -/
def cv (u : ByteArray) (s : Nat × Bool) : Nat × (Nat × Bool) :=
  if s.2 = true then (0, (s.1, true)) else match Words.rd (by_ u) s.1 with
    | none => (0, (s.1, true))
    | some (n, b) => (n, (b, false))
theorem cv_bad (u : ByteArray) (a : Nat) : cv u (a, true) = (0, (a, true)) := by simp [cv]
theorem cv_none {u : ByteArray} {a : Nat} (h : Words.rd (by_ u) a = none) : cv u (a, false) = (0, (a, true)) := by simp [cv, h]
theorem cv_some {u : ByteArray} {a n b : Nat} (h : Words.rd (by_ u) a = some (n, b)) : cv u (a, false) = (n, (b, false)) := by simp [cv, h]
/-- A list of n numbers, at most M + 1 of them, from the k-th on. -/
def cl (u : ByteArray) (n M : Nat) : Nat → Nat → Nat × Bool → List Int × (Nat × Bool)
  | 0, _, s => ([], s)
  | f + 1, k, s => if k < n ∧ s.2 = false ∧ k ≤ M then ((((cv u s).1 : Nat) : Int) :: (cl u n M f (k + 1) (cv u s).2).1, (cl u n M f (k + 1) (cv u s).2).2) else ([], s)
theorem cl_go {u : ByteArray} {n M k : Nat} {s : Nat × Bool} (h1 : k < n) (h2 : s.2 = false) (h3 : k ≤ M) : cl u n M (M + 1 - k) k s = ((((cv u s).1 : Nat) : Int) :: (cl u n M (M + 1 - (k + 1)) (k + 1) (cv u s).2).1, (cl u n M (M + 1 - (k + 1)) (k + 1) (cv u s).2).2) := by
  rw [show M + 1 - k = (M + 1 - (k + 1)) + 1 by omega, cl, if_pos ⟨h1, h2, h3⟩]
theorem cl_stop {u : ByteArray} {n M k : Nat} {s : Nat × Bool} (h : ¬ (k < n ∧ s.2 = false ∧ k ≤ M)) : cl u n M (M + 1 - k) k s = ([], s) := by
  cases hf : M + 1 - k with
  | zero => rfl
  | succ f => rw [cl, if_neg h]
theorem cl_len {u : ByteArray} {n M : Nat} : ∀ (f k : Nat) (s : Nat × Bool), (cl u n M f k s).1.length ≤ f
  | 0, _, _ => by simp [cl]
  | f + 1, k, s => by
    rw [cl]
    split
    · have := cl_len (u := u) (n := n) (M := M) f (k + 1) (cv u s).2
      simp; omega
    · simp
theorem cl_many {u : ByteArray} {N M : Nat} (hN : N ≤ M) : ∀ (j k a e : Nat) (l : List Int), k + j = N → rdMany u j a = some (l, e) → cl u N M (M + 1 - k) k (a, false) = (l, (e, false))
  | 0, k, a, e, l, hk, h => by
    simp only [rdMany, Option.some.injEq, Prod.mk.injEq] at h
    obtain ⟨rfl, rfl⟩ := h
    exact cl_stop (by omega)
  | j + 1, k, a, e, l, hk, h => by
    obtain ⟨c, a1, r, h1, h2, rfl⟩ := rdMany_next h
    rw [cl_go (by omega) rfl (by omega), cv_some h1]
    simp only
    rw [cl_many hN j (k + 1) a1 e r (by omega) h2]
/-- What the specification reads of a manifest's text. -/
structure Read (u : ByteArray) (b0 : Bool) (m : ManL) (bad : Bool) : Prop where
  of : ∃ (n k X Y Z : Nat) (s0 s1 s2 s3 s4 s5 s6 : Nat × Bool), cv u (0, b0) = (n, s0) ∧ cl u n 8 9 0 s0 = (m.segs, s1) ∧ cv u s1 = (X, s2) ∧ m.next = X ∧ cv u s2 = (Y, s3) ∧ m.base = Y ∧ cv u s3 = (Z, s4) ∧ m.term = Z ∧ cv u s4 = (k, s5) ∧ cl u k 4 5 0 s5 = (m.conf, s6) ∧ s6.2 = bad
theorem read_gets {u : ByteArray} {m m' : ManL} {bad : Bool} {a0 a1 a2 a3 a4 a5 e : Nat} (h : Gets u m a0 a1 a2 a3 a4 a5 e) (hr : Read u false m' bad) : m' = m ∧ bad = false := by
  obtain ⟨n, k, X, Y, Z, s0, s1, s2, s3, s4, s5, s6, q0, q1, q2, e2, q3, e3, q4, e4, q5, q6, q7⟩ := hr.of
  rw [cv_some h.r0] at q0
  simp only [Prod.mk.injEq] at q0
  obtain ⟨rfl, rfl⟩ := q0
  rw [show (9 : Nat) = 8 + 1 - 0 from rfl, cl_many h.n0 _ 0 _ _ _ (by omega) h.r1] at q1
  simp only [Prod.mk.injEq] at q1
  obtain ⟨f1, rfl⟩ := q1
  rw [cv_some h.r2] at q2
  simp only [Prod.mk.injEq] at q2
  obtain ⟨rfl, rfl⟩ := q2
  rw [cv_some h.r3] at q3
  simp only [Prod.mk.injEq] at q3
  obtain ⟨rfl, rfl⟩ := q3
  rw [cv_some h.r4] at q4
  simp only [Prod.mk.injEq] at q4
  obtain ⟨rfl, rfl⟩ := q4
  rw [cv_some h.r5] at q5
  simp only [Prod.mk.injEq] at q5
  obtain ⟨rfl, rfl⟩ := q5
  rw [show (5 : Nat) = 4 + 1 - 0 from rfl, cl_many h.n5 _ 0 _ _ _ (by omega) h.r6] at q6
  simp only [Prod.mk.injEq] at q6
  obtain ⟨f6, rfl⟩ := q6
  refine ⟨?_, q7.symm⟩
  have i2 := h.i2; have i3 := h.i3; have i4 := h.i4
  obtain ⟨l, x, y, z, l'⟩ := m
  obtain ⟨l2, x2, y2, z2, l2'⟩ := m'
  simp only at f1 f6 e2 e3 e4 i2 i3 i4
  subst f1 f6
  rw [e2, e3, e4, Int.toNat_of_nonneg i2, Int.toNat_of_nonneg i3, Int.toNat_of_nonneg i4]
theorem read_len {u : ByteArray} {b0 bad : Bool} {m : ManL} (h : Read u b0 m bad) : m.segs.length ≤ 9 ∧ m.conf.length ≤ 5 := by
  obtain ⟨n, k, X, Y, Z, s0, s1, s2, s3, s4, s5, s6, q0, q1, q2, e2, q3, e3, q4, e4, q5, q6, q7⟩ := h.of
  have h1 := cl_len (u := u) (n := n) (M := 8) 9 0 s0
  have h2 := cl_len (u := u) (n := k) (M := 4) 5 0 s5
  rw [q1] at h1
  rw [q6] at h2
  exact ⟨h1, h2⟩
end Mans
end Go.Proofs.YtbcfiiilikkkeaaGreatDoor
namespace Go.Proofs.YtbcfiiilikkkeaaGreatDoor
open Go.RowKit

theorem xor_byte (s : Nat) (hs : s ≤ 4294967295) (b : UInt8) : bits .xor .u32 (s : Int) (b.toNat : Int) = ((s ^^^ b.toNat : Nat) : Int) :=
  u32_xor_nat s b.toNat (by omega) (by have := b.toNat_lt; omega)
theorem xor_byte_le {s : Nat} (hs : s ≤ 4294967295) (b : UInt8) : s ^^^ b.toNat ≤ 4294967295 := by have := Sums.xor_lt (s := s) (by omega) b; omega
theorem xor_poly {s : Nat} (hs : s ≤ 4294967295) : bits .xor .u32 ((s / 2 : Nat) : Int) 3558460437 = (((s / 2) ^^^ 3558460437 : Nat) : Int) :=
  u32_xor_nat (s / 2) 3558460437 (by omega) (by decide)
theorem half_le {s : Nat} (hs : s ≤ 4294967295) : Sums.half s ≤ 4294967295 := by have := Sums.half_lt (s := s) (by omega); omega

theorem half_is_odd {q : Nat} (h : q % 2 = 1) (hp : bits .xor .u32 ((q / 2 : Nat) : Int) 3558460437 = (((q / 2) ^^^ 3558460437 : Nat) : Int)) : Value.int .u32 (bits .xor .u32 ((q : Int) / 2) 3558460437) = .int .u32 ((Sums.half q : Nat) : Int) := by
  rw [Sums.half_odd h, ← hp]; rfl
theorem half_is_even {q : Nat} (h : ¬ q % 2 = 1) : Value.int .u32 ((q : Int) / 2) = .int .u32 ((Sums.half q : Nat) : Int) := by
  rw [Sums.half_even h]; rfl

set_option maxHeartbeats 1000000 in
set_option maxRecDepth 100000 in
theorem specMore_any (a : Nat) (ha : a ≤ 4294967295) (s : ByteArray) (hs : s.size ≤ 1048580) (w : World) :
    Calls Tryz.prog 187 #[.int .u32 (a : Int), .string s] w fun e w' => e = .returned (.int .u32 ((Sums.more a s.data.toList : Nat) : Int)) ∧ w = w' := by
  go_enter Tryz.func187, Tryz.ntmps187
  go_wp2
  go_loop [0, 5] (fun x i => ∃ m k : Nat, m ≤ 4294967295 ∧ k ≤ s.size ∧ x = .int .u32 (m : Int) ∧ i = .int .i64 (k : Int) ∧ Sums.more m (s.data.toList.drop k) = Sums.more a s.data.toList)
    (fun _ i => s.size - (intOf i).toNat)
  case atStart => exact ⟨a, 0, ha, Nat.zero_le _, rfl, rfl, rfl⟩
  case round =>
    obtain ⟨m, k, hm, hk, rfl, rfl, heq⟩ := hrel
    have HE : Hid (Sums.more m (s.data.toList.drop k) = Sums.more a s.data.toList) := heq
    clear heq
    by_cases hlt : k < s.size
    · have hbyte : (s[k].toNat : Int) < 256 := by have := s[k].toNat_lt; omega
      have hx := xor_byte m hm s[k]
      have hxl := xor_byte_le hm s[k]
      obtain ⟨X, hX⟩ : ∃ X : Nat, X = m ^^^ s[k].toNat := ⟨_, rfl⟩
      rw [← hX] at hx hxl
      go_wp2
      go_loop [0, 6] (fun x j => ∃ q t : Nat, q ≤ 4294967295 ∧ t ≤ 8 ∧ x = .int .u32 (q : Int) ∧ j = .int .i64 (t : Int) ∧ Sums.hn (8 - t) q = Sums.byte8 X)
        (fun _ j => 8 - (intOf j).toNat)
      case atStart => exact ⟨X, 0, hxl, Nat.zero_le _, by go_num, rfl, rfl⟩
      case round =>
        obtain ⟨q, t, hq, ht, rfl, rfl, heq2⟩ := hrel
        have HE2 : Hid (Sums.hn (8 - t) q = Sums.byte8 X) := heq2
        clear heq2
        by_cases ht8 : t < 8
        · by_cases hodd : q % 2 = 1
          · have ho : ((q : Int) % 2 == 1) = true := by simp; omega
            have hp := xor_poly hq
            go_wp2
            go_round
            case rel => exact ⟨Sums.half q, t + 1, half_le hq, by omega, half_is_odd hodd hp, by go_num, Sums.hn_step ht8 HE2.out⟩
            case measure => simp [intOf]; omega
          · have ho : ((q : Int) % 2 == 1) = false := by simp; omega
            go_wp2
            go_round
            case rel => exact ⟨Sums.half q, t + 1, half_le hq, by omega, half_is_even hodd, by go_num, Sums.hn_step ht8 HE2.out⟩
            case measure => simp [intOf]; omega
        · go_wp2
          go_round
          case rel => 
            have hq8 : q = Sums.byte8 X := by have h := HE2.out; rw [show 8 - t = 0 from by omega] at h; exact h
            exact ⟨q, k + 1, hq, by omega, rfl, by go_num, by rw [hq8, hX]; exact Sums.more_step (l := s.data.toList) hlt HE.out⟩
          case measure => simp [intOf]; omega
    · go_wp2
      go_ret
      exact ⟨by rw [Sums.more_end (l := s.data.toList) (Nat.le_of_not_lt hlt) HE.out]; rfl, rfl⟩

set_option maxHeartbeats 400000 in
theorem specSumOf_any (s : ByteArray) (hs : s.size ≤ 1048580) (w : World) :
    Calls Tryz.prog 132 #[.string s] w fun e w' => e = .returned (.int .u32 ((Sums.sumOf s.data.toList : Nat) : Int)) ∧ w = w' := by
  go_enter Tryz.func132, Tryz.ntmps132
  go_wp2_with (go_at_call 187; refine (specMore_any 4294967295 (Nat.le_refl _) s hs _).mono ?_; rintro e w' ⟨rfl, rfl⟩)
  go_ret
  exact ⟨rfl, rfl⟩
end Go.Proofs.YtbcfiiilikkkeaaGreatDoor
namespace Go.Proofs.YtbcfiiilikkkeaaGreatDoor
open Go.RowKit

set_option maxHeartbeats 400000 in
theorem halved_any (q : Nat) (hq : q ≤ 4294967295) (w : World) :
    Calls Tryz.prog 283 #[.int .u32 (q : Int)] w fun e w' => e = .returned (.int .u32 ((Sums.half q : Nat) : Int)) ∧ w = w' := by
  by_cases hodd : q % 2 = 1
  · have ho : ((q : Int) % 2 == 1) = true := by simp; omega
    have hp := xor_poly hq
    go_enter Tryz.func283, Tryz.ntmps283
    go_wp2
    go_ret
    exact ⟨congrArg Ending.returned (half_is_odd hodd hp), rfl⟩
  · have ho : ((q : Int) % 2 == 1) = false := by simp; omega
    go_enter Tryz.func283, Tryz.ntmps283
    go_wp2
    go_ret
    exact ⟨congrArg Ending.returned (half_is_even hodd), rfl⟩

set_option maxHeartbeats 1000000 in
set_option maxRecDepth 100000 in
theorem with_any (m : Nat) (hm : m ≤ 4294967295) (b : UInt8) (w : World) :
    Calls Tryz.prog 238 #[.int .u32 (m : Int), .int .u8 (b.toNat : Int)] w fun e w' => e = .returned (.int .u32 ((Sums.byte8 (m ^^^ b.toNat) : Nat) : Int)) ∧ w = w' := by
  have hbyte : (b.toNat : Int) < 256 := by have := b.toNat_lt; omega
  have hx := xor_byte m hm b
  have hxl := xor_byte_le hm b
  obtain ⟨X, hX⟩ : ∃ X : Nat, X = m ^^^ b.toNat := ⟨_, rfl⟩
  rw [← hX] at hx hxl ⊢
  clear hX
  go_enter Tryz.func238, Tryz.ntmps238
  go_wp2
  go_loop [0, 9] (fun x j => ∃ q t : Nat, q ≤ 4294967295 ∧ t ≤ 8 ∧ x = .int .u32 (q : Int) ∧ j = .int .i64 (t : Int) ∧ Sums.hn (8 - t) q = Sums.byte8 X)
    (fun _ j => 8 - (intOf j).toNat)
  case atStart => exact ⟨X, 0, hxl, Nat.zero_le _, by go_num, rfl, rfl⟩
  case round =>
    obtain ⟨q, t, hq, ht, rfl, rfl, heq2⟩ := hrel
    have HE2 : Hid (Sums.hn (8 - t) q = Sums.byte8 X) := heq2
    clear heq2
    by_cases ht8 : t < 8
    · go_wp2_with (go_at_call 283; refine (halved_any q hq _).mono ?_; rintro e w' ⟨rfl, rfl⟩)
      go_round
      case rel => exact ⟨Sums.half q, t + 1, half_le hq, by omega, rfl, by go_num, Sums.hn_step ht8 HE2.out⟩
      case measure => simp [intOf]; omega
    · have hq8 : q = Sums.byte8 X := by have h := HE2.out; rw [show 8 - t = 0 from by omega] at h; exact h
      have HQ : Hid (q = Sums.byte8 X) := hq8
      clear hq8
      go_wp2
      go_ret
      exact ⟨by rw [← HQ.out]; rfl, rfl⟩

theorem byte8_le {s : Nat} (hs : s ≤ 4294967295) : Sums.byte8 s ≤ 4294967295 := by have := Sums.byte8_lt (s := s) (by omega); omega

set_option maxHeartbeats 1000000 in
set_option maxRecDepth 100000 in
theorem implSumOf_any (s : ByteArray) (hs : s.size ≤ 1048580) (w : World) :
    Calls Tryz.prog 192 #[.string s] w fun e w' => e = .returned (.int .u32 ((Sums.sumOf s.data.toList : Nat) : Int)) ∧ w = w' := by
  go_enter Tryz.func192, Tryz.ntmps192
  go_wp2
  go_loop [3, 7] (fun x i => ∃ m k : Nat, m ≤ 4294967295 ∧ k ≤ s.size ∧ x = .int .u32 (m : Int) ∧ i = .int .i64 (k : Int) ∧ Sums.more m (s.data.toList.drop k) = Sums.more 4294967295 s.data.toList)
    (fun _ i => s.size - (intOf i).toNat)
  case atStart => exact ⟨4294967295, 0, Nat.le_refl _, Nat.zero_le _, rfl, rfl, rfl⟩
  case round =>
    obtain ⟨m, k, hm, hk, rfl, rfl, heq⟩ := hrel
    have HE : Hid (Sums.more m (s.data.toList.drop k) = Sums.more 4294967295 s.data.toList) := heq
    clear heq
    by_cases hlt : k < s.size
    · have hbyte : (s[k].toNat : Int) < 256 := by have := s[k].toNat_lt; omega
      go_wp2_with (go_at_call 238; refine (with_any m hm s[k] _).mono ?_; rintro e w' ⟨rfl, rfl⟩)
      go_round
      case rel => exact ⟨_, k + 1, byte8_le (xor_byte_le hm s[k]), by omega, rfl, by go_num, Sums.more_step (l := s.data.toList) hlt HE.out⟩
      case measure => simp [intOf]; omega
    · go_wp2
      go_ret
      exact ⟨by rw [Sums.more_end (l := s.data.toList) (Nat.le_of_not_lt hlt) HE.out]; rfl, rfl⟩
end Go.Proofs.YtbcfiiilikkkeaaGreatDoor
namespace Go.Proofs.YtbcfiiilikkkeaaGreatDoor
open Go.RowKit

theorem four_cells (x : Nat) (hx : x ≤ 4294967295) : (#[Value.int .u8 ((x : Int) / 16777216), .int .u8 ((x : Int) / 65536 % 256), .int .u8 ((x : Int) / 256 % 256), .int .u8 ((x : Int) % 256)] : Array Value) = (cellsB (Sums.four x)).toArray := by
  have e : ∀ n : Nat, (UInt8.ofNat n).toNat = n % 256 := fun n => by simp
  simp only [Sums.four, cellsB, List.map_cons, List.map_nil, e]
  rw [show x / 16777216 % 256 = x / 16777216 from Nat.mod_eq_of_lt (by omega)]
  rfl
theorem four_string (x : Nat) (hx : x ≤ 4294967295) (w : World) :
    (convert 62 9 (.slice (some ⟨w.heap.size, 0, none⟩) 4 4)).run Tryz.prog (w.alloc (.cells #[Value.int .u8 ((x : Int) / 16777216), .int .u8 ((x : Int) / 65536 % 256), .int .u8 ((x : Int) / 256 % 256), .int .u8 ((x : Int) % 256)] 5)) =
      .ok (.string ⟨(Sums.four x).toArray⟩) (w.alloc (.cells #[Value.int .u8 ((x : Int) / 16777216), .int .u8 ((x : Int) / 65536 % 256), .int .u8 ((x : Int) / 256 % 256), .int .u8 ((x : Int) % 256)] 5)) := by
  rw [four_cells x hx]
  refine run_convert_bytes_back (P := Tryz.prog) _ 62 9 5 ⟨w.heap.size, 0, none⟩ 4 (Sums.four x) Tryz.underlying62 Tryz.underlying5 Tryz.underlying9 fun j hj => ?_
  rw [Addr.add_lit, Nat.zero_add]
  unfold World.cell?
  rw [heap_alloc_new w (Obj.cells (cellsB (Sums.four x)).toArray 5)]
  simp [cellsB, hj]

set_option maxHeartbeats 1000000 in
set_option maxRecDepth 100000 in
theorem l02Four_any (x : Nat) (hx : x ≤ 4294967295) (w : World) :
    Calls Tryz.prog 131 #[.int .u32 (x : Int)] w fun e w' => e = .returned (.string ⟨(Sums.four x).toArray⟩) ∧ Below w.heap.size w w' := by
  have hcv := four_string x hx w
  go_enter Tryz.func131, Tryz.ntmps131
  go_wp2
  go_ret
  exact ⟨rfl, (Below.refl _ _).alloc (Nat.le_refl _) _⟩

theorem sum_le (l : List UInt8) : Sums.sumOf l ≤ 4294967295 := by have := Sums.sumOf_lt l; omega
theorem four_size (x : Nat) : (⟨(Sums.four x).toArray⟩ : ByteArray).size = 4 := rfl
def sealTuple (s : ByteArray) : Value := .tuple #[.string (s ++ ⟨(Sums.four (Sums.sumOf s.data.toList)).toArray⟩), .bool true]
def unTuple : Option (List UInt8) → Value
  | none => .tuple #[.string ⟨#[]⟩, .bool false]
  | some l => .tuple #[.string ⟨l.toArray⟩, .bool true]
theorem app_bytes (s : ByteArray) (l : List UInt8) : s ++ (⟨l.toArray⟩ : ByteArray) = ⟨(s.data.toList ++ l).toArray⟩ := by
  apply ByteArray.ext
  simp

set_option maxHeartbeats 400000 in
theorem specSealed_yes (s : ByteArray) (h : s.size ≤ 20000) (w : World) :
    Calls Tryz.prog 181 #[.string s] w fun e w' => e = .returned (sealTuple s) ∧ Below w.heap.size w w' := by
  have hv := four_size (Sums.sumOf s.data.toList)
  go_enter Tryz.func181, Tryz.ntmps181
  go_wp2_with (first | (go_at_call 132; refine (specSumOf_any s (by omega) _).mono ?_; rintro e w' ⟨rfl, rfl⟩) | (go_at_call 131; refine (l02Four_any _ (sum_le s.data.toList) _).mono ?_; rintro e w' ⟨rfl, hb1⟩))
  go_ret2
  exact ⟨rfl, hb1⟩

set_option maxHeartbeats 1000000 in
theorem specUnsealed_out (s : ByteArray) (hs : s.size ≤ 1048576) (h : s.size < 4 ∨ 20004 < s.size) (w : World) :
    Calls Tryz.prog 236 #[.string s] w fun e w' => e = .returned (.tuple #[.string ⟨#[]⟩, .bool false]) ∧ Below w.heap.size w w' := by
  rcases h with h | h
  · have h1 : (s.size : Int) - 4 < 0 := by omega
    have h3 : decide ((s.size : Int) - 4 < 0) = true := decide_eq_true h1
    go_enter Tryz.func236, Tryz.ntmps236
    go_wp2
    go_quiet (fail)
    go_wp2
    go_ret2
    exact ⟨rfl, below_drewN (Below.refl _ _) _⟩
  · have h1 : ¬ (s.size : Int) - 4 < 0 := by omega
    have h2 : (20000 : Int) < (s.size : Int) - 4 := by omega
    have h3 : decide ((s.size : Int) - 4 < 0) = false := decide_eq_false h1
    have h4 : decide ((20000 : Int) < (s.size : Int) - 4) = true := decide_eq_true h2
    go_enter Tryz.func236, Tryz.ntmps236
    go_wp2
    go_quiet (fail)
    go_wp2
    go_ret2
    exact ⟨rfl, below_drewN (Below.refl _ _) _⟩

theorem un_split (s : ByteArray) (H T : ByteArray) (hH : H = s.extract 0 (s.size - 4)) (hT : T = s.extract (s.size - 4) s.size) :
    H.data.toList = s.data.toList.take (s.data.toList.length - 4) ∧ T.toList = s.data.toList.drop (s.data.toList.length - 4) := by
  rw [hH, hT, ByteArray.toList_eq, Words.extract_list, Words.extract_list, Words.size_list]
  refine ⟨by simp, ?_⟩
  rw [List.take_of_length_le (by rw [List.length_drop, Words.size_list]; omega)]
theorem un_no {s H T : ByteArray} (hH : H = s.extract 0 (s.size - 4)) (hT : T = s.extract (s.size - 4) s.size) (h : (!(T.toList == Sums.four (Sums.sumOf H.data.toList))) = true) : Sums.unsealed s.data.toList = none := by
  obtain ⟨e1, e2⟩ := un_split s H T hH hT
  rw [e1, e2] at h
  unfold Sums.unsealed
  refine if_neg ?_
  rintro ⟨_, _, h3⟩
  rw [h3] at h
  simp at h
theorem un_yes {s H T : ByteArray} (h4 : 4 ≤ s.size) (h5 : s.size ≤ 20004) (hH : H = s.extract 0 (s.size - 4)) (hT : T = s.extract (s.size - 4) s.size) (h : (!(T.toList == Sums.four (Sums.sumOf H.data.toList))) = false) : Sums.unsealed s.data.toList = some H.data.toList := by
  obtain ⟨e1, e2⟩ := un_split s H T hH hT
  rw [e1, e2] at h
  unfold Sums.unsealed
  rw [e1]
  exact if_pos ⟨by rw [Words.size_list]; exact h4, by rw [Words.size_list]; exact h5, by simpa using h⟩
theorem un_ret_no {l : List UInt8} (h : Sums.unsealed l = none) : Value.tuple #[.string ⟨#[]⟩, .bool false] = unTuple (Sums.unsealed l) := by rw [h]; rfl
theorem un_ret_yes {l : List UInt8} {H : ByteArray} (h : Sums.unsealed l = some H.data.toList) : Value.tuple #[.string H, .bool true] = unTuple (Sums.unsealed l) := by rw [h]; rfl

set_option maxHeartbeats 1000000 in
theorem specUnsealed_in (s : ByteArray) (h : 4 ≤ s.size) (h' : s.size ≤ 20004) (w : World) :
    Calls Tryz.prog 236 #[.string s] w fun e w' => e = .returned (unTuple (Sums.unsealed s.data.toList)) ∧ Below w.heap.size w w' := by
  have h1 : ¬ (s.size : Int) - 4 < 0 := by omega
  have h2 : ¬ (20000 : Int) < (s.size : Int) - 4 := by omega
  have h3 : decide ((s.size : Int) - 4 < 0) = false := decide_eq_false h1
  have h4 : decide ((20000 : Int) < (s.size : Int) - 4) = false := decide_eq_false h2
  obtain ⟨H, hH⟩ : ∃ H : ByteArray, H = s.extract 0 (s.size - 4) := ⟨_, rfl⟩
  obtain ⟨T, hT⟩ : ∃ T : ByteArray, T = s.extract (s.size - 4) s.size := ⟨_, rfl⟩
  have hHs : H.size ≤ 20000 := by rw [hH]; simp; omega
  have hsl : ∀ wx, (Instr.slice 9 (.string s) (some (.int .i64 ((s.size : Int) - 4))) none none).run Tryz.prog wx = .ok (.string T) wx := fun wx => by
    rw [run_slice_string_l wx 9 s Tryz.underlying9 .i64 _ (by omega) (by omega), hT, show ((s.size : Int) - 4).toNat = s.size - 4 from by omega]
  have hsh : ∀ wx, (Instr.slice 9 (.string s) none (some (.int .i64 ((s.size : Int) - 4))) none).run Tryz.prog wx = .ok (.string H) wx := fun wx => by
    rw [run_slice_string_h wx 9 s Tryz.underlying9 .i64 _ (by omega) (by omega), hH, show ((s.size : Int) - 4).toNat = s.size - 4 from by omega]
  have HH : Hid (H = s.extract 0 (s.size - 4)) := hH
  have HT : Hid (T = s.extract (s.size - 4) s.size) := hT
  clear hH hT
  go_enter Tryz.func236, Tryz.ntmps236
  go_wp2
  go_region_held3 (fun _ => True) (trivial) (first | (go_at_call 132; refine (specSumOf_any H (by omega) _).mono ?_; rintro e w' ⟨rfl, rfl⟩) | (go_at_call 131; refine (l02Four_any _ (sum_le H.data.toList) _).mono ?_; rintro e w1 ⟨rfl, hb1⟩))
  go_wp2
  · have hn := un_no HH.out HT.out (by assumption)
    go_ret2
    exact ⟨congrArg Ending.returned (un_ret_no hn), ((Below.refl _ _).drew).trans hb1⟩
  · have hn := un_yes h h' HH.out HT.out (by assumption)
    go_ret2
    exact ⟨congrArg Ending.returned (un_ret_yes hn), ((Below.refl _ _).drew).trans hb1⟩
end Go.Proofs.YtbcfiiilikkkeaaGreatDoor
namespace Go.Proofs.YtbcfiiilikkkeaaGreatDoor
open Go.RowKit

set_option maxHeartbeats 1000000 in
set_option maxRecDepth 100000 in
theorem sealOf_any (s : ByteArray) (hs : s.size ≤ 1048580) (w : World) :
    Calls Tryz.prog 143 #[.string s] w fun e w' => e = .returned (.string ⟨(Sums.four (Sums.sumOf s.data.toList)).toArray⟩) ∧ Below w.heap.size w w' := by
  obtain ⟨x, hx⟩ : ∃ x, x = Sums.sumOf s.data.toList := ⟨_, rfl⟩
  have hxl : x ≤ 4294967295 := by rw [hx]; exact sum_le _
  have hso := fun w => implSumOf_any s hs w
  rw [← hx] at hso ⊢
  have HS : Hid (∀ w : World, Calls Tryz.prog 192 #[.string s] w fun e w' => e = .returned (.int .u32 (x : Int)) ∧ w = w') := hso
  clear hso hx
  have hcv := four_string x hxl w
  go_enter Tryz.func143, Tryz.ntmps143
  go_wp2_with (go_at_call 192; refine (HS.out _).mono ?_; rintro e w' ⟨rfl, rfl⟩)
  go_ret
  exact ⟨rfl, (Below.refl _ _).alloc (Nat.le_refl _) _⟩

set_option maxHeartbeats 1000000 in
theorem implUnsealed_out (s : ByteArray) (hs : s.size ≤ 1048576) (h : s.size < 4 ∨ 20004 < s.size) (w : World) :
    Calls Tryz.prog 200 #[.string s] w fun e w' => e = .returned (.tuple #[.string ⟨#[]⟩, .bool false]) ∧ Below w.heap.size w w' := by
  rcases h with h | h
  · have h1 : (s.size : Int) - 4 < 0 := by omega
    have h3 : decide ((s.size : Int) - 4 < 0) = true := decide_eq_true h1
    go_enter Tryz.func200, Tryz.ntmps200
    go_wp2
    go_quiet (fail)
    go_wp2
    go_ret2
    exact ⟨rfl, below_drewN (Below.refl _ _) _⟩
  · have h1 : ¬ (s.size : Int) - 4 < 0 := by omega
    have h2 : (20000 : Int) < (s.size : Int) - 4 := by omega
    have h3 : decide ((s.size : Int) - 4 < 0) = false := decide_eq_false h1
    have h4 : decide ((20000 : Int) < (s.size : Int) - 4) = true := decide_eq_true h2
    go_enter Tryz.func200, Tryz.ntmps200
    go_wp2
    go_quiet (fail)
    go_wp2
    go_ret2
    exact ⟨rfl, below_drewN (Below.refl _ _) _⟩

set_option maxHeartbeats 1000000 in
theorem implUnsealed_in (s : ByteArray) (h : 4 ≤ s.size) (h' : s.size ≤ 20004) (w : World) :
    Calls Tryz.prog 200 #[.string s] w fun e w' => e = .returned (unTuple (Sums.unsealed s.data.toList)) ∧ Below w.heap.size w w' := by
  have h1 : ¬ (s.size : Int) - 4 < 0 := by omega
  have h2 : ¬ (20000 : Int) < (s.size : Int) - 4 := by omega
  have h3 : decide ((s.size : Int) - 4 < 0) = false := decide_eq_false h1
  have h4 : decide ((20000 : Int) < (s.size : Int) - 4) = false := decide_eq_false h2
  obtain ⟨H, hH⟩ : ∃ H : ByteArray, H = s.extract 0 (s.size - 4) := ⟨_, rfl⟩
  obtain ⟨T, hT⟩ : ∃ T : ByteArray, T = s.extract (s.size - 4) s.size := ⟨_, rfl⟩
  have hHs : H.size ≤ 20000 := by rw [hH]; simp; omega
  have hsl : ∀ wx, (Instr.slice 9 (.string s) (some (.int .i64 ((s.size : Int) - 4))) none none).run Tryz.prog wx = .ok (.string T) wx := fun wx => by
    rw [run_slice_string_l wx 9 s Tryz.underlying9 .i64 _ (by omega) (by omega), hT, show ((s.size : Int) - 4).toNat = s.size - 4 from by omega]
  have hsh : ∀ wx, (Instr.slice 9 (.string s) none (some (.int .i64 ((s.size : Int) - 4))) none).run Tryz.prog wx = .ok (.string H) wx := fun wx => by
    rw [run_slice_string_h wx 9 s Tryz.underlying9 .i64 _ (by omega) (by omega), hH, show ((s.size : Int) - 4).toNat = s.size - 4 from by omega]
  have HH : Hid (H = s.extract 0 (s.size - 4)) := hH
  have HT : Hid (T = s.extract (s.size - 4) s.size) := hT
  clear hH hT
  go_enter Tryz.func200, Tryz.ntmps200
  go_wp2
  go_region_held3 (fun _ => True) (trivial) (first | (go_at_call 143; refine (sealOf_any H (by omega) _).mono ?_; rintro e w1 ⟨rfl, hb1⟩))
  go_wp2_with (go_at_call 95; refine (clone_any H (by omega) _).mono ?_; rintro e w2 ⟨rfl, hb2⟩)
  · have hn := un_no HH.out HT.out (by assumption)
    go_ret2
    exact ⟨congrArg Ending.returned (un_ret_no hn), ((Below.refl _ _).drew).trans hb1⟩
  · have hn := un_yes h h' HH.out HT.out (by assumption)
    go_ret2
    exact ⟨congrArg Ending.returned (un_ret_yes hn), (((Below.refl _ _).drew).trans hb1).trans (hb2.mono (((Below.refl _ _).drew).trans hb1).size)⟩
end Go.Proofs.YtbcfiiilikkkeaaGreatDoor
