/- The calls by which bytes, numbers and texts are drawn, walked: what comes is within its bounds. -/
import Derived.Test.YtpedpdgkbmpfjaaDoorMathCmd
import Derived.Deep.QuietTactic
import Derived.BigQuiet
import Derived.Deep.RegionHeld3
import Derived.Maps.AppendAt
import Derived.Maps.Range
namespace Go.Proofs.YtpedpdgkbmpfjaaDoor
open Go.RowKit

/-- A cursor over bytes that came in: its block, and the bytes. -/
def Cur (B : Nat) (w : World) (g : Nat) (a : Option Addr) (len cap b off : Nat) (z : Nat → Int) : Prop :=
  B ≤ g ∧ (0 < len → b < B) ∧ len ≤ 1048576 ∧ (∀ j, j < len → a = some ⟨b, off, none⟩ ∧ w.cell? ⟨b, off + j, none⟩ = some (.int .u8 (z j)) ∧ 0 ≤ z j ∧ z j ≤ 255) ∧
  ∃ (i : Nat) (h : Int), i ≤ len ∧ w.heap[g]? = some (.cells #[.slice a len cap, .int .i64 (i : Int), .int .i64 h] 113 (0, 0))

theorem and255 (n : Int) : bits .and .i64 n 255 = n % 256 := by
  have h255 : (BitVec.ofInt 64 255).toNat = 2 ^ 8 - 1 := by decide
  have key : (BitVec.ofInt 64 n &&& BitVec.ofInt 64 255).toNat = (n % ((2 ^ 64 : Nat) : Int)).toNat % 2 ^ 8 := by
    rw [BitVec.toNat_and, BitVec.toNat_ofInt, h255, Nat.and_two_pow_sub_one_eq_mod]
  show IntKind.i64.wrap ((BitVec.ofInt 64 n &&& BitVec.ofInt 64 255).toNat : Nat) = n % 256
  rw [key, IntKind.wrap_i64]
  omega

theorem and_bound (x : Int) : 0 ≤ bits .and .i64 x 255 ∧ bits .and .i64 x 255 ≤ 255 := by rw [and255]; omega

theorem and30 (n : Int) : bits .and .i64 n 1073741823 = n % 1073741824 := by
  have h255 : (BitVec.ofInt 64 1073741823).toNat = 2 ^ 30 - 1 := by decide
  have key : (BitVec.ofInt 64 n &&& BitVec.ofInt 64 1073741823).toNat = (n % ((2 ^ 64 : Nat) : Int)).toNat % 2 ^ 30 := by
    rw [BitVec.toNat_and, BitVec.toNat_ofInt, h255, Nat.and_two_pow_sub_one_eq_mod]
  show IntKind.i64.wrap ((BitVec.ofInt 64 n &&& BitVec.ofInt 64 1073741823).toNat : Nat) = n % 1073741824
  rw [key, IntKind.wrap_i64]
  omega

theorem blk_set2 {w : World} {g : Nat} {s x y : Value} (hb : w.heap[g]? = some (.cells #[s, x, y] 113 (0, 0))) (v : Value) : (w.setCell ⟨g, 2, none⟩ v).heap[g]? = some (.cells #[s, x, v] 113 (0, 0)) := by
  have := heap_setCell_same w g 2 _ 113 v hb
  simpa using this

theorem blk_set1 {w : World} {g : Nat} {s x y : Value} (hb : w.heap[g]? = some (.cells #[s, x, y] 113 (0, 0))) (v : Value) : (w.setCell ⟨g, 1, none⟩ v).heap[g]? = some (.cells #[s, v, y] 113 (0, 0)) := by
  have := heap_setCell_same w g 1 _ 113 v hb
  simpa using this

/-- The cursor behind a step: its block as it stands now, the bytes as they were. -/
theorem Cur.step {B g len cap b off : Nat} {a : Option Addr} {z : Nat → Int} {w w' : World} (hB : B ≤ g) (hb : 0 < len → b < B) (hlen : len ≤ 1048576)
    (hcode : ∀ j, j < len → a = some ⟨b, off, none⟩ ∧ w.cell? ⟨b, off + j, none⟩ = some (.int .u8 (z j)) ∧ 0 ≤ z j ∧ z j ≤ 255) (hg : w.grownBy w' (some g))
    {i : Nat} {h : Int} (hi : i ≤ len) (hblk : w'.heap[g]? = some (.cells #[.slice a len cap, .int .i64 (i : Int), .int .i64 h] 113 (0, 0))) : Cur B w' g a len cap b off z := by
  refine ⟨hB, hb, hlen, fun j hj => ?_, i, h, hi, hblk⟩
  obtain ⟨h1, h2, h3⟩ := hcode j hj
  exact ⟨h1, hg.cell h2 (by intro e; have := Option.some.inj e; simp only at this; have := hb (by omega); omega), h3⟩

set_option maxHeartbeats 1000000 in
set_option maxRecDepth 100000 in
theorem byte_any {B g len cap b off : Nat} {a : Option Addr} {z : Nat → Int} (w : World) (hc : Cur B w g a len cap b off z) :
    Calls Tryd.prog 67 #[.pointer (some ⟨g, 0, none⟩)] w fun e w' => ∃ x : Int, e = .returned (.int .i64 x) ∧ 0 ≤ x ∧ x ≤ 255 ∧ Cur B w' g a len cap b off z ∧ w.grownBy w' (some g) := by
  obtain ⟨hB, hb, hlen, hcode, i, h, hi, hblk⟩ := hc
  have c0 : w.cell? ⟨g, 0, none⟩ = some (.slice a len cap) := by simp [World.cell?, hblk]
  have c1 : w.cell? ⟨g, 1, none⟩ = some (.int .i64 (i : Int)) := by simp [World.cell?, hblk]
  have c2 : w.cell? ⟨g, 2, none⟩ = some (.int .i64 h) := by simp [World.cell?, hblk]
  have f1 : w.frozen? ⟨g, 1, none⟩ = false := by simp [World.frozen?, hblk]
  have f2 : w.frozen? ⟨g, 2, none⟩ = false := by simp [World.frozen?, hblk]
  have HB : Hid (w.heap[g]? = some (.cells #[.slice a len cap, .int .i64 (i : Int), .int .i64 h] 113 (0, 0))) := hblk
  have HC : Hid (∀ j, j < len → a = some ⟨b, off, none⟩ ∧ w.cell? ⟨b, off + j, none⟩ = some (.int .u8 (z j)) ∧ 0 ≤ z j ∧ z j ≤ 255) := hcode
  clear hblk hcode
  by_cases hlt : i < len
  · have hlti : (i : Int) < (len : Int) := by omega
    have hi0 : (0 : Int) ≤ (i : Int) := by omega
    obtain ⟨ea, hcell, hz0, hz1⟩ := HC.out i hlt
    subst ea
    have hbB := hb (by omega)
    have hne : ¬ b = g := by omega
    have hne2 : ¬ g = b := by omega
    go_enter Tryd.func67, Tryd.ntmps67
    go_wp2
    go_quiet (fail)
    go_wp2
    go_quiet (fail)
    go_wp2
    go_quiet (fail)
    go_wp2
    go_ret
    exact ⟨_, rfl, (and_bound _).1, (and_bound _).2, Cur.step (i := i + 1) hB hb hlen (fun j hj => ⟨rfl, (HC.out j hj).2⟩) ((grown_drewN (grown_set _ _ _ _) _).trans (grown_set _ _ _ _)) (by omega) (blk_set1 (w := World.drewN _ _) (blk_set2 HB.out _) _), (grown_drewN (grown_set _ _ _ _) _).trans (grown_set _ _ _ _)⟩
  · have hlti : ¬ (i : Int) < (len : Int) := by omega
    go_enter Tryd.func67, Tryd.ntmps67
    go_wp2
    go_quiet (fail)
    go_wp2
    go_quiet (fail)
    go_wp2
    go_ret
    exact ⟨_, rfl, (and_bound _).1, (and_bound _).2, Cur.step hB hb hlen HC.out (grown_drewN (grown_drewN (grown_set _ _ _ _) _) _) hi (blk_set2 HB.out _), grown_drewN (grown_drewN (grown_set _ _ _ _) _) _⟩

/-- Below: what comes is in 0 .. n-1, 0 where n is not above 0. -/
def InBelow (n x : Int) : Prop := 0 ≤ x ∧ (n ≤ 0 → x = 0) ∧ (0 < n → x < n)

theorem in_mod (x n : Int) (h : 0 < n) : InBelow n (x % n) := ⟨Int.emod_nonneg _ (by omega), fun h' => by omega, fun _ => Int.emod_lt_of_pos _ h⟩

set_option maxHeartbeats 1000000 in
set_option maxRecDepth 100000 in
theorem below_any {B g len cap b off : Nat} {a : Option Addr} {z : Nat → Int} (n : Int) (hn : n ≤ 9223372036854775807) (w : World) (hc : Cur B w g a len cap b off z) :
    Calls Tryd.prog 43 #[.pointer (some ⟨g, 0, none⟩), .int .i64 n] w fun e w' => ∃ x : Int, e = .returned (.int .i64 x) ∧ InBelow n x ∧ Cur B w' g a len cap b off z ∧ w.grownBy w' (some g) := by
  have HC : Hid (Cur B w g a len cap b off z) := hc
  have HN : Hid (n ≤ 9223372036854775807) := hn
  clear hc hn
  by_cases h0 : n ≤ 0
  · go_enter Tryd.func43, Tryd.ntmps43
    go_wp2
    go_ret
    exact ⟨0, rfl, ⟨by omega, fun _ => rfl, fun h => by omega⟩, HC.out, World.grownBy.refl _ _⟩
  · by_cases h1 : n ≤ 256
    · go_enter Tryd.func43, Tryd.ntmps43
      go_wp2_with (go_at_call 67; refine (byte_any _ HC.out).mono ?_; rintro e w1 ⟨x, rfl, hx0, hx1, hc1, hg1⟩)
      go_ret
      exact ⟨_, rfl, in_mod _ _ (by omega), hc1, hg1⟩
    · have hnz : ¬ n = 0 := by omega
      go_enter Tryd.func43, Tryd.ntmps43
      go_wp2_with fail
      refine (byte_any _ HC.out).mono ?_
      rintro e w1 ⟨x1, rfl, p0, p1, hc1, hg1⟩
      have HC1 : Hid (Cur B w1 g a len cap b off z) := hc1
      have HG1 : Hid (w.grownBy w1 (some g)) := hg1
      clear hc1 hg1 HC
      go_wp2_with fail
      refine (byte_any _ HC1.out).mono ?_
      rintro e w2 ⟨x2, rfl, q0, q1, hc2, hg2⟩
      have HC2 : Hid (Cur B w2 g a len cap b off z) := hc2
      have HG2 : Hid (w.grownBy w2 (some g)) := HG1.out.trans hg2
      clear hc2 hg2 HC1 HG1
      go_wp2_with fail
      refine (byte_any _ HC2.out).mono ?_
      rintro e w3 ⟨x3, rfl, r0, r1, hc3, hg3⟩
      have HC3 : Hid (Cur B w3 g a len cap b off z) := hc3
      have HG3 : Hid (w.grownBy w3 (some g)) := HG2.out.trans hg3
      clear hc3 hg3 HC2 HG2
      go_wp2_with fail
      refine (byte_any _ HC3.out).mono ?_
      rintro e w4 ⟨x4, rfl, s0, s1, hc4, hg4⟩
      have HC4 : Hid (Cur B w4 g a len cap b off z) := hc4
      have HG4 : Hid (w.grownBy w4 (some g)) := HG3.out.trans hg4
      clear hc4 hg4 HC3 HG3
      go_wp2
      go_ret
      exact ⟨_, rfl, in_mod _ _ (by omega), HC4.out, HG4.out⟩

/-- The bytes that came in. -/
def Code (B : Nat) (w : World) (a : Option Addr) (len b off : Nat) (z : Nat → Int) : Prop :=
  (0 < len → b < B) ∧ len ≤ 1048576 ∧ ∀ j, j < len → a = some ⟨b, off, none⟩ ∧ w.cell? ⟨b, off + j, none⟩ = some (.int .u8 (z j)) ∧ 0 ≤ z j ∧ z j ≤ 255

theorem new_cur {B cap len b off : Nat} {a : Option Addr} {z : Nat → Int} {w : World} (hc : Code B w a len b off z) (hB : B ≤ w.heap.size) (h : Int) :
    Cur B (w.alloc (.cells #[.slice a len cap, .int .i64 0, .int .i64 h] 113)) w.heap.size a len cap b off z :=
  Cur.step (i := 0) hB hc.1 hc.2.1 hc.2.2 (World.grownBy_alloc w _ _) (Nat.zero_le _) (heap_alloc_new w _)

set_option maxHeartbeats 1000000 in
set_option maxRecDepth 100000 in
theorem new_any {B cap len b off : Nat} {a : Option Addr} {z : Nat → Int} (w : World) (hB : B ≤ w.heap.size) (hc : Code B w a len b off z) :
    Calls Tryd.prog 41 #[.slice a len cap] w fun e w' => e = .returned (.pointer (some ⟨w.heap.size, 0, none⟩)) ∧ Cur B w' w.heap.size a len cap b off z ∧ Below w.heap.size w w' := by
  have HC : Hid (Code B w a len b off z) := hc
  have hlen := hc.2.1
  clear hc
  go_enter Tryd.func41, Tryd.ntmps41
  go_wp2
  go_loop [3, 4] (fun x i => ∃ (k : Nat) (h : Int), k ≤ len ∧ i = .int .i64 (k : Int) ∧ x = .int .i64 h ∧ 0 ≤ h ∧ h ≤ 1073741824) (fun _ i => len - (intOf i).toNat)
  case atStart => exact ⟨0, _, by omega, rfl, rfl, by omega, by omega⟩
  case round =>
    obtain ⟨k, h, hk, rfl, rfl, hh0, hh1⟩ := hrel
    by_cases hlt : k < len ∧ k < 4000
    · obtain ⟨hl1, hl2⟩ := hlt
      obtain ⟨ea, hcell, hz0, hz1⟩ := HC.out.2.2 k hl1
      subst ea
      have hk0 : (0 : Int) ≤ (k : Int) := by omega
      have hk1 : (k : Int) < (len : Int) := by omega
      have hk2 : (k : Int) < 4000 := by omega
      go_wp2
      go_round
      case rel => exact ⟨k + 1, _, by omega, by go_num, rfl, by rw [and30]; omega, by rw [and30]; omega⟩
      case measure => simp [intOf]; omega
    · by_cases hl1 : k < len
      · have hk1 : (k : Int) < (len : Int) := by omega
        have hk2 : ¬ (k : Int) < 4000 := by omega
        go_wp2
        go_ret
        exact ⟨rfl, new_cur HC.out hB h, (Below.refl _ _).alloc (Nat.le_refl _) _⟩
      · have hk1 : ¬ (k : Int) < (len : Int) := by omega
        go_wp2
        go_ret
        exact ⟨rfl, new_cur HC.out hB h, (Below.refl _ _).alloc (Nat.le_refl _) _⟩

theorem Cur.lt {B g len cap b off : Nat} {a : Option Addr} {z : Nat → Int} {w : World} (h : Cur B w g a len cap b off z) : g < w.heap.size := by
  obtain ⟨_, _, _, _, _, _, _, hblk⟩ := h
  exact (Array.getElem?_eq_some_iff.1 hblk).1

/-- The cursor stays while other blocks of the call's own are written. -/
theorem Cur.kept {B g len cap b off : Nat} {a : Option Addr} {z : Nat → Int} {w w' : World} {row : Option Nat} (h : Cur B w g a len cap b off z) (hg : w.grownBy w' row) (hr : ∀ r, row = some r → B ≤ r ∨ r = g) (hb : w'.heap[g]? = w.heap[g]?) : Cur B w' g a len cap b off z := by
  obtain ⟨hB, hbb, hlen, hcode, i, x, hi, hblk⟩ := h
  refine ⟨hB, hbb, hlen, fun j hj => ?_, i, x, hi, hb.trans hblk⟩
  obtain ⟨h1, h2, h3⟩ := hcode j hj
  refine ⟨h1, hg.cell h2 (fun e => ?_), h3⟩
  have := hbb (by omega)
  have := hr b e.symm
  omega

end Go.Proofs.YtpedpdgkbmpfjaaDoor
