/- The call of DrawHex, walked: a text of at most 30000 bytes; big of the laws. -/
import Derived.Test.YteaioippomkliaaDrawPlaces
namespace Go.Proofs.Yteaioippomkliaa
open Go.RowKit

set_option maxHeartbeats 400000 in
theorem once_any {B g len cap b off : Nat} {a : Option Addr} {z : Nat → Int} (n : Int) (hn : n ≤ 9223372036854775807) (w : World) (hc : Cur B w g a len cap b off z) :
    Calls Try.prog 27 #[.pointer (some ⟨g, 0, none⟩), .int .i64 n] w fun e w' => ∃ x : Int, e = .returned (.bool (x == 0)) ∧ Cur B w' g a len cap b off z ∧ w.grownBy w' (some g) := by
  have HC : Hid (Cur B w g a len cap b off z) := hc
  have HN : Hid (n ≤ 9223372036854775807) := hn
  clear hc hn
  go_enter Try.func27, Try.ntmps27
  go_wp2_with (go_at_call 26; refine (below_any n HN.out _ HC.out).mono ?_; rintro e w1 ⟨x, rfl, hx, hc1, hg1⟩)
  go_ret
  exact ⟨x, rfl, hc1, hg1⟩


theorem made_bytes (n : Nat) : (madeCells #[Value.int .u8 0] n).toList = cellsB (List.replicate n 0) := by
  rw [toList_madeCells_one]
  simp [cellsB]

theorem set_bytes (pre : List UInt8) (j : Nat) (c : UInt8) : (cellsB pre).set j (.int .u8 (c.toNat : Int)) = cellsB (pre.set j c) := by
  simp [cellsB, List.map_set]


set_option maxHeartbeats 1000000 in
set_option maxRecDepth 100000 in
theorem long_any (n : Nat) (hn : n ≤ 30000) (w : World) :
    Calls Try.prog 28 #[.int .i64 (n : Int), .int .u8 200] w fun e w' => ∃ S : ByteArray, e = .returned (.string S) ∧ S.size = n ∧ Below w.heap.size w w' := by
  obtain ⟨i0, hi, hz0, hz1, hz2⟩ := info_parts Try.info5
  go_enter Try.func28, Try.ntmps28
  go_wp2_with (at_make; refine wpList_make_full _ rfl _ _ 22 rfl w.heap.size 5 i0 (.int .u8 0) 1 Try.underlying22 hi hz0 hz1 _ _ _ _ n rfl rfl (by omega) (by omega) ?b2 ?b3 (Nat.le_refl _) ?_)
  case b2 => rw [hz2]; omega
  case b3 => unfold maxLen; omega
  intro w0 hown0 hgrow0
  have hbel0 : Below w.heap.size w w0 := (Below.refl _ _).grown hgrow0 (Nat.le_refl _) (by simp)
  rw [made_bytes] at hown0
  clear hgrow0
  go_wp2
  go_loopw [6] (fun i wr => ∃ (k : Nat) (pre : List UInt8), k ≤ n ∧ i = .int .i64 (k : Int) ∧ pre.length = n ∧ wr.ownsRow w.heap.size 5 1 (.slice (some ⟨w.heap.size, 0, none⟩) n n) n (cellsB pre) ∧ Below w.heap.size w wr)
    (fun i _ => n - (intOf i).toNat)
  case atStart => exact ⟨0, _, by omega, rfl, by simp, hown0, hbel0⟩
  case round =>
    obtain ⟨k, pre, hk, rfl, hlen, hown, hbel⟩ := hrel
    have HL : Hid (pre.length = n) := hlen
    clear hlen hown0 hbel0
    by_cases hlt : k < n
    · have hk0 : (0 : Int) ≤ (k : Int) := by omega
      have hk1 : (k : Int) < (n : Int) := by omega
      have hfz := hown.frozenAt k
      obtain ⟨u0, hcl⟩ : ∃ u0, wr.cell? ⟨w.heap.size, k, none⟩ = some u0 := by
        rw [hown.cellAt k (by omega)]
        exact ⟨_, List.getElem?_eq_getElem (by have := hown.1; omega)⟩
      have hst := hown.stored k (.int .u8 ((200 : UInt8).toNat : Int))
      rw [set_bytes] at hst
      have HS : Hid (_ ∧ _) := hst
      clear hst
      go_wp2
      go_roundw
      case rel => exact ⟨k + 1, pre.set k 200, by omega, by go_num, by rw [List.length_set]; exact HL.out, HS.out.1, hbel.setCell (Nat.le_refl _) _⟩
      case measure => simp [intOf]; omega
    · have hk1 : ¬ (k : Int) < (n : Int) := by omega
      have hcv := string_own (base := w.heap.size) (v := .slice (some ⟨w.heap.size, 0, none⟩) n n) (l := pre) (by rw [HL.out]; exact hown)
      go_wp2
      go_ret
      exact ⟨_, rfl, by rw [show (⟨pre.toArray⟩ : ByteArray).size = pre.length from by simp [ByteArray.size], HL.out], hbel⟩


theorem long_int (x : Int) (h0 : 0 ≤ x) (h1 : x ≤ 30000) (w : World) :
    Calls Try.prog 28 #[.int .i64 x, .int .u8 200] w fun e w' => ∃ S : ByteArray, e = .returned (.string S) ∧ S.size ≤ 30000 ∧ Below w.heap.size w w' := by
  have h := long_any x.toNat (by omega) w
  rw [Int.toNat_of_nonneg h0] at h
  exact h.mono fun e w' ⟨S, h1, h2, h3⟩ => ⟨S, h1, by omega, h3⟩


set_option maxHeartbeats 1000000 in
set_option maxRecDepth 100000 in
theorem drawHex_any {B cap len b off : Nat} {a : Option Addr} {z : Nat → Int} (w : World) (hB : B ≤ w.heap.size) (hc : Code B w a len b off z) :
    Calls Try.prog 9 #[.slice a len cap] w fun e w' => ∃ S : ByteArray, e = .returned (.string S) ∧ S.size ≤ 30000 ∧ Below w.heap.size w w' := by
  have HC : Hid (Code B w a len b off z) := hc
  clear hc
  go_enter Try.func9, Try.ntmps9
  go_wp2_with fail
  refine (new_any w hB HC.out).mono ?_
  rintro e w1 ⟨rfl, hc1, hb1⟩
  go_wp2_with fail
  refine (once_any 60 (by omega) w1 hc1).mono ?_
  rintro e w2 ⟨x, rfl, hc2, hg2⟩
  have hb2 : Below w.heap.size w w2 := hb1.grown hg2 hb1.size (fun k hk => by cases hk; exact Nat.le_refl _)
  clear hc1 hb1 hg2
  by_cases hx : x = 0
  · have hx0 : (x == 0) = true := by simp [hx]
    clear hx
    go_wp2_with fail
    refine (below_any 2 (by omega) w2 hc2).mono ?_
    rintro e w3 ⟨y, rfl, ⟨hy0, _, hy2⟩, hc3, hg3⟩
    have hy3 := hy2 (by omega)
    have hb3 : Below w.heap.size w w3 := hb2.grown hg3 hb2.size (fun k hk => by cases hk; exact Nat.le_refl _)
    obtain ⟨m, rfl⟩ := Int.eq_ofNat_of_zero_le hy0
    clear hc2 hb2 hg3 hy2
    go_wp2_with fail
    refine (long_int (20000 + (m : Int)) (by omega) (by omega) w3).mono ?_
    rintro e w4 ⟨S, rfl, hS, hb4⟩
    have HS : Hid (S.size ≤ 30000) := hS
    clear hS
    go_wp2
    go_ret
    exact ⟨S, rfl, HS.out, hb3.trans (hb4.mono hb3.size)⟩
  · have hx0 : (x == 0) = false := by simp [hx]
    clear hx
    go_wp2_with fail
    refine (below_any 30 (by omega) w2 hc2).mono ?_
    rintro e w3 ⟨y, rfl, ⟨hy0, _, hy2⟩, hc3, hg3⟩
    have hy3 := hy2 (by omega)
    have hb3 : Below w.heap.size w w3 := hb2.grown hg3 hb2.size (fun k hk => by cases hk; exact Nat.le_refl _)
    obtain ⟨m, rfl⟩ := Int.eq_ofNat_of_zero_le hy0
    clear hc2 hb2 hg3 hy2
    go_wp2_with fail
    refine (text_any m (by omega) w3 hc3).mono ?_
    rintro e w4 ⟨S, rfl, hS, _, hg4⟩
    have HS : Hid (S.size ≤ 30000) := by show _ ≤ _; omega
    have hb4 : Below w.heap.size w w4 := hb3.grown hg4 hb3.size (fun k hk => by cases hk; exact Nat.le_refl _)
    clear hS
    go_wp2
    go_ret
    exact ⟨S, rfl, HS.out, hb4⟩

set_option maxHeartbeats 400000 in
theorem big_no (a : Option Addr) (len cap : Nat) (h : len ≤ 1048576) (w : World) :
    Calls Try.prog 7 #[.slice a len cap] w fun e w' => e = .returned (.bool false) ∧ w = w' := by
  have h1 : ¬ (1048576 : Int) < (len : Int) := by omega
  go_enter Try.func7, Try.ntmps7
  go_wp2
  go_ret
  exact ⟨rfl, rfl⟩
set_option maxHeartbeats 400000 in
theorem big_yes (a : Option Addr) (len cap : Nat) (h : 1048576 < len) (w : World) :
    Calls Try.prog 7 #[.slice a len cap] w fun e w' => e = .returned (.bool true) ∧ w = w' := by
  have h1 : (1048576 : Int) < (len : Int) := by omega
  go_enter Try.func7, Try.ntmps7
  go_wp2
  go_ret
  exact ⟨rfl, rfl⟩
end Go.Proofs.Yteaioippomkliaa
