/- The law FnNumbers, walked: it answers true at all bytes. -/
import Derived.Test.YtbajccpnkgdfpaaDoorBack
import Derived.Test.YtbajccpnkgdfpaaDoorDraw2
namespace Go.Proofs.YtbajccpnkgdfpaaDoor
open Go.RowKit

set_option maxHeartbeats 4000000 in
set_option maxRecDepth 100000 in
theorem lawNum_any {cap len b off : Nat} {a : Option Addr} {z : Nat → Int} (w : World) (hc : Code w.heap.size w a len b off z) (hp : Pow w) :
    Calls Tryd.prog 3 #[.slice a len cap] w fun e w' => e = .returned (.bool true) ∧ Below w.heap.size w w' := by
  have HC : Hid (Code w.heap.size w a len b off z) := hc
  have HP : Hid (Pow w) := hp
  have hlen := hc.2.1
  clear hc hp
  go_enter Tryd.func3, Tryd.ntmps3
  go_wp2_with fail
  refine (big_any a len cap hlen _).mono ?_
  rintro e w0 ⟨rfl, hw0⟩
  subst hw0
  go_wp2_with fail
  refine (drawVar_any _ (Nat.le_refl _) HC.out).mono ?_
  rintro e w1 ⟨X, rfl, hX0, hX1, hB1⟩
  by_cases r0 : 0 ≤ X
  · by_cases r1 : X ≤ 1000000000
    · clear hX0 hX1
      have q0 : ¬ X < 0 := by omega
      have q1 : ¬ 1000000000 < X := by omega
      go_wp2_with fail
      obtain ⟨V, HV⟩ : ∃ V, Hid (V = Words.var X.toNat) := ⟨Words.var X.toNat, (rfl : Words.var X.toNat = Words.var X.toNat)⟩
      obtain ⟨D, HD⟩ : ∃ D, Hid (D = Words.dec X.toNat) := ⟨Words.dec X.toNat, (rfl : Words.dec X.toNat = Words.dec X.toNat)⟩
      have hVl := len_var r0 r1 HV.out
      refine (back_var r0 r1 HV.out _).mono ?_
      rintro e w2 ⟨rfl, hb2⟩
      have hB2 : Below w.heap.size w w2 := hB1.trans (hb2.mono hB1.size)
      clear hb2 hB1
      go_wp2_with fail
      refine (back_read r0 r1 HV.out _).mono ?_
      rintro e w2' ⟨rfl, hw2⟩
      subst hw2
      go_wp2_with fail
      refine (back_dec r0 r1 HD.out _ (HP.out.below hB2)).mono ?_
      rintro e w3 ⟨rfl, hb3⟩
      have hB3 : Below w.heap.size w w3 := hB2.trans (hb3.mono hB2.size)
      clear hb3 hB2
      go_wp2_with fail
      refine (back_rd r0 r1 HD.out _).mono ?_
      rintro e w3' ⟨rfl, hw3⟩
      subst hw3
      go_wp2_with fail
      refine (drawHex_any _ hB3.size (HC.out.below hB3)).mono ?_
      rintro e w4 ⟨S, rfl, hS, hb4⟩
      have hB4 : Below w.heap.size w w4 := hB3.trans (hb4.mono hB3.size)
      clear hb4 hB3
      by_cases h300 : S.size ≤ 300
      · have h3 : ¬ (300 : Int) < (S.size : Int) := by omega
        have ht := h300
        obtain ⟨A, HA⟩ : ∃ A, Hid (A = ⟨(Words.var S.size).toArray⟩ ++ S) := ⟨_, (rfl : (⟨(Words.var S.size).toArray⟩ ++ S : ByteArray) = _)⟩
        obtain ⟨G, HG⟩ : ∃ G, Hid (G = Words.hex S.data.toList) := ⟨_, (rfl : Words.hex S.data.toList = _)⟩
        go_wp2_with fail
        refine (back_short ht HA.out _).mono ?_
        rintro e w5 ⟨rfl, hb5⟩
        have hB5 : Below w.heap.size w w5 := hB4.trans (hb5.mono hB4.size)
        clear hb5 hB4
        go_wp2_with fail
        refine (back_rs ht HA.out _).mono ?_
        rintro e w6 ⟨rfl, hb6⟩
        have hB6 : Below w.heap.size w w6 := hB5.trans (hb6.mono hB5.size)
        clear hb6 hB5
        go_wp2_with fail
        refine (back_hex ht HG.out _).mono ?_
        rintro e w7 ⟨rfl, hb7⟩
        have hB7 : Below w.heap.size w w7 := hB6.trans (hb7.mono hB6.size)
        clear hb7 hB6
        go_wp2_with fail
        refine (back_unhex ht HG.out _).mono ?_
        rintro e w8 ⟨rfl, hb8⟩
        have hB8 : Below w.heap.size w w8 := hB7.trans (hb8.mono hB7.size)
        clear hb8 hB7
        go_wp2
        go_ret
        exact ⟨rfl, hB8⟩
      · have h3 : (300 : Int) < (S.size : Int) := by omega
        obtain ⟨t, HT, ht⟩ : ∃ t : ByteArray, Hid ((⟨#[97, 98, 99]⟩ : ByteArray) = t) ∧ t.size ≤ 300 := ⟨⟨#[97, 98, 99]⟩, (rfl : (⟨#[97, 98, 99]⟩ : ByteArray) = _), by decide⟩
        obtain ⟨A, HA⟩ : ∃ A, Hid (A = ⟨(Words.var t.size).toArray⟩ ++ t) := ⟨_, (rfl : (⟨(Words.var t.size).toArray⟩ ++ t : ByteArray) = _)⟩
        obtain ⟨G, HG⟩ : ∃ G, Hid (G = Words.hex t.data.toList) := ⟨_, (rfl : Words.hex t.data.toList = _)⟩
        go_wp2_with fail
        rw [HT.out]
        refine (back_short ht HA.out _).mono ?_
        rintro e w5 ⟨rfl, hb5⟩
        have hB5 : Below w.heap.size w w5 := hB4.trans (hb5.mono hB4.size)
        clear hb5 hB4
        go_wp2_with fail
        refine (back_rs ht HA.out _).mono ?_
        rintro e w6 ⟨rfl, hb6⟩
        have hB6 : Below w.heap.size w w6 := hB5.trans (hb6.mono hB5.size)
        clear hb6 hB5
        go_wp2_with fail
        refine (back_hex ht HG.out _).mono ?_
        rintro e w7 ⟨rfl, hb7⟩
        have hB7 : Below w.heap.size w w7 := hB6.trans (hb7.mono hB6.size)
        clear hb7 hB6
        go_wp2_with fail
        refine (back_unhex ht HG.out _).mono ?_
        rintro e w8 ⟨rfl, hb8⟩
        have hB8 : Below w.heap.size w w8 := hB7.trans (hb8.mono hB7.size)
        clear hb8 hB7
        go_wp2
        go_ret
        exact ⟨rfl, hB8⟩
    · clear hX0 hX1
      have q0 : ¬ X < 0 := by omega
      have q1 : 1000000000 < X := by omega
      go_wp2_with fail
      clear q0 q1 r0 r1
      obtain ⟨Y, HY, r0, r1⟩ : ∃ Y : Int, Hid ((12345 : Int) = Y) ∧ 0 ≤ Y ∧ Y ≤ 1000000000 := ⟨12345, (rfl : (12345 : Int) = 12345), by omega, by omega⟩
      rw [HY.out]
      clear HY
      obtain ⟨V, HV⟩ : ∃ V, Hid (V = Words.var Y.toNat) := ⟨Words.var Y.toNat, (rfl : Words.var Y.toNat = Words.var Y.toNat)⟩
      obtain ⟨D, HD⟩ : ∃ D, Hid (D = Words.dec Y.toNat) := ⟨Words.dec Y.toNat, (rfl : Words.dec Y.toNat = Words.dec Y.toNat)⟩
      have hVl := len_var r0 r1 HV.out
      refine (back_var r0 r1 HV.out _).mono ?_
      rintro e w2 ⟨rfl, hb2⟩
      have hB2 : Below w.heap.size w w2 := hB1.trans (hb2.mono hB1.size)
      clear hb2 hB1
      go_wp2_with fail
      refine (back_read r0 r1 HV.out _).mono ?_
      rintro e w2' ⟨rfl, hw2⟩
      subst hw2
      go_wp2_with fail
      refine (back_dec r0 r1 HD.out _ (HP.out.below hB2)).mono ?_
      rintro e w3 ⟨rfl, hb3⟩
      have hB3 : Below w.heap.size w w3 := hB2.trans (hb3.mono hB2.size)
      clear hb3 hB2
      go_wp2_with fail
      refine (back_rd r0 r1 HD.out _).mono ?_
      rintro e w3' ⟨rfl, hw3⟩
      subst hw3
      go_wp2_with fail
      refine (drawHex_any _ hB3.size (HC.out.below hB3)).mono ?_
      rintro e w4 ⟨S, rfl, hS, hb4⟩
      have hB4 : Below w.heap.size w w4 := hB3.trans (hb4.mono hB3.size)
      clear hb4 hB3
      by_cases h300 : S.size ≤ 300
      · have h3 : ¬ (300 : Int) < (S.size : Int) := by omega
        have ht := h300
        obtain ⟨A, HA⟩ : ∃ A, Hid (A = ⟨(Words.var S.size).toArray⟩ ++ S) := ⟨_, (rfl : (⟨(Words.var S.size).toArray⟩ ++ S : ByteArray) = _)⟩
        obtain ⟨G, HG⟩ : ∃ G, Hid (G = Words.hex S.data.toList) := ⟨_, (rfl : Words.hex S.data.toList = _)⟩
        go_wp2_with fail
        refine (back_short ht HA.out _).mono ?_
        rintro e w5 ⟨rfl, hb5⟩
        have hB5 : Below w.heap.size w w5 := hB4.trans (hb5.mono hB4.size)
        clear hb5 hB4
        go_wp2_with fail
        refine (back_rs ht HA.out _).mono ?_
        rintro e w6 ⟨rfl, hb6⟩
        have hB6 : Below w.heap.size w w6 := hB5.trans (hb6.mono hB5.size)
        clear hb6 hB5
        go_wp2_with fail
        refine (back_hex ht HG.out _).mono ?_
        rintro e w7 ⟨rfl, hb7⟩
        have hB7 : Below w.heap.size w w7 := hB6.trans (hb7.mono hB6.size)
        clear hb7 hB6
        go_wp2_with fail
        refine (back_unhex ht HG.out _).mono ?_
        rintro e w8 ⟨rfl, hb8⟩
        have hB8 : Below w.heap.size w w8 := hB7.trans (hb8.mono hB7.size)
        clear hb8 hB7
        go_wp2
        go_ret
        exact ⟨rfl, hB8⟩
      · have h3 : (300 : Int) < (S.size : Int) := by omega
        obtain ⟨t, HT, ht⟩ : ∃ t : ByteArray, Hid ((⟨#[97, 98, 99]⟩ : ByteArray) = t) ∧ t.size ≤ 300 := ⟨⟨#[97, 98, 99]⟩, (rfl : (⟨#[97, 98, 99]⟩ : ByteArray) = _), by decide⟩
        obtain ⟨A, HA⟩ : ∃ A, Hid (A = ⟨(Words.var t.size).toArray⟩ ++ t) := ⟨_, (rfl : (⟨(Words.var t.size).toArray⟩ ++ t : ByteArray) = _)⟩
        obtain ⟨G, HG⟩ : ∃ G, Hid (G = Words.hex t.data.toList) := ⟨_, (rfl : Words.hex t.data.toList = _)⟩
        go_wp2_with fail
        rw [HT.out]
        refine (back_short ht HA.out _).mono ?_
        rintro e w5 ⟨rfl, hb5⟩
        have hB5 : Below w.heap.size w w5 := hB4.trans (hb5.mono hB4.size)
        clear hb5 hB4
        go_wp2_with fail
        refine (back_rs ht HA.out _).mono ?_
        rintro e w6 ⟨rfl, hb6⟩
        have hB6 : Below w.heap.size w w6 := hB5.trans (hb6.mono hB5.size)
        clear hb6 hB5
        go_wp2_with fail
        refine (back_hex ht HG.out _).mono ?_
        rintro e w7 ⟨rfl, hb7⟩
        have hB7 : Below w.heap.size w w7 := hB6.trans (hb7.mono hB6.size)
        clear hb7 hB6
        go_wp2_with fail
        refine (back_unhex ht HG.out _).mono ?_
        rintro e w8 ⟨rfl, hb8⟩
        have hB8 : Below w.heap.size w w8 := hB7.trans (hb8.mono hB7.size)
        clear hb8 hB7
        go_wp2
        go_ret
        exact ⟨rfl, hB8⟩
  · clear hX0 hX1
    have q0 : X < 0 := by omega
    go_wp2_with fail
    clear q0 r0
    obtain ⟨Y, HY, r0, r1⟩ : ∃ Y : Int, Hid ((12345 : Int) = Y) ∧ 0 ≤ Y ∧ Y ≤ 1000000000 := ⟨12345, (rfl : (12345 : Int) = 12345), by omega, by omega⟩
    rw [HY.out]
    clear HY
    obtain ⟨V, HV⟩ : ∃ V, Hid (V = Words.var Y.toNat) := ⟨Words.var Y.toNat, (rfl : Words.var Y.toNat = Words.var Y.toNat)⟩
    obtain ⟨D, HD⟩ : ∃ D, Hid (D = Words.dec Y.toNat) := ⟨Words.dec Y.toNat, (rfl : Words.dec Y.toNat = Words.dec Y.toNat)⟩
    have hVl := len_var r0 r1 HV.out
    refine (back_var r0 r1 HV.out _).mono ?_
    rintro e w2 ⟨rfl, hb2⟩
    have hB2 : Below w.heap.size w w2 := hB1.trans (hb2.mono hB1.size)
    clear hb2 hB1
    go_wp2_with fail
    refine (back_read r0 r1 HV.out _).mono ?_
    rintro e w2' ⟨rfl, hw2⟩
    subst hw2
    go_wp2_with fail
    refine (back_dec r0 r1 HD.out _ (HP.out.below hB2)).mono ?_
    rintro e w3 ⟨rfl, hb3⟩
    have hB3 : Below w.heap.size w w3 := hB2.trans (hb3.mono hB2.size)
    clear hb3 hB2
    go_wp2_with fail
    refine (back_rd r0 r1 HD.out _).mono ?_
    rintro e w3' ⟨rfl, hw3⟩
    subst hw3
    go_wp2_with fail
    refine (drawHex_any _ hB3.size (HC.out.below hB3)).mono ?_
    rintro e w4 ⟨S, rfl, hS, hb4⟩
    have hB4 : Below w.heap.size w w4 := hB3.trans (hb4.mono hB3.size)
    clear hb4 hB3
    by_cases h300 : S.size ≤ 300
    · have h3 : ¬ (300 : Int) < (S.size : Int) := by omega
      have ht := h300
      obtain ⟨A, HA⟩ : ∃ A, Hid (A = ⟨(Words.var S.size).toArray⟩ ++ S) := ⟨_, (rfl : (⟨(Words.var S.size).toArray⟩ ++ S : ByteArray) = _)⟩
      obtain ⟨G, HG⟩ : ∃ G, Hid (G = Words.hex S.data.toList) := ⟨_, (rfl : Words.hex S.data.toList = _)⟩
      go_wp2_with fail
      refine (back_short ht HA.out _).mono ?_
      rintro e w5 ⟨rfl, hb5⟩
      have hB5 : Below w.heap.size w w5 := hB4.trans (hb5.mono hB4.size)
      clear hb5 hB4
      go_wp2_with fail
      refine (back_rs ht HA.out _).mono ?_
      rintro e w6 ⟨rfl, hb6⟩
      have hB6 : Below w.heap.size w w6 := hB5.trans (hb6.mono hB5.size)
      clear hb6 hB5
      go_wp2_with fail
      refine (back_hex ht HG.out _).mono ?_
      rintro e w7 ⟨rfl, hb7⟩
      have hB7 : Below w.heap.size w w7 := hB6.trans (hb7.mono hB6.size)
      clear hb7 hB6
      go_wp2_with fail
      refine (back_unhex ht HG.out _).mono ?_
      rintro e w8 ⟨rfl, hb8⟩
      have hB8 : Below w.heap.size w w8 := hB7.trans (hb8.mono hB7.size)
      clear hb8 hB7
      go_wp2
      go_ret
      exact ⟨rfl, hB8⟩
    · have h3 : (300 : Int) < (S.size : Int) := by omega
      obtain ⟨t, HT, ht⟩ : ∃ t : ByteArray, Hid ((⟨#[97, 98, 99]⟩ : ByteArray) = t) ∧ t.size ≤ 300 := ⟨⟨#[97, 98, 99]⟩, (rfl : (⟨#[97, 98, 99]⟩ : ByteArray) = _), by decide⟩
      obtain ⟨A, HA⟩ : ∃ A, Hid (A = ⟨(Words.var t.size).toArray⟩ ++ t) := ⟨_, (rfl : (⟨(Words.var t.size).toArray⟩ ++ t : ByteArray) = _)⟩
      obtain ⟨G, HG⟩ : ∃ G, Hid (G = Words.hex t.data.toList) := ⟨_, (rfl : Words.hex t.data.toList = _)⟩
      go_wp2_with fail
      rw [HT.out]
      refine (back_short ht HA.out _).mono ?_
      rintro e w5 ⟨rfl, hb5⟩
      have hB5 : Below w.heap.size w w5 := hB4.trans (hb5.mono hB4.size)
      clear hb5 hB4
      go_wp2_with fail
      refine (back_rs ht HA.out _).mono ?_
      rintro e w6 ⟨rfl, hb6⟩
      have hB6 : Below w.heap.size w w6 := hB5.trans (hb6.mono hB5.size)
      clear hb6 hB5
      go_wp2_with fail
      refine (back_hex ht HG.out _).mono ?_
      rintro e w7 ⟨rfl, hb7⟩
      have hB7 : Below w.heap.size w w7 := hB6.trans (hb7.mono hB6.size)
      clear hb7 hB6
      go_wp2_with fail
      refine (back_unhex ht HG.out _).mono ?_
      rintro e w8 ⟨rfl, hb8⟩
      have hB8 : Below w.heap.size w w8 := hB7.trans (hb8.mono hB7.size)
      clear hb8 hB7
      go_wp2
      go_ret
      exact ⟨rfl, hB8⟩

set_option maxHeartbeats 400000 in
theorem lawNum_big {cap len : Nat} {a : Option Addr} (w : World) (hl : 1048576 < len) :
    Calls Tryd.prog 3 #[.slice a len cap] w fun e w' => e = .returned (.bool true) ∧ Below w.heap.size w w' := by
  go_enter Tryd.func3, Tryd.ntmps3
  go_wp2_with (go_at_call 5; refine (big_yes a len cap hl _).mono ?_; rintro e w0 ⟨rfl, rfl⟩)
  go_ret
  exact ⟨rfl, Below.refl _ _⟩
end Go.Proofs.YtbajccpnkgdfpaaDoor
