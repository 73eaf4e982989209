/- The program's calls on what they have written themselves: it is read back. -/
import Derived.Test.YtbajccpnkgdfpaaDoorMathBack
import Derived.Test.YtbajccpnkgdfpaaDoorShortImpl
import Derived.Test.YtbajccpnkgdfpaaDoorHexImpl
import Derived.Test.YtbajccpnkgdfpaaDoorUnhexImpl
import Derived.Test.YtbajccpnkgdfpaaDoorRDImpl
import Derived.Test.YtbajccpnkgdfpaaDoorItoa
import Derived.Test.YtbajccpnkgdfpaaDoorTab
namespace Go.Proofs.YtbajccpnkgdfpaaDoor
open Go.RowKit

theorem data_app (a b : ByteArray) : (a ++ b).data.toList = a.data.toList ++ b.data.toList := by simp
theorem size_len (a : ByteArray) : a.size = a.data.toList.length := rfl
theorem size_mk (l : List UInt8) : (⟨l.toArray⟩ : ByteArray).size = l.length := by simp [ByteArray.size]
theorem data_mk (l : List UInt8) : (⟨l.toArray⟩ : ByteArray).data.toList = l := by simp

theorem back_var {X : Int} {V : List UInt8} (h0 : 0 ≤ X) (h1 : X ≤ 1000000000) (hV : V = Words.var X.toNat) (w : World) :
    Calls Tryd.prog 7 #[.int .i64 X] w fun e w' => e = .returned (.tuple #[.string ⟨V.toArray⟩, .bool true]) ∧ Below w.heap.size w w' := by
  have h := implVar_yes X.toNat (by omega) w
  rw [Int.toNat_of_nonneg h0, ← hV] at h
  exact h
theorem len_var {X : Int} {V : List UInt8} (h0 : 0 ≤ X) (h1 : X ≤ 1000000000) (hV : V = Words.var X.toNat) : V.length ≤ 1000 := by
  have e := Words.var_back 4 X.toNat 0 0 [] (by omega) (by omega) (Or.inl rfl)
  have : ∀ (f : Nat) (l : List UInt8) (k n N K : Nat), Words.rdF f l k n = some (N, K) → K ≤ k + f := by
    intro f
    induction f with
    | zero => intro l k n N K h; simp [Words.rdF] at h
    | succ f ih =>
      intro l k n N K h
      cases l with
      | nil => simp [Words.rdF] at h
      | cons b r =>
        rw [Words.rdF] at h
        split at h
        · split at h
          · simp at h
          · simp only [Option.some.injEq, Prod.mk.injEq] at h; omega
        · have := ih r (k + 1) _ N K h; omega
  have := this _ _ _ _ _ _ e
  rw [hV]; omega
theorem back_read {X : Int} {V : List UInt8} (h0 : 0 ≤ X) (h1 : X ≤ 1000000000) (hV : V = Words.var X.toNat) (w : World) :
    Calls Tryd.prog 8 #[.string ((⟨#[120]⟩ : ByteArray) ++ ⟨V.toArray⟩ ++ ⟨#[121]⟩), .int .i64 1] w fun e w' => e = .returned (.tuple #[.int .i64 X, .int .i64 ((V.length : Int) + 1), .bool true]) ∧ w = w' := by
  have hl := len_var h0 h1 hV
  have hd : ((⟨#[120]⟩ : ByteArray) ++ ⟨V.toArray⟩ ++ ⟨#[121]⟩).data.toList = [120] ++ (V ++ [121]) := by rw [data_app, data_app, data_mk]; simp
  have hs : ((⟨#[120]⟩ : ByteArray) ++ ⟨V.toArray⟩ ++ ⟨#[121]⟩).size = V.length + 2 := by rw [size_len, hd]; simp
  have hr : rdZ ((⟨#[120]⟩ : ByteArray) ++ ⟨V.toArray⟩ ++ ⟨#[121]⟩) 1 = some (X.toNat, V.length + 1) := by
    have e := Words.rd_back X.toNat (by omega) [120] [121]
    unfold rdZ
    rw [if_pos ⟨by omega, by rw [hs]; omega⟩, hd, hV]
    rw [show (1 : Int).toNat = [(120 : UInt8)].length from rfl, e]
    simp only [List.length_cons, List.length_nil]
    congr 2
    omega
  have h := implRead_some (by rw [hs]; omega) hr w
  rw [Int.toNat_of_nonneg h0] at h
  exact h.mono fun e w' hh => ⟨hh.1, hh.2.symm⟩
theorem back_itoa {X : Int} (h0 : 0 ≤ X) : Lib.itoa X = Words.dec X.toNat := by
  rw [Lib.itoa, if_neg (by omega), ← dec_lib X.toNat X.toNat (Nat.le_refl _)]
theorem back_dec {X : Int} {D : List UInt8} (h0 : 0 ≤ X) (h1 : X ≤ 1000000000) (hD : D = Words.dec X.toNat) (w : World) (hp : Pow w) :
    Calls Tryd.prog 10 #[.int .i64 X] w fun e w' => e = .returned (.string ⟨D.toArray⟩) ∧ Below w.heap.size w w' := by
  have h := implDec_any X (by omega) (by omega) w hp
  rw [back_itoa h0, ← hD] at h
  exact h
theorem back_rd {X : Int} {D : List UInt8} (h0 : 0 ≤ X) (h1 : X ≤ 1000000000) (hD : D = Words.dec X.toNat) (w : World) :
    Calls Tryd.prog 9 #[.string ⟨D.toArray⟩] w fun e w' => e = .returned (.tuple #[.int .i64 X, .bool true]) ∧ w = w' := by
  have hl := Words.dec_len X.toNat (by omega)
  have h := implRD_some (s := ⟨D.toArray⟩) (n := X.toNat) (by rw [size_mk, hD]; omega) (by rw [data_mk, hD]; exact Words.dec_back _ (by omega)) w
  rw [Int.toNat_of_nonneg h0] at h
  exact h
theorem back_short {t A : ByteArray} (ht : t.size ≤ 300) (hA : A = ⟨(Words.var t.size).toArray⟩ ++ t) (w : World) :
    Calls Tryd.prog 12 #[.string t] w fun e w' => e = .returned (.tuple #[.string A, .bool true]) ∧ Below w.heap.size w w' := by
  rw [hA]; exact implShort_yes t (by omega) w
theorem back_rs {t A : ByteArray} (ht : t.size ≤ 300) (hA : A = ⟨(Words.var t.size).toArray⟩ ++ t) (w : World) :
    Calls Tryd.prog 13 #[.string A, .int .i64 0] w fun e w' => e = .returned (.tuple #[.string t, .int .i64 (A.size : Int), .bool true]) ∧ Below w.heap.size w w' := by
  have hd : A.data.toList = Words.var t.size ++ t.data.toList := by rw [hA, data_app, data_mk]
  have hv := len_var (X := (t.size : Int)) (V := Words.var t.size) (by omega) (by omega) (by rw [Int.toNat_natCast])
  have hs : A.size = (Words.var t.size).length + t.size := by rw [size_len, hd, List.length_append, ← size_len]
  have hr : rdZ A 0 = some (t.size, (Words.var t.size).length) := by
    have e := Words.rd_back t.size (by omega) [] t.data.toList
    unfold rdZ
    rw [if_pos ⟨by omega, by omega⟩, hd]
    simpa using e
  have h := implRS_yes (by omega) hr (by omega) (by omega) w
  have e1 : A.extract (Words.var t.size).length ((Words.var t.size).length + t.size) = t := by
    have := Words.extract_list A (Words.var t.size).length ((Words.var t.size).length + t.size)
    rw [hd, List.drop_left, Nat.add_sub_cancel_left, List.take_of_length_le (by rw [← size_len]; exact Nat.le_refl _)] at this
    cases t; cases hA2 : A.extract _ _
    rw [hA2] at this
    simp only [ByteArray.mk.injEq]
    exact Array.toList_inj.1 this
  rw [e1] at h
  have e2 : (((Words.var t.size).length : Int) + (t.size : Int)) = (A.size : Int) := by rw [hs]; omega
  rw [e2] at h
  exact h
theorem back_hex {t : ByteArray} {G : List UInt8} (ht : t.size ≤ 300) (hG : G = Words.hex t.data.toList) (w : World) :
    Calls Tryd.prog 14 #[.string t] w fun e w' => e = .returned (.tuple #[.string ⟨G.toArray⟩, .bool true]) ∧ Below w.heap.size w w' := by
  rw [hG]; exact implHex_yes t (by omega) w
theorem back_unhex {t : ByteArray} {G : List UInt8} (ht : t.size ≤ 300) (hG : G = Words.hex t.data.toList) (w : World) :
    Calls Tryd.prog 15 #[.string ⟨G.toArray⟩] w fun e w' => e = .returned (.tuple #[.string t, .bool true]) ∧ Below w.heap.size w w' := by
  have hs : (⟨G.toArray⟩ : ByteArray).size = 2 * t.size := by rw [size_mk, hG, Words.hex_len, ← size_len]
  have h := implUnhex_yes ⟨G.toArray⟩ (by omega) (by omega) w
  rw [data_mk, hG, Words.hex_back] at h
  have e : (⟨t.data.toList.toArray⟩ : ByteArray) = t := by cases t; simp
  have e2 : uhTuple (some t.data.toList) = .tuple #[.string t, .bool true] := by show Value.tuple #[.string ⟨t.data.toList.toArray⟩, .bool true] = _; rw [e]
  rw [e2] at h
  rw [hG]
  exact h
theorem big_any (a : Option Addr) (len cap : Nat) (hl : len ≤ 1048576) (w : World) :
    Calls Tryd.prog 5 #[.slice a len cap] w fun e w' => e = .returned (.bool false) ∧ w = w' := by
  have h : ¬ (1048576 : Int) < (len : Int) := by omega
  go_enter Tryd.func5, Tryd.ntmps5
  go_wp2
  go_ret
  exact ⟨rfl, rfl⟩
theorem big_yes (a : Option Addr) (len cap : Nat) (hl : 1048576 < len) (w : World) :
    Calls Tryd.prog 5 #[.slice a len cap] w fun e w' => e = .returned (.bool true) ∧ w' = w := by
  have h : (1048576 : Int) < (len : Int) := by omega
  go_enter Tryd.func5, Tryd.ntmps5
  go_wp2
  go_ret
  exact ⟨rfl, rfl⟩
end Go.Proofs.YtbajccpnkgdfpaaDoor
