/- More that is drawn, walked: once in so many, long texts, one out of some. -/
import Derived.Test.YtlmjhobijgmolaaDrawMore
import Derived.Test.YtlmjhobijgmolaaMade
namespace Go.Proofs.Ytlmjhobijgmolaa
open Go.RowKit
set_option linter.unusedVariables false

set_option maxHeartbeats 1000000 in
set_option maxRecDepth 100000 in
theorem long_any (n : Nat) (hn : n ≤ 30000) (w : World) :
    Calls Try.prog 45 #[.int .i64 (n : Int), .int .u8 65] w fun e w' => ∃ S : ByteArray, e = .returned (.string S) ∧ S.size = n ∧ Below w.heap.size w w' := by
  obtain ⟨i0, hi, hz0, hz1, hz2⟩ := info_parts Try.info5
  go_enter Try.func45, Try.ntmps45
  go_wp2_with (at_make; refine wpList_make_full _ rfl _ _ 35 rfl w.heap.size 5 i0 (.int .u8 0) 1 Try.underlying35 hi hz0 hz1 _ _ _ _ n rfl rfl (by omega) (by omega) ?b2 ?b3 (Nat.le_refl _) ?_)
  case b2 => rw [hz2]; omega
  case b3 => unfold maxLen; omega
  intro w0 hown0 hgrow0
  have hbel0 : Below w.heap.size w w0 := (Below.refl _ _).grown hgrow0 (Nat.le_refl _) (by simp)
  rw [made_bytes] at hown0
  clear hgrow0
  go_wp2
  go_loopw [6] (fun i wr => ∃ (k : Nat) (pre : List UInt8), k ≤ n ∧ i = .int .i64 (k : Int) ∧ pre.length = n ∧ wr.ownsRow w.heap.size 5 1 (.slice (some ⟨w.heap.size, 0, none⟩) n n) n (cellsB pre) ∧ Below w.heap.size w wr)
    (fun i _ => n - (intOf i).toNat)
  case atStart => exact ⟨0, _, by omega, rfl, by simp, hown0, hbel0⟩
  case round =>
    obtain ⟨k, pre, hk, rfl, hlen, hown, hbel⟩ := hrel
    have HL : Hid (pre.length = n) := hlen
    clear hlen hown0 hbel0
    by_cases hlt : k < n
    · have hk0 : (0 : Int) ≤ (k : Int) := by omega
      have hk1 : (k : Int) < (n : Int) := by omega
      have hfz := hown.frozenAt k
      obtain ⟨u0, hcl⟩ : ∃ u0, wr.cell? ⟨w.heap.size, k, none⟩ = some u0 := by
        rw [hown.cellAt k (by omega)]
        exact ⟨_, List.getElem?_eq_getElem (by have := hown.1; omega)⟩
      have hst := hown.stored k (.int .u8 ((65 : UInt8).toNat : Int))
      rw [set_bytes] at hst
      have HS : Hid (_ ∧ _) := hst
      clear hst
      go_wp2
      go_roundw
      case rel => exact ⟨k + 1, pre.set k 65, by omega, by go_num, by rw [List.length_set]; exact HL.out, HS.out.1, hbel.setCell (Nat.le_refl _) _⟩
      case measure => simp [intOf]; omega
    · have hk1 : ¬ (k : Int) < (n : Int) := by omega
      have hcv := string_own (base := w.heap.size) (v := .slice (some ⟨w.heap.size, 0, none⟩) n n) (l := pre) (by rw [HL.out]; exact hown)
      go_wp2
      go_ret
      exact ⟨_, rfl, by rw [show (⟨pre.toArray⟩ : ByteArray).size = pre.length from by simp [ByteArray.size], HL.out], hbel⟩


theorem long_int (x : Int) (h0 : 0 ≤ x) (h1 : x ≤ 30000) (w : World) :
    Calls Try.prog 45 #[.int .i64 x, .int .u8 65] w fun e w' => ∃ S : ByteArray, e = .returned (.string S) ∧ S.size ≤ 30000 ∧ Below w.heap.size w w' := by
  have h := long_any x.toNat (by omega) w
  rw [Int.toNat_of_nonneg h0] at h
  exact h.mono fun e w' ⟨S, h1, h2, h3⟩ => ⟨S, h1, by omega, h3⟩


set_option maxHeartbeats 400000 in
/-- A text picked out of some: it is one of them. -/
theorem pick_any {B g len cap b off r n : Nat} {a : Option Addr} {z : Nat → Int} (P : ByteArray → Prop) (w : World) (hc : Cur B w g a len cap b off z) (hn0 : 0 < n) (hn : n ≤ 1000) (hr : r ≠ g)
    (hcell : ∀ j, j < n → ∃ S : ByteArray, w.cell? ⟨r, j, none⟩ = some (.string S) ∧ P S) :
    Calls Try.prog 44 #[.pointer (some ⟨g, 0, none⟩), .slice (some ⟨r, 0, none⟩) n n] w fun e w' => ∃ S : ByteArray, e = .returned (.string S) ∧ P S ∧ Cur B w' g a len cap b off z ∧ w.grownBy w' (some g) := by
  have HC : Hid (Cur B w g a len cap b off z) := hc
  have HR : Hid (∀ j, j < n → ∃ S : ByteArray, w.cell? ⟨r, j, none⟩ = some (.string S) ∧ P S) := hcell
  clear hc hcell
  go_enter Try.func44, Try.ntmps44
  go_wp2_with fail
  refine (below_any (n : Int) (by omega) _ HC.out).mono ?_
  rintro e w1 ⟨x, rfl, hx, hc1, hg1⟩
  obtain ⟨hx0, _, hx2⟩ := hx
  have hx3 := hx2 (by omega)
  obtain ⟨m, rfl⟩ := Int.eq_ofNat_of_zero_le hx0
  obtain ⟨v, hv, hv0⟩ := HR.out m (by omega)
  have hv' : w1.cell? ⟨r, m, none⟩ = some (.string v) := hg1.cell hv (by intro e; exact hr (Option.some.inj e))
  have HV0 : Hid (P v) := hv0
  clear hx2 hv0
  go_wp2
  go_ret
  exact ⟨v, rfl, HV0.out, hc1, hg1⟩

/-- A text picked out of a row just made. -/
theorem pick_new {B g len cap b off : Nat} {a : Option Addr} {z : Nat → Int} (P : ByteArray → Prop) (w1 : World) (hc : Cur B w1 g a len cap b off z) (cs : Array Value) (n : Nat) (hn0 : 0 < n) (hn : n ≤ 1000)
    (hcs : ∀ j, j < n → ∃ S : ByteArray, cs[j]? = some (.string S) ∧ P S) :
    Calls Try.prog 44 #[.pointer (some ⟨g, 0, none⟩), .slice (some ⟨w1.heap.size, 0, none⟩) n n] (w1.alloc (.cells cs 9)) fun e w' => ∃ S : ByteArray, e = .returned (.string S) ∧ P S ∧ Cur B w' g a len cap b off z ∧ w1.grownBy w' (some g) := by
  have hg := hc.lt
  have hg1 := World.grownBy_alloc w1 (.cells cs 9) (some g)
  refine (pick_any P _ (hc.alloc _) hn0 hn (by omega) ?_).mono ?_
  · intro j hj
    obtain ⟨v, h1, h2⟩ := hcs j hj
    refine ⟨v, ?_, h2⟩
    rw [cell_of_row _ _ _ cs 9 (0, 0) (heap_alloc_new w1 _)]
    exact h1
  · rintro e w' ⟨x, h1, h2, h3, h4⟩
    exact ⟨x, h1, h2, h3, hg1.trans h4⟩

end Go.Proofs.Ytlmjhobijgmolaa
