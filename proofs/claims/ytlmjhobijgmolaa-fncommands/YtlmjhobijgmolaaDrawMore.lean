/- More that is drawn, walked: once in so many, long texts, one out of some. -/
import Derived.Test.YtlmjhobijgmolaaDraw
namespace Go.Proofs.Ytlmjhobijgmolaa
open Go.RowKit
set_option linter.unusedVariables false

set_option maxHeartbeats 400000 in
theorem big_no (a : Option Addr) (len cap : Nat) (h : len ≤ 1048576) (w : World) :
    Calls Try.prog 16 #[.slice a len cap] w fun e w' => e = .returned (.bool false) ∧ w = w' := by
  have h1 : ¬ (1048576 : Int) < (len : Int) := by omega
  go_enter Try.func16, Try.ntmps16
  go_wp2
  go_ret
  exact ⟨rfl, rfl⟩
set_option maxHeartbeats 400000 in
theorem big_yes (a : Option Addr) (len cap : Nat) (h : 1048576 < len) (w : World) :
    Calls Try.prog 16 #[.slice a len cap] w fun e w' => e = .returned (.bool true) ∧ w = w' := by
  have h1 : (1048576 : Int) < (len : Int) := by omega
  go_enter Try.func16, Try.ntmps16
  go_wp2
  go_ret
  exact ⟨rfl, rfl⟩
set_option maxHeartbeats 400000 in
theorem pickInt_any {B g len cap b off r n : Nat} {a : Option Addr} {z : Nat → Int} (w : World) (hc : Cur B w g a len cap b off z) (hn0 : 0 < n) (hn : n ≤ 1000) (hr : r ≠ g)
    (hcell : ∀ j, j < n → ∃ v : Int, w.cell? ⟨r, j, none⟩ = some (.int .i64 v) ∧ -9223372036854775808 ≤ v ∧ v ≤ 9223372036854775807) :
    Calls Try.prog 43 #[.pointer (some ⟨g, 0, none⟩), .slice (some ⟨r, 0, none⟩) n n] w fun e w' => ∃ x : Int, e = .returned (.int .i64 x) ∧ -9223372036854775808 ≤ x ∧ x ≤ 9223372036854775807 ∧ Cur B w' g a len cap b off z ∧ w.grownBy w' (some g) := by
  have HC : Hid (Cur B w g a len cap b off z) := hc
  have HR : Hid (∀ j, j < n → ∃ v : Int, w.cell? ⟨r, j, none⟩ = some (.int .i64 v) ∧ -9223372036854775808 ≤ v ∧ v ≤ 9223372036854775807) := hcell
  clear hc hcell
  go_enter Try.func43, Try.ntmps43
  go_wp2_with fail
  refine (below_any (n : Int) (by omega) _ HC.out).mono ?_
  rintro e w1 ⟨x, rfl, hx, hc1, hg1⟩
  obtain ⟨hx0, _, hx2⟩ := hx
  have hx3 := hx2 (by omega)
  obtain ⟨m, rfl⟩ := Int.eq_ofNat_of_zero_le hx0
  obtain ⟨v, hv, hv0, hv1⟩ := HR.out m (by omega)
  have hv' : w1.cell? ⟨r, m, none⟩ = some (.int .i64 v) := hg1.cell hv (by intro e; exact hr (Option.some.inj e))
  have HV0 : Hid (_ ≤ _) := hv0
  have HV1 : Hid (_ ≤ _) := hv1
  clear hx2 hv0 hv1
  go_wp2
  go_ret
  exact ⟨v, rfl, HV0.out, HV1.out, hc1, hg1⟩

theorem Cur.alloc {B g len cap b off : Nat} {a : Option Addr} {z : Nat → Int} {w : World} (hc : Cur B w g a len cap b off z) (o : Obj) : Cur B (w.alloc o) g a len cap b off z := by
  have hg := hc.lt
  obtain ⟨hB, hb, hlen, hcode, i, h, hi, hblk⟩ := hc
  exact Cur.step hB hb hlen hcode (World.grownBy_alloc w o (some g)) hi (by rw [Below.heap_alloc _ _ _ hg]; exact hblk)

theorem pickInt_new {B g len cap b off : Nat} {a : Option Addr} {z : Nat → Int} (w1 : World) (hc : Cur B w1 g a len cap b off z) (cs : Array Value) (n : Nat) (hn0 : 0 < n) (hn : n ≤ 1000)
    (hcs : ∀ j, j < n → ∃ v : Int, cs[j]? = some (.int .i64 v) ∧ -9223372036854775808 ≤ v ∧ v ≤ 9223372036854775807) :
    Calls Try.prog 43 #[.pointer (some ⟨g, 0, none⟩), .slice (some ⟨w1.heap.size, 0, none⟩) n n] (w1.alloc (.cells cs 3)) fun e w' => ∃ x : Int, e = .returned (.int .i64 x) ∧ -9223372036854775808 ≤ x ∧ x ≤ 9223372036854775807 ∧ Cur B w' g a len cap b off z ∧ w1.grownBy w' (some g) := by
  have hg := hc.lt
  have hg1 := World.grownBy_alloc w1 (.cells cs 3) (some g)
  refine (pickInt_any _ (hc.alloc _) hn0 hn (by omega) ?_).mono ?_
  · intro j hj
    obtain ⟨v, h1, h2⟩ := hcs j hj
    refine ⟨v, ?_, h2⟩
    rw [cell_of_row _ _ _ cs 3 (0, 0) (heap_alloc_new w1 _)]
    exact h1
  · rintro e w' ⟨x, h1, h2, h3, h4, h5⟩
    exact ⟨x, h1, h2, h3, h4, hg1.trans h5⟩

end Go.Proofs.Ytlmjhobijgmolaa
