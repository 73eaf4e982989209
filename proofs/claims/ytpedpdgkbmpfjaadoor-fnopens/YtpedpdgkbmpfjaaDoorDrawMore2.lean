/- More that is drawn, walked: once in so many, long texts, one out of some. More that is drawn, walked: once in so many, long texts, one out of some. -/
import Derived.Test.YtpedpdgkbmpfjaaDoorDraw
import Derived.Test.YtpedpdgkbmpfjaaDoorMathCmd
namespace Go.Proofs.YtpedpdgkbmpfjaaDoor
open Go.RowKit
set_option linter.unusedVariables false

set_option maxHeartbeats 400000 in
theorem big_no (a : Option Addr) (len cap : Nat) (h : len ≤ 1048576) (w : World) :
    Calls Tryd.prog 15 #[.slice a len cap] w fun e w' => e = .returned (.bool false) ∧ w = w' := by
  have h1 : ¬ (1048576 : Int) < (len : Int) := by omega
  go_enter Tryd.func15, Tryd.ntmps15
  go_wp2
  go_ret
  exact ⟨rfl, rfl⟩
set_option maxHeartbeats 400000 in
theorem big_yes (a : Option Addr) (len cap : Nat) (h : 1048576 < len) (w : World) :
    Calls Tryd.prog 15 #[.slice a len cap] w fun e w' => e = .returned (.bool true) ∧ w = w' := by
  have h1 : (1048576 : Int) < (len : Int) := by omega
  go_enter Tryd.func15, Tryd.ntmps15
  go_wp2
  go_ret
  exact ⟨rfl, rfl⟩
theorem Cur.alloc {B g len cap b off : Nat} {a : Option Addr} {z : Nat → Int} {w : World} (hc : Cur B w g a len cap b off z) (o : Obj) : Cur B (w.alloc o) g a len cap b off z := by
  have hg := hc.lt
  obtain ⟨hB, hb, hlen, hcode, i, h, hi, hblk⟩ := hc
  exact Cur.step hB hb hlen hcode (World.grownBy_alloc w o (some g)) hi (by rw [Below.heap_alloc _ _ _ hg]; exact hblk)

end Go.Proofs.YtpedpdgkbmpfjaaDoor
namespace Go.Proofs.YtpedpdgkbmpfjaaDoor
open Go.RowKit
set_option linter.unusedVariables false

set_option maxHeartbeats 400000 in
/-- A text picked out of some: it is one of them. -/
theorem pick_any {B g len cap b off r n : Nat} {a : Option Addr} {z : Nat → Int} (P : ByteArray → Prop) (w : World) (hc : Cur B w g a len cap b off z) (hn0 : 0 < n) (hn : n ≤ 1000) (hr : r ≠ g)
    (hcell : ∀ j, j < n → ∃ S : ByteArray, w.cell? ⟨r, j, none⟩ = some (.string S) ∧ P S) :
    Calls Tryd.prog 87 #[.pointer (some ⟨g, 0, none⟩), .slice (some ⟨r, 0, none⟩) n n] w fun e w' => ∃ S : ByteArray, e = .returned (.string S) ∧ P S ∧ Cur B w' g a len cap b off z ∧ w.grownBy w' (some g) := by
  have HC : Hid (Cur B w g a len cap b off z) := hc
  have HR : Hid (∀ j, j < n → ∃ S : ByteArray, w.cell? ⟨r, j, none⟩ = some (.string S) ∧ P S) := hcell
  clear hc hcell
  go_enter Tryd.func87, Tryd.ntmps87
  go_wp2_with fail
  refine (below_any (n : Int) (by omega) _ HC.out).mono ?_
  rintro e w1 ⟨x, rfl, hx, hc1, hg1⟩
  obtain ⟨hx0, _, hx2⟩ := hx
  have hx3 := hx2 (by omega)
  obtain ⟨m, rfl⟩ := Int.eq_ofNat_of_zero_le hx0
  obtain ⟨v, hv, hv0⟩ := HR.out m (by omega)
  have hv' : w1.cell? ⟨r, m, none⟩ = some (.string v) := hg1.cell hv (by intro e; exact hr (Option.some.inj e))
  have HV0 : Hid (P v) := hv0
  clear hx2 hv0
  go_wp2
  go_ret
  exact ⟨v, rfl, HV0.out, hc1, hg1⟩

/-- A text picked out of a row just made. -/
theorem pick_new {B g len cap b off : Nat} {a : Option Addr} {z : Nat → Int} (P : ByteArray → Prop) (w1 : World) (hc : Cur B w1 g a len cap b off z) (cs : Array Value) (n : Nat) (hn0 : 0 < n) (hn : n ≤ 1000)
    (hcs : ∀ j, j < n → ∃ S : ByteArray, cs[j]? = some (.string S) ∧ P S) :
    Calls Tryd.prog 87 #[.pointer (some ⟨g, 0, none⟩), .slice (some ⟨w1.heap.size, 0, none⟩) n n] (w1.alloc (.cells cs 9)) fun e w' => ∃ S : ByteArray, e = .returned (.string S) ∧ P S ∧ Cur B w' g a len cap b off z ∧ w1.grownBy w' (some g) := by
  have hg := hc.lt
  have hg1 := World.grownBy_alloc w1 (.cells cs 9) (some g)
  refine (pick_any P _ (hc.alloc _) hn0 hn (by omega) ?_).mono ?_
  · intro j hj
    obtain ⟨v, h1, h2⟩ := hcs j hj
    refine ⟨v, ?_, h2⟩
    rw [cell_of_row _ _ _ cs 9 (0, 0) (heap_alloc_new w1 _)]
    exact h1
  · rintro e w' ⟨x, h1, h2, h3, h4⟩
    exact ⟨x, h1, h2, h3, hg1.trans h4⟩

end Go.Proofs.YtpedpdgkbmpfjaaDoor
