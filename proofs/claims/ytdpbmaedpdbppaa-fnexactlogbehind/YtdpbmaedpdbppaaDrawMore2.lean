/- More that is drawn, walked: once in so many, long texts, one out of some. -/
import Derived.Test.YtdpbmaedpdbppaaDrawMore
namespace Go.Proofs.Ytdpbmaedpdbppaa
open Go.RowKit
set_option linter.unusedVariables false

theorem made_bytes (n : Nat) : (madeCells #[Value.int .u8 0] n).toList = cellsB (List.replicate n 0) := by
  rw [toList_madeCells_one]
  simp [cellsB]

theorem set_bytes (pre : List UInt8) (j : Nat) (c : UInt8) : (cellsB pre).set j (.int .u8 (c.toNat : Int)) = cellsB (pre.set j c) := by
  simp [cellsB, List.map_set]


set_option maxHeartbeats 400000 in
/-- A text picked out of some: it is one of them. -/
theorem pick_any {B g len cap b off r n : Nat} {a : Option Addr} {z : Nat → Int} (P : ByteArray → Prop) (w : World) (hc : Cur B w g a len cap b off z) (hn0 : 0 < n) (hn : n ≤ 1000) (hr : r ≠ g)
    (hcell : ∀ j, j < n → ∃ S : ByteArray, w.cell? ⟨r, j, none⟩ = some (.string S) ∧ P S) :
    Calls Try.prog 121 #[.pointer (some ⟨g, 0, none⟩), .slice (some ⟨r, 0, none⟩) n n] w fun e w' => ∃ S : ByteArray, e = .returned (.string S) ∧ P S ∧ Cur B w' g a len cap b off z ∧ w.grownBy w' (some g) := by
  have HC : Hid (Cur B w g a len cap b off z) := hc
  have HR : Hid (∀ j, j < n → ∃ S : ByteArray, w.cell? ⟨r, j, none⟩ = some (.string S) ∧ P S) := hcell
  clear hc hcell
  go_enter Try.func121, Try.ntmps121
  go_wp2_with fail
  refine (below_any (n : Int) (by omega) _ HC.out).mono ?_
  rintro e w1 ⟨x, rfl, hx, hc1, hg1⟩
  obtain ⟨hx0, _, hx2⟩ := hx
  have hx3 := hx2 (by omega)
  obtain ⟨m, rfl⟩ := Int.eq_ofNat_of_zero_le hx0
  obtain ⟨v, hv, hv0⟩ := HR.out m (by omega)
  have hv' : w1.cell? ⟨r, m, none⟩ = some (.string v) := hg1.cell hv (by intro e; exact hr (Option.some.inj e))
  have HV0 : Hid (P v) := hv0
  clear hx2 hv0
  go_wp2
  go_ret
  exact ⟨v, rfl, HV0.out, hc1, hg1⟩

/-- A text picked out of a row just made. -/
theorem pick_new {B g len cap b off : Nat} {a : Option Addr} {z : Nat → Int} (P : ByteArray → Prop) (w1 : World) (hc : Cur B w1 g a len cap b off z) (cs : Array Value) (n : Nat) (hn0 : 0 < n) (hn : n ≤ 1000)
    (hcs : ∀ j, j < n → ∃ S : ByteArray, cs[j]? = some (.string S) ∧ P S) :
    Calls Try.prog 121 #[.pointer (some ⟨g, 0, none⟩), .slice (some ⟨w1.heap.size, 0, none⟩) n n] (w1.alloc (.cells cs 9)) fun e w' => ∃ S : ByteArray, e = .returned (.string S) ∧ P S ∧ Cur B w' g a len cap b off z ∧ w1.grownBy w' (some g) := by
  have hg := hc.lt
  have hg1 := World.grownBy_alloc w1 (.cells cs 9) (some g)
  refine (pick_any P _ (hc.alloc _) hn0 hn (by omega) ?_).mono ?_
  · intro j hj
    obtain ⟨v, h1, h2⟩ := hcs j hj
    refine ⟨v, ?_, h2⟩
    rw [cell_of_row _ _ _ cs 9 (0, 0) (heap_alloc_new w1 _)]
    exact h1
  · rintro e w' ⟨x, h1, h2, h3, h4⟩
    exact ⟨x, h1, h2, h3, hg1.trans h4⟩

end Go.Proofs.Ytdpbmaedpdbppaa
