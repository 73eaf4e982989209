/- A list of ints that came in, and a manifest that came in, opened: their cells. -/
import Derived.Test.YtojhjffkbjdgfaaInts
import Derived.ProofKit
import Derived.OpenShut
import Derived.ShutString
import Derived.ChangeOld
import Derived.Deep.DeepHandedRow
import Derived.Deep.SlicePairs
import Derived.Lib.SmallJoins
import Derived.Deep.Slices
namespace Go.Proofs.Ytojhjffkbjdgfaa
open Go.ChangeShapes Go.WideShapes Go.ChangeAt Go.RowKit Go.Deep
set_option linter.unusedVariables false

theorem openInt_elem {H : Type} {enc : TypeId × Value → H} {W : World} {base : Nat} {sp : Nat → Bool} {held : Bool} {a : Addr} {i n : Nat} {y : DataW H × List MemPlace} {cs : List Value}
    (h1 : W.cells? base (a.add (i * 1)) 1 = some cs) (h2 : DataW.trod enc Try.prog W base sp held n 3 cs = some y) : ∃ r : Int, W.cell? (a.add i) = some (.int .i64 r) := by
  obtain ⟨_, hlen, hcell⟩ := World.cells?_some h1
  obtain ⟨r, e, _, _⟩ := DataW.trod_int Try.underlying3 h2
  subst e
  have q := hcell 0 (by omega)
  refine ⟨r, ?_⟩
  simpa [Addr.add, Nat.mul_one] using q
theorem openIntS {H : Type} {enc : TypeId × Value → H} {W : World} {base : Nat} {sp : Nat → Bool} {held : Bool} {fuel : Nat} {cs : List Value} {x : DataW H × List MemPlace}
    (h : DataW.trod enc Try.prog W base sp held fuel 24 cs = some x) :
    ∃ (a : Option Addr) (g off cap : Nat) (l : List Int), cs = [.slice a l.length cap] ∧ l.length ≤ maxLen ∧ IntAt W a g off l := by
  rcases open_slice Try.underlying24 h with ⟨rfl, _⟩ | ⟨a, len, cap, m, n, D, Pl, rfl, hb, hl, hm, hmm, _, hx⟩
  · exact ⟨none, 0, 0, 0, [], rfl, Nat.zero_le _, fun h => absurd h (Nat.lt_irrefl _), fun j hj => absurd hj (Nat.not_lt_zero _)⟩
  · have hlm : len ≤ m := by rw [hmm]; split <;> omega
    have each : ∀ i, i < len → ∃ r : Int, W.cell? (a.add i) = some (.int .i64 r) := fun i hi => by
      obtain ⟨cs', h1, h2⟩ := hx i (by omega)
      exact openInt_elem (by rw [← show Try.prog.cellsOf 3 = 1 by kernel_rfl]; exact h1) h2
    obtain ⟨q, hq⟩ := choose_lt (α := Option Int) (p := fun i o => ∃ r, o = some r ∧ W.cell? (a.add i) = some (.int .i64 r)) (fun i hi => by obtain ⟨r, hr⟩ := each i hi; exact ⟨some r, r, rfl, hr⟩)
    obtain ⟨b, off, spot⟩ := a
    have get : ∀ i (hi : i < len), ∃ r, (q i).getD 0 = r ∧ W.cell? ((⟨b, off, spot⟩ : Addr).add i) = some (.int .i64 r) := fun i hi => by
      obtain ⟨r, e, h1⟩ := hq i hi
      exact ⟨r, by rw [e]; rfl, h1⟩
    refine ⟨some ⟨b, off, spot⟩, b, off, cap, (List.range len).map fun i => (q i).getD 0, by simp, by simp; omega, ?_, ?_⟩
    · intro hp
      have hp' : 0 < len := by simpa using hp
      obtain ⟨r, _, h1⟩ := get 0 hp'
      have hspot : spot = none := by simpa [Addr.add] using World.cell?_spot h1
      rw [hspot]
    · intro j hj
      have hj' : j < len := by simpa using hj
      obtain ⟨r, e, h1⟩ := get j hj'
      obtain ⟨_, _, h0⟩ := get 0 (by omega)
      have hspot : spot = none := by simpa [Addr.add] using World.cell?_spot h0
      subst hspot
      simp only [List.getElem_map, List.getElem_range, e]
      simpa [Addr.add_lit, Nat.add_assoc] using h1
theorem openInt_arg {H : Type} {enc : TypeId × Value → H} {W : World} {base b0 : Nat} {r : Reach} {sp : Nat → Bool} {held : Bool} {v : Value} {d : DataW H} {p : List MemPlace}
    (hv : Value.okWide Try.prog W r b0 24 v) (h : DataW.Trod enc Try.prog W base sp held 24 v d p) :
    ∃ (a : Option Addr) (g off cap : Nat) (l : List Int), v = .slice a l.length cap ∧ l.length ≤ maxLen ∧ IntAt W a g off l := by
  obtain ⟨a0, len0, cap0, rfl⟩ := okWide_slice Try.underlying24 hv
  obtain ⟨fuel, hf⟩ := h
  obtain ⟨a, g, off, cap, l, e, h2, h4⟩ := openIntS hf
  simp [Value.cells] at e
  obtain ⟨rfl, rfl, rfl⟩ := e
  exact ⟨_, g, off, _, l, rfl, h2, h4⟩
end Go.Proofs.Ytojhjffkbjdgfaa
