/- A slice of En that came in, opened: its cells. Made by program. -/
import Derived.Test.YtddmogggdckneaaRows
import Derived.Test.YtddmogggdckneaaLEn
import Derived.Test.YtddmogggdckneaaSpecLog
import Derived.ProofKit
import Derived.OpenShut
import Derived.ShutString
import Derived.ChangeOld
import Derived.Deep.DeepHandedRow
import Derived.Deep.SlicePairs
import Derived.Lib.SmallJoins
import Derived.Deep.Slices
namespace Go.Proofs.Ytddmogggdckneaa
open Go.ChangeShapes Go.WideShapes Go.ChangeAt Go.RowKit Go.Deep
set_option linter.unusedVariables false

set_option maxRecDepth 100000 in
theorem openEn_elem {H : Type} {enc : TypeId × Value → H} {W : World} {base : Nat} {sp : Nat → Bool} {held : Bool} {a : Addr} {i n : Nat} {y : DataW H × List MemPlace} {cs : List Value}
    (h1 : W.cells? base (a.add (i * 3)) 3 = some cs) (h2 : DataW.trod enc Try.prog W base sp held n 58 cs = some y) : ∃ r : EntL, smallEn maxLen r ∧ W.cell? (a.add (i * 3)) = some (.int .i64 r.term) ∧ W.cell? (a.add (i * 3 + 1)) = some (.int .i64 r.kind) ∧ W.cell? (a.add (i * 3 + 2)) = some (.string r.data) := by
  obtain ⟨_, hlen, hcell⟩ := World.cells?_some h1
  obtain ⟨xs, k, hk, hxy, _, hxl, hf⟩ := DataW.trod_struct Try.underlying58 h2
  match xs, hxl, cs, hlen with
  | [y0, y1, y2], _, [v0, v1, v2], _ =>
    have g0 := hf 0 _ rfl
    simp [show Try.prog.cellsOf 3 = 1 by kernel_rfl] at g0
    have g1 := hf 1 _ rfl
    simp [show Try.prog.cellsOf 3 = 1 by kernel_rfl] at g1
    have g2 := hf 2 _ rfl
    simp [show Try.prog.cellsOf 9 = 1 by kernel_rfl] at g2
    obtain ⟨F0, e0, _, _⟩ := DataW.trod_int Try.underlying3 g0
    obtain ⟨F1, e1, _, _⟩ := DataW.trod_int Try.underlying3 g1
    obtain ⟨F2, e2, _, z2⟩ := DataW.trod_string Try.underlying9 g2
    have q0 := hcell 0 (by omega)
    rw [add_add] at q0
    have q1 := hcell 1 (by omega)
    rw [add_add] at q1
    have q2 := hcell 2 (by omega)
    rw [add_add] at q2
    refine ⟨⟨F0, F1, F2⟩, z2, ?_, ?_, ?_⟩
    · simp at e0; subst e0; simpa using q0
    · simp at e1; subst e1; simpa using q1
    · simp at e2; subst e2; simpa using q2

theorem openEnS {H : Type} {enc : TypeId × Value → H} {W : World} {base : Nat} {sp : Nat → Bool} {held : Bool} {fuel : Nat} {cs : List Value} {x : DataW H × List MemPlace}
    (h : DataW.trod enc Try.prog W base sp held fuel 22 cs = some x) :
    ∃ (a : Option Addr) (g off cap : Nat) (l : List EntL), cs = [.slice a l.length cap] ∧ l.length ≤ maxLen ∧ (∀ r ∈ l, smallEn maxLen r) ∧ EnAt W a g off l := by
  rcases open_slice Try.underlying22 h with ⟨rfl, _⟩ | ⟨a, len, cap, m, n, D, Pl, rfl, hb, hl, hm, hmm, _, hx⟩
  · exact ⟨none, 0, 0, 0, [], rfl, Nat.zero_le _, fun f hf => (List.not_mem_nil hf).elim, fun h => absurd h (Nat.lt_irrefl _), fun j hj => absurd hj (Nat.not_lt_zero _)⟩
  · have hlm : len ≤ m := by rw [hmm]; split <;> omega
    have each : ∀ i, i < len → ∃ r : EntL, smallEn maxLen r ∧ W.cell? (a.add (i * 3)) = some (.int .i64 r.term) ∧ W.cell? (a.add (i * 3 + 1)) = some (.int .i64 r.kind) ∧ W.cell? (a.add (i * 3 + 2)) = some (.string r.data) := fun i hi => by
      obtain ⟨cs', h1, h2⟩ := hx i (by omega)
      exact openEn_elem (by rw [← show Try.prog.cellsOf 58 = 3 by kernel_rfl]; exact h1) h2
    obtain ⟨q, hq⟩ := choose_lt (α := Option EntL) (p := fun i o => ∃ r, o = some r ∧ smallEn maxLen r ∧ W.cell? (a.add (i * 3)) = some (.int .i64 r.term) ∧ W.cell? (a.add (i * 3 + 1)) = some (.int .i64 r.kind) ∧ W.cell? (a.add (i * 3 + 2)) = some (.string r.data)) (fun i hi => by obtain ⟨r, hr⟩ := each i hi; exact ⟨some r, r, rfl, hr⟩)
    obtain ⟨b, off, spot⟩ := a
    have get : ∀ i (hi : i < len), ∃ r, (q i).getD ⟨0, 0, ByteArray.empty⟩ = r ∧ smallEn maxLen r ∧ W.cell? ((⟨b, off, spot⟩ : Addr).add (i * 3)) = some (.int .i64 r.term) ∧ W.cell? ((⟨b, off, spot⟩ : Addr).add (i * 3 + 1)) = some (.int .i64 r.kind) ∧ W.cell? ((⟨b, off, spot⟩ : Addr).add (i * 3 + 2)) = some (.string r.data) := fun i hi => by
      obtain ⟨r, e, h1⟩ := hq i hi
      exact ⟨r, by rw [e]; rfl, h1⟩
    refine ⟨some ⟨b, off, spot⟩, b, off, cap, (List.range len).map fun i => (q i).getD ⟨0, 0, ByteArray.empty⟩, by simp, by simp; omega, ?_, ?_, ?_⟩
    · intro r hr
      obtain ⟨i, hi, rfl⟩ := List.mem_map.1 hr
      obtain ⟨r, e, h1, _⟩ := get i (List.mem_range.1 hi)
      rw [e]; exact h1
    · intro hp
      have hp' : 0 < len := by simpa using hp
      obtain ⟨r, _, _, h1⟩ := get 0 hp'
      have hspot : spot = none := by simpa [Addr.add] using World.cell?_spot h1.1
      rw [hspot]
    · intro j hj
      have hj' : j < len := by simpa using hj
      obtain ⟨r, e, _, h1⟩ := get j hj'
      obtain ⟨_, _, _, h0⟩ := get 0 (by omega)
      have hspot : spot = none := by simpa [Addr.add] using World.cell?_spot h0.1
      subst hspot
      simp only [List.getElem_map, List.getElem_range, e]
      simpa [Addr.add_lit, Nat.add_assoc] using h1
set_option maxRecDepth 100000 in
theorem openEn_arg {H : Type} {enc : TypeId × Value → H} {W : World} {base b0 : Nat} {r : Reach} {sp : Nat → Bool} {held : Bool} {v : Value} {d : DataW H} {p : List MemPlace}
    (hv : Value.okWide Try.prog W r b0 22 v) (h : DataW.Trod enc Try.prog W base sp held 22 v d p) :
    ∃ (a : Option Addr) (g off cap : Nat) (l : List EntL), v = .slice a l.length cap ∧ l.length ≤ maxLen ∧ (∀ r ∈ l, smallEn maxLen r) ∧ EnAt W a g off l := by
  obtain ⟨a0, len0, cap0, rfl⟩ := okWide_slice Try.underlying22 hv
  obtain ⟨fuel, hf⟩ := h
  obtain ⟨a, g, off, cap, l, e, h2, h3, h4⟩ := openEnS hf
  simp [Value.cells] at e
  obtain ⟨rfl, rfl, rfl⟩ := e
  exact ⟨_, g, off, _, l, rfl, h2, h3, h4⟩
set_option maxRecDepth 100000 in
theorem open_log {H : Type} {enc : TypeId × Value → H} {W : World} {base b0 : Nat} {r : Reach} {sp : Nat → Bool} {held : Bool} {v : Value} {d : DataW H} {p : List MemPlace}
    (hv : Value.okWide Try.prog W r b0 24 v) (h : DataW.Trod enc Try.prog W base sp held 24 v d p) :
    ∃ (l : LogL) (a : Option Addr) (g off cap : Nat), v = logV l a cap ∧ l.ents.length ≤ maxLen ∧ (∀ r ∈ l.ents, smallEn maxLen r) ∧ EnAt W a g off l.ents := by
  obtain ⟨c0, c1, c2, y0, y1, y2, n, rfl, _, _, h0, h1, h2⟩ := Go.Joins.open_agg3 Try.underlying24 (by kernel_rfl) (by kernel_rfl) hv h
  obtain ⟨k, e0, _, _⟩ := DataW.trod_int Try.underlying3 h0
  obtain ⟨j, e1, _, _⟩ := DataW.trod_int Try.underlying3 h1
  obtain ⟨a, g, off, cap, l, e2, h3, h4, h5⟩ := openEnS h2
  simp at e0 e1 e2
  subst e0 e1 e2
  exact ⟨⟨k, j, l⟩, a, g, off, cap, rfl, h3, h4, h5⟩
end Go.Proofs.Ytddmogggdckneaa
