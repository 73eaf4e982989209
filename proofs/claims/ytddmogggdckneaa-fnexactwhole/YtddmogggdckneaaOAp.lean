/- A slice of Ap that came in, opened: its cells. Made by program. -/
import Derived.Test.YtddmogggdckneaaRows
import Derived.Test.YtddmogggdckneaaLAp
import Derived.ProofKit
import Derived.OpenShut
import Derived.ShutString
import Derived.ChangeOld
import Derived.Deep.DeepHandedRow
import Derived.Deep.SlicePairs
import Derived.Lib.SmallJoins
import Derived.Deep.Slices
namespace Go.Proofs.Ytddmogggdckneaa
open Go.ChangeShapes Go.WideShapes Go.ChangeAt Go.RowKit Go.Deep
set_option linter.unusedVariables false
theorem listOfAp3 {α : Type _} {xs : List α} (h : xs.length = 3) : ∃ x0 x1 x2, xs = [x0, x1, x2] := by
  match xs, h with
  | [x0, x1, x2], _ => exact ⟨x0, x1, x2, rfl⟩
def rightAp (r : ApL) : Prop := smallAp maxLen r ∧ (Lit.int .i64 r.index).wf = true

set_option maxRecDepth 100000 in
theorem openAp_elem {H : Type} {enc : TypeId × Value → H} {W : World} {base : Nat} {sp : Nat → Bool} {held : Bool} {a : Addr} {i n : Nat} {y : DataW H × List MemPlace} {cs : List Value}
    (h1 : W.cells? base (a.add (i * 6)) 6 = some cs) (h2 : DataW.trod enc Try.prog W base sp held n 60 cs = some y) : ∃ r : ApL, rightAp r ∧ W.cell? (a.add (i * 6)) = some (.int .i64 r.node) ∧ W.cell? (a.add (i * 6 + 1)) = some (.int .i64 r.term) ∧ W.cell? (a.add (i * 6 + 2)) = some (.int .i64 r.index) ∧ W.cell? (a.add (i * 6 + 3)) = some (.int .i64 r.eterm) ∧ W.cell? (a.add (i * 6 + 4)) = some (.int .i64 r.ekind) ∧ W.cell? (a.add (i * 6 + 5)) = some (.string r.edata) := by
  obtain ⟨_, hlen, hcell⟩ := World.cells?_some h1
  obtain ⟨xs, k, hk, hxy, _, hxl, hf⟩ := DataW.trod_struct Try.underlying60 h2
  match xs, hxl, cs, hlen with
  | [y0, y1, y2, y3], _, [v0, v1, v2, v3, v4, v5], _ =>
    have g0 := hf 0 _ rfl
    simp [show Try.prog.cellsOf 3 = 1 by kernel_rfl] at g0
    obtain ⟨F0, e0, _, m0⟩ := DataW.trod_int Try.underlying3 g0
    have g1 := hf 1 _ rfl
    simp [show Try.prog.cellsOf 3 = 1 by kernel_rfl] at g1
    obtain ⟨F1, e1, _, m1⟩ := DataW.trod_int Try.underlying3 g1
    have g2 := hf 2 _ rfl
    simp [show Try.prog.cellsOf 3 = 1 by kernel_rfl] at g2
    obtain ⟨F2, e2, _, m2⟩ := DataW.trod_int Try.underlying3 g2
    have g3 := hf 3 _ rfl
    simp [show Try.prog.cellsOf 58 = 3 by kernel_rfl] at g3
    obtain ⟨zs3, kk3, _, _, _, hzl3, hzf3⟩ := DataW.trod_struct Try.underlying58 g3
    obtain ⟨w3_0, w3_1, w3_2, rfl⟩ := listOfAp3 (show zs3.length = 3 from hzl3)
    have f3_0 := hzf3 0 _ rfl
    simp [show Try.prog.cellsOf 3 = 1 by kernel_rfl] at f3_0
    obtain ⟨F3, e3, _, m3⟩ := DataW.trod_int Try.underlying3 f3_0
    have f3_1 := hzf3 1 _ rfl
    simp [show Try.prog.cellsOf 3 = 1 by kernel_rfl] at f3_1
    obtain ⟨F4, e4, _, m4⟩ := DataW.trod_int Try.underlying3 f3_1
    have f3_2 := hzf3 2 _ rfl
    simp [show Try.prog.cellsOf 9 = 1 by kernel_rfl] at f3_2
    obtain ⟨F5, e5, _, z5⟩ := DataW.trod_string Try.underlying9 f3_2
    have q0 := hcell 0 (by omega)
    rw [add_add] at q0
    have q1 := hcell 1 (by omega)
    rw [add_add] at q1
    have q2 := hcell 2 (by omega)
    rw [add_add] at q2
    have q3 := hcell 3 (by omega)
    rw [add_add] at q3
    have q4 := hcell 4 (by omega)
    rw [add_add] at q4
    have q5 := hcell 5 (by omega)
    rw [add_add] at q5
    simp at e0 e1 e2 e3 e4 e5
    subst e0 e1 e2 e3 e4 e5
    refine ⟨⟨F0, F1, F2, F3, F4, F5⟩, ⟨z5, m2⟩, ?_, ?_, ?_, ?_, ?_, ?_⟩
    · simpa using q0
    · simpa using q1
    · simpa using q2
    · simpa using q3
    · simpa using q4
    · simpa using q5

theorem openApS {H : Type} {enc : TypeId × Value → H} {W : World} {base : Nat} {sp : Nat → Bool} {held : Bool} {fuel : Nat} {cs : List Value} {x : DataW H × List MemPlace}
    (h : DataW.trod enc Try.prog W base sp held fuel 37 cs = some x) :
    ∃ (a : Option Addr) (g off cap : Nat) (l : List ApL), cs = [.slice a l.length cap] ∧ l.length ≤ maxLen ∧ (∀ r ∈ l, rightAp r) ∧ ApAt W a g off l := by
  rcases open_slice Try.underlying37 h with ⟨rfl, _⟩ | ⟨a, len, cap, m, n, D, Pl, rfl, hb, hl, hm, hmm, _, hx⟩
  · exact ⟨none, 0, 0, 0, [], rfl, Nat.zero_le _, fun f hf => (List.not_mem_nil hf).elim, fun h => absurd h (Nat.lt_irrefl _), fun j hj => absurd hj (Nat.not_lt_zero _)⟩
  · have hlm : len ≤ m := by rw [hmm]; split <;> omega
    have each : ∀ i, i < len → ∃ r : ApL, rightAp r ∧ W.cell? (a.add (i * 6)) = some (.int .i64 r.node) ∧ W.cell? (a.add (i * 6 + 1)) = some (.int .i64 r.term) ∧ W.cell? (a.add (i * 6 + 2)) = some (.int .i64 r.index) ∧ W.cell? (a.add (i * 6 + 3)) = some (.int .i64 r.eterm) ∧ W.cell? (a.add (i * 6 + 4)) = some (.int .i64 r.ekind) ∧ W.cell? (a.add (i * 6 + 5)) = some (.string r.edata) := fun i hi => by
      obtain ⟨cs', h1, h2⟩ := hx i (by omega)
      exact openAp_elem (by rw [← show Try.prog.cellsOf 60 = 6 by kernel_rfl]; exact h1) h2
    obtain ⟨q, hq⟩ := choose_lt (α := Option ApL) (p := fun i o => ∃ r, o = some r ∧ rightAp r ∧ W.cell? (a.add (i * 6)) = some (.int .i64 r.node) ∧ W.cell? (a.add (i * 6 + 1)) = some (.int .i64 r.term) ∧ W.cell? (a.add (i * 6 + 2)) = some (.int .i64 r.index) ∧ W.cell? (a.add (i * 6 + 3)) = some (.int .i64 r.eterm) ∧ W.cell? (a.add (i * 6 + 4)) = some (.int .i64 r.ekind) ∧ W.cell? (a.add (i * 6 + 5)) = some (.string r.edata)) (fun i hi => by obtain ⟨r, hr⟩ := each i hi; exact ⟨some r, r, rfl, hr⟩)
    obtain ⟨b, off, spot⟩ := a
    have get : ∀ i (hi : i < len), ∃ r, (q i).getD ⟨0, 0, 0, 0, 0, ByteArray.empty⟩ = r ∧ rightAp r ∧ W.cell? ((⟨b, off, spot⟩ : Addr).add (i * 6)) = some (.int .i64 r.node) ∧ W.cell? ((⟨b, off, spot⟩ : Addr).add (i * 6 + 1)) = some (.int .i64 r.term) ∧ W.cell? ((⟨b, off, spot⟩ : Addr).add (i * 6 + 2)) = some (.int .i64 r.index) ∧ W.cell? ((⟨b, off, spot⟩ : Addr).add (i * 6 + 3)) = some (.int .i64 r.eterm) ∧ W.cell? ((⟨b, off, spot⟩ : Addr).add (i * 6 + 4)) = some (.int .i64 r.ekind) ∧ W.cell? ((⟨b, off, spot⟩ : Addr).add (i * 6 + 5)) = some (.string r.edata) := fun i hi => by
      obtain ⟨r, e, h1⟩ := hq i hi
      exact ⟨r, by rw [e]; rfl, h1⟩
    refine ⟨some ⟨b, off, spot⟩, b, off, cap, (List.range len).map fun i => (q i).getD ⟨0, 0, 0, 0, 0, ByteArray.empty⟩, by simp, by simp; omega, ?_, ?_, ?_⟩
    · intro r hr
      obtain ⟨i, hi, rfl⟩ := List.mem_map.1 hr
      obtain ⟨r, e, h1, _⟩ := get i (List.mem_range.1 hi)
      rw [e]; exact h1
    · intro hp
      have hp' : 0 < len := by simpa using hp
      obtain ⟨r, _, _, h1⟩ := get 0 hp'
      have hspot : spot = none := by simpa [Addr.add] using World.cell?_spot h1.1
      rw [hspot]
    · intro j hj
      have hj' : j < len := by simpa using hj
      obtain ⟨r, e, _, h1⟩ := get j hj'
      obtain ⟨_, _, _, h0⟩ := get 0 (by omega)
      have hspot : spot = none := by simpa [Addr.add] using World.cell?_spot h0.1
      subst hspot
      simp only [List.getElem_map, List.getElem_range, e]
      simpa [Addr.add_lit, Nat.add_assoc] using h1
set_option maxRecDepth 100000 in
theorem openAp_arg {H : Type} {enc : TypeId × Value → H} {W : World} {base b0 : Nat} {r : Reach} {sp : Nat → Bool} {held : Bool} {v : Value} {d : DataW H} {p : List MemPlace}
    (hv : Value.okWide Try.prog W r b0 37 v) (h : DataW.Trod enc Try.prog W base sp held 37 v d p) :
    ∃ (a : Option Addr) (g off cap : Nat) (l : List ApL), v = .slice a l.length cap ∧ l.length ≤ maxLen ∧ (∀ r ∈ l, rightAp r) ∧ ApAt W a g off l := by
  obtain ⟨a0, len0, cap0, rfl⟩ := okWide_slice Try.underlying37 hv
  obtain ⟨fuel, hf⟩ := h
  obtain ⟨a, g, off, cap, l, e, h2, h3, h4⟩ := openApS hf
  simp [Value.cells] at e
  obtain ⟨rfl, rfl, rfl⟩ := e
  exact ⟨_, g, off, _, l, rfl, h2, h3, h4⟩
end Go.Proofs.Ytddmogggdckneaa
