/- A slice of Rp that came in, opened: its cells. Made by program. -/
import Derived.Test.YtddmogggdckneaaRows
import Derived.Test.YtddmogggdckneaaLRp
import Derived.ProofKit
import Derived.OpenShut
import Derived.ShutString
import Derived.ChangeOld
import Derived.Deep.DeepHandedRow
import Derived.Deep.SlicePairs
import Derived.Lib.SmallJoins
import Derived.Deep.Slices
namespace Go.Proofs.Ytddmogggdckneaa
open Go.ChangeShapes Go.WideShapes Go.ChangeAt Go.RowKit Go.Deep
set_option linter.unusedVariables false
theorem listOfRp6 {α : Type _} {xs : List α} (h : xs.length = 6) : ∃ x0 x1 x2 x3 x4 x5, xs = [x0, x1, x2, x3, x4, x5] := by
  match xs, h with
  | [x0, x1, x2, x3, x4, x5], _ => exact ⟨x0, x1, x2, x3, x4, x5, rfl⟩
def rightRp (r : RpL) : Prop := smallRp maxLen r ∧ (Lit.int .i64 r.session).wf = true ∧ (Lit.int .i64 r.seq).wf = true

set_option maxRecDepth 100000 in
theorem openRp_elem {H : Type} {enc : TypeId × Value → H} {W : World} {base : Nat} {sp : Nat → Bool} {held : Bool} {a : Addr} {i n : Nat} {y : DataW H × List MemPlace} {cs : List Value}
    (h1 : W.cells? base (a.add (i * 9)) 9 = some cs) (h2 : DataW.trod enc Try.prog W base sp held n 84 cs = some y) : ∃ r : RpL, rightRp r ∧ W.cell? (a.add (i * 9)) = some (.int .i64 r.call) ∧ W.cell? (a.add (i * 9 + 1)) = some (.int .i64 r.idx) ∧ W.cell? (a.add (i * 9 + 2)) = some (.int .i64 r.op) ∧ W.cell? (a.add (i * 9 + 3)) = some (.int .i64 r.session) ∧ W.cell? (a.add (i * 9 + 4)) = some (.int .i64 r.seq) ∧ W.cell? (a.add (i * 9 + 5)) = some (.string r.key) ∧ W.cell? (a.add (i * 9 + 6)) = some (.string r.old) ∧ W.cell? (a.add (i * 9 + 7)) = some (.string r.value) ∧ W.cell? (a.add (i * 9 + 8)) = some (.string r.text) := by
  obtain ⟨_, hlen, hcell⟩ := World.cells?_some h1
  obtain ⟨xs, k, hk, hxy, _, hxl, hf⟩ := DataW.trod_struct Try.underlying84 h2
  match xs, hxl, cs, hlen with
  | [y0, y1, y2, y3], _, [v0, v1, v2, v3, v4, v5, v6, v7, v8], _ =>
    have g0 := hf 0 _ rfl
    simp [show Try.prog.cellsOf 3 = 1 by kernel_rfl] at g0
    obtain ⟨F0, e0, _, m0⟩ := DataW.trod_int Try.underlying3 g0
    have g1 := hf 1 _ rfl
    simp [show Try.prog.cellsOf 3 = 1 by kernel_rfl] at g1
    obtain ⟨F1, e1, _, m1⟩ := DataW.trod_int Try.underlying3 g1
    have g2 := hf 2 _ rfl
    simp [show Try.prog.cellsOf 82 = 6 by kernel_rfl] at g2
    obtain ⟨zs2, kk2, _, _, _, hzl2, hzf2⟩ := DataW.trod_struct Try.underlying82 g2
    obtain ⟨w2_0, w2_1, w2_2, w2_3, w2_4, w2_5, rfl⟩ := listOfRp6 (show zs2.length = 6 from hzl2)
    have f2_0 := hzf2 0 _ rfl
    simp [show Try.prog.cellsOf 3 = 1 by kernel_rfl] at f2_0
    obtain ⟨F2, e2, _, m2⟩ := DataW.trod_int Try.underlying3 f2_0
    have f2_1 := hzf2 1 _ rfl
    simp [show Try.prog.cellsOf 3 = 1 by kernel_rfl] at f2_1
    obtain ⟨F3, e3, _, m3⟩ := DataW.trod_int Try.underlying3 f2_1
    have f2_2 := hzf2 2 _ rfl
    simp [show Try.prog.cellsOf 3 = 1 by kernel_rfl] at f2_2
    obtain ⟨F4, e4, _, m4⟩ := DataW.trod_int Try.underlying3 f2_2
    have f2_3 := hzf2 3 _ rfl
    simp [show Try.prog.cellsOf 9 = 1 by kernel_rfl] at f2_3
    obtain ⟨F5, e5, _, z5⟩ := DataW.trod_string Try.underlying9 f2_3
    have f2_4 := hzf2 4 _ rfl
    simp [show Try.prog.cellsOf 9 = 1 by kernel_rfl] at f2_4
    obtain ⟨F6, e6, _, z6⟩ := DataW.trod_string Try.underlying9 f2_4
    have f2_5 := hzf2 5 _ rfl
    simp [show Try.prog.cellsOf 9 = 1 by kernel_rfl] at f2_5
    obtain ⟨F7, e7, _, z7⟩ := DataW.trod_string Try.underlying9 f2_5
    have g3 := hf 3 _ rfl
    simp [show Try.prog.cellsOf 9 = 1 by kernel_rfl] at g3
    obtain ⟨F8, e8, _, z8⟩ := DataW.trod_string Try.underlying9 g3
    have q0 := hcell 0 (by omega)
    rw [add_add] at q0
    have q1 := hcell 1 (by omega)
    rw [add_add] at q1
    have q2 := hcell 2 (by omega)
    rw [add_add] at q2
    have q3 := hcell 3 (by omega)
    rw [add_add] at q3
    have q4 := hcell 4 (by omega)
    rw [add_add] at q4
    have q5 := hcell 5 (by omega)
    rw [add_add] at q5
    have q6 := hcell 6 (by omega)
    rw [add_add] at q6
    have q7 := hcell 7 (by omega)
    rw [add_add] at q7
    have q8 := hcell 8 (by omega)
    rw [add_add] at q8
    simp at e0 e1 e2 e3 e4 e5 e6 e7 e8
    subst e0 e1 e2 e3 e4 e5 e6 e7 e8
    refine ⟨⟨F0, F1, F2, F3, F4, F5, F6, F7, F8⟩, ⟨⟨z5, z6, z7, z8⟩, m3, m4⟩, ?_, ?_, ?_, ?_, ?_, ?_, ?_, ?_, ?_⟩
    · simpa using q0
    · simpa using q1
    · simpa using q2
    · simpa using q3
    · simpa using q4
    · simpa using q5
    · simpa using q6
    · simpa using q7
    · simpa using q8

theorem openRpS {H : Type} {enc : TypeId × Value → H} {W : World} {base : Nat} {sp : Nat → Bool} {held : Bool} {fuel : Nat} {cs : List Value} {x : DataW H × List MemPlace}
    (h : DataW.trod enc Try.prog W base sp held fuel 44 cs = some x) :
    ∃ (a : Option Addr) (g off cap : Nat) (l : List RpL), cs = [.slice a l.length cap] ∧ l.length ≤ maxLen ∧ (∀ r ∈ l, rightRp r) ∧ RpAt W a g off l := by
  rcases open_slice Try.underlying44 h with ⟨rfl, _⟩ | ⟨a, len, cap, m, n, D, Pl, rfl, hb, hl, hm, hmm, _, hx⟩
  · exact ⟨none, 0, 0, 0, [], rfl, Nat.zero_le _, fun f hf => (List.not_mem_nil hf).elim, fun h => absurd h (Nat.lt_irrefl _), fun j hj => absurd hj (Nat.not_lt_zero _)⟩
  · have hlm : len ≤ m := by rw [hmm]; split <;> omega
    have each : ∀ i, i < len → ∃ r : RpL, rightRp r ∧ W.cell? (a.add (i * 9)) = some (.int .i64 r.call) ∧ W.cell? (a.add (i * 9 + 1)) = some (.int .i64 r.idx) ∧ W.cell? (a.add (i * 9 + 2)) = some (.int .i64 r.op) ∧ W.cell? (a.add (i * 9 + 3)) = some (.int .i64 r.session) ∧ W.cell? (a.add (i * 9 + 4)) = some (.int .i64 r.seq) ∧ W.cell? (a.add (i * 9 + 5)) = some (.string r.key) ∧ W.cell? (a.add (i * 9 + 6)) = some (.string r.old) ∧ W.cell? (a.add (i * 9 + 7)) = some (.string r.value) ∧ W.cell? (a.add (i * 9 + 8)) = some (.string r.text) := fun i hi => by
      obtain ⟨cs', h1, h2⟩ := hx i (by omega)
      exact openRp_elem (by rw [← show Try.prog.cellsOf 84 = 9 by kernel_rfl]; exact h1) h2
    obtain ⟨q, hq⟩ := choose_lt (α := Option RpL) (p := fun i o => ∃ r, o = some r ∧ rightRp r ∧ W.cell? (a.add (i * 9)) = some (.int .i64 r.call) ∧ W.cell? (a.add (i * 9 + 1)) = some (.int .i64 r.idx) ∧ W.cell? (a.add (i * 9 + 2)) = some (.int .i64 r.op) ∧ W.cell? (a.add (i * 9 + 3)) = some (.int .i64 r.session) ∧ W.cell? (a.add (i * 9 + 4)) = some (.int .i64 r.seq) ∧ W.cell? (a.add (i * 9 + 5)) = some (.string r.key) ∧ W.cell? (a.add (i * 9 + 6)) = some (.string r.old) ∧ W.cell? (a.add (i * 9 + 7)) = some (.string r.value) ∧ W.cell? (a.add (i * 9 + 8)) = some (.string r.text)) (fun i hi => by obtain ⟨r, hr⟩ := each i hi; exact ⟨some r, r, rfl, hr⟩)
    obtain ⟨b, off, spot⟩ := a
    have get : ∀ i (hi : i < len), ∃ r, (q i).getD ⟨0, 0, 0, 0, 0, ByteArray.empty, ByteArray.empty, ByteArray.empty, ByteArray.empty⟩ = r ∧ rightRp r ∧ W.cell? ((⟨b, off, spot⟩ : Addr).add (i * 9)) = some (.int .i64 r.call) ∧ W.cell? ((⟨b, off, spot⟩ : Addr).add (i * 9 + 1)) = some (.int .i64 r.idx) ∧ W.cell? ((⟨b, off, spot⟩ : Addr).add (i * 9 + 2)) = some (.int .i64 r.op) ∧ W.cell? ((⟨b, off, spot⟩ : Addr).add (i * 9 + 3)) = some (.int .i64 r.session) ∧ W.cell? ((⟨b, off, spot⟩ : Addr).add (i * 9 + 4)) = some (.int .i64 r.seq) ∧ W.cell? ((⟨b, off, spot⟩ : Addr).add (i * 9 + 5)) = some (.string r.key) ∧ W.cell? ((⟨b, off, spot⟩ : Addr).add (i * 9 + 6)) = some (.string r.old) ∧ W.cell? ((⟨b, off, spot⟩ : Addr).add (i * 9 + 7)) = some (.string r.value) ∧ W.cell? ((⟨b, off, spot⟩ : Addr).add (i * 9 + 8)) = some (.string r.text) := fun i hi => by
      obtain ⟨r, e, h1⟩ := hq i hi
      exact ⟨r, by rw [e]; rfl, h1⟩
    refine ⟨some ⟨b, off, spot⟩, b, off, cap, (List.range len).map fun i => (q i).getD ⟨0, 0, 0, 0, 0, ByteArray.empty, ByteArray.empty, ByteArray.empty, ByteArray.empty⟩, by simp, by simp; omega, ?_, ?_, ?_⟩
    · intro r hr
      obtain ⟨i, hi, rfl⟩ := List.mem_map.1 hr
      obtain ⟨r, e, h1, _⟩ := get i (List.mem_range.1 hi)
      rw [e]; exact h1
    · intro hp
      have hp' : 0 < len := by simpa using hp
      obtain ⟨r, _, _, h1⟩ := get 0 hp'
      have hspot : spot = none := by simpa [Addr.add] using World.cell?_spot h1.1
      rw [hspot]
    · intro j hj
      have hj' : j < len := by simpa using hj
      obtain ⟨r, e, _, h1⟩ := get j hj'
      obtain ⟨_, _, _, h0⟩ := get 0 (by omega)
      have hspot : spot = none := by simpa [Addr.add] using World.cell?_spot h0.1
      subst hspot
      simp only [List.getElem_map, List.getElem_range, e]
      simpa [Addr.add_lit, Nat.add_assoc] using h1
set_option maxRecDepth 100000 in
theorem openRp_arg {H : Type} {enc : TypeId × Value → H} {W : World} {base b0 : Nat} {r : Reach} {sp : Nat → Bool} {held : Bool} {v : Value} {d : DataW H} {p : List MemPlace}
    (hv : Value.okWide Try.prog W r b0 44 v) (h : DataW.Trod enc Try.prog W base sp held 44 v d p) :
    ∃ (a : Option Addr) (g off cap : Nat) (l : List RpL), v = .slice a l.length cap ∧ l.length ≤ maxLen ∧ (∀ r ∈ l, rightRp r) ∧ RpAt W a g off l := by
  obtain ⟨a0, len0, cap0, rfl⟩ := okWide_slice Try.underlying44 hv
  obtain ⟨fuel, hf⟩ := h
  obtain ⟨a, g, off, cap, l, e, h2, h3, h4⟩ := openRpS hf
  simp [Value.cells] at e
  obtain ⟨rfl, rfl, rfl⟩ := e
  exact ⟨_, g, off, _, l, rfl, h2, h3, h4⟩
end Go.Proofs.Ytddmogggdckneaa
