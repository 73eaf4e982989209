/- A slice of leaders that came in, opened: its cells, and the entries of each. -/
import Derived.Test.YtddmogggdckneaaRows
import Derived.Test.YtddmogggdckneaaLLdS
import Derived.Test.YtddmogggdckneaaOEn
namespace Go.Proofs.Ytddmogggdckneaa
open Go.ChangeShapes Go.WideShapes Go.ChangeAt Go.RowKit Go.Deep
set_option linter.unusedVariables false
theorem ld3 {α : Type _} {xs : List α} (h : xs.length = 3) : ∃ x0 x1 x2, xs = [x0, x1, x2] := by
  match xs, h with
  | [x0, x1, x2], _ => exact ⟨x0, x1, x2, rfl⟩
def rightLd (r : LdL) : Prop := smallLd maxLen r ∧ (Lit.int .i64 r.term).wf = true
def cellsLd (W : World) (a : Addr) (i : Nat) (c : LcL) : Prop :=
  W.cell? (a.add (i * 5)) = some (.int .i64 c.node) ∧ W.cell? (a.add (i * 5 + 1)) = some (.int .i64 c.term) ∧ W.cell? (a.add (i * 5 + 2)) = some (.int .i64 c.start) ∧ W.cell? (a.add (i * 5 + 3)) = some (.int .i64 c.sterm) ∧ W.cell? (a.add (i * 5 + 4)) = some (.slice c.ents.1 c.ents.2.1 c.ents.2.2)
def PieceLd (W : World) (a : Addr) (i : Nat) (c : LcL) (r : LdL) : Prop := rightLd r ∧ OneLd W c r ∧ cellsLd W a i c
set_option maxRecDepth 100000 in
theorem openLd_elem {H : Type} {enc : TypeId × Value → H} {W : World} {base : Nat} {sp : Nat → Bool} {held : Bool} {a : Addr} {i n : Nat} {y : DataW H × List MemPlace} {cs : List Value}
    (h1 : W.cells? base (a.add (i * 5)) 5 = some cs) (h2 : DataW.trod enc Try.prog W base sp held n 102 cs = some y) : ∃ c r, PieceLd W a i c r := by
  obtain ⟨_, hlen, hcell⟩ := World.cells?_some h1
  obtain ⟨xs, k, hk, hxy, _, hxl, hf⟩ := DataW.trod_struct Try.underlying102 h2
  match xs, hxl, cs, hlen with
  | [y0, y1, y2], _, [v0, v1, v2, v3, v4], _ =>
    have g0 := hf 0 _ rfl
    simp [show Try.prog.cellsOf 3 = 1 by kernel_rfl] at g0
    obtain ⟨F0, e0, _, m0⟩ := DataW.trod_int Try.underlying3 g0
    have g1 := hf 1 _ rfl
    simp [show Try.prog.cellsOf 3 = 1 by kernel_rfl] at g1
    obtain ⟨F1, e1, _, m1⟩ := DataW.trod_int Try.underlying3 g1
    have g2 := hf 2 _ rfl
    simp [show Try.prog.cellsOf 24 = 3 by kernel_rfl] at g2
    obtain ⟨zs, kk, _, _, _, hzl, hzf⟩ := DataW.trod_struct Try.underlying24 g2
    obtain ⟨w0, w1, w2, rfl⟩ := ld3 (show zs.length = 3 from hzl)
    have f0 := hzf 0 _ rfl
    simp [show Try.prog.cellsOf 3 = 1 by kernel_rfl] at f0
    obtain ⟨F2, e2, _, m2⟩ := DataW.trod_int Try.underlying3 f0
    have f1 := hzf 1 _ rfl
    simp [show Try.prog.cellsOf 3 = 1 by kernel_rfl] at f1
    obtain ⟨F3, e3, _, m3⟩ := DataW.trod_int Try.underlying3 f1
    have f2 := hzf 2 _ rfl
    simp [show Try.prog.cellsOf 22 = 1 by kernel_rfl] at f2
    obtain ⟨b, gb, ob, cb, l, e4, h5, h6, h7⟩ := openEnS f2
    simp at e0 e1 e2 e3 e4
    subst e0 e1 e2 e3 e4
    have q0 := hcell 0 (by omega)
    rw [add_add] at q0
    have q1 := hcell 1 (by omega)
    rw [add_add] at q1
    have q2 := hcell 2 (by omega)
    rw [add_add] at q2
    have q3 := hcell 3 (by omega)
    rw [add_add] at q3
    have q4 := hcell 4 (by omega)
    rw [add_add] at q4
    refine ⟨⟨F0, F1, F2, F3, (b, l.length, cb)⟩, ⟨F0, F1, ⟨F2, F3, l⟩⟩, ⟨⟨h5, h6⟩, m1⟩, ⟨b, gb, ob, cb, rfl, h7⟩, ?_, ?_, ?_, ?_, ?_⟩
    · simpa using q0
    · simpa using q1
    · simpa using q2
    · simpa using q3
    · simpa using q4
theorem openLdS {H : Type} {enc : TypeId × Value → H} {W : World} {base : Nat} {sp : Nat → Bool} {held : Bool} {fuel : Nat} {cs : List Value} {x : DataW H × List MemPlace}
    (h : DataW.trod enc Try.prog W base sp held fuel 51 cs = some x) :
    ∃ (a : Option Addr) (g off cap : Nat) (ds : List LcL) (l : List LdL), cs = [.slice a l.length cap] ∧ l.length ≤ maxLen ∧ (∀ r ∈ l, rightLd r) ∧ LdAt W a g off ds l := by
  rcases open_slice Try.underlying51 h with ⟨rfl, _⟩ | ⟨a, len, cap, m, n, D, Pl, rfl, hb, hl, hm, hmm, _, hx⟩
  · exact ⟨none, 0, 0, 0, [], [], rfl, Nat.zero_le _, fun f hf => (List.not_mem_nil hf).elim, ⟨fun h => absurd h (Nat.lt_irrefl _), fun j hj => absurd hj (Nat.not_lt_zero _)⟩, rfl, fun j hj => absurd hj (Nat.not_lt_zero _)⟩
  · have hlm : len ≤ m := by rw [hmm]; split <;> omega
    have each : ∀ i, i < len → ∃ o : LcL × LdL, PieceLd W a i o.1 o.2 := fun i hi => by
      obtain ⟨cs', h1, h2⟩ := hx i (by omega)
      obtain ⟨c, r, hp⟩ := openLd_elem (by rw [← show Try.prog.cellsOf 102 = 5 by kernel_rfl]; exact h1) h2
      exact ⟨(c, r), hp⟩
    obtain ⟨q, hq⟩ := choose_lt (α := Option (LcL × LdL)) (p := fun i o => ∃ r, o = some r ∧ PieceLd W a i r.1 r.2) (fun i hi => by obtain ⟨r, hr⟩ := each i hi; exact ⟨some r, r, rfl, hr⟩)
    obtain ⟨b, off, spot⟩ := a
    have get : ∀ i (hi : i < len), PieceLd W ⟨b, off, spot⟩ i ((q i).getD (⟨0, 0, 0, 0, (none, 0, 0)⟩, ⟨0, 0, ⟨0, 0, []⟩⟩)).1 ((q i).getD (⟨0, 0, 0, 0, (none, 0, 0)⟩, ⟨0, 0, ⟨0, 0, []⟩⟩)).2 := fun i hi => by
      obtain ⟨r, e, h1⟩ := hq i hi
      rw [e]; exact h1
    refine ⟨some ⟨b, off, spot⟩, b, off, cap, (List.range len).map fun i => ((q i).getD (⟨0, 0, 0, 0, (none, 0, 0)⟩, ⟨0, 0, ⟨0, 0, []⟩⟩)).1, (List.range len).map fun i => ((q i).getD (⟨0, 0, 0, 0, (none, 0, 0)⟩, ⟨0, 0, ⟨0, 0, []⟩⟩)).2, by simp, by simp; omega, ?_, ⟨?_, ?_⟩, by simp, ?_⟩
    · intro r hr
      obtain ⟨i, hi, rfl⟩ := List.mem_map.1 hr
      exact (get i (List.mem_range.1 hi)).1
    · intro hp
      have hp' : 0 < len := by simpa using hp
      have h1 := (get 0 hp').2.2.1
      have hspot : spot = none := by simpa [Addr.add] using World.cell?_spot h1
      rw [hspot]
    · intro j hj
      have hj' : j < len := by simpa using hj
      have h1 := (get j hj').2.2
      have h0 := (get 0 (by omega)).2.2.1
      have hspot : spot = none := by simpa [Addr.add] using World.cell?_spot h0
      subst hspot
      simp only [List.getElem_map, List.getElem_range]
      unfold cellsLd at h1
      simpa [Addr.add_lit, Nat.add_assoc] using h1
    · intro j hj hj2
      have hj' : j < len := by simpa using hj
      simp only [List.getElem_map, List.getElem_range]
      exact (get j hj').2.1
set_option maxRecDepth 100000 in
theorem openLd_arg {H : Type} {enc : TypeId × Value → H} {W : World} {base b0 : Nat} {r : Reach} {sp : Nat → Bool} {held : Bool} {v : Value} {d : DataW H} {p : List MemPlace}
    (hv : Value.okWide Try.prog W r b0 51 v) (h : DataW.Trod enc Try.prog W base sp held 51 v d p) :
    ∃ (a : Option Addr) (g off cap : Nat) (ds : List LcL) (l : List LdL), v = .slice a l.length cap ∧ l.length ≤ maxLen ∧ (∀ r ∈ l, rightLd r) ∧ LdAt W a g off ds l := by
  obtain ⟨a0, len0, cap0, rfl⟩ := okWide_slice Try.underlying51 hv
  obtain ⟨fuel, hf⟩ := h
  obtain ⟨a, g, off, cap, ds, l, e, h2, h3, h4⟩ := openLdS hf
  simp [Value.cells] at e
  obtain ⟨rfl, rfl, rfl⟩ := e
  exact ⟨_, g, off, _, ds, l, rfl, h2, h3, h4⟩
end Go.Proofs.Ytddmogggdckneaa
