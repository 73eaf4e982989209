/- What the row's list of variables gives: the table of powers. Disks and files that came in, opened: their cells. A list of ints that came in, and a manifest that came in, opened: their cells. A slice of Spot that came in, opened: its cells. Made by program. A shelf that came in, opened. -/
import Derived.Test.YtbcfiiilikkkeaaGreatDoorRows
import Derived.Test.YtbcfiiilikkkeaaGreatDoorImplSegs
import Derived.Stop.LaidErr
import Derived.Lib.LaidTab
import Derived.LaidLaws
import Derived.Test.YtbcfiiilikkkeaaGreatDoorAt
import Derived.Test.YtbcfiiilikkkeaaGreatDoorReader
import Derived.Test.YtbcfiiilikkkeaaGreatDoorMathAt
import Derived.Test.YtbcfiiilikkkeaaGreatDoorLRaw
import Derived.ProofKit
import Derived.OpenShut
import Derived.ShutString
import Derived.ChangeOld
import Derived.Deep.DeepHandedRow
import Derived.Deep.SlicePairs
import Derived.Lib.SmallJoins
import Derived.Test.YtbcfiiilikkkeaaGreatDoorWords5
import Derived.Deep.Slices
import Derived.Test.YtbcfiiilikkkeaaGreatDoorRdDir
import Derived.Test.YtbcfiiilikkkeaaGreatDoorSh
namespace Go.Proofs.YtbcfiiilikkkeaaGreatDoor
open Go.RowKit

theorem gPowA : Tryz.prog.globalNamed "internal/strconv.uint64pow10" = some 3 := by kernel_rfl
theorem gPowTypeA : (Tryz.prog.globals[3]?).map (·.type) = some 396 := by kernel_rfl
theorem cells396 : Tryz.prog.cellsOf 396 = 20 := by kernel_rfl
theorem cells274 : Tryz.prog.cellsOf 274 = 1 := by kernel_rfl
theorem pow_ofSnap {W : World} (h : laidMetH Tryz.prog Rows.fnExactSnapTextRow.laid W) : Pow W := by
  have h' : laidMet Tryz.prog [("math/bits.deBruijn32tab", Rows.laid_math_bits_deBruijn32tab), ("math/bits.deBruijn64tab", Rows.laid_math_bits_deBruijn64tab), ("internal/strconv.uint64pow10", Rows.laid_internal_strconv_uint64pow10)] W := h
  exact Lib.tabIs_of_head (rest := []) gPowA gPowTypeA Tryz.underlying396 Tryz.underlying274 cells274 cells396 (laidMet.tail (laidMet.tail h'))
end Go.Proofs.YtbcfiiilikkkeaaGreatDoor
namespace Go.Proofs.YtbcfiiilikkkeaaGreatDoor
open Go.ChangeShapes Go.WideShapes Go.ChangeAt Go.RowKit Go.Deep

def strOf : Value → ByteArray
  | .string s => s
  | _ => ByteArray.empty

theorem open_files {H : Type} {enc : TypeId × Value → H} {W : World} {base : Nat} {sp : Nat → Bool} {held : Bool} {fuel : Nat} {cs : List Value} {x : DataW H × List MemPlace}
    (h : DataW.trod enc Tryz.prog W base sp held fuel 22 cs = some x) :
    ∃ (a : Option Addr) (g off cap : Nat) (l : List FileL), cs = [.slice a l.length cap] ∧ l.length ≤ maxLen ∧ (∀ f ∈ l, f.1.size ≤ maxLen ∧ f.2.size ≤ maxLen) ∧ FilesAt W a g off l := by
  rcases open_slice_pairs Tryz.underlying22 Tryz.underlying171 (by kernel_rfl) rfl rfl (by kernel_rfl) (by kernel_rfl) h with ⟨rfl, _⟩ | ⟨a, len, cap, m, n, V0, V1, D0, D1, P0, P1, rfl, _, hl, hm, hmm, _, hx⟩
  · exact ⟨none, 0, 0, 0, [], rfl, Nat.zero_le _, fun f hf => (List.not_mem_nil hf).elim, fun h => absurd h (Nat.lt_irrefl _), fun j hj => absurd hj (Nat.not_lt_zero _)⟩
  · have hlm : len ≤ m := by rw [hmm]; split <;> omega
    obtain ⟨b, off, spot⟩ := a
    have key : ∀ i, i < len → ∃ s0 s1 : ByteArray, V0 i = .string s0 ∧ V1 i = .string s1 ∧ s0.size ≤ maxLen ∧ s1.size ≤ maxLen := by
      intro i hi
      obtain ⟨_, _, h0, h1⟩ := hx i (by omega)
      obtain ⟨s0, e0, _, z0⟩ := DataW.trod_string Tryz.underlying9 h0
      obtain ⟨s1, e1, _, z1⟩ := DataW.trod_string Tryz.underlying9 h1
      exact ⟨s0, s1, by simpa using e0, by simpa using e1, z0, z1⟩
    refine ⟨some ⟨b, off, spot⟩, b, off, cap, (List.range len).map fun i => (strOf (V0 i), strOf (V1 i)), by simp, by simp; omega, ?_, ?_, ?_⟩
    · intro f hf
      obtain ⟨i, hi, rfl⟩ := List.mem_map.1 hf
      obtain ⟨s0, s1, e0, e1, z0, z1⟩ := key i (List.mem_range.1 hi)
      rw [e0, e1]
      exact ⟨z0, z1⟩
    · intro hp
      have hp' : 0 < len := by simpa using hp
      have hc := (hx 0 (by omega)).1
      have hspot : spot = none := by simpa [Addr.add] using World.cell?_spot hc
      rw [hspot]
    · intro j hj
      have hj' : j < len := by simpa using hj
      obtain ⟨c0, c1, _, _⟩ := hx j (by omega)
      have hspot : spot = none := by simpa [Addr.add] using World.cell?_spot (hx 0 (by omega)).1
      subst hspot
      obtain ⟨s0, s1, e0, e1, _, _⟩ := key j hj'
      rw [e0] at c0
      rw [e1] at c1
      simp only [List.getElem_map, List.getElem_range, e0, e1, strOf]
      rw [Addr.add_lit] at c0 c1
      exact ⟨c0, c1⟩

set_option maxRecDepth 100000 in
theorem open_disk {H : Type} {enc : TypeId × Value → H} {W : World} {base b0 : Nat} {r : Reach} {sp : Nat → Bool} {held : Bool} {v : Value} {d : DataW H} {p : List MemPlace}
    (hv : Value.okWide Tryz.prog W r b0 24 v) (h : DataW.Trod enc Tryz.prog W base sp held 24 v d p) :
    ∃ (a : Option Addr) (g off cap : Nat) (l : List FileL), v = .agg #[.slice a l.length cap] ∧ l.length ≤ maxLen ∧ (∀ f ∈ l, f.1.size ≤ maxLen ∧ f.2.size ≤ maxLen) ∧ FilesAt W a g off l := by
  obtain ⟨cs, rfl, hsz⟩ := okWide_struct Tryz.underlying24 hv
  have h1 : cs.size = 1 := hsz.trans (by kernel_rfl)
  obtain ⟨c0, rfl⟩ : ∃ c0, cs = #[c0] := Array.size_eq_one_iff.1 h1
  obtain ⟨fuel, hf⟩ := h
  obtain ⟨y0, n, _, _, h0⟩ := trod_struct1 Tryz.underlying24 hf
  have h0' : DataW.trod enc Tryz.prog W base sp held n 22 [c0] = some y0 := by
    simpa [Value.cells, show Tryz.prog.cellsOf 22 = 1 by kernel_rfl] using h0
  obtain ⟨a, g, off, cap, l, e, h2, h3, h4⟩ := open_files h0'
  obtain rfl : c0 = .slice a l.length cap := by simpa using e
  exact ⟨a, g, off, cap, l, rfl, h2, h3, h4⟩

end Go.Proofs.YtbcfiiilikkkeaaGreatDoor
namespace Go.Proofs.YtbcfiiilikkkeaaGreatDoor
open Go.ChangeShapes Go.WideShapes Go.ChangeAt Go.RowKit Go.Deep
set_option linter.unusedVariables false

theorem openInt_elem {H : Type} {enc : TypeId × Value → H} {W : World} {base : Nat} {sp : Nat → Bool} {held : Bool} {a : Addr} {i n : Nat} {y : DataW H × List MemPlace} {cs : List Value}
    (h1 : W.cells? base (a.add (i * 1)) 1 = some cs) (h2 : DataW.trod enc Tryz.prog W base sp held n 3 cs = some y) : ∃ r : Int, W.cell? (a.add i) = some (.int .i64 r) := by
  obtain ⟨_, hlen, hcell⟩ := World.cells?_some h1
  obtain ⟨r, e, _, _⟩ := DataW.trod_int Tryz.underlying3 h2
  subst e
  have q := hcell 0 (by omega)
  refine ⟨r, ?_⟩
  simpa [Addr.add, Nat.mul_one] using q
theorem openIntS {H : Type} {enc : TypeId × Value → H} {W : World} {base : Nat} {sp : Nat → Bool} {held : Bool} {fuel : Nat} {cs : List Value} {x : DataW H × List MemPlace}
    (h : DataW.trod enc Tryz.prog W base sp held fuel 25 cs = some x) :
    ∃ (a : Option Addr) (g off cap : Nat) (l : List Int), cs = [.slice a l.length cap] ∧ l.length ≤ maxLen ∧ IntAt W a g off l := by
  rcases open_slice Tryz.underlying25 h with ⟨rfl, _⟩ | ⟨a, len, cap, m, n, D, Pl, rfl, hb, hl, hm, hmm, _, hx⟩
  · exact ⟨none, 0, 0, 0, [], rfl, Nat.zero_le _, fun h => absurd h (Nat.lt_irrefl _), fun j hj => absurd hj (Nat.not_lt_zero _)⟩
  · have hlm : len ≤ m := by rw [hmm]; split <;> omega
    have each : ∀ i, i < len → ∃ r : Int, W.cell? (a.add i) = some (.int .i64 r) := fun i hi => by
      obtain ⟨cs', h1, h2⟩ := hx i (by omega)
      exact openInt_elem (by rw [← show Tryz.prog.cellsOf 3 = 1 by kernel_rfl]; exact h1) h2
    obtain ⟨q, hq⟩ := choose_lt (α := Option Int) (p := fun i o => ∃ r, o = some r ∧ W.cell? (a.add i) = some (.int .i64 r)) (fun i hi => by obtain ⟨r, hr⟩ := each i hi; exact ⟨some r, r, rfl, hr⟩)
    obtain ⟨b, off, spot⟩ := a
    have get : ∀ i (hi : i < len), ∃ r, (q i).getD 0 = r ∧ W.cell? ((⟨b, off, spot⟩ : Addr).add i) = some (.int .i64 r) := fun i hi => by
      obtain ⟨r, e, h1⟩ := hq i hi
      exact ⟨r, by rw [e]; rfl, h1⟩
    refine ⟨some ⟨b, off, spot⟩, b, off, cap, (List.range len).map fun i => (q i).getD 0, by simp, by simp; omega, ?_, ?_⟩
    · intro hp
      have hp' : 0 < len := by simpa using hp
      obtain ⟨r, _, h1⟩ := get 0 hp'
      have hspot : spot = none := by simpa [Addr.add] using World.cell?_spot h1
      rw [hspot]
    · intro j hj
      have hj' : j < len := by simpa using hj
      obtain ⟨r, e, h1⟩ := get j hj'
      obtain ⟨_, _, h0⟩ := get 0 (by omega)
      have hspot : spot = none := by simpa [Addr.add] using World.cell?_spot h0
      subst hspot
      simp only [List.getElem_map, List.getElem_range, e]
      simpa [Addr.add_lit, Nat.add_assoc] using h1
end Go.Proofs.YtbcfiiilikkkeaaGreatDoor
namespace Go.Proofs.YtbcfiiilikkkeaaGreatDoor
open Go.ChangeShapes Go.WideShapes Go.ChangeAt Go.RowKit Go.Deep
set_option linter.unusedVariables false

set_option maxRecDepth 100000 in
theorem openSpot_elem {H : Type} {enc : TypeId × Value → H} {W : World} {base : Nat} {sp : Nat → Bool} {held : Bool} {a : Addr} {i n : Nat} {y : DataW H × List MemPlace} {cs : List Value}
    (h1 : W.cells? base (a.add (i * 4)) 4 = some cs) (h2 : DataW.trod enc Tryz.prog W base sp held n 173 cs = some y) : ∃ r : SpotL, smallSpot maxLen r ∧ W.cell? (a.add (i * 4)) = some (.string r.key) ∧ W.cell? (a.add (i * 4 + 1)) = some (.int .i64 r.seg) ∧ W.cell? (a.add (i * 4 + 2)) = some (.int .i64 r.pos) ∧ W.cell? (a.add (i * 4 + 3)) = some (.int .i64 r.size) := by
  obtain ⟨_, hlen, hcell⟩ := World.cells?_some h1
  obtain ⟨xs, k, hk, hxy, _, hxl, hf⟩ := DataW.trod_struct Tryz.underlying173 h2
  match xs, hxl, cs, hlen with
  | [y0, y1, y2, y3], _, [v0, v1, v2, v3], _ =>
    have g0 := hf 0 _ rfl
    simp [show Tryz.prog.cellsOf 9 = 1 by kernel_rfl] at g0
    have g1 := hf 1 _ rfl
    simp [show Tryz.prog.cellsOf 3 = 1 by kernel_rfl] at g1
    have g2 := hf 2 _ rfl
    simp [show Tryz.prog.cellsOf 3 = 1 by kernel_rfl] at g2
    have g3 := hf 3 _ rfl
    simp [show Tryz.prog.cellsOf 3 = 1 by kernel_rfl] at g3
    obtain ⟨F0, e0, _, z0⟩ := DataW.trod_string Tryz.underlying9 g0
    obtain ⟨F1, e1, _, _⟩ := DataW.trod_int Tryz.underlying3 g1
    obtain ⟨F2, e2, _, _⟩ := DataW.trod_int Tryz.underlying3 g2
    obtain ⟨F3, e3, _, _⟩ := DataW.trod_int Tryz.underlying3 g3
    have q0 := hcell 0 (by omega)
    rw [add_add] at q0
    have q1 := hcell 1 (by omega)
    rw [add_add] at q1
    have q2 := hcell 2 (by omega)
    rw [add_add] at q2
    have q3 := hcell 3 (by omega)
    rw [add_add] at q3
    refine ⟨⟨F0, F1, F2, F3⟩, z0, ?_, ?_, ?_, ?_⟩
    · simp at e0; subst e0; simpa using q0
    · simp at e1; subst e1; simpa using q1
    · simp at e2; subst e2; simpa using q2
    · simp at e3; subst e3; simpa using q3

theorem openSpotS {H : Type} {enc : TypeId × Value → H} {W : World} {base : Nat} {sp : Nat → Bool} {held : Bool} {fuel : Nat} {cs : List Value} {x : DataW H × List MemPlace}
    (h : DataW.trod enc Tryz.prog W base sp held fuel 28 cs = some x) :
    ∃ (a : Option Addr) (g off cap : Nat) (l : List SpotL), cs = [.slice a l.length cap] ∧ l.length ≤ maxLen ∧ (∀ r ∈ l, smallSpot maxLen r) ∧ SpotAt W a g off l := by
  rcases open_slice Tryz.underlying28 h with ⟨rfl, _⟩ | ⟨a, len, cap, m, n, D, Pl, rfl, hb, hl, hm, hmm, _, hx⟩
  · exact ⟨none, 0, 0, 0, [], rfl, Nat.zero_le _, fun f hf => (List.not_mem_nil hf).elim, fun h => absurd h (Nat.lt_irrefl _), fun j hj => absurd hj (Nat.not_lt_zero _)⟩
  · have hlm : len ≤ m := by rw [hmm]; split <;> omega
    have each : ∀ i, i < len → ∃ r : SpotL, smallSpot maxLen r ∧ W.cell? (a.add (i * 4)) = some (.string r.key) ∧ W.cell? (a.add (i * 4 + 1)) = some (.int .i64 r.seg) ∧ W.cell? (a.add (i * 4 + 2)) = some (.int .i64 r.pos) ∧ W.cell? (a.add (i * 4 + 3)) = some (.int .i64 r.size) := fun i hi => by
      obtain ⟨cs', h1, h2⟩ := hx i (by omega)
      exact openSpot_elem (by rw [← show Tryz.prog.cellsOf 173 = 4 by kernel_rfl]; exact h1) h2
    obtain ⟨q, hq⟩ := choose_lt (α := Option SpotL) (p := fun i o => ∃ r, o = some r ∧ smallSpot maxLen r ∧ W.cell? (a.add (i * 4)) = some (.string r.key) ∧ W.cell? (a.add (i * 4 + 1)) = some (.int .i64 r.seg) ∧ W.cell? (a.add (i * 4 + 2)) = some (.int .i64 r.pos) ∧ W.cell? (a.add (i * 4 + 3)) = some (.int .i64 r.size)) (fun i hi => by obtain ⟨r, hr⟩ := each i hi; exact ⟨some r, r, rfl, hr⟩)
    obtain ⟨b, off, spot⟩ := a
    have get : ∀ i (hi : i < len), ∃ r, (q i).getD ⟨ByteArray.empty, 0, 0, 0⟩ = r ∧ smallSpot maxLen r ∧ W.cell? ((⟨b, off, spot⟩ : Addr).add (i * 4)) = some (.string r.key) ∧ W.cell? ((⟨b, off, spot⟩ : Addr).add (i * 4 + 1)) = some (.int .i64 r.seg) ∧ W.cell? ((⟨b, off, spot⟩ : Addr).add (i * 4 + 2)) = some (.int .i64 r.pos) ∧ W.cell? ((⟨b, off, spot⟩ : Addr).add (i * 4 + 3)) = some (.int .i64 r.size) := fun i hi => by
      obtain ⟨r, e, h1⟩ := hq i hi
      exact ⟨r, by rw [e]; rfl, h1⟩
    refine ⟨some ⟨b, off, spot⟩, b, off, cap, (List.range len).map fun i => (q i).getD ⟨ByteArray.empty, 0, 0, 0⟩, by simp, by simp; omega, ?_, ?_, ?_⟩
    · intro r hr
      obtain ⟨i, hi, rfl⟩ := List.mem_map.1 hr
      obtain ⟨r, e, h1, _⟩ := get i (List.mem_range.1 hi)
      rw [e]; exact h1
    · intro hp
      have hp' : 0 < len := by simpa using hp
      obtain ⟨r, _, _, h1⟩ := get 0 hp'
      have hspot : spot = none := by simpa [Addr.add] using World.cell?_spot h1.1
      rw [hspot]
    · intro j hj
      have hj' : j < len := by simpa using hj
      obtain ⟨r, e, _, h1⟩ := get j hj'
      obtain ⟨_, _, _, h0⟩ := get 0 (by omega)
      have hspot : spot = none := by simpa [Addr.add] using World.cell?_spot h0.1
      subst hspot
      simp only [List.getElem_map, List.getElem_range, e]
      simpa [Addr.add_lit, Nat.add_assoc] using h1
end Go.Proofs.YtbcfiiilikkkeaaGreatDoor
namespace Go.Proofs.YtbcfiiilikkkeaaGreatDoor
open Go.ChangeShapes Go.WideShapes Go.ChangeAt Go.RowKit Go.Deep
set_option linter.unusedVariables false

set_option maxRecDepth 100000 in
theorem open_shelf {H : Type} {enc : TypeId × Value → H} {W : World} {base b0 : Nat} {r : Reach} {sp : Nat → Bool} {held : Bool} {v : Value} {d : DataW H} {p : List MemPlace}
    (hv : Value.okWide Tryz.prog W r b0 30 v) (h : DataW.Trod enc Tryz.prog W base sp held 30 v d p) :
    ∃ (s : ShelfL) (sa : Option Addr) (sg so sc : Nat) (ca : Option Addr) (cg co cc : Nat) (da : Option Addr) (dg dof dc : Nat), v = .agg #[.slice sa s.man.segs.length sc, .int .i64 s.man.next, .int .i64 s.man.base, .int .i64 s.man.term, .slice ca s.man.conf.length cc, .slice da s.dir.length dc, .int .i64 s.stamp] ∧ s.man.segs.length ≤ maxLen ∧ s.man.conf.length ≤ maxLen ∧ s.dir.length ≤ maxLen ∧ (∀ r ∈ s.dir, smallSpot maxLen r) ∧ IntAt W sa sg so s.man.segs ∧ IntAt W ca cg co s.man.conf ∧ SpotAt W da dg dof s.dir := by
  obtain ⟨cs, rfl, hsz⟩ := okWide_struct Tryz.underlying30 hv
  obtain ⟨fuel, hf⟩ := h
  obtain ⟨cs⟩ := cs
  have hs7 : cs.length = 7 := hsz.trans (by kernel_rfl)
  have hf' : DataW.trod enc Tryz.prog W base sp held fuel 30 cs = some (d, p) := hf
  obtain ⟨xs, k, hk, hxy, _, hxl, hfl⟩ := DataW.trod_struct Tryz.underlying30 hf'
  match xs, hxl, cs, hs7 with
  | [y0, y1, y2], _, [v0, v1, v2, v3, v4, v5, v6], _ =>
    have g0 := hfl 0 _ rfl
    simp [show Tryz.prog.cellsOf 27 = 5 by kernel_rfl] at g0
    have g1 := hfl 1 _ rfl
    simp [show Tryz.prog.cellsOf 28 = 1 by kernel_rfl] at g1
    have g2 := hfl 2 _ rfl
    simp [show Tryz.prog.cellsOf 3 = 1 by kernel_rfl] at g2
    obtain ⟨zs, k2, hk2, hzy, _, hzl, hzf⟩ := DataW.trod_struct Tryz.underlying27 g0
    match zs, hzl with
    | [z0, z1, z2, z3, z4], _ =>
      have q0 := hzf 0 _ rfl
      simp [show Tryz.prog.cellsOf 25 = 1 by kernel_rfl] at q0
      have q1 := hzf 1 _ rfl
      simp [show Tryz.prog.cellsOf 3 = 1 by kernel_rfl] at q1
      have q2 := hzf 2 _ rfl
      simp [show Tryz.prog.cellsOf 3 = 1 by kernel_rfl] at q2
      have q3 := hzf 3 _ rfl
      simp [show Tryz.prog.cellsOf 3 = 1 by kernel_rfl] at q3
      have q4 := hzf 4 _ rfl
      simp [show Tryz.prog.cellsOf 25 = 1 by kernel_rfl] at q4
      obtain ⟨sa, sg, so, sc, l, e0, h2, h4⟩ := openIntS q0
      obtain ⟨x1, e1, _, _⟩ := DataW.trod_int Tryz.underlying3 q1
      obtain ⟨x2, e2, _, _⟩ := DataW.trod_int Tryz.underlying3 q2
      obtain ⟨x3, e3, _, _⟩ := DataW.trod_int Tryz.underlying3 q3
      obtain ⟨ca, cg, co, cc, l', e4, h2', h4'⟩ := openIntS q4
      obtain ⟨da, dg, dof, dc, dl, e5, h5, h6, h7⟩ := openSpotS g1
      obtain ⟨x6, e6, _, _⟩ := DataW.trod_int Tryz.underlying3 g2
      simp at e0 e1 e2 e3 e4 e5 e6
      subst e0 e1 e2 e3 e4 e5 e6
      exact ⟨⟨⟨l, x1, x2, x3, l'⟩, dl, x6⟩, sa, sg, so, sc, ca, cg, co, cc, da, dg, dof, dc, rfl, h2, h2', h5, h6, h4, h4', h7⟩
end Go.Proofs.YtbcfiiilikkkeaaGreatDoor
