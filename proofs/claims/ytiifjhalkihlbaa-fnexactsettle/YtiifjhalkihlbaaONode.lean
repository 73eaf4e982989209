/- A node that came in, opened: its cells. Made by program. -/
import Derived.Test.YtiifjhalkihlbaaOEn
import Derived.Test.YtiifjhalkihlbaaOInts
import Derived.Test.YtiifjhalkihlbaaNodeA
namespace Go.Proofs.Ytiifjhalkihlbaa
open Go.ChangeShapes Go.WideShapes Go.ChangeAt Go.RowKit Go.Deep
set_option linter.unusedVariables false

set_option maxRecDepth 100000 in
theorem openPe_elem {H : Type} {enc : TypeId × Value → H} {W : World} {base : Nat} {sp : Nat → Bool} {held : Bool} {a : Addr} {i n : Nat} {y : DataW H × List MemPlace} {cs : List Value}
    (h1 : W.cells? base (a.add (i * 4)) 4 = some cs) (h2 : DataW.trod enc Try.prog W base sp held n 77 cs = some y) : ∃ r : PeerL, W.cell? (a.add (i * 4)) = some (.int .i64 r.id) ∧ W.cell? (a.add (i * 4 + 1)) = some (.int .i64 r.next) ∧ W.cell? (a.add (i * 4 + 2)) = some (.int .i64 r.mat) ∧ W.cell? (a.add (i * 4 + 3)) = some (.int .i64 r.sent) := by
  obtain ⟨_, hlen, hcell⟩ := World.cells?_some h1
  obtain ⟨xs, k, hk, hxy, _, hxl, hf⟩ := DataW.trod_struct Try.underlying77 h2
  match xs, hxl, cs, hlen with
  | [y0, y1, y2, y3], _, [v0, v1, v2, v3], _ =>
    have g0 := hf 0 _ rfl
    simp [show Try.prog.cellsOf 3 = 1 by kernel_rfl] at g0
    have g1 := hf 1 _ rfl
    simp [show Try.prog.cellsOf 3 = 1 by kernel_rfl] at g1
    have g2 := hf 2 _ rfl
    simp [show Try.prog.cellsOf 3 = 1 by kernel_rfl] at g2
    have g3 := hf 3 _ rfl
    simp [show Try.prog.cellsOf 3 = 1 by kernel_rfl] at g3
    obtain ⟨F0, e0, _, _⟩ := DataW.trod_int Try.underlying3 g0
    obtain ⟨F1, e1, _, _⟩ := DataW.trod_int Try.underlying3 g1
    obtain ⟨F2, e2, _, _⟩ := DataW.trod_int Try.underlying3 g2
    obtain ⟨F3, e3, _, _⟩ := DataW.trod_int Try.underlying3 g3
    have q0 := hcell 0 (by omega)
    rw [add_add] at q0
    have q1 := hcell 1 (by omega)
    rw [add_add] at q1
    have q2 := hcell 2 (by omega)
    rw [add_add] at q2
    have q3 := hcell 3 (by omega)
    rw [add_add] at q3
    refine ⟨⟨F0, F1, F2, F3⟩, ?_, ?_, ?_, ?_⟩
    · simp at e0; subst e0; simpa using q0
    · simp at e1; subst e1; simpa using q1
    · simp at e2; subst e2; simpa using q2
    · simp at e3; subst e3; simpa using q3

theorem openPeS {H : Type} {enc : TypeId × Value → H} {W : World} {base : Nat} {sp : Nat → Bool} {held : Bool} {fuel : Nat} {cs : List Value} {x : DataW H × List MemPlace}
    (h : DataW.trod enc Try.prog W base sp held fuel 26 cs = some x) :
    ∃ (a : Option Addr) (g off cap : Nat) (l : List PeerL), cs = [.slice a l.length cap] ∧ l.length ≤ maxLen ∧ PeAt W a g off l := by
  rcases open_slice Try.underlying26 h with ⟨rfl, _⟩ | ⟨a, len, cap, m, n, D, Pl, rfl, hb, hl, hm, hmm, _, hx⟩
  · exact ⟨none, 0, 0, 0, [], rfl, Nat.zero_le _, fun h => absurd h (Nat.lt_irrefl _), fun j hj => absurd hj (Nat.not_lt_zero _)⟩
  · have hlm : len ≤ m := by rw [hmm]; split <;> omega
    have each : ∀ i, i < len → ∃ r : PeerL, W.cell? (a.add (i * 4)) = some (.int .i64 r.id) ∧ W.cell? (a.add (i * 4 + 1)) = some (.int .i64 r.next) ∧ W.cell? (a.add (i * 4 + 2)) = some (.int .i64 r.mat) ∧ W.cell? (a.add (i * 4 + 3)) = some (.int .i64 r.sent) := fun i hi => by
      obtain ⟨cs', h1, h2⟩ := hx i (by omega)
      exact openPe_elem (by rw [← show Try.prog.cellsOf 77 = 4 by kernel_rfl]; exact h1) h2
    obtain ⟨q, hq⟩ := choose_lt (α := Option PeerL) (p := fun i o => ∃ r, o = some r ∧ W.cell? (a.add (i * 4)) = some (.int .i64 r.id) ∧ W.cell? (a.add (i * 4 + 1)) = some (.int .i64 r.next) ∧ W.cell? (a.add (i * 4 + 2)) = some (.int .i64 r.mat) ∧ W.cell? (a.add (i * 4 + 3)) = some (.int .i64 r.sent)) (fun i hi => by obtain ⟨r, hr⟩ := each i hi; exact ⟨some r, r, rfl, hr⟩)
    obtain ⟨b, off, spot⟩ := a
    have get : ∀ i (hi : i < len), ∃ r, (q i).getD ⟨0, 0, 0, 0⟩ = r ∧ W.cell? ((⟨b, off, spot⟩ : Addr).add (i * 4)) = some (.int .i64 r.id) ∧ W.cell? ((⟨b, off, spot⟩ : Addr).add (i * 4 + 1)) = some (.int .i64 r.next) ∧ W.cell? ((⟨b, off, spot⟩ : Addr).add (i * 4 + 2)) = some (.int .i64 r.mat) ∧ W.cell? ((⟨b, off, spot⟩ : Addr).add (i * 4 + 3)) = some (.int .i64 r.sent) := fun i hi => by
      obtain ⟨r, e, h1⟩ := hq i hi
      exact ⟨r, by rw [e]; rfl, h1⟩
    refine ⟨some ⟨b, off, spot⟩, b, off, cap, (List.range len).map fun i => (q i).getD ⟨0, 0, 0, 0⟩, by simp, by simp; omega, ?_, ?_⟩
    · intro hp
      have hp' : 0 < len := by simpa using hp
      obtain ⟨r, _, h1⟩ := get 0 hp'
      have hspot : spot = none := by simpa [Addr.add] using World.cell?_spot h1.1
      rw [hspot]
    · intro j hj
      have hj' : j < len := by simpa using hj
      obtain ⟨r, e, h1⟩ := get j hj'
      obtain ⟨_, _, h0⟩ := get 0 (by omega)
      have hspot : spot = none := by simpa [Addr.add] using World.cell?_spot h0.1
      subst hspot
      simp only [List.getElem_map, List.getElem_range, e]
      simpa [Addr.add_lit, Nat.add_assoc] using h1
theorem list14 {α : Type} : ∀ {l : List α}, l.length = 14 → ∃ a b c d e f g h i j k m n o, l = [a, b, c, d, e, f, g, h, i, j, k, m, n, o]
  | [a, b, c, d, e, f, g, h, i, j, k, m, n, o], _ => ⟨a, b, c, d, e, f, g, h, i, j, k, m, n, o, rfl⟩
theorem list12n {α : Type} : ∀ {l : List α}, l.length = 12 → ∃ a b c d e f g h i j k m, l = [a, b, c, d, e, f, g, h, i, j, k, m]
  | [a, b, c, d, e, f, g, h, i, j, k, m], _ => ⟨a, b, c, d, e, f, g, h, i, j, k, m, rfl⟩
theorem list3n {α : Type} : ∀ {l : List α}, l.length = 3 → ∃ a b c, l = [a, b, c]
  | [a, b, c], _ => ⟨a, b, c, rfl⟩
set_option maxHeartbeats 2000000 in
set_option maxRecDepth 100000 in
theorem open_node {H : Type} {enc : TypeId × Value → H} {W : World} {base b0 : Nat} {r : Reach} {sp : Nat → Bool} {held : Bool} {v : Value} {d : DataW H} {p : List MemPlace}
    (hv : Value.okWide Try.prog W r b0 28 v) (h : DataW.Trod enc Try.prog W base sp held 28 v d p) :
    ∃ (n : NodeL) (ca : Option Addr) (gc oc cc : Nat) (ea : Option Addr) (ge oe ec : Nat) (va : Option Addr) (gv ov vc : Nat) (pa : Option Addr) (gp op pc : Nat), v = nodeV n ca cc ea ec va vc pa pc ∧ n.conf.length ≤ maxLen ∧ n.log.ents.length ≤ maxLen ∧ (∀ r ∈ n.log.ents, smallEn maxLen r) ∧ n.votes.length ≤ maxLen ∧ n.peers.length ≤ maxLen ∧ NodeR W n ca gc oc ea ge oe va gv ov pa gp op := by
  obtain ⟨cs, rfl, hsz⟩ := okWide_struct Try.underlying28 hv
  obtain ⟨fuel, hf⟩ := h
  obtain ⟨cs⟩ := cs
  have hs14 : cs.length = 14 := hsz.trans (by kernel_rfl)
  have hf' : DataW.trod enc Try.prog W base sp held fuel 28 cs = some (d, p) := hf
  clear hf hsz hv
  obtain ⟨v0, v1, v2, v3, v4, v5, v6, v7, v8, v9, v10, v11, v12, v13, rfl⟩ := list14 hs14
  obtain ⟨xs, k, hk, hxy, _, hxl, hfl⟩ := DataW.trod_struct Try.underlying28 hf'
  obtain ⟨y0, y1, y2, y3, y4, y5, y6, y7, y8, y9, y10, y11, rfl⟩ := list12n (show xs.length = 12 from hxl)
  clear hf' hxy hs14
  have g0 := hfl 0 _ rfl
  simp [show Try.prog.cellsOf 3 = 1 by kernel_rfl] at g0
  have g1 := hfl 1 _ rfl
  simp [show Try.prog.cellsOf 3 = 1 by kernel_rfl] at g1
  have g2 := hfl 2 _ rfl
  simp [show Try.prog.cellsOf 3 = 1 by kernel_rfl] at g2
  have g3 := hfl 3 _ rfl
  simp [show Try.prog.cellsOf 3 = 1 by kernel_rfl] at g3
  have g4 := hfl 4 _ rfl
  simp [show Try.prog.cellsOf 3 = 1 by kernel_rfl] at g4
  have g5 := hfl 5 _ rfl
  simp [show Try.prog.cellsOf 22 = 1 by kernel_rfl] at g5
  have g6 := hfl 6 _ rfl
  simp [show Try.prog.cellsOf 25 = 3 by kernel_rfl] at g6
  have g7 := hfl 7 _ rfl
  simp [show Try.prog.cellsOf 3 = 1 by kernel_rfl] at g7
  have g8 := hfl 8 _ rfl
  simp [show Try.prog.cellsOf 3 = 1 by kernel_rfl] at g8
  have g9 := hfl 9 _ rfl
  simp [show Try.prog.cellsOf 3 = 1 by kernel_rfl] at g9
  have g10 := hfl 10 _ rfl
  simp [show Try.prog.cellsOf 22 = 1 by kernel_rfl] at g10
  have g11 := hfl 11 _ rfl
  simp [show Try.prog.cellsOf 26 = 1 by kernel_rfl] at g11
  obtain ⟨x0, e0, _, _⟩ := DataW.trod_int Try.underlying3 g0
  obtain ⟨x1, e1, _, _⟩ := DataW.trod_int Try.underlying3 g1
  obtain ⟨x2, e2, _, _⟩ := DataW.trod_int Try.underlying3 g2
  obtain ⟨x3, e3, _, _⟩ := DataW.trod_int Try.underlying3 g3
  obtain ⟨x4, e4, _, _⟩ := DataW.trod_int Try.underlying3 g4
  obtain ⟨x7, e7, _, _⟩ := DataW.trod_int Try.underlying3 g7
  obtain ⟨x8, e8, _, _⟩ := DataW.trod_int Try.underlying3 g8
  obtain ⟨x9, e9, _, _⟩ := DataW.trod_int Try.underlying3 g9
  obtain ⟨ca, gc, oc, cc, cl, e5, h5, i5⟩ := openIntS g5
  obtain ⟨va, gv, ov, vc, vl, e10, h10, i10⟩ := openIntS g10
  obtain ⟨pa, gp, op, pc, pl, e11, h11, i11⟩ := openPeS g11
  obtain ⟨zs, kk, _, _, _, hzl, hzf⟩ := DataW.trod_struct Try.underlying25 g6
  obtain ⟨z0, z1, z2, rfl⟩ := list3n (show zs.length = 3 from hzl)
  have f0 := hzf 0 _ rfl
  simp [show Try.prog.cellsOf 3 = 1 by kernel_rfl] at f0
  have f1 := hzf 1 _ rfl
  simp [show Try.prog.cellsOf 3 = 1 by kernel_rfl] at f1
  have f2 := hzf 2 _ rfl
  simp [show Try.prog.cellsOf 23 = 1 by kernel_rfl] at f2
  obtain ⟨s0, b0', _, _⟩ := DataW.trod_int Try.underlying3 f0
  obtain ⟨s1, b1', _, _⟩ := DataW.trod_int Try.underlying3 f1
  obtain ⟨ea, ge, oe, ec, el, b2', h6, h7, i6⟩ := openEnS f2
  simp at e0 e1 e2 e3 e4 e5 e7 e8 e9 e10 e11 b0' b1' b2'
  subst e0 e1 e2 e3 e4 e5 e7 e8 e9 e10 e11 b0' b1' b2'
  exact ⟨⟨x0, x1, x2, x3, x4, cl, ⟨s0, s1, el⟩, x7, x8, x9, vl, pl⟩, ca, gc, oc, cc, ea, ge, oe, ec, va, gv, ov, vc, pa, gp, op, pc, rfl, h5, h6, h7, h10, h11, ⟨i5, i6, i10, i11⟩⟩
end Go.Proofs.Ytiifjhalkihlbaa
