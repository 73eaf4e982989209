/- Disks and files that came in, opened: their cells. -/
import Derived.Test.YtjpokcjpogkafaaGreatDoorPutRaw
import Derived.ProofKit
import Derived.OpenShut
import Derived.ShutString
import Derived.ChangeOld
import Derived.Deep.DeepHandedRow
import Derived.Deep.SlicePairs
import Derived.Lib.SmallJoins
namespace Go.Proofs.YtjpokcjpogkafaaGreatDoor
open Go.ChangeShapes Go.WideShapes Go.ChangeAt Go.RowKit Go.Deep

def strOf : Value → ByteArray
  | .string s => s
  | _ => ByteArray.empty

theorem open_files {H : Type} {enc : TypeId × Value → H} {W : World} {base : Nat} {sp : Nat → Bool} {held : Bool} {fuel : Nat} {cs : List Value} {x : DataW H × List MemPlace}
    (h : DataW.trod enc Tryz.prog W base sp held fuel 22 cs = some x) :
    ∃ (a : Option Addr) (g off cap : Nat) (l : List FileL), cs = [.slice a l.length cap] ∧ l.length ≤ maxLen ∧ (∀ f ∈ l, f.1.size ≤ maxLen ∧ f.2.size ≤ maxLen) ∧ FilesAt W a g off l := by
  rcases open_slice_pairs Tryz.underlying22 Tryz.underlying151 (by kernel_rfl) rfl rfl (by kernel_rfl) (by kernel_rfl) h with ⟨rfl, _⟩ | ⟨a, len, cap, m, n, V0, V1, D0, D1, P0, P1, rfl, _, hl, hm, hmm, _, hx⟩
  · exact ⟨none, 0, 0, 0, [], rfl, Nat.zero_le _, fun f hf => (List.not_mem_nil hf).elim, fun h => absurd h (Nat.lt_irrefl _), fun j hj => absurd hj (Nat.not_lt_zero _)⟩
  · have hlm : len ≤ m := by rw [hmm]; split <;> omega
    obtain ⟨b, off, spot⟩ := a
    have key : ∀ i, i < len → ∃ s0 s1 : ByteArray, V0 i = .string s0 ∧ V1 i = .string s1 ∧ s0.size ≤ maxLen ∧ s1.size ≤ maxLen := by
      intro i hi
      obtain ⟨_, _, h0, h1⟩ := hx i (by omega)
      obtain ⟨s0, e0, _, z0⟩ := DataW.trod_string Tryz.underlying9 h0
      obtain ⟨s1, e1, _, z1⟩ := DataW.trod_string Tryz.underlying9 h1
      exact ⟨s0, s1, by simpa using e0, by simpa using e1, z0, z1⟩
    refine ⟨some ⟨b, off, spot⟩, b, off, cap, (List.range len).map fun i => (strOf (V0 i), strOf (V1 i)), by simp, by simp; omega, ?_, ?_, ?_⟩
    · intro f hf
      obtain ⟨i, hi, rfl⟩ := List.mem_map.1 hf
      obtain ⟨s0, s1, e0, e1, z0, z1⟩ := key i (List.mem_range.1 hi)
      rw [e0, e1]
      exact ⟨z0, z1⟩
    · intro hp
      have hp' : 0 < len := by simpa using hp
      have hc := (hx 0 (by omega)).1
      have hspot : spot = none := by simpa [Addr.add] using World.cell?_spot hc
      rw [hspot]
    · intro j hj
      have hj' : j < len := by simpa using hj
      obtain ⟨c0, c1, _, _⟩ := hx j (by omega)
      have hspot : spot = none := by simpa [Addr.add] using World.cell?_spot (hx 0 (by omega)).1
      subst hspot
      obtain ⟨s0, s1, e0, e1, _, _⟩ := key j hj'
      rw [e0] at c0
      rw [e1] at c1
      simp only [List.getElem_map, List.getElem_range, e0, e1, strOf]
      rw [Addr.add_lit] at c0 c1
      exact ⟨c0, c1⟩

set_option maxRecDepth 100000 in
theorem open_disk {H : Type} {enc : TypeId × Value → H} {W : World} {base b0 : Nat} {r : Reach} {sp : Nat → Bool} {held : Bool} {v : Value} {d : DataW H} {p : List MemPlace}
    (hv : Value.okWide Tryz.prog W r b0 24 v) (h : DataW.Trod enc Tryz.prog W base sp held 24 v d p) :
    ∃ (a : Option Addr) (g off cap : Nat) (l : List FileL), v = .agg #[.slice a l.length cap] ∧ l.length ≤ maxLen ∧ (∀ f ∈ l, f.1.size ≤ maxLen ∧ f.2.size ≤ maxLen) ∧ FilesAt W a g off l := by
  obtain ⟨cs, rfl, hsz⟩ := okWide_struct Tryz.underlying24 hv
  have h1 : cs.size = 1 := hsz.trans (by kernel_rfl)
  obtain ⟨c0, rfl⟩ : ∃ c0, cs = #[c0] := Array.size_eq_one_iff.1 h1
  obtain ⟨fuel, hf⟩ := h
  obtain ⟨y0, n, _, _, h0⟩ := trod_struct1 Tryz.underlying24 hf
  have h0' : DataW.trod enc Tryz.prog W base sp held n 22 [c0] = some y0 := by
    simpa [Value.cells, show Tryz.prog.cellsOf 22 = 1 by kernel_rfl] using h0
  obtain ⟨a, g, off, cap, l, e, h2, h3, h4⟩ := open_files h0'
  obtain rfl : c0 = .slice a l.length cap := by simpa using e
  exact ⟨a, g, off, cap, l, rfl, h2, h3, h4⟩

end Go.Proofs.YtjpokcjpogkafaaGreatDoor
