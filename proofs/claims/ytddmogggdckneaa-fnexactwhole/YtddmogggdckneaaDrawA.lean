/- The calls by which bytes, numbers and texts are drawn, walked: what comes is within its bounds. More that is drawn, walked: once in so many, long texts, one out of some. More that is drawn, walked: once in so many, long texts, one out of some. -/
import Derived.Test.YtddmogggdckneaaKit
import Derived.Deep.QuietTactic
import Derived.BigQuiet
import Derived.Deep.RegionHeld3
import Derived.Maps.AppendAt
import Derived.Maps.Range
namespace Go.Proofs.Ytddmogggdckneaa
section
open Go.RowKit

/-- A cursor over bytes that came in: its block, and the bytes. -/
def Cur (B : Nat) (w : World) (g : Nat) (a : Option Addr) (len cap b off : Nat) (z : Nat → Int) : Prop :=
  B ≤ g ∧ (0 < len → b < B) ∧ len ≤ 1048576 ∧ (∀ j, j < len → a = some ⟨b, off, none⟩ ∧ w.cell? ⟨b, off + j, none⟩ = some (.int .u8 (z j)) ∧ 0 ≤ z j ∧ z j ≤ 255) ∧
  ∃ (i : Nat) (h : Int), i ≤ len ∧ w.heap[g]? = some (.cells #[.slice a len cap, .int .i64 (i : Int), .int .i64 h] 91 (0, 0))

theorem and255 (n : Int) : bits .and .i64 n 255 = n % 256 := by
  have h255 : (BitVec.ofInt 64 255).toNat = 2 ^ 8 - 1 := by decide
  have key : (BitVec.ofInt 64 n &&& BitVec.ofInt 64 255).toNat = (n % ((2 ^ 64 : Nat) : Int)).toNat % 2 ^ 8 := by
    rw [BitVec.toNat_and, BitVec.toNat_ofInt, h255, Nat.and_two_pow_sub_one_eq_mod]
  show IntKind.i64.wrap ((BitVec.ofInt 64 n &&& BitVec.ofInt 64 255).toNat : Nat) = n % 256
  rw [key, IntKind.wrap_i64]
  omega

theorem and_bound (x : Int) : 0 ≤ bits .and .i64 x 255 ∧ bits .and .i64 x 255 ≤ 255 := by rw [and255]; omega

theorem and30 (n : Int) : bits .and .i64 n 1073741823 = n % 1073741824 := by
  have h255 : (BitVec.ofInt 64 1073741823).toNat = 2 ^ 30 - 1 := by decide
  have key : (BitVec.ofInt 64 n &&& BitVec.ofInt 64 1073741823).toNat = (n % ((2 ^ 64 : Nat) : Int)).toNat % 2 ^ 30 := by
    rw [BitVec.toNat_and, BitVec.toNat_ofInt, h255, Nat.and_two_pow_sub_one_eq_mod]
  show IntKind.i64.wrap ((BitVec.ofInt 64 n &&& BitVec.ofInt 64 1073741823).toNat : Nat) = n % 1073741824
  rw [key, IntKind.wrap_i64]
  omega

theorem blk_set2 {w : World} {g : Nat} {s x y : Value} (hb : w.heap[g]? = some (.cells #[s, x, y] 91 (0, 0))) (v : Value) : (w.setCell ⟨g, 2, none⟩ v).heap[g]? = some (.cells #[s, x, v] 91 (0, 0)) := by
  have := heap_setCell_same w g 2 _ 91 v hb
  simpa using this

theorem blk_set1 {w : World} {g : Nat} {s x y : Value} (hb : w.heap[g]? = some (.cells #[s, x, y] 91 (0, 0))) (v : Value) : (w.setCell ⟨g, 1, none⟩ v).heap[g]? = some (.cells #[s, v, y] 91 (0, 0)) := by
  have := heap_setCell_same w g 1 _ 91 v hb
  simpa using this

/-- The cursor behind a step: its block as it stands now, the bytes as they were. -/
theorem Cur.step {B g len cap b off : Nat} {a : Option Addr} {z : Nat → Int} {w w' : World} (hB : B ≤ g) (hb : 0 < len → b < B) (hlen : len ≤ 1048576)
    (hcode : ∀ j, j < len → a = some ⟨b, off, none⟩ ∧ w.cell? ⟨b, off + j, none⟩ = some (.int .u8 (z j)) ∧ 0 ≤ z j ∧ z j ≤ 255) (hg : w.grownBy w' (some g))
    {i : Nat} {h : Int} (hi : i ≤ len) (hblk : w'.heap[g]? = some (.cells #[.slice a len cap, .int .i64 (i : Int), .int .i64 h] 91 (0, 0))) : Cur B w' g a len cap b off z := by
  refine ⟨hB, hb, hlen, fun j hj => ?_, i, h, hi, hblk⟩
  obtain ⟨h1, h2, h3⟩ := hcode j hj
  exact ⟨h1, hg.cell h2 (by intro e; have := Option.some.inj e; simp only at this; have := hb (by omega); omega), h3⟩

/-- Below: what comes is in 0 .. n-1, 0 where n is not above 0. -/
def InBelow (n x : Int) : Prop := 0 ≤ x ∧ (n ≤ 0 → x = 0) ∧ (0 < n → x < n)

theorem in_mod (x n : Int) (h : 0 < n) : InBelow n (x % n) := ⟨Int.emod_nonneg _ (by omega), fun h' => by omega, fun _ => Int.emod_lt_of_pos _ h⟩

/-- The bytes that came in. -/
def Code (B : Nat) (w : World) (a : Option Addr) (len b off : Nat) (z : Nat → Int) : Prop :=
  (0 < len → b < B) ∧ len ≤ 1048576 ∧ ∀ j, j < len → a = some ⟨b, off, none⟩ ∧ w.cell? ⟨b, off + j, none⟩ = some (.int .u8 (z j)) ∧ 0 ≤ z j ∧ z j ≤ 255

theorem Code.below {B : Nat} {w w' : World} {a : Option Addr} {len b off : Nat} {z : Nat → Int} (h : Code B w a len b off z) (hb : Below B w w') : Code B w' a len b off z := by
  obtain ⟨h1, h2, h3⟩ := h
  refine ⟨h1, h2, fun j hj => ?_⟩
  obtain ⟨e1, e2, e3⟩ := h3 j hj
  exact ⟨e1, by rw [hb.cell (p := ⟨b, off + j, none⟩) (h1 (by omega))]; exact e2, e3⟩

theorem new_cur {B cap len b off : Nat} {a : Option Addr} {z : Nat → Int} {w : World} (hc : Code B w a len b off z) (hB : B ≤ w.heap.size) (h : Int) :
    Cur B (w.alloc (.cells #[.slice a len cap, .int .i64 0, .int .i64 h] 91)) w.heap.size a len cap b off z :=
  Cur.step (i := 0) hB hc.1 hc.2.1 hc.2.2 (World.grownBy_alloc w _ _) (Nat.zero_le _) (heap_alloc_new w _)

theorem Cur.lt {B g len cap b off : Nat} {a : Option Addr} {z : Nat → Int} {w : World} (h : Cur B w g a len cap b off z) : g < w.heap.size := by
  obtain ⟨_, _, _, _, _, _, _, hblk⟩ := h
  exact (Array.getElem?_eq_some_iff.1 hblk).1

/-- The cursor stays while other blocks of the call's own are written. -/
theorem Cur.kept {B g len cap b off : Nat} {a : Option Addr} {z : Nat → Int} {w w' : World} {row : Option Nat} (h : Cur B w g a len cap b off z) (hg : w.grownBy w' row) (hr : ∀ r, row = some r → B ≤ r ∨ r = g) (hb : w'.heap[g]? = w.heap[g]?) : Cur B w' g a len cap b off z := by
  obtain ⟨hB, hbb, hlen, hcode, i, x, hi, hblk⟩ := h
  refine ⟨hB, hbb, hlen, fun j hj => ?_, i, x, hi, hb.trans hblk⟩
  obtain ⟨h1, h2, h3⟩ := hcode j hj
  refine ⟨h1, hg.cell h2 (fun e => ?_), h3⟩
  have := hbb (by omega)
  have := hr b e.symm
  omega
end
section
open Go.RowKit
set_option linter.unusedVariables false

theorem Cur.alloc {B g len cap b off : Nat} {a : Option Addr} {z : Nat → Int} {w : World} (hc : Cur B w g a len cap b off z) (o : Obj) : Cur B (w.alloc o) g a len cap b off z := by
  have hg := hc.lt
  obtain ⟨hB, hb, hlen, hcode, i, h, hi, hblk⟩ := hc
  exact Cur.step hB hb hlen hcode (World.grownBy_alloc w o (some g)) hi (by rw [Below.heap_alloc _ _ _ hg]; exact hblk)

end
section
open Go.RowKit
set_option linter.unusedVariables false

theorem made_bytes (n : Nat) : (madeCells #[Value.int .u8 0] n).toList = cellsB (List.replicate n 0) := by
  rw [toList_madeCells_one]
  simp [cellsB]

theorem set_bytes (pre : List UInt8) (j : Nat) (c : UInt8) : (cellsB pre).set j (.int .u8 (c.toNat : Int)) = cellsB (pre.set j c) := by
  simp [cellsB, List.map_set]


end
end Go.Proofs.Ytddmogggdckneaa
