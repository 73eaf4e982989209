/- Plain facts on what is read from hexadecimal figures; no program is named here. -/
import Derived.Test.YtbajccpnkgdfpaaDoorMath
import Derived.Shelf.Strings.Search1
namespace Go.Proofs.YtbajccpnkgdfpaaDoor.Words
def uval (b : UInt8) : Int := if 48 ≤ b.toNat ∧ b.toNat ≤ 57 then (b.toNat : Int) - 48 else if 97 ≤ b.toNat ∧ b.toNat ≤ 102 then (b.toNat : Int) - 97 + 10 else -1
theorem uval_le (b : UInt8) : -1 ≤ uval b ∧ uval b ≤ 15 := by
  unfold uval
  split
  · omega
  · split <;> omega
def figures : List UInt8 := [48, 49, 50, 51, 52, 53, 54, 55, 56, 57, 97, 98, 99, 100, 101, 102]
theorem index_all : ∀ n : Fin 256, Lib.indexByte figures (UInt8.ofNat n.val) = uval (UInt8.ofNat n.val) := by decide +kernel
theorem index_uval (b : UInt8) : Lib.indexByte figures b = uval b := by
  have h := index_all ⟨b.toNat, b.toNat_lt⟩
  have e : UInt8.ofNat b.toNat = b := byte_ext (by rw [ofNat_toNat _ b.toNat_lt])
  simpa [e] using h
def unhex : List UInt8 → Option (List UInt8)
  | [] => some []
  | [_] => none
  | a :: b :: r => if uval a < 0 ∨ uval b < 0 then none else (unhex r).map fun t => UInt8.ofNat (16 * uval a + uval b).toNat :: t
/-- What is read from l goes on from pre, where k of its bytes are spent. -/
def Goes (l pre : List UInt8) (k : Nat) : Prop := unhex l = (unhex (l.drop k)).map fun t => pre ++ t
theorem goes_start (l : List UInt8) : Goes l [] 0 := by
  unfold Goes; simp
theorem drop_two {l : List UInt8} {k : Nat} (h : k + 1 < l.length) : l.drop k = l[k] :: l[k + 1] :: l.drop (k + 2) := by
  rw [List.drop_eq_getElem_cons (by omega), List.drop_eq_getElem_cons h]
theorem goes_more {l pre : List UInt8} {k : Nat} {c : UInt8} (g : Goes l pre k) (h : k + 1 < l.length) (h1 : 0 ≤ uval l[k]) (h2 : 0 ≤ uval l[k + 1]) (hc : (c.toNat : Int) = 16 * uval l[k] + uval l[k + 1]) :
    Goes l (pre ++ [c]) (k + 2) := by
  unfold Goes at *
  rw [g, drop_two h, unhex, if_neg (by omega)]
  have e : UInt8.ofNat (16 * uval l[k] + uval l[k + 1]).toNat = c := byte_ext (by rw [← hc, Int.toNat_natCast, ofNat_toNat _ c.toNat_lt])
  rw [e, Option.map_map]
  congr 1
  funext t
  simp
theorem goes_not {l pre : List UInt8} {k : Nat} (g : Goes l pre k) (h : k + 1 < l.length) (h1 : uval l[k] < 0 ∨ uval l[k + 1] < 0) : unhex l = none := by
  unfold Goes at g
  rw [g, drop_two h, unhex, if_pos h1]; rfl
theorem goes_end {l pre : List UInt8} {k : Nat} (g : Goes l pre k) (h : l.length ≤ k) : unhex l = some pre := by
  unfold Goes at g
  rw [g, List.drop_eq_nil_of_le h, unhex]; simp
end Go.Proofs.YtbajccpnkgdfpaaDoor.Words
