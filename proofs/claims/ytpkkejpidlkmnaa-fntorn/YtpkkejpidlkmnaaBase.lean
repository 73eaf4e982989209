/- What the walks share: rows of bytes that a call owns, bytes and their numbers. -/
import Derived.Test.YtpkkejpidlkmnaaRows
import Derived.WalkKit
import Derived.WalkSpells
import Derived.WalkLawsBesides
import Derived.Laws.IdiomStrings
import Derived.Laws.BytesArg
import Derived.Laws.BitsAllLaws
namespace Go.Proofs.Ytpkkejpidlkmnaa.Words
theorem ofNat_toNat (n : Nat) (h : n < 256) : (UInt8.ofNat n).toNat = n := by
  simp; omega
theorem byte_ext {a b : UInt8} (h : a.toNat = b.toNat) : a = b := UInt8.toNat_inj.1 h
theorem size_list (s : ByteArray) : s.data.toList.length = s.size := rfl
theorem extract_list (s : ByteArray) (a b : Nat) : (s.extract a b).data.toList = (s.data.toList.drop a).take (b - a) := by
  simp [ByteArray.data_extract]
theorem take_snoc (s : ByteArray) (k : Nat) (h : k < s.size) : s.data.toList.take (k + 1) = s.data.toList.take k ++ [s[k]] := by
  rw [List.take_succ_eq_append_getElem (by simpa using h)]; rfl
end Go.Proofs.Ytpkkejpidlkmnaa.Words
namespace Go.Proofs.Ytpkkejpidlkmnaa
open Go.RowKit

def cellsB (l : List UInt8) : List Value := l.map fun b => .int .u8 (b.toNat : Int)
theorem cellsB_len (l : List UInt8) : (cellsB l).length = l.length := by simp [cellsB]
theorem cellsB_app (l m : List UInt8) : cellsB (l ++ m) = cellsB l ++ cellsB m := by simp [cellsB]

theorem Try.info5 : (Try.prog.info? 5).map (fun i => (i.zero, i.size, i.bytes)) = some (some (.int .u8 0), 1, 1) := by kernel_rfl

/-- A row of bytes that the call owns, as a string. -/
theorem string_own {w : World} {base : Nat} {v : Value} {l : List UInt8} (h : w.ownsRow base 5 1 v l.length (cellsB l)) :
    (convert 60 9 v).run Try.prog w = .ok (.string ⟨l.toArray⟩) w := by
  have h0 := h
  rcases h.2 with ⟨rfl, hz⟩ | ⟨g, cap, cur, rfl, hg, hh, hnc, hcp, hcs, htake⟩
  · obtain rfl : l = [] := List.length_eq_zero_iff.1 hz
    rw [run_convert_bytes_nil w 60 5 Try.underlying60 Try.underlying5 0 0 9 Try.underlying9]
    rfl
  · refine run_convert_bytes_back (P := Try.prog) w 60 9 5 ⟨g, 0, none⟩ cap l Try.underlying60 Try.underlying5 Try.underlying9 fun j hj => ?_
    rw [Addr.add_lit, Nat.zero_add, h0.cellAt j (by omega)]
    simp [cellsB, hj]

theorem byte_cell (n : Nat) (h : n < 256) : Value.int .u8 (n : Int) = .int .u8 ((UInt8.ofNat n).toNat : Int) := by
  rw [Words.ofNat_toNat n h]
/-- One byte put behind an owned row. -/
theorem own_snoc {w : World} {base : Nat} {v : Value} {pre : List UInt8} {c : UInt8} (h : w.ownsRow base 5 1 v (pre.length + 1) (cellsB pre ++ [.int .u8 (c.toNat : Int)])) :
    w.ownsRow base 5 1 v (pre ++ [c]).length (cellsB (pre ++ [c])) := by
  rw [cellsB_app, List.length_append]; exact h
theorem own_below {w : World} {base : Nat} {v : Value} {n : Nat} {xs : List Value} (h : w.ownsRow base 5 1 v n xs) : ∀ k, v.ownBlock = some k → base ≤ k := fun k hk => (h.lt k hk).1
theorem byte_of (x : Int) (h0 : 0 ≤ x) (h1 : x < 256) : ∃ c : UInt8, Hid ((c.toNat : Int) = x) :=
  ⟨UInt8.ofNat x.toNat, by show _ = _; rw [Words.ofNat_toNat _ (by omega)]; omega⟩
end Go.Proofs.Ytpkkejpidlkmnaa
