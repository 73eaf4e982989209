/- The calls of the specification's SumMore and SumOf, walked. The calls of the program's SumMore and SumOf, walked. The calls that seal a text, the specification's, walked. The calls of the program's Sealed and Unsealed, walked. The calls of both Frame: they answer with the bytes of the length, of the sum and of the text, and leave old memory as it was; for every text. The call of strings.Clone: the same text. -/
import Derived.Test.YtddmogggdckneaaVar
import Derived.Test.YtddmogggdckneaaSums
import Derived.Deep.RegionWith
import Derived.Deep.QuietTactic
import Derived.BigQuiet
import Derived.Deep.RegionHeld3
import Derived.Test.YtddmogggdckneaaShelf
import Derived.Test.YtddmogggdckneaaMathB
namespace Go.Proofs.Ytddmogggdckneaa
section
open Go.RowKit

theorem xor_byte (s : Nat) (hs : s ≤ 4294967295) (b : UInt8) : bits .xor .u32 (s : Int) (b.toNat : Int) = ((s ^^^ b.toNat : Nat) : Int) :=
  u32_xor_nat s b.toNat (by omega) (by have := b.toNat_lt; omega)
theorem xor_byte_le {s : Nat} (hs : s ≤ 4294967295) (b : UInt8) : s ^^^ b.toNat ≤ 4294967295 := by have := Sums.xor_lt (s := s) (by omega) b; omega
theorem xor_poly {s : Nat} (hs : s ≤ 4294967295) : bits .xor .u32 ((s / 2 : Nat) : Int) 3558460437 = (((s / 2) ^^^ 3558460437 : Nat) : Int) :=
  u32_xor_nat (s / 2) 3558460437 (by omega) (by decide)
theorem half_le {s : Nat} (hs : s ≤ 4294967295) : Sums.half s ≤ 4294967295 := by have := Sums.half_lt (s := s) (by omega); omega

theorem half_is_odd {q : Nat} (h : q % 2 = 1) (hp : bits .xor .u32 ((q / 2 : Nat) : Int) 3558460437 = (((q / 2) ^^^ 3558460437 : Nat) : Int)) : Value.int .u32 (bits .xor .u32 ((q : Int) / 2) 3558460437) = .int .u32 ((Sums.half q : Nat) : Int) := by
  rw [Sums.half_odd h, ← hp]; rfl
theorem half_is_even {q : Nat} (h : ¬ q % 2 = 1) : Value.int .u32 ((q : Int) / 2) = .int .u32 ((Sums.half q : Nat) : Int) := by
  rw [Sums.half_even h]; rfl

end
section
open Go.RowKit

theorem byte8_le {s : Nat} (hs : s ≤ 4294967295) : Sums.byte8 s ≤ 4294967295 := by have := Sums.byte8_lt (s := s) (by omega); omega

end
section
open Go.RowKit

theorem four_cells (x : Nat) (hx : x ≤ 4294967295) : (#[Value.int .u8 ((x : Int) / 16777216), .int .u8 ((x : Int) / 65536 % 256), .int .u8 ((x : Int) / 256 % 256), .int .u8 ((x : Int) % 256)] : Array Value) = (cellsB (Sums.four x)).toArray := by
  have e : ∀ n : Nat, (UInt8.ofNat n).toNat = n % 256 := fun n => by simp
  simp only [Sums.four, cellsB, List.map_cons, List.map_nil, e]
  rw [show x / 16777216 % 256 = x / 16777216 from Nat.mod_eq_of_lt (by omega)]
  rfl
theorem four_string (x : Nat) (hx : x ≤ 4294967295) (w : World) :
    (convert 148 9 (.slice (some ⟨w.heap.size, 0, none⟩) 4 4)).run Try.prog (w.alloc (.cells #[Value.int .u8 ((x : Int) / 16777216), .int .u8 ((x : Int) / 65536 % 256), .int .u8 ((x : Int) / 256 % 256), .int .u8 ((x : Int) % 256)] 5)) =
      .ok (.string ⟨(Sums.four x).toArray⟩) (w.alloc (.cells #[Value.int .u8 ((x : Int) / 16777216), .int .u8 ((x : Int) / 65536 % 256), .int .u8 ((x : Int) / 256 % 256), .int .u8 ((x : Int) % 256)] 5)) := by
  rw [four_cells x hx]
  refine run_convert_bytes_back (P := Try.prog) _ 148 9 5 ⟨w.heap.size, 0, none⟩ 4 (Sums.four x) Try.underlying148 Try.underlying5 Try.underlying9 fun j hj => ?_
  rw [Addr.add_lit, Nat.zero_add]
  unfold World.cell?
  rw [heap_alloc_new w (Obj.cells (cellsB (Sums.four x)).toArray 5)]
  simp [cellsB, hj]

theorem sum_le (l : List UInt8) : Sums.sumOf l ≤ 4294967295 := by have := Sums.sumOf_lt l; omega
theorem four_size (x : Nat) : (⟨(Sums.four x).toArray⟩ : ByteArray).size = 4 := rfl
def sealTuple (s : ByteArray) : Value := .tuple #[.string (s ++ ⟨(Sums.four (Sums.sumOf s.data.toList)).toArray⟩), .bool true]
def unTuple : Option (List UInt8) → Value
  | none => .tuple #[.string ⟨#[]⟩, .bool false]
  | some l => .tuple #[.string ⟨l.toArray⟩, .bool true]
theorem app_bytes (s : ByteArray) (l : List UInt8) : s ++ (⟨l.toArray⟩ : ByteArray) = ⟨(s.data.toList ++ l).toArray⟩ := by
  apply ByteArray.ext
  simp

theorem un_split (s : ByteArray) (H T : ByteArray) (hH : H = s.extract 0 (s.size - 4)) (hT : T = s.extract (s.size - 4) s.size) :
    H.data.toList = s.data.toList.take (s.data.toList.length - 4) ∧ T.toList = s.data.toList.drop (s.data.toList.length - 4) := by
  rw [hH, hT, ByteArray.toList_eq, Words.extract_list, Words.extract_list, Words.size_list]
  refine ⟨by simp, ?_⟩
  rw [List.take_of_length_le (by rw [List.length_drop, Words.size_list]; omega)]
theorem un_no {s H T : ByteArray} (hH : H = s.extract 0 (s.size - 4)) (hT : T = s.extract (s.size - 4) s.size) (h : (!(T.toList == Sums.four (Sums.sumOf H.data.toList))) = true) : Sums.unsealed s.data.toList = none := by
  obtain ⟨e1, e2⟩ := un_split s H T hH hT
  rw [e1, e2] at h
  unfold Sums.unsealed
  refine if_neg ?_
  rintro ⟨_, _, h3⟩
  rw [h3] at h
  simp at h
theorem un_yes {s H T : ByteArray} (h4 : 4 ≤ s.size) (h5 : s.size ≤ 20004) (hH : H = s.extract 0 (s.size - 4)) (hT : T = s.extract (s.size - 4) s.size) (h : (!(T.toList == Sums.four (Sums.sumOf H.data.toList))) = false) : Sums.unsealed s.data.toList = some H.data.toList := by
  obtain ⟨e1, e2⟩ := un_split s H T hH hT
  rw [e1, e2] at h
  unfold Sums.unsealed
  rw [e1]
  exact if_pos ⟨by rw [Words.size_list]; exact h4, by rw [Words.size_list]; exact h5, by simpa using h⟩
theorem un_ret_no {l : List UInt8} (h : Sums.unsealed l = none) : Value.tuple #[.string ⟨#[]⟩, .bool false] = unTuple (Sums.unsealed l) := by rw [h]; rfl
theorem un_ret_yes {l : List UInt8} {H : ByteArray} (h : Sums.unsealed l = some H.data.toList) : Value.tuple #[.string H, .bool true] = unTuple (Sums.unsealed l) := by rw [h]; rfl
end
section
open Go.RowKit

end
section
open Go.RowKit

/-- The frame of a text. -/
def frameB (s : ByteArray) : ByteArray := (⟨(Words.var s.size).toArray⟩ : ByteArray) ++ (⟨(Sums.four (Sums.sumOf s.data.toList)).toArray⟩ : ByteArray) ++ s
def frameTuple (s : ByteArray) : Value := .tuple #[.string (frameB s), .bool true]

theorem varB_size (n : Nat) : (⟨(Words.var n).toArray⟩ : ByteArray).size ≤ n + 1 := by
  have := Words.var_len n
  simpa [ByteArray.size] using this

theorem frameB_list (T : ByteArray) : (frameB T).data.toList = Words.frame T.data.toList := by
  unfold frameB Words.frame
  simp
end
section
open Go.RowKit

set_option maxHeartbeats 400000 in
theorem clone_any (s : ByteArray) (h : s.size ≤ 281474976710656) (w : World) :
    Calls Try.prog 70 #[.string s] w fun e w' => e = .returned (.string s) ∧ Below w.heap.size w w' := by
  go_enter Try.func70, Try.ntmps70
  go_wp2_with (go_at_call 83; refine (Try.stringslite_Clone s _ h).mono ?_; rintro e w1 ⟨rfl, hb1⟩)
  go_ret
  exact ⟨rfl, hb1⟩
end
end Go.Proofs.Ytddmogggdckneaa
