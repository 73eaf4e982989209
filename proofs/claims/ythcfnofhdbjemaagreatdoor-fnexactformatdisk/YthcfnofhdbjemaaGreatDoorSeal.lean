/- The calls that seal a text, the specification's, walked. -/
import Derived.Test.YthcfnofhdbjemaaGreatDoorSpecSum
import Derived.Deep.RegionWith
import Derived.Deep.QuietTactic
import Derived.BigQuiet
import Derived.Deep.RegionHeld3
namespace Go.Proofs.YthcfnofhdbjemaaGreatDoor
open Go.RowKit

theorem four_cells (x : Nat) (hx : x ≤ 4294967295) : (#[Value.int .u8 ((x : Int) / 16777216), .int .u8 ((x : Int) / 65536 % 256), .int .u8 ((x : Int) / 256 % 256), .int .u8 ((x : Int) % 256)] : Array Value) = (cellsB (Sums.four x)).toArray := by
  have e : ∀ n : Nat, (UInt8.ofNat n).toNat = n % 256 := fun n => by simp
  simp only [Sums.four, cellsB, List.map_cons, List.map_nil, e]
  rw [show x / 16777216 % 256 = x / 16777216 from Nat.mod_eq_of_lt (by omega)]
  rfl
theorem four_string (x : Nat) (hx : x ≤ 4294967295) (w : World) :
    (convert 67 9 (.slice (some ⟨w.heap.size, 0, none⟩) 4 4)).run Tryz.prog (w.alloc (.cells #[Value.int .u8 ((x : Int) / 16777216), .int .u8 ((x : Int) / 65536 % 256), .int .u8 ((x : Int) / 256 % 256), .int .u8 ((x : Int) % 256)] 5)) =
      .ok (.string ⟨(Sums.four x).toArray⟩) (w.alloc (.cells #[Value.int .u8 ((x : Int) / 16777216), .int .u8 ((x : Int) / 65536 % 256), .int .u8 ((x : Int) / 256 % 256), .int .u8 ((x : Int) % 256)] 5)) := by
  rw [four_cells x hx]
  refine run_convert_bytes_back (P := Tryz.prog) _ 67 9 5 ⟨w.heap.size, 0, none⟩ 4 (Sums.four x) Tryz.underlying67 Tryz.underlying5 Tryz.underlying9 fun j hj => ?_
  rw [Addr.add_lit, Nat.zero_add]
  unfold World.cell?
  rw [heap_alloc_new w (Obj.cells (cellsB (Sums.four x)).toArray 5)]
  simp [cellsB, hj]

set_option maxHeartbeats 1000000 in
set_option maxRecDepth 100000 in
theorem l02Four_any (x : Nat) (hx : x ≤ 4294967295) (w : World) :
    Calls Tryz.prog 63 #[.int .u32 (x : Int)] w fun e w' => e = .returned (.string ⟨(Sums.four x).toArray⟩) ∧ Below w.heap.size w w' := by
  have hcv := four_string x hx w
  go_enter Tryz.func63, Tryz.ntmps63
  go_wp2
  go_ret
  exact ⟨rfl, (Below.refl _ _).alloc (Nat.le_refl _) _⟩

theorem sum_le (l : List UInt8) : Sums.sumOf l ≤ 4294967295 := by have := Sums.sumOf_lt l; omega
theorem four_size (x : Nat) : (⟨(Sums.four x).toArray⟩ : ByteArray).size = 4 := rfl
def sealTuple (s : ByteArray) : Value := .tuple #[.string (s ++ ⟨(Sums.four (Sums.sumOf s.data.toList)).toArray⟩), .bool true]
theorem app_bytes (s : ByteArray) (l : List UInt8) : s ++ (⟨l.toArray⟩ : ByteArray) = ⟨(s.data.toList ++ l).toArray⟩ := by
  apply ByteArray.ext
  simp

set_option maxHeartbeats 400000 in
theorem specSealed_yes (s : ByteArray) (h : s.size ≤ 20000) (w : World) :
    Calls Tryz.prog 38 #[.string s] w fun e w' => e = .returned (sealTuple s) ∧ Below w.heap.size w w' := by
  have hv := four_size (Sums.sumOf s.data.toList)
  go_enter Tryz.func38, Tryz.ntmps38
  go_wp2_with (first | (go_at_call 64; refine (specSumOf_any s (by omega) _).mono ?_; rintro e w' ⟨rfl, rfl⟩) | (go_at_call 63; refine (l02Four_any _ (sum_le s.data.toList) _).mono ?_; rintro e w' ⟨rfl, hb1⟩))
  go_ret2
  exact ⟨rfl, hb1⟩

end Go.Proofs.YthcfnofhdbjemaaGreatDoor
