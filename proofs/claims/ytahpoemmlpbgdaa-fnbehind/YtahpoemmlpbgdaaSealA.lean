/- The calls of the specification's SumMore and SumOf, walked. The calls of the program's SumMore and SumOf, walked. The calls that seal a text, the specification's, walked. The calls of the program's Sealed and Unsealed, walked. The calls of both Frame: they answer with the bytes of the length, of the sum and of the text, and leave old memory as it was; for every text. The call of strings.Clone: the same text. -/
import Derived.Test.YtahpoemmlpbgdaaVar
import Derived.Test.YtahpoemmlpbgdaaSums
import Derived.Deep.RegionWith
import Derived.Deep.QuietTactic
import Derived.BigQuiet
import Derived.Deep.RegionHeld3
import Derived.Test.YtahpoemmlpbgdaaShelf
import Derived.Test.YtahpoemmlpbgdaaMathB
namespace Go.Proofs.Ytahpoemmlpbgdaa
section
open Go.RowKit

theorem xor_byte (s : Nat) (hs : s ≤ 4294967295) (b : UInt8) : bits .xor .u32 (s : Int) (b.toNat : Int) = ((s ^^^ b.toNat : Nat) : Int) :=
  u32_xor_nat s b.toNat (by omega) (by have := b.toNat_lt; omega)
theorem xor_byte_le {s : Nat} (hs : s ≤ 4294967295) (b : UInt8) : s ^^^ b.toNat ≤ 4294967295 := by have := Sums.xor_lt (s := s) (by omega) b; omega
theorem xor_poly {s : Nat} (hs : s ≤ 4294967295) : bits .xor .u32 ((s / 2 : Nat) : Int) 3558460437 = (((s / 2) ^^^ 3558460437 : Nat) : Int) :=
  u32_xor_nat (s / 2) 3558460437 (by omega) (by decide)
theorem half_le {s : Nat} (hs : s ≤ 4294967295) : Sums.half s ≤ 4294967295 := by have := Sums.half_lt (s := s) (by omega); omega

theorem half_is_odd {q : Nat} (h : q % 2 = 1) (hp : bits .xor .u32 ((q / 2 : Nat) : Int) 3558460437 = (((q / 2) ^^^ 3558460437 : Nat) : Int)) : Value.int .u32 (bits .xor .u32 ((q : Int) / 2) 3558460437) = .int .u32 ((Sums.half q : Nat) : Int) := by
  rw [Sums.half_odd h, ← hp]; rfl
theorem half_is_even {q : Nat} (h : ¬ q % 2 = 1) : Value.int .u32 ((q : Int) / 2) = .int .u32 ((Sums.half q : Nat) : Int) := by
  rw [Sums.half_even h]; rfl

set_option maxHeartbeats 1000000 in
set_option maxRecDepth 100000 in
theorem specMore_any (a : Nat) (ha : a ≤ 4294967295) (s : ByteArray) (hs : s.size ≤ 1048580) (w : World) :
    Calls Try.prog 71 #[.int .u32 (a : Int), .string s] w fun e w' => e = .returned (.int .u32 ((Sums.more a s.data.toList : Nat) : Int)) ∧ w = w' := by
  go_enter Try.func71, Try.ntmps71
  go_wp2
  go_loop [0, 5] (fun x i => ∃ m k : Nat, m ≤ 4294967295 ∧ k ≤ s.size ∧ x = .int .u32 (m : Int) ∧ i = .int .i64 (k : Int) ∧ Sums.more m (s.data.toList.drop k) = Sums.more a s.data.toList)
    (fun _ i => s.size - (intOf i).toNat)
  case atStart => exact ⟨a, 0, ha, Nat.zero_le _, rfl, rfl, rfl⟩
  case round =>
    obtain ⟨m, k, hm, hk, rfl, rfl, heq⟩ := hrel
    have HE : Hid (Sums.more m (s.data.toList.drop k) = Sums.more a s.data.toList) := heq
    clear heq
    by_cases hlt : k < s.size
    · have hbyte : (s[k].toNat : Int) < 256 := by have := s[k].toNat_lt; omega
      have hx := xor_byte m hm s[k]
      have hxl := xor_byte_le hm s[k]
      obtain ⟨X, hX⟩ : ∃ X : Nat, X = m ^^^ s[k].toNat := ⟨_, rfl⟩
      rw [← hX] at hx hxl
      go_wp2
      go_loop [0, 6] (fun x j => ∃ q t : Nat, q ≤ 4294967295 ∧ t ≤ 8 ∧ x = .int .u32 (q : Int) ∧ j = .int .i64 (t : Int) ∧ Sums.hn (8 - t) q = Sums.byte8 X)
        (fun _ j => 8 - (intOf j).toNat)
      case atStart => exact ⟨X, 0, hxl, Nat.zero_le _, by go_num, rfl, rfl⟩
      case round =>
        obtain ⟨q, t, hq, ht, rfl, rfl, heq2⟩ := hrel
        have HE2 : Hid (Sums.hn (8 - t) q = Sums.byte8 X) := heq2
        clear heq2
        by_cases ht8 : t < 8
        · by_cases hodd : q % 2 = 1
          · have ho : ((q : Int) % 2 == 1) = true := by simp; omega
            have hp := xor_poly hq
            go_wp2
            go_round
            case rel => exact ⟨Sums.half q, t + 1, half_le hq, by omega, half_is_odd hodd hp, by go_num, Sums.hn_step ht8 HE2.out⟩
            case measure => simp [intOf]; omega
          · have ho : ((q : Int) % 2 == 1) = false := by simp; omega
            go_wp2
            go_round
            case rel => exact ⟨Sums.half q, t + 1, half_le hq, by omega, half_is_even hodd, by go_num, Sums.hn_step ht8 HE2.out⟩
            case measure => simp [intOf]; omega
        · go_wp2
          go_round
          case rel => 
            have hq8 : q = Sums.byte8 X := by have h := HE2.out; rw [show 8 - t = 0 from by omega] at h; exact h
            exact ⟨q, k + 1, hq, by omega, rfl, by go_num, by rw [hq8, hX]; exact Sums.more_step (l := s.data.toList) hlt HE.out⟩
          case measure => simp [intOf]; omega
    · go_wp2
      go_ret
      exact ⟨by rw [Sums.more_end (l := s.data.toList) (Nat.le_of_not_lt hlt) HE.out]; rfl, rfl⟩

set_option maxHeartbeats 400000 in
theorem specSumOf_any (s : ByteArray) (hs : s.size ≤ 1048580) (w : World) :
    Calls Try.prog 68 #[.string s] w fun e w' => e = .returned (.int .u32 ((Sums.sumOf s.data.toList : Nat) : Int)) ∧ w = w' := by
  go_enter Try.func68, Try.ntmps68
  go_wp2_with (go_at_call 71; refine (specMore_any 4294967295 (Nat.le_refl _) s hs _).mono ?_; rintro e w' ⟨rfl, rfl⟩)
  go_ret
  exact ⟨rfl, rfl⟩
end
section
open Go.RowKit

theorem byte8_le {s : Nat} (hs : s ≤ 4294967295) : Sums.byte8 s ≤ 4294967295 := by have := Sums.byte8_lt (s := s) (by omega); omega

end
section
open Go.RowKit

theorem four_cells (x : Nat) (hx : x ≤ 4294967295) : (#[Value.int .u8 ((x : Int) / 16777216), .int .u8 ((x : Int) / 65536 % 256), .int .u8 ((x : Int) / 256 % 256), .int .u8 ((x : Int) % 256)] : Array Value) = (cellsB (Sums.four x)).toArray := by
  have e : ∀ n : Nat, (UInt8.ofNat n).toNat = n % 256 := fun n => by simp
  simp only [Sums.four, cellsB, List.map_cons, List.map_nil, e]
  rw [show x / 16777216 % 256 = x / 16777216 from Nat.mod_eq_of_lt (by omega)]
  rfl
theorem four_string (x : Nat) (hx : x ≤ 4294967295) (w : World) :
    (convert 35 9 (.slice (some ⟨w.heap.size, 0, none⟩) 4 4)).run Try.prog (w.alloc (.cells #[Value.int .u8 ((x : Int) / 16777216), .int .u8 ((x : Int) / 65536 % 256), .int .u8 ((x : Int) / 256 % 256), .int .u8 ((x : Int) % 256)] 5)) =
      .ok (.string ⟨(Sums.four x).toArray⟩) (w.alloc (.cells #[Value.int .u8 ((x : Int) / 16777216), .int .u8 ((x : Int) / 65536 % 256), .int .u8 ((x : Int) / 256 % 256), .int .u8 ((x : Int) % 256)] 5)) := by
  rw [four_cells x hx]
  refine run_convert_bytes_back (P := Try.prog) _ 35 9 5 ⟨w.heap.size, 0, none⟩ 4 (Sums.four x) Try.underlying35 Try.underlying5 Try.underlying9 fun j hj => ?_
  rw [Addr.add_lit, Nat.zero_add]
  unfold World.cell?
  rw [heap_alloc_new w (Obj.cells (cellsB (Sums.four x)).toArray 5)]
  simp [cellsB, hj]

set_option maxHeartbeats 1000000 in
set_option maxRecDepth 100000 in
theorem l02Four_any (x : Nat) (hx : x ≤ 4294967295) (w : World) :
    Calls Try.prog 67 #[.int .u32 (x : Int)] w fun e w' => e = .returned (.string ⟨(Sums.four x).toArray⟩) ∧ Below w.heap.size w w' := by
  have hcv := four_string x hx w
  go_enter Try.func67, Try.ntmps67
  go_wp2
  go_ret
  exact ⟨rfl, (Below.refl _ _).alloc (Nat.le_refl _) _⟩

theorem sum_le (l : List UInt8) : Sums.sumOf l ≤ 4294967295 := by have := Sums.sumOf_lt l; omega
theorem four_size (x : Nat) : (⟨(Sums.four x).toArray⟩ : ByteArray).size = 4 := rfl
def sealTuple (s : ByteArray) : Value := .tuple #[.string (s ++ ⟨(Sums.four (Sums.sumOf s.data.toList)).toArray⟩), .bool true]
def unTuple : Option (List UInt8) → Value
  | none => .tuple #[.string ⟨#[]⟩, .bool false]
  | some l => .tuple #[.string ⟨l.toArray⟩, .bool true]
theorem app_bytes (s : ByteArray) (l : List UInt8) : s ++ (⟨l.toArray⟩ : ByteArray) = ⟨(s.data.toList ++ l).toArray⟩ := by
  apply ByteArray.ext
  simp

theorem un_split (s : ByteArray) (H T : ByteArray) (hH : H = s.extract 0 (s.size - 4)) (hT : T = s.extract (s.size - 4) s.size) :
    H.data.toList = s.data.toList.take (s.data.toList.length - 4) ∧ T.toList = s.data.toList.drop (s.data.toList.length - 4) := by
  rw [hH, hT, ByteArray.toList_eq, Words.extract_list, Words.extract_list, Words.size_list]
  refine ⟨by simp, ?_⟩
  rw [List.take_of_length_le (by rw [List.length_drop, Words.size_list]; omega)]
theorem un_no {s H T : ByteArray} (hH : H = s.extract 0 (s.size - 4)) (hT : T = s.extract (s.size - 4) s.size) (h : (!(T.toList == Sums.four (Sums.sumOf H.data.toList))) = true) : Sums.unsealed s.data.toList = none := by
  obtain ⟨e1, e2⟩ := un_split s H T hH hT
  rw [e1, e2] at h
  unfold Sums.unsealed
  refine if_neg ?_
  rintro ⟨_, _, h3⟩
  rw [h3] at h
  simp at h
theorem un_yes {s H T : ByteArray} (h4 : 4 ≤ s.size) (h5 : s.size ≤ 20004) (hH : H = s.extract 0 (s.size - 4)) (hT : T = s.extract (s.size - 4) s.size) (h : (!(T.toList == Sums.four (Sums.sumOf H.data.toList))) = false) : Sums.unsealed s.data.toList = some H.data.toList := by
  obtain ⟨e1, e2⟩ := un_split s H T hH hT
  rw [e1, e2] at h
  unfold Sums.unsealed
  rw [e1]
  exact if_pos ⟨by rw [Words.size_list]; exact h4, by rw [Words.size_list]; exact h5, by simpa using h⟩
theorem un_ret_no {l : List UInt8} (h : Sums.unsealed l = none) : Value.tuple #[.string ⟨#[]⟩, .bool false] = unTuple (Sums.unsealed l) := by rw [h]; rfl
theorem un_ret_yes {l : List UInt8} {H : ByteArray} (h : Sums.unsealed l = some H.data.toList) : Value.tuple #[.string H, .bool true] = unTuple (Sums.unsealed l) := by rw [h]; rfl
end
section
open Go.RowKit

end
section
open Go.RowKit

/-- The frame of a text. -/
def frameB (s : ByteArray) : ByteArray := (⟨(Words.var s.size).toArray⟩ : ByteArray) ++ (⟨(Sums.four (Sums.sumOf s.data.toList)).toArray⟩ : ByteArray) ++ s
def frameTuple (s : ByteArray) : Value := .tuple #[.string (frameB s), .bool true]

theorem varB_size (n : Nat) : (⟨(Words.var n).toArray⟩ : ByteArray).size ≤ n + 1 := by
  have := Words.var_len n
  simpa [ByteArray.size] using this

set_option maxHeartbeats 400000 in
theorem specFrame_no (s : ByteArray) (hs : s.size ≤ maxLen) (h : ¬ (1 ≤ s.size ∧ s.size ≤ 9000)) (w : World) :
    Calls Try.prog 59 #[.string s] w fun e w' => e = .returned (.tuple #[.string ⟨#[]⟩, .bool false]) ∧ Below w.heap.size w w' := by
  unfold maxLen at hs
  go_enter Try.func59, Try.ntmps59
  go_wp2_with (go_at_call 26; refine (in_no _ _ _ (by omega) _).mono ?_; rintro e w' ⟨rfl, rfl⟩)
  go_ret2
  exact ⟨rfl, Below.refl _ _⟩

set_option maxHeartbeats 400000 in
theorem specFrame_yes (s : ByteArray) (h1 : 1 ≤ s.size) (h2 : s.size ≤ 9000) (w : World) :
    Calls Try.prog 59 #[.string s] w fun e w' => e = .returned (frameTuple s) ∧ Below w.heap.size w w' := by
  have hv := Words.var_len s.size
  have hf := four_size (Sums.sumOf s.data.toList)
  go_enter Try.func59, Try.ntmps59
  go_wp2_with (first | (go_at_call 26; refine (in_yes _ _ _ (by omega) _).mono ?_; rintro e w' ⟨rfl, rfl⟩) | (go_at_call 60; refine (l01Var_any s.size (by omega) _).mono ?_; rintro e w1 ⟨rfl, hb1⟩) | (go_at_call 68; refine (specSumOf_any s (by omega) _).mono ?_; rintro e w' ⟨rfl, rfl⟩) | (go_at_call 67; refine (l02Four_any _ (sum_le s.data.toList) _).mono ?_; rintro e w2 ⟨rfl, hb2⟩))
  go_ret2
  exact ⟨rfl, hb1.trans (hb2.mono hb1.size)⟩

theorem frameB_list (T : ByteArray) : (frameB T).data.toList = Words.frame T.data.toList := by
  unfold frameB Words.frame
  simp
end
section
open Go.RowKit

set_option maxHeartbeats 400000 in
theorem clone_any (s : ByteArray) (h : s.size ≤ 281474976710656) (w : World) :
    Calls Try.prog 44 #[.string s] w fun e w' => e = .returned (.string s) ∧ Below w.heap.size w w' := by
  go_enter Try.func44, Try.ntmps44
  go_wp2_with (go_at_call 53; refine (Try.stringslite_Clone s _ h).mono ?_; rintro e w1 ⟨rfl, hb1⟩)
  go_ret
  exact ⟨rfl, hb1⟩
end
end Go.Proofs.Ytahpoemmlpbgdaa
