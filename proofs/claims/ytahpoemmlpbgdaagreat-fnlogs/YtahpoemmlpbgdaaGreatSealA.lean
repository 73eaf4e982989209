/- Contracts of library functions at this program: laid by program from theorems of the given library, no walk of ours. The calls of the specification's SumMore and SumOf, walked. The calls of the program's SumMore and SumOf, walked. The calls that seal a text, the specification's, walked. The calls of the program's Sealed and Unsealed, walked. The calls of both Frame: they answer with the bytes of the length, of the sum and of the text, and leave old memory as it was; for every text. The call of strings.Clone: the same text. -/
import Derived.Shelf.LaysM
import Derived.Shelf.Strconv.Clone
import Derived.Test.YtahpoemmlpbgdaaGreatProg
import Derived.Test.YtahpoemmlpbgdaaGreatSums
import Derived.Deep.RegionWith
import Derived.Deep.QuietTactic
import Derived.BigQuiet
import Derived.Deep.RegionHeld3
import Derived.Test.YtahpoemmlpbgdaaGreatMathB
namespace Go.Proofs
open Go.Shelf
def Tryz.laysM316_ren : Go.Shelf.Ren := ⟨fun | 316 => 90 | n => n, fun | 9 => 9 | 3 => 3 | 4 => 4 | 37 => 22 | 0 => 0 | 127 => 156 | 5 => 5 | n => n, fun | n => n⟩
theorem Tryz.laysM316 : Go.Proofs.LaysM.n316 Tryz.prog Tryz.laysM316_ren := {
  mixed := by kernel_rfl
  f316 := Tryz.func90.trans (congrArg some (by kernel_rfl))
  t0 := Tryz.underlying0
  a0 := Tryz.isAgg0
  z0 := Tryz.sizeOf0
  v0 := Tryz.zeroValue0
  t3 := Tryz.underlying3
  a3 := Tryz.isAgg3
  z3 := Tryz.sizeOf3
  v3 := Tryz.zeroValue3
  t4 := Tryz.underlying4
  a4 := Tryz.isAgg4
  z4 := Tryz.sizeOf4
  v4 := Tryz.zeroValue4
  t9 := Tryz.underlying9
  a9 := Tryz.isAgg9
  z9 := Tryz.sizeOf9
  v9 := Tryz.zeroValue9
  t37 := Tryz.underlying22
  a37 := Tryz.isAgg22
  z37 := Tryz.sizeOf22
  v37 := Tryz.zeroValue22
  t127 := Tryz.underlying156
  a127 := Tryz.isAgg156
  z127 := Tryz.sizeOf156
  v127 := Tryz.zeroValue156
  t5 := Tryz.underlying5
  a5 := Tryz.isAgg5
  z5 := Tryz.sizeOf5
  v5 := Tryz.zeroValue5
  i0 := by kernel_rfl
  i3 := by kernel_rfl
  i4 := by kernel_rfl
  i5 := by kernel_rfl
  i9 := by kernel_rfl
  i37 := by kernel_rfl
  i127 := by kernel_rfl }
open Go.RowKit in
theorem Tryz.stringslite_Clone (s : ByteArray) (w : World) (hlim : s.size ≤ 281474976710656) :
    Calls Tryz.prog 90 #[.string s] w fun e w' => e = .returned (.string s) ∧ Below w.heap.size w w' := Any.stringslite_Clone Tryz.laysM316 s w hlim
end Go.Proofs
namespace Go.Proofs.YtahpoemmlpbgdaaGreat
section
open Go.RowKit

theorem xor_byte (s : Nat) (hs : s ≤ 4294967295) (b : UInt8) : bits .xor .u32 (s : Int) (b.toNat : Int) = ((s ^^^ b.toNat : Nat) : Int) :=
  u32_xor_nat s b.toNat (by omega) (by have := b.toNat_lt; omega)
theorem xor_byte_le {s : Nat} (hs : s ≤ 4294967295) (b : UInt8) : s ^^^ b.toNat ≤ 4294967295 := by have := Sums.xor_lt (s := s) (by omega) b; omega
theorem xor_poly {s : Nat} (hs : s ≤ 4294967295) : bits .xor .u32 ((s / 2 : Nat) : Int) 3558460437 = (((s / 2) ^^^ 3558460437 : Nat) : Int) :=
  u32_xor_nat (s / 2) 3558460437 (by omega) (by decide)
theorem half_le {s : Nat} (hs : s ≤ 4294967295) : Sums.half s ≤ 4294967295 := by have := Sums.half_lt (s := s) (by omega); omega

theorem half_is_odd {q : Nat} (h : q % 2 = 1) (hp : bits .xor .u32 ((q / 2 : Nat) : Int) 3558460437 = (((q / 2) ^^^ 3558460437 : Nat) : Int)) : Value.int .u32 (bits .xor .u32 ((q : Int) / 2) 3558460437) = .int .u32 ((Sums.half q : Nat) : Int) := by
  rw [Sums.half_odd h, ← hp]; rfl
theorem half_is_even {q : Nat} (h : ¬ q % 2 = 1) : Value.int .u32 ((q : Int) / 2) = .int .u32 ((Sums.half q : Nat) : Int) := by
  rw [Sums.half_even h]; rfl

set_option maxHeartbeats 1000000 in
set_option maxRecDepth 100000 in
theorem specMore_any (a : Nat) (ha : a ≤ 4294967295) (s : ByteArray) (hs : s.size ≤ 1048580) (w : World) :
    Calls Tryz.prog 111 #[.int .u32 (a : Int), .string s] w fun e w' => e = .returned (.int .u32 ((Sums.more a s.data.toList : Nat) : Int)) ∧ w = w' := by
  go_enter Tryz.func111, Tryz.ntmps111
  go_wp2
  go_loop [0, 5] (fun x i => ∃ m k : Nat, m ≤ 4294967295 ∧ k ≤ s.size ∧ x = .int .u32 (m : Int) ∧ i = .int .i64 (k : Int) ∧ Sums.more m (s.data.toList.drop k) = Sums.more a s.data.toList)
    (fun _ i => s.size - (intOf i).toNat)
  case atStart => exact ⟨a, 0, ha, Nat.zero_le _, rfl, rfl, rfl⟩
  case round =>
    obtain ⟨m, k, hm, hk, rfl, rfl, heq⟩ := hrel
    have HE : Hid (Sums.more m (s.data.toList.drop k) = Sums.more a s.data.toList) := heq
    clear heq
    by_cases hlt : k < s.size
    · have hbyte : (s[k].toNat : Int) < 256 := by have := s[k].toNat_lt; omega
      have hx := xor_byte m hm s[k]
      have hxl := xor_byte_le hm s[k]
      obtain ⟨X, hX⟩ : ∃ X : Nat, X = m ^^^ s[k].toNat := ⟨_, rfl⟩
      rw [← hX] at hx hxl
      go_wp2
      go_loop [0, 6] (fun x j => ∃ q t : Nat, q ≤ 4294967295 ∧ t ≤ 8 ∧ x = .int .u32 (q : Int) ∧ j = .int .i64 (t : Int) ∧ Sums.hn (8 - t) q = Sums.byte8 X)
        (fun _ j => 8 - (intOf j).toNat)
      case atStart => exact ⟨X, 0, hxl, Nat.zero_le _, by go_num, rfl, rfl⟩
      case round =>
        obtain ⟨q, t, hq, ht, rfl, rfl, heq2⟩ := hrel
        have HE2 : Hid (Sums.hn (8 - t) q = Sums.byte8 X) := heq2
        clear heq2
        by_cases ht8 : t < 8
        · by_cases hodd : q % 2 = 1
          · have ho : ((q : Int) % 2 == 1) = true := by simp; omega
            have hp := xor_poly hq
            go_wp2
            go_round
            case rel => exact ⟨Sums.half q, t + 1, half_le hq, by omega, half_is_odd hodd hp, by go_num, Sums.hn_step ht8 HE2.out⟩
            case measure => simp [intOf]; omega
          · have ho : ((q : Int) % 2 == 1) = false := by simp; omega
            go_wp2
            go_round
            case rel => exact ⟨Sums.half q, t + 1, half_le hq, by omega, half_is_even hodd, by go_num, Sums.hn_step ht8 HE2.out⟩
            case measure => simp [intOf]; omega
        · go_wp2
          go_round
          case rel => 
            have hq8 : q = Sums.byte8 X := by have h := HE2.out; rw [show 8 - t = 0 from by omega] at h; exact h
            exact ⟨q, k + 1, hq, by omega, rfl, by go_num, by rw [hq8, hX]; exact Sums.more_step (l := s.data.toList) hlt HE.out⟩
          case measure => simp [intOf]; omega
    · go_wp2
      go_ret
      exact ⟨by rw [Sums.more_end (l := s.data.toList) (Nat.le_of_not_lt hlt) HE.out]; rfl, rfl⟩

set_option maxHeartbeats 400000 in
theorem specSumOf_any (s : ByteArray) (hs : s.size ≤ 1048580) (w : World) :
    Calls Tryz.prog 101 #[.string s] w fun e w' => e = .returned (.int .u32 ((Sums.sumOf s.data.toList : Nat) : Int)) ∧ w = w' := by
  go_enter Tryz.func101, Tryz.ntmps101
  go_wp2_with (go_at_call 111; refine (specMore_any 4294967295 (Nat.le_refl _) s hs _).mono ?_; rintro e w' ⟨rfl, rfl⟩)
  go_ret
  exact ⟨rfl, rfl⟩
end
section
open Go.RowKit

set_option maxHeartbeats 400000 in
theorem halved_any (q : Nat) (hq : q ≤ 4294967295) (w : World) :
    Calls Tryz.prog 115 #[.int .u32 (q : Int)] w fun e w' => e = .returned (.int .u32 ((Sums.half q : Nat) : Int)) ∧ w = w' := by
  by_cases hodd : q % 2 = 1
  · have ho : ((q : Int) % 2 == 1) = true := by simp; omega
    have hp := xor_poly hq
    go_enter Tryz.func115, Tryz.ntmps115
    go_wp2
    go_ret
    exact ⟨congrArg Ending.returned (half_is_odd hodd hp), rfl⟩
  · have ho : ((q : Int) % 2 == 1) = false := by simp; omega
    go_enter Tryz.func115, Tryz.ntmps115
    go_wp2
    go_ret
    exact ⟨congrArg Ending.returned (half_is_even hodd), rfl⟩

set_option maxHeartbeats 1000000 in
set_option maxRecDepth 100000 in
theorem with_any (m : Nat) (hm : m ≤ 4294967295) (b : UInt8) (w : World) :
    Calls Tryz.prog 113 #[.int .u32 (m : Int), .int .u8 (b.toNat : Int)] w fun e w' => e = .returned (.int .u32 ((Sums.byte8 (m ^^^ b.toNat) : Nat) : Int)) ∧ w = w' := by
  have hbyte : (b.toNat : Int) < 256 := by have := b.toNat_lt; omega
  have hx := xor_byte m hm b
  have hxl := xor_byte_le hm b
  obtain ⟨X, hX⟩ : ∃ X : Nat, X = m ^^^ b.toNat := ⟨_, rfl⟩
  rw [← hX] at hx hxl ⊢
  clear hX
  go_enter Tryz.func113, Tryz.ntmps113
  go_wp2
  go_loop [0, 9] (fun x j => ∃ q t : Nat, q ≤ 4294967295 ∧ t ≤ 8 ∧ x = .int .u32 (q : Int) ∧ j = .int .i64 (t : Int) ∧ Sums.hn (8 - t) q = Sums.byte8 X)
    (fun _ j => 8 - (intOf j).toNat)
  case atStart => exact ⟨X, 0, hxl, Nat.zero_le _, by go_num, rfl, rfl⟩
  case round =>
    obtain ⟨q, t, hq, ht, rfl, rfl, heq2⟩ := hrel
    have HE2 : Hid (Sums.hn (8 - t) q = Sums.byte8 X) := heq2
    clear heq2
    by_cases ht8 : t < 8
    · go_wp2_with (go_at_call 115; refine (halved_any q hq _).mono ?_; rintro e w' ⟨rfl, rfl⟩)
      go_round
      case rel => exact ⟨Sums.half q, t + 1, half_le hq, by omega, rfl, by go_num, Sums.hn_step ht8 HE2.out⟩
      case measure => simp [intOf]; omega
    · have hq8 : q = Sums.byte8 X := by have h := HE2.out; rw [show 8 - t = 0 from by omega] at h; exact h
      have HQ : Hid (q = Sums.byte8 X) := hq8
      clear hq8
      go_wp2
      go_ret
      exact ⟨by rw [← HQ.out]; rfl, rfl⟩

theorem byte8_le {s : Nat} (hs : s ≤ 4294967295) : Sums.byte8 s ≤ 4294967295 := by have := Sums.byte8_lt (s := s) (by omega); omega

set_option maxHeartbeats 1000000 in
set_option maxRecDepth 100000 in
theorem implSumOf_any (s : ByteArray) (hs : s.size ≤ 1048580) (w : World) :
    Calls Tryz.prog 106 #[.string s] w fun e w' => e = .returned (.int .u32 ((Sums.sumOf s.data.toList : Nat) : Int)) ∧ w = w' := by
  go_enter Tryz.func106, Tryz.ntmps106
  go_wp2
  go_loop [3, 7] (fun x i => ∃ m k : Nat, m ≤ 4294967295 ∧ k ≤ s.size ∧ x = .int .u32 (m : Int) ∧ i = .int .i64 (k : Int) ∧ Sums.more m (s.data.toList.drop k) = Sums.more 4294967295 s.data.toList)
    (fun _ i => s.size - (intOf i).toNat)
  case atStart => exact ⟨4294967295, 0, Nat.le_refl _, Nat.zero_le _, rfl, rfl, rfl⟩
  case round =>
    obtain ⟨m, k, hm, hk, rfl, rfl, heq⟩ := hrel
    have HE : Hid (Sums.more m (s.data.toList.drop k) = Sums.more 4294967295 s.data.toList) := heq
    clear heq
    by_cases hlt : k < s.size
    · have hbyte : (s[k].toNat : Int) < 256 := by have := s[k].toNat_lt; omega
      go_wp2_with (go_at_call 113; refine (with_any m hm s[k] _).mono ?_; rintro e w' ⟨rfl, rfl⟩)
      go_round
      case rel => exact ⟨_, k + 1, byte8_le (xor_byte_le hm s[k]), by omega, rfl, by go_num, Sums.more_step (l := s.data.toList) hlt HE.out⟩
      case measure => simp [intOf]; omega
    · go_wp2
      go_ret
      exact ⟨by rw [Sums.more_end (l := s.data.toList) (Nat.le_of_not_lt hlt) HE.out]; rfl, rfl⟩
end
section
open Go.RowKit

theorem four_cells (x : Nat) (hx : x ≤ 4294967295) : (#[Value.int .u8 ((x : Int) / 16777216), .int .u8 ((x : Int) / 65536 % 256), .int .u8 ((x : Int) / 256 % 256), .int .u8 ((x : Int) % 256)] : Array Value) = (cellsB (Sums.four x)).toArray := by
  have e : ∀ n : Nat, (UInt8.ofNat n).toNat = n % 256 := fun n => by simp
  simp only [Sums.four, cellsB, List.map_cons, List.map_nil, e]
  rw [show x / 16777216 % 256 = x / 16777216 from Nat.mod_eq_of_lt (by omega)]
  rfl
theorem four_string (x : Nat) (hx : x ≤ 4294967295) (w : World) :
    (convert 22 9 (.slice (some ⟨w.heap.size, 0, none⟩) 4 4)).run Tryz.prog (w.alloc (.cells #[Value.int .u8 ((x : Int) / 16777216), .int .u8 ((x : Int) / 65536 % 256), .int .u8 ((x : Int) / 256 % 256), .int .u8 ((x : Int) % 256)] 5)) =
      .ok (.string ⟨(Sums.four x).toArray⟩) (w.alloc (.cells #[Value.int .u8 ((x : Int) / 16777216), .int .u8 ((x : Int) / 65536 % 256), .int .u8 ((x : Int) / 256 % 256), .int .u8 ((x : Int) % 256)] 5)) := by
  rw [four_cells x hx]
  refine run_convert_bytes_back (P := Tryz.prog) _ 22 9 5 ⟨w.heap.size, 0, none⟩ 4 (Sums.four x) Tryz.underlying22 Tryz.underlying5 Tryz.underlying9 fun j hj => ?_
  rw [Addr.add_lit, Nat.zero_add]
  unfold World.cell?
  rw [heap_alloc_new w (Obj.cells (cellsB (Sums.four x)).toArray 5)]
  simp [cellsB, hj]

set_option maxHeartbeats 1000000 in
set_option maxRecDepth 100000 in
theorem l02Four_any (x : Nat) (hx : x ≤ 4294967295) (w : World) :
    Calls Tryz.prog 100 #[.int .u32 (x : Int)] w fun e w' => e = .returned (.string ⟨(Sums.four x).toArray⟩) ∧ Below w.heap.size w w' := by
  have hcv := four_string x hx w
  go_enter Tryz.func100, Tryz.ntmps100
  go_wp2
  go_ret
  exact ⟨rfl, (Below.refl _ _).alloc (Nat.le_refl _) _⟩

theorem sum_le (l : List UInt8) : Sums.sumOf l ≤ 4294967295 := by have := Sums.sumOf_lt l; omega
theorem four_size (x : Nat) : (⟨(Sums.four x).toArray⟩ : ByteArray).size = 4 := rfl
end
section
open Go.RowKit

set_option maxHeartbeats 1000000 in
set_option maxRecDepth 100000 in
theorem sealOf_any (s : ByteArray) (hs : s.size ≤ 1048580) (w : World) :
    Calls Tryz.prog 85 #[.string s] w fun e w' => e = .returned (.string ⟨(Sums.four (Sums.sumOf s.data.toList)).toArray⟩) ∧ Below w.heap.size w w' := by
  obtain ⟨x, hx⟩ : ∃ x, x = Sums.sumOf s.data.toList := ⟨_, rfl⟩
  have hxl : x ≤ 4294967295 := by rw [hx]; exact sum_le _
  have hso := fun w => implSumOf_any s hs w
  rw [← hx] at hso ⊢
  have HS : Hid (∀ w : World, Calls Tryz.prog 106 #[.string s] w fun e w' => e = .returned (.int .u32 (x : Int)) ∧ w = w') := hso
  clear hso hx
  have hcv := four_string x hxl w
  go_enter Tryz.func85, Tryz.ntmps85
  go_wp2_with (go_at_call 106; refine (HS.out _).mono ?_; rintro e w' ⟨rfl, rfl⟩)
  go_ret
  exact ⟨rfl, (Below.refl _ _).alloc (Nat.le_refl _) _⟩
end
section
open Go.RowKit

set_option maxHeartbeats 400000 in
theorem sizeOk_yes (x : Int) (h : 1 ≤ x ∧ x ≤ 9000) (w : World) :
    Calls Tryz.prog 83 #[.int .i64 x] w fun e w' => e = .returned (.bool true) ∧ w' = w := by
  obtain ⟨h1, h2⟩ := h
  go_enter Tryz.func83, Tryz.ntmps83
  go_wp2
  go_ret
  exact ⟨rfl, rfl⟩
set_option maxHeartbeats 400000 in
theorem sizeOk_no (x : Int) (h : ¬ (1 ≤ x ∧ x ≤ 9000)) (w : World) :
    Calls Tryz.prog 83 #[.int .i64 x] w fun e w' => e = .returned (.bool false) ∧ w' = w := by
  by_cases h1 : 1 ≤ x
  · have h2 : ¬ x ≤ 9000 := fun h3 => h ⟨h1, h3⟩
    go_enter Tryz.func83, Tryz.ntmps83
    go_wp2
    go_ret
    exact ⟨rfl, rfl⟩
  · go_enter Tryz.func83, Tryz.ntmps83
    go_wp2
    go_ret
    exact ⟨rfl, rfl⟩

/-- The frame of a text. -/
def frameB (s : ByteArray) : ByteArray := (⟨(Words.var s.size).toArray⟩ : ByteArray) ++ (⟨(Sums.four (Sums.sumOf s.data.toList)).toArray⟩ : ByteArray) ++ s
def frameTuple (s : ByteArray) : Value := .tuple #[.string (frameB s), .bool true]

set_option maxHeartbeats 400000 in
theorem implFrame_no (s : ByteArray) (hs : s.size ≤ maxLen) (h : ¬ (1 ≤ s.size ∧ s.size ≤ 9000)) (w : World) :
    Calls Tryz.prog 51 #[.string s] w fun e w' => e = .returned (.tuple #[.string ⟨#[]⟩, .bool false]) ∧ Below w.heap.size w w' := by
  unfold maxLen at hs
  go_enter Tryz.func51, Tryz.ntmps51
  go_wp2_with (go_at_call 83; refine (sizeOk_no _ (by omega) _).mono ?_; rintro e w' ⟨rfl, rfl⟩)
  go_ret2
  exact ⟨rfl, Below.refl _ _⟩

set_option maxHeartbeats 400000 in
theorem implFrame_yes (s : ByteArray) (h1 : 1 ≤ s.size) (h2 : s.size ≤ 9000) (w : World) :
    Calls Tryz.prog 51 #[.string s] w fun e w' => e = .returned (frameTuple s) ∧ Below w.heap.size w w' := by
  have hv := Words.var_len s.size
  have hf := four_size (Sums.sumOf s.data.toList)
  go_enter Tryz.func51, Tryz.ntmps51
  go_wp2_with (first | (go_at_call 83; refine (sizeOk_yes _ (by omega) _).mono ?_; rintro e w' ⟨rfl, rfl⟩) | (go_at_call 84; refine (implVar_yes s.size (by omega) _).mono ?_; rintro e w1 ⟨rfl, hb1⟩) | (go_at_call 85; refine (sealOf_any s (by omega) _).mono ?_; rintro e w2 ⟨rfl, hb2⟩))
  go_ret2
  exact ⟨rfl, hb1.trans (hb2.mono hb1.size)⟩

set_option maxHeartbeats 400000 in
theorem specFrame_no (s : ByteArray) (hs : s.size ≤ maxLen) (h : ¬ (1 ≤ s.size ∧ s.size ≤ 9000)) (w : World) :
    Calls Tryz.prog 70 #[.string s] w fun e w' => e = .returned (.tuple #[.string ⟨#[]⟩, .bool false]) ∧ Below w.heap.size w w' := by
  unfold maxLen at hs
  go_enter Tryz.func70, Tryz.ntmps70
  go_wp2_with (go_at_call 39; refine (in_no _ _ _ (by omega) _).mono ?_; rintro e w' ⟨rfl, rfl⟩)
  go_ret2
  exact ⟨rfl, Below.refl _ _⟩

set_option maxHeartbeats 400000 in
theorem specFrame_yes (s : ByteArray) (h1 : 1 ≤ s.size) (h2 : s.size ≤ 9000) (w : World) :
    Calls Tryz.prog 70 #[.string s] w fun e w' => e = .returned (frameTuple s) ∧ Below w.heap.size w w' := by
  have hv := Words.var_len s.size
  have hf := four_size (Sums.sumOf s.data.toList)
  go_enter Tryz.func70, Tryz.ntmps70
  go_wp2_with (first | (go_at_call 39; refine (in_yes _ _ _ (by omega) _).mono ?_; rintro e w' ⟨rfl, rfl⟩) | (go_at_call 81; refine (l01Var_any s.size (by omega) _).mono ?_; rintro e w1 ⟨rfl, hb1⟩) | (go_at_call 101; refine (specSumOf_any s (by omega) _).mono ?_; rintro e w' ⟨rfl, rfl⟩) | (go_at_call 100; refine (l02Four_any _ (sum_le s.data.toList) _).mono ?_; rintro e w2 ⟨rfl, hb2⟩))
  go_ret2
  exact ⟨rfl, hb1.trans (hb2.mono hb1.size)⟩

theorem frameB_list (T : ByteArray) : (frameB T).data.toList = Words.frame T.data.toList := by
  unfold frameB Words.frame
  simp
end
section
open Go.RowKit

set_option maxHeartbeats 400000 in
theorem clone_any (s : ByteArray) (h : s.size ≤ 281474976710656) (w : World) :
    Calls Tryz.prog 58 #[.string s] w fun e w' => e = .returned (.string s) ∧ Below w.heap.size w w' := by
  go_enter Tryz.func58, Tryz.ntmps58
  go_wp2_with (go_at_call 90; refine (Tryz.stringslite_Clone s _ h).mono ?_; rintro e w1 ⟨rfl, hb1⟩)
  go_ret
  exact ⟨rfl, hb1⟩
end
end Go.Proofs.YtahpoemmlpbgdaaGreat
