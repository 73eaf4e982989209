/- The calls of the specification's l01Figure, Decimal, ReadDecimal, SegName, walked. The calls of the specification's l09In, l09Seg, l09SameInts, walked. Shelves as values and in blocks. -/
import Derived.Test.YtbcfiiilikkkeaaGreatDoorReader
import Derived.Test.YtbcfiiilikkkeaaGreatDoorMathShelf
import Derived.Test.YtbcfiiilikkkeaaGreatDoorKit
import Derived.Deep.RegionHeld3
import Derived.WalkMore
import Derived.Test.YtbcfiiilikkkeaaGreatDoorWords5
import Derived.Test.YtbcfiiilikkkeaaGreatDoorReadLaw
import Derived.Test.YtbcfiiilikkkeaaGreatDoorSpecRM
import Derived.Test.YtbcfiiilikkkeaaGreatDoorSpecScan
import Derived.Test.YtbcfiiilikkkeaaGreatDoorSpecMore
import Derived.Test.YtbcfiiilikkkeaaGreatDoorSpecDirOk
import Derived.Test.YtbcfiiilikkkeaaGreatDoorAt
namespace Go.Proofs.YtbcfiiilikkkeaaGreatDoor
open Go.RowKit
set_option linter.unusedVariables false

theorem ret_byte {a b : Int} (h : a = b) : Ending.returned (.int .u8 a) = .returned (.int .u8 b) := by rw [h]

set_option maxHeartbeats 400000 in
theorem figure_any (x : Int) (h0 : 0 ≤ x) (h1 : x < 16) (w : World) :
    Calls Tryz.prog 188 #[.int .i64 x] w fun e w' => e = .returned (.int .u8 ((Words.fig x.toNat).toNat : Int)) ∧ w' = w := by
  by_cases h : x < 10
  · have hf := Words.fig_low x.toNat (by omega)
    have HF : Hid (_ = _) := hf
    clear hf
    go_enter Tryz.func188, Tryz.ntmps188
    go_wp2
    go_ret
    exact ⟨ret_byte (by rw [HF.out]; omega), rfl⟩
  · have hf := Words.fig_high x.toNat (by omega) (by omega)
    have HF : Hid (_ = _) := hf
    clear hf
    go_enter Tryz.func188, Tryz.ntmps188
    go_wp2
    go_ret
    exact ⟨ret_byte (by rw [HF.out]; omega), rfl⟩

theorem figure_nat (X : Nat) (h : X < 16) (w : World) :
    Calls Tryz.prog 188 #[.int .i64 (X : Int)] w fun e w' => e = .returned (.int .u8 ((Words.fig X).toNat : Int)) ∧ w' = w := by
  have := figure_any (X : Int) (by omega) (by omega) w
  rwa [Int.toNat_natCast] at this
set_option maxHeartbeats 1000000 in
set_option maxRecDepth 100000 in
theorem dec_nat (n : Nat) (hn : n ≤ 1000000000) (w : World) :
    Calls Tryz.prog 133 #[.int .i64 (n : Int)] w fun e w' => e = .returned (.string ⟨(Words.dec n).toArray⟩) ∧ Below w.heap.size w w' := by
  by_cases h0 : n = 0
  · subst h0
    go_enter Tryz.func133, Tryz.ntmps133
    go_wp2
    go_ret
    exact ⟨rfl, Below.refl _ _⟩
  · have hne : ((n : Int) == 0) = false := by simp; omega
    have HD : Hid (Words.dec n = Words.dig n) := by show _ = _; rw [Words.dec, if_neg h0]
    have hl := Words.dig_len 10 n (by omega)
    have HL : Hid (_ ≤ _) := hl
    clear hl
    go_enter Tryz.func133, Tryz.ntmps133
    go_wp2
    go_loopw [0, 4] (fun x v wr => ∃ (m : Nat) (S : ByteArray), m ≤ 1000000000 ∧ x = .int .i64 (m : Int) ∧ v = .string S ∧ S.size ≤ 10 ∧ Words.dig m ++ S.data.toList = Words.dig n ∧ Below w.heap.size w wr)
      (fun x _ _ => (intOf x).toNat)
    case atStart => exact ⟨n, ⟨#[]⟩, hn, rfl, rfl, by decide, by simp, Below.refl _ _⟩
    case round =>
      obtain ⟨m, S, hm, rfl, rfl, hsz, heq, hbel⟩ := hrel
      have HE : Hid (_ = _) := heq
      clear heq
      by_cases hz : m = 0
      · have hmz : ((m : Int) != 0) = false := by simp; omega
        have HZ : Hid (m = 0) := hz
        clear hz
        go_wp2
        go_ret
        refine ⟨?_, hbel⟩
        have e := HE.out
        rw [HZ.out, Words.dig_zero, List.nil_append] at e
        rw [HD.out, ← str_ext e]; rfl
      · have hmz : ((m : Int) != 0) = true := by simp; omega
        obtain ⟨X, HX, hX⟩ : ∃ X : Nat, Hid (X = m % 10) ∧ (m : Int) % 10 = (X : Int) := ⟨m % 10, rfl, by omega⟩
        have hX16 : X < 16 := by have := HX.out; omega
        have hX10 : ¬ (X : Int) < 0 := by omega
        have hcv := one_string wr (Words.fig X)
        go_wp2_with (go_at_call 188; refine (figure_nat X hX16 _).mono ?_; rintro e w' ⟨rfl, hw⟩; subst hw)
        go_roundw
        case rel =>
          have E : Words.dig (m / 10) ++ ((⟨#[Words.fig X]⟩ : ByteArray) ++ S).data.toList = Words.dig n := by
            rw [str_app, ← HE.out, Words.dig_step m hz, HX.out]; simp
          refine ⟨m / 10, _, by omega, by go_num, rfl, ?_, E, hbel.alloc hbel.size _⟩
          have L := congrArg List.length E
          rw [List.length_append, Words.size_list] at L
          have := HL.out
          omega
        case measure => simp [intOf]; omega
def rdDTuple : Option Nat → Value
  | none => .tuple #[.int .i64 0, .bool false]
  | some n => .tuple #[.int .i64 (n : Int), .bool true]

theorem numF_take {s : ByteArray} {k : Nat} (h : k < s.size) : Words.numF (s.data.toList.take (k + 1)) 0 = 10 * Words.numF (s.data.toList.take k) 0 + (s[k].toNat - 48) := by
  rw [Words.take_snoc s k h, Words.numF_snoc]
set_option maxHeartbeats 1000000 in
set_option maxRecDepth 100000 in
theorem specRD_any (s : ByteArray) (hs : s.size ≤ 1048576) (w : World) :
    Calls Tryz.prog 186 #[.string s] w fun e w' => e = .returned (rdDTuple (Words.rdD s.data.toList 0 true)) ∧ Below w.heap.size w w' := by
  by_cases hlong : 10 < s.size
  · have HN : Hid (_ = _) := Words.rdD_long (l := s.data.toList) (by rw [Words.size_list]; exact hlong)
    go_enter Tryz.func186, Tryz.ntmps186
    go_wp2
    go_ret2
    exact ⟨by rw [HN.out]; rfl, Below.refl _ _⟩
  · go_enter Tryz.func186, Tryz.ntmps186
    go_wp2
    go_loop [4, 5] (fun x i => ∃ k n : Nat, k ≤ s.size ∧ n < 10 ^ k ∧ n ≤ 9999999999 ∧ i = .int .i64 (k : Int) ∧ x = .int .i64 (n : Int) ∧ n = Words.numF (s.data.toList.take k) 0)
      (fun _ i => s.size - (intOf i).toNat)
    case atStart => exact ⟨0, 0, by omega, by simp, by omega, rfl, rfl, rfl⟩
    case round =>
      obtain ⟨k, n, hk, hn, hn9, rfl, rfl, heq⟩ := hrel
      have HE : Hid (_ = _) := heq
      have HK : Hid (_ < _) := hn
      clear heq hn
      by_cases hlt : k < s.size
      · have hb : (s[k].toNat : Int) ≤ 255 := by have := s[k].toNat_lt; omega
        have hmem : s[k] ∈ s.data.toList := List.getElem_mem (l := s.data.toList) (by rw [Words.size_list]; exact hlt)
        have HM : Hid (_ ∈ _) := hmem
        clear hmem
        by_cases h1 : (s[k].toNat : Int) < 48
        · have HN : Hid (_ = _) := Words.rdD_nofig HM.out (by unfold Words.isFig; omega)
          go_wp2
          go_ret2
          exact ⟨by rw [HN.out]; rfl, Below.refl _ _⟩
        · by_cases h2 : (57 : Int) < (s[k].toNat : Int)
          · have HN : Hid (_ = _) := Words.rdD_nofig HM.out (by unfold Words.isFig; omega)
            go_wp2
            go_ret2
            exact ⟨by rw [HN.out]; rfl, Below.refl _ _⟩
          · go_wp2
            go_round
            case rel =>
              have hp : 10 * n + (s[k].toNat - 48) < 10 ^ (k + 1) := by have := HK.out; rw [Nat.pow_succ]; omega
              have hp10 : 10 ^ (k + 1) ≤ 10 ^ 10 := Nat.pow_le_pow_right (by omega) (by omega)
              have h10 : (10 : Nat) ^ 10 = 10000000000 := rfl
              exact ⟨k + 1, 10 * n + (s[k].toNat - 48), by omega, hp, by omega, by go_num, by go_num, by rw [numF_take hlt, ← HE.out]⟩
            case measure => simp [intOf]; omega
      · have HT : Hid (n = Words.numF s.data.toList 0) := by
          show _ = _
          rw [HE.out, List.take_of_length_le (by rw [Words.size_list]; omega)]
        by_cases hM : 1000000000 < n
        · have HN : Hid (_ = _) := Words.rdD_great (l := s.data.toList) (by rw [← HT.out]; exact hM)
          go_wp2
          go_ret2
          exact ⟨by rw [HN.out]; rfl, Below.refl _ _⟩
        · have hM2 : n ≤ 1000000000 := by omega
          by_cases hd : Words.dec n = s.data.toList
          · have HN : Hid (_ = _) := Words.rdD_yes (l := s.data.toList) (by rw [← HT.out]; exact hM2) (by rw [← HT.out]; exact hd)
            have hcmp : (Words.dec n == s.toList) = true := by rw [ByteArray.toList_eq, hd]; simp
            clear hd
            go_wp2_with (go_at_call 133; refine (dec_nat n hM2 _).mono ?_; rintro e w1 ⟨rfl, hb1⟩)
            go_ret2
            exact ⟨by rw [HN.out, ← HT.out]; rfl, hb1⟩
          · have HN : Hid (_ = _) := Words.rdD_other (l := s.data.toList) (by rw [← HT.out]; exact hd)
            have hcmp : (Words.dec n == s.toList) = false := by rw [ByteArray.toList_eq]; simpa using hd
            clear hd
            go_wp2_with (go_at_call 133; refine (dec_nat n hM2 _).mono ?_; rintro e w1 ⟨rfl, hb1⟩)
            go_ret2
            exact ⟨by rw [HN.out]; rfl, hb1⟩

/-- Is a number in a range? -/
theorem segIn_any (n : Int) (w : World) : Calls Tryz.prog 130 #[.int .i64 n, .int .i64 0, .int .i64 999] w fun e w' => e = .returned (.bool (decide (0 ≤ n ∧ n ≤ 999))) ∧ w = w' := by
  by_cases h1 : 0 ≤ n
  · by_cases h2 : n ≤ 999
    · rw [show decide (0 ≤ n ∧ n ≤ 999) = true from decide_eq_true ⟨h1, h2⟩]
      go_enter Tryz.func130, Tryz.ntmps130
      go_wp2
      go_ret
      exact ⟨rfl, rfl⟩
    · rw [show decide (0 ≤ n ∧ n ≤ 999) = false from decide_eq_false fun h => h2 h.2]
      go_enter Tryz.func130, Tryz.ntmps130
      go_wp2
      go_ret
      exact ⟨rfl, rfl⟩
  · rw [show decide (0 ≤ n ∧ n ≤ 999) = false from decide_eq_false fun h => h1 h.1]
    go_enter Tryz.func130, Tryz.ntmps130
    go_wp2
    go_ret
    exact ⟨rfl, rfl⟩
theorem segName_out {n : Int} (h : ¬ (0 ≤ n ∧ n ≤ 999)) : Shelves.segName n = ⟨#[]⟩ := by unfold Shelves.segName; rw [if_neg h]
theorem segName_cat {n : Int} (h : 0 ≤ n ∧ n ≤ 999) : (⟨#[103]⟩ : ByteArray) ++ ⟨(Words.dec n.toNat).toArray⟩ = Shelves.segName n := by
  apply Batches.by_inj
  rw [Shelves.segName_in h]
  show ((⟨#[103]⟩ : ByteArray) ++ ⟨(Words.dec n.toNat).toArray⟩).data.toList = _
  rw [str_app]
set_option maxHeartbeats 1000000 in
theorem specSeg_any (n : Int) (w : World) : Calls Tryz.prog 62 #[.int .i64 n] w fun e w' => e = .returned (.string (Shelves.segName n)) ∧ Below w.heap.size w w' := by
  by_cases h : 0 ≤ n ∧ n ≤ 999
  · obtain ⟨k, rfl⟩ := Int.eq_ofNat_of_zero_le h.1
    have hz : (⟨(Words.dec k).toArray⟩ : ByteArray).size ≤ 10 := by
      have := Words.dec_len k (by omega)
      show (Words.dec k).toArray.size ≤ 10
      simpa using this
    obtain ⟨D, hD⟩ : ∃ D : ByteArray, D = ⟨(Words.dec k).toArray⟩ := ⟨_, rfl⟩
    have HC : Hid ((⟨#[103]⟩ : ByteArray) ++ D = Shelves.segName (k : Int)) := by rw [hD]; exact segName_cat (n := (k : Int)) h
    have HS : Hid (∀ w : World, Calls Tryz.prog 133 #[.int .i64 (k : Int)] w fun e w' => e = .returned (.string D) ∧ Below w.heap.size w w') := fun w => by rw [hD]; exact dec_nat k (by omega) w
    have HT : Hid (decide (0 ≤ (k : Int) ∧ (k : Int) ≤ 999) = true) := decide_eq_true h
    rw [← hD] at hz
    clear hD h
    go_enter Tryz.func62, Tryz.ntmps62
    go_wp2_with (first | (go_at_call 130; refine (segIn_any (k : Int) _).mono ?_; rintro e w0 ⟨rfl, rfl⟩; rw [HT.out]) | (go_at_call 133; refine (HS.out _).mono ?_; rintro e w1 ⟨rfl, hb1⟩))
    go_ret
    exact ⟨by rw [HC.out]; rfl, hb1⟩
  · have HT : Hid (decide (0 ≤ n ∧ n ≤ 999) = false) := decide_eq_false h
    rw [segName_out h]
    clear h
    go_enter Tryz.func62, Tryz.ntmps62
    go_wp2_with (go_at_call 130; refine (segIn_any n _).mono ?_; rintro e w0 ⟨rfl, rfl⟩; rw [HT.out])
    go_ret
    exact ⟨rfl, Below.refl _ _⟩
/-- The number of a segment's name, or -1. -/
def segNum (name : ByteArray) : Int := match Shelves.segOf name with
  | none => -1
  | some n => (n : Int)
end Go.Proofs.YtbcfiiilikkkeaaGreatDoor
namespace Go.Proofs.YtbcfiiilikkkeaaGreatDoor
open Go.RowKit
set_option linter.unusedVariables false

set_option maxHeartbeats 1000000 in
theorem in9_is {a : Option Addr} {g off cap : Nat} (l : List Int) (hlen : l.length ≤ 1048576) (x : Int) (w : World) (hf : IntAt w a g off l) :
    Calls Tryz.prog 123 #[.slice a l.length cap, .int .i64 x] w fun e w' => e = .returned (.bool (l.contains x)) ∧ w' = w := by
  have HF : Hid (IntAt w a g off l) := hf
  clear hf
  obtain ⟨R, hR⟩ : ∃ R, R = l.contains x := ⟨_, rfl⟩
  rw [← hR]
  have HR : Hid (R = l.contains x) := hR
  clear hR
  go_enter Tryz.func123, Tryz.ntmps123
  go_wp2
  go_loop [5] (fun i => ∃ k : Nat, k ≤ l.length ∧ i = .int .i64 (k : Int) ∧ ∀ j (h : j < l.length), j < k → l[j] ≠ x) (fun i => l.length - (intOf i).toNat)
  case atStart => exact ⟨0, Nat.zero_le _, rfl, fun j h q => absurd q (Nat.not_lt_zero _)⟩
  case round =>
    obtain ⟨k, hk, rfl, hno⟩ := hrel
    have HN : Hid (∀ j (h : j < l.length), j < k → l[j] ≠ x) := hno
    clear hno
    by_cases hlt : k < l.length
    · have c0 := HF.out.2 k hlt
      have ea := HF.out.1 (by omega)
      subst ea
      obtain ⟨X, hX⟩ : ∃ X, X = l[k] := ⟨_, rfl⟩
      rw [← hX] at c0
      have HX : Hid (X = l[k]) := hX
      clear hX
      have hk0 : (0 : Int) ≤ (k : Int) := by omega
      have hk1 : (k : Int) < (l.length : Int) := by omega
      by_cases hx : X = x
      · have hRt : R = true := by
          rw [HR.out, List.contains_eq_mem, decide_eq_true_eq, ← hx, HX.out]
          exact List.getElem_mem _
        have HT : Hid (R = true) := hRt
        clear hRt
        have hc : (X == x) = true := by simp [hx]
        go_wp2
        go_ret
        exact ⟨by rw [HT.out]; rfl, rfl⟩
      · have hc : (X == x) = false := by simp [hx]
        have HE : Hid (X ≠ x) := hx
        clear hx
        go_wp2
        go_round
        case rel =>
          refine ⟨k + 1, by omega, by go_num, fun j h q => ?_⟩
          by_cases e : j = k
          · subst e; rw [← HX.out]; exact HE.out
          · exact HN.out j h (by omega)
        case measure => simp [intOf]; omega
    · have hRf : R = false := by
        rw [HR.out, List.contains_eq_mem, decide_eq_false_iff_not]
        intro hm
        obtain ⟨j, hj, e⟩ := List.getElem_of_mem hm
        exact HN.out j hj (by omega) e
      have HT : Hid (R = false) := hRf
      clear hRf
      go_wp2
      go_ret
      exact ⟨by rw [HT.out]; rfl, rfl⟩
theorem segNum_none {name : ByteArray} (h : Words.rdD ((Batches.by_ name).drop 1) 0 true = none) : segNum name = -1 := by
  unfold segNum Shelves.segOf
  rw [h]
theorem segNum_other {name : ByteArray} {n : Nat} (h : Words.rdD ((Batches.by_ name).drop 1) 0 true = some n) (h2 : Shelves.segName n ≠ name) : segNum name = -1 := by
  unfold segNum Shelves.segOf
  rw [h]
  simp only
  rw [if_neg (fun e => h2 (Batches.by_inj (beq_iff_eq.1 e)))]
theorem segNum_yes {name : ByteArray} {n : Nat} (h : Words.rdD ((Batches.by_ name).drop 1) 0 true = some n) (h2 : Shelves.segName n = name) : segNum name = (n : Int) := by
  unfold segNum Shelves.segOf
  rw [h]
  simp only
  rw [if_pos (by rw [h2]; simp)]
theorem segNum_short {name : ByteArray} (h : name.size < 2) : segNum name = -1 := by
  refine segNum_none ?_
  have e : (Batches.by_ name).drop 1 = [] := List.drop_of_length_le (by rw [Scan.by_len]; omega)
  rw [e]
  cases q : Words.rdD [] 0 true with
  | none => rfl
  | some n => exact absurd ((Words.rdD_iff _ _).1 q).2 (Words.dec_ne n)
set_option maxHeartbeats 1000000 in
theorem seg9_is (name : ByteArray) (hs : name.size ≤ 1048576) (w : World) :
    Calls Tryz.prog 122 #[.string name] w fun e w' => e = .returned (.int .i64 (segNum name)) ∧ Below w.heap.size w w' := by
  by_cases h2 : name.size < 2
  · rw [segNum_short h2]
    go_enter Tryz.func122, Tryz.ntmps122
    go_wp2
    go_ret
    exact ⟨rfl, Below.refl _ _⟩
  · obtain ⟨T, hT⟩ : ∃ T : ByteArray, T = name.extract 1 name.size := ⟨_, rfl⟩
    have hTd : T.data.toList = (Batches.by_ name).drop 1 := by
      rw [hT]
      simp [Batches.by_, ByteArray.data_extract, Array.toList_extract]
      rw [List.take_of_length_le]
      rw [List.length_tail]
      exact Nat.le_of_eq (by rw [Words.size_list])
    have hTs : T.size ≤ 1048576 := by
      rw [← Scan.by_len]
      show T.data.toList.length ≤ _
      rw [hTd, List.length_drop, Scan.by_len]; omega
    have HRD : Hid (∀ w : World, Calls Tryz.prog 186 #[.string T] w fun e w' => e = .returned (rdDTuple (Words.rdD ((Batches.by_ name).drop 1) 0 true)) ∧ Below w.heap.size w w') := fun w => by rw [← hTd]; exact specRD_any T hTs w
    have hsl : ∀ wx, (Instr.slice 9 (.string name) (some (.int .i64 1)) none none).run Tryz.prog wx = .ok (.string T) wx := fun wx => by
      rw [hT]
      have h3 : (1 : Int) ≤ (name.size : Int) := by omega
      simp [Instr.slice, h3, go_sem]
    clear hTd hTs hT
    cases hr : Words.rdD ((Batches.by_ name).drop 1) 0 true with
    | none =>
      rw [segNum_none hr]
      rw [hr] at HRD
      have HQ : Hid (∀ w : World, Calls Tryz.prog 186 #[.string T] w fun e w' => e = .returned (.tuple #[.int .i64 0, .bool false]) ∧ Below w.heap.size w w') := HRD.out
      clear hr HRD
      go_enter Tryz.func122, Tryz.ntmps122
      go_wp2_with (go_at_call 186; refine (HQ.out _).mono ?_; rintro e w1 ⟨rfl, hb1⟩)
      go_ret
      exact ⟨rfl, hb1⟩
    | some n =>
      by_cases hn : Shelves.segName n = name
      · rw [segNum_yes hr hn]
        rw [hr] at HRD
        have HQ : Hid (∀ w : World, Calls Tryz.prog 186 #[.string T] w fun e w' => e = .returned (.tuple #[.int .i64 (n : Int), .bool true]) ∧ Below w.heap.size w w') := HRD.out
        have hc : ((Shelves.segName n).toList == name.toList) = true := by rw [hn]; simp
        clear hr hn HRD
        go_enter Tryz.func122, Tryz.ntmps122
        go_wp2_with (first | (go_at_call 186; refine (HQ.out _).mono ?_; rintro e w1 ⟨rfl, hb1⟩) | (go_at_call 62; refine (specSeg_any (n : Int) _).mono ?_; rintro e w2 ⟨rfl, hb2⟩))
        go_ret
        exact ⟨rfl, hb1.trans (hb2.mono hb1.size)⟩
      · rw [segNum_other hr hn]
        rw [hr] at HRD
        have HQ : Hid (∀ w : World, Calls Tryz.prog 186 #[.string T] w fun e w' => e = .returned (.tuple #[.int .i64 (n : Int), .bool true]) ∧ Below w.heap.size w w') := HRD.out
        have hc : ((Shelves.segName n).toList == name.toList) = false := by
          cases q : ((Shelves.segName n).toList == name.toList)
          · rfl
          · rw [beq_iff_eq, Batches.toList_by, Batches.toList_by] at q
            exact absurd (Batches.by_inj q) hn
        clear hr hn HRD
        go_enter Tryz.func122, Tryz.ntmps122
        go_wp2_with (first | (go_at_call 186; refine (HQ.out _).mono ?_; rintro e w1 ⟨rfl, hb1⟩) | (go_at_call 62; refine (specSeg_any (n : Int) _).mono ?_; rintro e w2 ⟨rfl, hb2⟩))
        go_ret
        exact ⟨rfl, hb1.trans (hb2.mono hb1.size)⟩
set_option maxHeartbeats 2000000 in
set_option maxRecDepth 100000 in
theorem sameInts9_is {a b : Option Addr} {g off cap h off' cap' : Nat} (l m : List Int) (hlen : l.length ≤ 1048576) (hlen' : m.length ≤ 1048576) (R : Bool) (hR : R = true ↔ l = m) (w : World) (hf : IntAt w a g off l) (hf' : IntAt w b h off' m) :
    Calls Tryz.prog 172 #[.slice a l.length cap, .slice b m.length cap'] w fun e w' => e = .returned (.bool R) ∧ Below w.heap.size w w' := by
  have HF : Hid (IntAt w a g off l) := hf
  have HF' : Hid (IntAt w b h off' m) := hf'
  clear hf hf'
  by_cases hl : l.length = m.length
  · have HR : Hid (R = true ↔ l = m) := hR
    clear hR
    have hc : ((l.length : Int) != (m.length : Int)) = false := by simp; omega
    go_enter Tryz.func172, Tryz.ntmps172
    go_wp2
    go_loopw [5] (fun i wr => ∃ k : Nat, k ≤ l.length ∧ i = .int .i64 (k : Int) ∧ (∀ j (h1 : j < l.length) (h2 : j < m.length), j < k → l[j] = m[j]) ∧ Below w.heap.size w wr)
      (fun i _ => l.length - (intOf i).toNat)
    case atStart => exact ⟨0, Nat.zero_le _, rfl, fun j _ _ q => absurd q (Nat.not_lt_zero _), Below.refl _ _⟩
    case round =>
      obtain ⟨k, hk, rfl, hsm, hbel⟩ := hrel
      have HS : Hid (∀ j (h1 : j < l.length) (h2 : j < m.length), j < k → l[j] = m[j]) := hsm
      clear hsm
      by_cases hlt : k < l.length
      · have hltm : k < m.length := by omega
        have c0 := (HF.out.kept hbel).2 k hlt
        have d0 := (HF'.out.kept hbel).2 k hltm
        have ea := HF.out.1 (by omega)
        have eb := HF'.out.1 (by omega)
        subst ea eb
        obtain ⟨X, hX⟩ : ∃ X, X = l[k] := ⟨_, rfl⟩
        obtain ⟨Y, hY⟩ : ∃ Y, Y = m[k] := ⟨_, rfl⟩
        rw [← hX] at c0
        rw [← hY] at d0
        have HX : Hid (X = l[k]) := hX
        have HY : Hid (Y = m[k]) := hY
        clear hX hY
        have hk0 : (0 : Int) ≤ (k : Int) := by omega
        have hk1 : (k : Int) < (l.length : Int) := by omega
        have hk2 : (k : Int) < (m.length : Int) := by omega
        by_cases hxy : X = Y
        · have hcx : (X != Y) = false := by simp [hxy]
          have HXY : Hid (X = Y) := hxy
          clear hxy
          go_wp2
          have NE := Abv.ne wr
          have C0 := fun x : Abv wr => x.cell c0
          have D0 := fun x : Abv wr => x.cell d0
          refine wp_region_above (by kernel_rfl) (by kernel_rfl) ?_
          repeat (go_big_quiet_step (fail))
          refine wpQuiet_nil ?_
          rintro w1 ⟨⟨_, hb1⟩, rfl⟩
          clear NE C0 D0
          go_wp2
          go_roundw
          case rel =>
            refine ⟨k + 1, by omega, by go_num, fun j h1 h2 q => ?_, hbel.trans (hb1.mono hbel.size)⟩
            by_cases e : j = k
            · subst e; rw [← HX.out, ← HY.out]; exact HXY.out
            · exact HS.out j h1 h2 (by omega)
          case measure => simp [intOf]; omega
        · have hcx : (X != Y) = true := by simp [hxy]
          have hRf : R = false := by
            refine ans_no HR.out fun e => hxy ?_
            rw [HX.out, HY.out]
            subst e; rfl
          subst hRf
          clear HR hxy
          go_wp2
          have NE := Abv.ne wr
          have C0 := fun x : Abv wr => x.cell c0
          have D0 := fun x : Abv wr => x.cell d0
          refine wp_region_above (by kernel_rfl) (by kernel_rfl) ?_
          repeat (go_big_quiet_step (fail))
          refine wpQuiet_nil ?_
          rintro w1 ⟨⟨_, hb1⟩, rfl⟩
          clear NE C0 D0
          go_wp2
          go_ret
          exact ⟨rfl, hbel.trans (hb1.mono hbel.size)⟩
      · have hRt : R = true := HR.out.2 (List.ext_getElem hl fun j h1 h2 => HS.out j h1 h2 (by omega))
        subst hRt
        clear HR
        have hk1 : ¬ (k : Int) < (l.length : Int) := by omega
        go_wp2
        go_ret
        exact ⟨rfl, hbel⟩
  · have hRf : R = false := ans_no hR fun e => hl (by rw [e])
    subst hRf
    clear hR
    have hc : ((l.length : Int) != (m.length : Int)) = true := by simp; omega
    go_enter Tryz.func172, Tryz.ntmps172
    go_wp2
    go_ret
    exact ⟨rfl, Below.refl _ _⟩
end Go.Proofs.YtbcfiiilikkkeaaGreatDoor
namespace Go.Proofs.YtbcfiiilikkkeaaGreatDoor
open Go.RowKit
set_option linter.unusedVariables false

def zero7 : Array Value := #[.slice none 0 0, .int .i64 0, .int .i64 0, .int .i64 0, .slice none 0 0, .slice none 0 0, .int .i64 0]
def cells7 (s : ShelfL) (va vc vd : Value) : Array Value := #[va, .int .i64 s.man.next, .int .i64 s.man.base, .int .i64 s.man.term, vc, vd, .int .i64 s.stamp]
def shV (s : ShelfL) (va vc vd : Value) : Value := .agg (cells7 s va vc vd)
/-- The rows of a shelf that a call owns. -/
structure ShOwn (b : Nat) (s : ShelfL) (va vc vd : Value) (W : World) : Prop where
  segs : W.ownsRow b 3 1 va s.man.segs.length (cellsI s.man.segs)
  conf : W.ownsRow b 3 1 vc s.man.conf.length (cellsI s.man.conf)
  dir : W.ownsRow b 134 4 vd s.dir.length (cellsSpot s.dir)
theorem ShOwn.kept {b : Nat} {s : ShelfL} {va vc vd : Value} {W W' : World} (h : ShOwn b s va vc vd W) (hb : Below W.heap.size W W') : ShOwn b s va vc vd W' := ⟨own_kept h.segs hb, own_kept h.conf hb, own_kept h.dir hb⟩
theorem ShOwn.mono {b b' : Nat} {s : ShelfL} {va vc vd : Value} {W : World} (h : ShOwn b s va vc vd W) (hb : b' ≤ b) : ShOwn b' s va vc vd W := ⟨own_mono h.segs hb, own_mono h.conf hb, own_mono h.dir hb⟩
theorem ShOwn.set {b : Nat} {s : ShelfL} {va vc vd : Value} {W : World} (h : ShOwn b s va vc vd W) {g : Nat} {cs : Array Value} {t : TypeId} {fz : Nat × Nat} (hg : W.heap[g]? = some (.cells cs t fz)) (h1 : t ≠ 3) (h2 : t ≠ 134) (j : Nat) (x : Value) : ShOwn b s va vc vd (W.setCell ⟨g, j, none⟩ x) :=
  ⟨own_set h.segs _ _ _ (own_not h.segs hg (fun e => h1 e.symm)), own_set h.conf _ _ _ (own_not h.conf hg (fun e => h1 e.symm)), own_set h.dir _ _ _ (own_not h.dir hg (fun e => h2 e.symm))⟩
theorem ShOwn.zero (b : Nat) (W : World) : ShOwn b Shelves.zeroS (.slice none 0 0) (.slice none 0 0) (.slice none 0 0) W := ⟨World.ownsRow_nil _ _ _ _, World.ownsRow_nil _ _ _ _, World.ownsRow_nil _ _ _ _⟩
theorem seven_set {W : World} {Z : Nat} {a0 a1 a2 a3 a4 a5 a6 : Value} {t : TypeId} (h : W.heap[Z]? = some (.cells #[a0, a1, a2, a3, a4, a5, a6] t (0, 0))) (v0 v1 v2 v3 v4 v5 v6 : Value) :
    (((((((W.setCell ⟨Z, 0, none⟩ v0).setCell ⟨Z, 1, none⟩ v1).setCell ⟨Z, 2, none⟩ v2).setCell ⟨Z, 3, none⟩ v3).setCell ⟨Z, 4, none⟩ v4).setCell ⟨Z, 5, none⟩ v5).setCell ⟨Z, 6, none⟩ v6).heap[Z]? = some (.cells #[v0, v1, v2, v3, v4, v5, v6] t (0, 0)) := by
  have h1 := heap_setCell_same W Z 0 _ t v0 h
  have h2 := heap_setCell_same _ Z 1 _ t v1 h1
  have h3 := heap_setCell_same _ Z 2 _ t v2 h2
  have h4 := heap_setCell_same _ Z 3 _ t v3 h3
  have h5 := heap_setCell_same _ Z 4 _ t v4 h4
  have h6 := heap_setCell_same _ Z 5 _ t v5 h5
  have h7 := heap_setCell_same _ Z 6 _ t v6 h6
  simpa using h7
theorem seven_cells {W : World} {Z : Nat} {a0 a1 a2 a3 a4 a5 a6 : Value} {t : TypeId} (h : W.heap[Z]? = some (.cells #[a0, a1, a2, a3, a4, a5, a6] t (0, 0))) :
    (W.cell? ⟨Z, 0, none⟩ = some a0 ∧ W.cell? ⟨Z, 1, none⟩ = some a1 ∧ W.cell? ⟨Z, 2, none⟩ = some a2 ∧ W.cell? ⟨Z, 3, none⟩ = some a3 ∧ W.cell? ⟨Z, 4, none⟩ = some a4 ∧ W.cell? ⟨Z, 5, none⟩ = some a5 ∧ W.cell? ⟨Z, 6, none⟩ = some a6) ∧
      (W.frozen? ⟨Z, 0, none⟩ = false ∧ W.frozen? ⟨Z, 1, none⟩ = false ∧ W.frozen? ⟨Z, 2, none⟩ = false ∧ W.frozen? ⟨Z, 3, none⟩ = false ∧ W.frozen? ⟨Z, 4, none⟩ = false ∧ W.frozen? ⟨Z, 5, none⟩ = false ∧ W.frozen? ⟨Z, 6, none⟩ = false) :=
  ⟨⟨cell_of_row _ _ 0 _ _ _ h, cell_of_row _ _ 1 _ _ _ h, cell_of_row _ _ 2 _ _ _ h, cell_of_row _ _ 3 _ _ _ h, cell_of_row _ _ 4 _ _ _ h, cell_of_row _ _ 5 _ _ _ h, cell_of_row _ _ 6 _ _ _ h⟩,
   ⟨frozen_of_row _ _ 0 _ _ h, frozen_of_row _ _ 1 _ _ h, frozen_of_row _ _ 2 _ _ h, frozen_of_row _ _ 3 _ _ h, frozen_of_row _ _ 4 _ _ h, frozen_of_row _ _ 5 _ _ h, frozen_of_row _ _ 6 _ _ h⟩⟩
/-- A block of seven cells written anew. -/
def set7 (W : World) (Z : Nat) (v0 v1 v2 v3 v4 v5 v6 : Value) : World := ((((((W.setCell ⟨Z, 0, none⟩ v0).setCell ⟨Z, 1, none⟩ v1).setCell ⟨Z, 2, none⟩ v2).setCell ⟨Z, 3, none⟩ v3).setCell ⟨Z, 4, none⟩ v4).setCell ⟨Z, 5, none⟩ v5).setCell ⟨Z, 6, none⟩ v6
theorem set7_below {w W : World} {b Z : Nat} (h : Below b w W) (hZ : b ≤ Z) (v0 v1 v2 v3 v4 v5 v6 : Value) : Below b w (set7 W Z v0 v1 v2 v3 v4 v5 v6) :=
  ((((((h.setCell hZ _).setCell hZ _).setCell hZ _).setCell hZ _).setCell hZ _).setCell hZ _).setCell hZ _
theorem set7_own {W : World} {b Z : Nat} {cs : Array Value} {t : TypeId} {fz : Nat × Nat} {e k n : Nat} {v : Value} {xs : List Value} (h : W.ownsRow b e k v n xs) (hZ : W.heap[Z]? = some (.cells cs t fz)) (ht : e ≠ t) (v0 v1 v2 v3 v4 v5 v6 : Value) : (set7 W Z v0 v1 v2 v3 v4 v5 v6).ownsRow b e k v n xs := by
  have hn := own_not h hZ ht
  exact own_set (own_set (own_set (own_set (own_set (own_set (own_set h _ _ _ hn) _ _ _ hn) _ _ _ hn) _ _ _ hn) _ _ _ hn) _ _ _ hn) _ _ _ hn
theorem set7_sh {W : World} {b Z : Nat} {cs : Array Value} {t : TypeId} {fz : Nat × Nat} {s : ShelfL} {va vc vd : Value} (h : ShOwn b s va vc vd W) (hZ : W.heap[Z]? = some (.cells cs t fz)) (h3 : t ≠ 3) (h5 : t ≠ 134) (v0 v1 v2 v3 v4 v5 v6 : Value) : ShOwn b s va vc vd (set7 W Z v0 v1 v2 v3 v4 v5 v6) :=
  ⟨set7_own h.segs hZ (fun e => h3 e.symm) _ _ _ _ _ _ _, set7_own h.conf hZ (fun e => h3 e.symm) _ _ _ _ _ _ _, set7_own h.dir hZ (fun e => h5 e.symm) _ _ _ _ _ _ _⟩
end Go.Proofs.YtbcfiiilikkkeaaGreatDoor
