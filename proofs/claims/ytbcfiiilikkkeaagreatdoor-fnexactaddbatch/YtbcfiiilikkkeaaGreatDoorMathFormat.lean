/- The calls of the program's SegName, walked; what the tables hold. The specification's AddBatch, where it adds to the last segment, walked. Plain facts on shelves: one segment in the place of all, whole or cut anywhere; directories of a shelf's first segments; no program is named here. Plain facts on shelves: a formatted disk, the range of stamps, what is shipped of a shelf; no program is named here. -/
import Derived.Test.YtbcfiiilikkkeaaGreatDoorSh
import Derived.Test.YtbcfiiilikkkeaaGreatDoorShelf
import Derived.WalkSpells
import Derived.WalkLawsBesides
import Derived.Stop.LaidErr
import Derived.Lib.AppendIntMem
import Derived.Lib.LaidTab
import Derived.Lib.ItoaNum
import Derived.Test.YtbcfiiilikkkeaaGreatDoorSpecAdd
import Derived.Test.YtbcfiiilikkkeaaGreatDoorSpecAfter
import Derived.Test.YtbcfiiilikkkeaaGreatDoorYield
import Derived.Test.YtbcfiiilikkkeaaGreatDoorMathComes2
namespace Go.Proofs.YtbcfiiilikkkeaaGreatDoor
open Go.RowKit
set_option linter.unusedVariables false

def Pow (w : World) : Prop := Lib.TabIs Tryz.prog w "internal/strconv.uint64pow10" .u64 Lib.pow10Tab
theorem Pow.below {w w' : World} (h : Pow w) (hb : Below w.heap.size w w') : Pow w' := Lib.tabBelow_of_tabIs h w' hb
theorem below_grow (w : World) (q : Nat) (os : Array Obj) : Below w.heap.size w (Sort.grow (w.drewN q) os) :=
  ⟨rfl, rfl, rfl, by simp [Sort.grow], fun i hi => by
    show ((w.drewN q).heap ++ os)[i]? = _
    rw [Array.getElem?_append_left (by show i < w.heap.size; omega)]
    rfl⟩
theorem dec_lib : ∀ (f m : Nat), m ≤ f → Words.dec m = Lib.decDigits m
  | 0, m, h => by
    obtain rfl : m = 0 := by omega
    rw [Lib.decDigits, dif_pos (by omega)]; rfl
  | f + 1, m, h => by
    by_cases h10 : m < 10
    · rw [Lib.decDigits, dif_pos h10]
      by_cases h0 : m = 0
      · subst h0; rfl
      · rw [Words.dec, if_neg h0, Words.dig_step m h0, show m / 10 = 0 from by omega, Words.dig_zero, show m % 10 = m from by omega, Words.fig, if_pos h10]; rfl
    · have ih := dec_lib f (m / 10) (by omega)
      rw [Words.dec, if_neg (by omega)] at ih
      rw [Lib.decDigits, dif_neg h10, ← ih, Words.dec, if_neg (by omega), Words.dig_step m (by omega), Words.fig, if_pos (by omega)]
theorem rdD_drop {s : ByteArray} {k n : Nat} {f : Bool} (h : k < s.size) : Words.rdD (s.data.toList.drop k) n f =
    if s[k].toNat < 48 ∨ 57 < s[k].toNat then none else if f = false ∧ n = 0 then none else if 1000000000 < 10 * n + (s[k].toNat - 48) then none else Words.rdD (s.data.toList.drop (k + 1)) (10 * n + (s[k].toNat - 48)) false := by
  have e : s.data.toList.drop k = s[k] :: s.data.toList.drop (k + 1) := by
    rw [List.drop_eq_getElem_cons (by rw [Words.size_list]; exact h)]; rfl
  rw [e, Words.rdD]

set_option maxHeartbeats 1000000 in
set_option maxRecDepth 100000 in
theorem implRD_any (s : ByteArray) (hs : s.size ≤ 1048576) (w : World) :
    Calls Tryz.prog 251 #[.string s] w fun e w' => e = .returned (rdDTuple (Words.rdD s.data.toList 0 true)) ∧ w = w' := by
  go_enter Tryz.func251, Tryz.ntmps251
  go_wp2
  go_step3
  go_wp2
  go_step3
  go_wp2
  go_loop [4, 5, 10] (fun x r i => ∃ k n : Nat, k ≤ s.size ∧ n ≤ 1000000000 ∧ i = .int .i64 (k : Int) ∧ r = .int .i64 (k : Int) ∧ x = .int .i64 (n : Int) ∧ Words.rdD (s.data.toList.drop k) n (k == 0) = Words.rdD s.data.toList 0 true)
    (fun _ _ i => s.size - (intOf i).toNat)
  case atStart => exact ⟨0, 0, by omega, by omega, rfl, rfl, rfl, rfl⟩
  case round =>
    obtain ⟨k, n, hk, hn, rfl, rfl, rfl, heq⟩ := hrel
    have HE : Hid (_ = _) := heq
    clear heq
    by_cases hlt : k < s.size
    · have hlti : (k : Int) < (s.size : Int) := by omega
      have hb : (s[k].toNat : Int) ≤ 255 := by have := s[k].toNat_lt; omega
      have HS : Hid (_ = _) := (rdD_drop (n := n) (f := k == 0) hlt).symm.trans HE.out
      clear HE
      by_cases h1 : (s[k].toNat : Int) - 48 < 0
      · have e := HS.out
        rw [if_pos (Or.inl (by omega))] at e
        have HN : Hid (_ = _) := e
        clear e HS
        by_cases hk0 : k = 0
        · have hk1 : ((k : Int) == 0) = true := by simp; omega
          clear hk0
          go_wp2
          try rw [Exit.noGoto_ret]
          go_ret2
          exact ⟨by rw [← HN.out]; rfl, rfl⟩
        · have hk1 : ((k : Int) == 0) = false := by simp; omega
          go_wp2
          try rw [Exit.noGoto_ret]
          go_ret2
          exact ⟨by rw [← HN.out]; rfl, rfl⟩
      · by_cases h2 : (9 : Int) < (s[k].toNat : Int) - 48
        · have e := HS.out
          rw [if_pos (Or.inr (by omega))] at e
          have HN : Hid (_ = _) := e
          clear e HS
          by_cases hk0 : k = 0
          · have hk1 : ((k : Int) == 0) = true := by simp; omega
            clear hk0
            go_wp2
            try rw [Exit.noGoto_ret]
            go_ret2
            exact ⟨by rw [← HN.out]; rfl, rfl⟩
          · have hk1 : ((k : Int) == 0) = false := by simp; omega
            go_wp2
            try rw [Exit.noGoto_ret]
            go_ret2
            exact ⟨by rw [← HN.out]; rfl, rfl⟩
        · by_cases hz : 0 < k ∧ n = 0
          · have e := HS.out
            rw [if_neg (by omega), if_pos ⟨by simp; omega, hz.2⟩] at e
            have HN : Hid (_ = _) := e
            clear e HS
            have hk1 : ((k : Int) == 0) = false := by simp; omega
            have hk2 : (0 : Int) < (k : Int) := by omega
            have hn0 : ((n : Int) == 0) = true := by simp; omega
            clear hz
            go_wp2
            try rw [Exit.noGoto_ret]
            go_ret2
            exact ⟨by rw [← HN.out]; rfl, rfl⟩
          · by_cases hM : (1000000000 : Int) < 10 * (n : Int) + ((s[k].toNat : Int) - 48)
            · have e := HS.out
              rw [if_neg (by omega), if_neg (by simp; omega), if_pos (by omega)] at e
              have HN : Hid (_ = _) := e
              clear e HS
              by_cases hk0 : k = 0
              · have hk1 : ((k : Int) == 0) = true := by simp; omega
                have hk2 : ¬ (0 : Int) < (k : Int) := by omega
                clear hk0 hz
                go_wp2
                try rw [Exit.noGoto_ret]
                go_ret2
                exact ⟨by rw [← HN.out]; rfl, rfl⟩
              · have hk1 : ((k : Int) == 0) = false := by simp; omega
                have hk2 : (0 : Int) < (k : Int) := by omega
                have hn0 : ((n : Int) == 0) = false := by simp; omega
                clear hz
                go_wp2
                try rw [Exit.noGoto_ret]
                go_ret2
                exact ⟨by rw [← HN.out]; rfl, rfl⟩
            · have e := HS.out
              rw [if_neg (by omega), if_neg (by simp; omega), if_neg (by omega)] at e
              have HN : Hid (_ = _) := e
              clear e HS
              by_cases hk0 : k = 0
              · have hk2 : ¬ (0 : Int) < (k : Int) := by omega
                clear hk0 hz
                go_wp2
                go_round
                case rel => exact ⟨k + 1, 10 * n + (s[k].toNat - 48), by omega, by omega, by go_num, by go_num, by go_num, HN.out⟩
                case measure => simp [intOf]; omega
              · have hk2 : (0 : Int) < (k : Int) := by omega
                have hn0 : ((n : Int) == 0) = false := by simp; omega
                clear hz
                go_wp2
                go_round
                case rel => exact ⟨k + 1, 10 * n + (s[k].toNat - 48), by omega, by omega, by go_num, by go_num, by go_num, HN.out⟩
                case measure => simp [intOf]; omega
    · have hlti : ¬ (k : Int) < (s.size : Int) := by omega
      have HT : Hid (s.data.toList.drop k = []) := List.drop_eq_nil_of_le (by rw [Words.size_list]; omega)
      by_cases hk0 : k = 0
      · have hk1 : ((k : Int) == 0) = true := by simp; omega
        have e := HE.out
        rw [HT.out, hk0] at e
        have HN : Hid (_ = _) := e
        clear e HE hk0
        go_wp2
        try rw [Exit.noGoto_ret]
        go_ret2
        exact ⟨by rw [← HN.out]; rfl, rfl⟩
      · have hk1 : ((k : Int) == 0) = false := by simp; omega
        have e := HE.out
        rw [HT.out, show (k == 0) = false from by simp; omega] at e
        have HN : Hid (_ = _) := e
        clear e HE
        go_wp2
        try rw [Exit.noGoto_ret]
        go_ret2
        exact ⟨by rw [← HN.out]; rfl, rfl⟩


theorem itoa_dec {n : Int} (h : 0 ≤ n) : Lib.itoa n = Words.dec n.toNat := by
  rw [Lib.itoa, if_neg (by omega), dec_lib n.toNat n.toNat (Nat.le_refl _)]
set_option maxHeartbeats 400000 in
theorem implDec_any (n : Int) (hn1 : -9223372036854775808 ≤ n) (hn2 : n ≤ 9223372036854775807) (w : World) (hp : Pow w) :
    Calls Tryz.prog 179 #[.int .i64 n] w fun e w' => e = .returned (.string ⟨(Lib.itoa n).toArray⟩) ∧ Below w.heap.size w w' := by
  have HP : Hid (Pow w) := hp
  have H1 : Hid (_ ≤ _) := hn1
  have H2 : Hid (_ ≤ _) := hn2
  clear hp hn1 hn2
  go_enter Tryz.func179, Tryz.ntmps179
  go_wp2_with (go_at_call 233; refine (Tryz.strconv_Itoa n H1.out H2.out _ HP.out).mono ?_; rintro e w1 ⟨rfl, k, os, rfl⟩)
  go_ret
  exact ⟨rfl, below_grow _ _ _⟩
theorem dec_len {n : Int} (h : 0 ≤ n ∧ n ≤ 999) : (⟨(Words.dec n.toNat).toArray⟩ : ByteArray).size ≤ 20 := by
  show (Words.dec n.toNat).toArray.size ≤ 20
  rw [List.size_toArray]
  by_cases h0 : n.toNat = 0
  · rw [h0]; decide
  · rw [Words.dec, if_neg h0]
    exact Words.dig_len 20 n.toNat (by omega)
set_option maxHeartbeats 1000000 in
theorem implSeg_any (n : Int) (w : World) (hp : Pow w) : Calls Tryz.prog 118 #[.int .i64 n] w fun e w' => e = .returned (.string (Shelves.segName n)) ∧ Below w.heap.size w w' := by
  by_cases h : 0 ≤ n ∧ n ≤ 999
  · obtain ⟨D, hD⟩ : ∃ D : ByteArray, D = ⟨(Words.dec n.toNat).toArray⟩ := ⟨_, rfl⟩
    have hz : D.size ≤ 20 := by rw [hD]; exact dec_len h
    have HS : Hid (Calls Tryz.prog 179 #[.int .i64 n] w fun e w' => e = .returned (.string D) ∧ Below w.heap.size w w') := by
      have := implDec_any n (by omega) (by omega) w hp
      rw [itoa_dec h.1] at this
      rw [hD]; exact this
    rw [← segName_cat h, ← hD]
    have h1 := h.1
    have h2 := h.2
    clear hD hp h
    go_enter Tryz.func118, Tryz.ntmps118
    go_wp2_with (go_at_call 179; refine Calls.mono HS.out ?_; rintro e w1 ⟨rfl, hb1⟩)
    go_ret
    exact ⟨rfl, hb1⟩
  · rw [segName_out h]
    by_cases h1 : n < 0
    · clear h hp
      go_enter Tryz.func118, Tryz.ntmps118
      go_wp2
      go_ret
      exact ⟨rfl, Below.refl _ _⟩
    · have h2 : 999 < n := by omega
      clear h hp
      go_enter Tryz.func118, Tryz.ntmps118
      go_wp2
      go_ret
      exact ⟨rfl, Below.refl _ _⟩
theorem seg_size (n : Int) : (Shelves.segName n).size ≤ 30 := by
  by_cases h : 0 ≤ n ∧ n ≤ 999
  · rw [← segName_cat h, ByteArray.size_append]
    have := dec_len h
    have e : (⟨#[103]⟩ : ByteArray).size = 1 := rfl
    omega
  · rw [segName_out h]; decide
/-- What segOf answers. -/
def SegAns (name : ByteArray) (n : Int) (B : Bool) : Prop := (B = true ∧ 0 ≤ n ∧ segNum name = n) ∨ (B = false ∧ segNum name < 0)
theorem segNum_of {name : ByteArray} {n : Nat} (h : n ≤ 999) (e : name = Shelves.segName n) : segNum name = (n : Int) := by
  unfold segNum
  rw [Shelves.segOf_iff.2 ⟨h, e⟩]
theorem segNum_not {name : ByteArray} (h : ∀ n : Nat, n ≤ 999 → name ≠ Shelves.segName n) : segNum name < 0 := by
  unfold segNum
  cases q : Shelves.segOf name with
  | none => decide
  | some n => obtain ⟨h1, h2⟩ := Shelves.segOf_iff.1 q; exact absurd h2 (h n h1)
theorem seg_bytes (n : Nat) (h : n ≤ 999) : (Shelves.segName n).data.toList = 103 :: Words.dec n := by
  have := Shelves.segName_in (n := (n : Int)) (by omega)
  simpa [Batches.by_] using this
set_option maxHeartbeats 1000000 in
set_option maxRecDepth 100000 in
theorem implSegOf_any (name : ByteArray) (hs : name.size ≤ 1048576) (w : World) : Calls Tryz.prog 208 #[.string name] w fun e w' => ∃ n B, e = .returned (.tuple #[.int .i64 n, .bool B]) ∧ SegAns name n B ∧ w = w' := by
  obtain ⟨T, hT⟩ : ∃ T : ByteArray, T = ⟨(Lib.trimPrefix name.data.toList [103]).toArray⟩ := ⟨_, rfl⟩
  obtain ⟨L, hL⟩ : ∃ L, L = Lib.hasPrefix name.data.toList [103] := ⟨_, rfl⟩
  have hTs : T.size ≤ 1048576 := by
    rw [hT]
    show (Lib.trimPrefix name.data.toList [103]).toArray.size ≤ _
    rw [List.size_toArray]
    have hl : name.data.toList.length ≤ 1048576 := by rw [Words.size_list]; exact hs
    unfold Lib.trimPrefix
    split
    · rw [List.length_drop]; omega
    · exact hl
  have HC : Hid (∀ w : World, Calls Tryz.prog 250 #[.string name, .string ⟨#[103]⟩] w fun e w' => e = .returned (.tuple #[.string T, .bool L]) ∧ w' = w) := fun w => by rw [hT, hL]; exact Tryz.strings_CutPrefix name ⟨#[103]⟩ w
  have hform : (L = true ∧ name.data.toList = 103 :: T.data.toList) ∨ (L = false ∧ ∀ r, name.data.toList ≠ 103 :: r) := by
    rw [hL, hT]
    unfold Lib.trimPrefix Lib.hasPrefix
    cases name.data.toList with
    | nil => right; exact ⟨by simp, fun r h => by cases h⟩
    | cons x r =>
      by_cases hx : x = 103
      · left; subst hx; simp
      · right
        refine ⟨by simp [List.isPrefixOf]; exact fun h => absurd h.symm hx, fun r' h => ?_⟩
        simp only [List.cons.injEq] at h
        exact hx h.1
  have hseg : ∀ k : Nat, k ≤ 999 → name = Shelves.segName k → L = true ∧ Words.rdD T.data.toList 0 true = some k := fun k hk e => by
    have h1 := seg_bytes k hk
    rw [← e] at h1
    rcases hform with ⟨h2, h3⟩ | ⟨h2, h3⟩
    · rw [h3] at h1
      simp only [List.cons.injEq, true_and] at h1
      exact ⟨h2, (Words.rdD_iff _ _).2 ⟨by omega, h1.symm⟩⟩
    · exact absurd h1 (h3 _)
  have HYES : Hid (L = true → ∀ n : Nat, Words.rdD T.data.toList 0 true = some n → n ≤ 999 → segNum name = (n : Int)) := fun h n hr hn => by
    rcases hform with ⟨_, h3⟩ | ⟨h2, _⟩
    · refine segNum_of hn (Batches.by_inj ?_)
      have h4 := ((Words.rdD_iff _ _).1 hr).2
      have h5 := seg_bytes n hn
      show name.data.toList = (Shelves.segName n).data.toList
      rw [h3, h5, ← h4]
    · rw [h2] at h; cases h
  have HNO : Hid (L = false → segNum name < 0) := fun h => segNum_not fun k hk e => by
    have := (hseg k hk e).1
    rw [h] at this; cases this
  have HNO2 : Hid (L = true → Words.rdD T.data.toList 0 true = none → segNum name < 0) := fun h hr => segNum_not fun k hk e => by
    have := (hseg k hk e).2
    rw [hr] at this; cases this
  have HNO3 : Hid (L = true → ∀ n : Nat, Words.rdD T.data.toList 0 true = some n → ¬ n ≤ 999 → segNum name < 0) := fun h n hr hn => segNum_not fun k hk e => by
    have := (hseg k hk e).2
    rw [hr] at this
    simp only [Option.some.injEq] at this
    omega
  clear hform hseg
  clear hT hL
  have HRD : Hid (∀ w : World, Calls Tryz.prog 251 #[.string T] w fun e w' => e = .returned (rdDTuple (Words.rdD T.data.toList 0 true)) ∧ w = w') := implRD_any T hTs
  cases hr : Words.rdD T.data.toList 0 true with
  | none =>
    rw [hr] at HRD HNO2
    have HQ : Hid (∀ w : World, Calls Tryz.prog 251 #[.string T] w fun e w' => e = .returned (.tuple #[.int .i64 0, .bool false]) ∧ w = w') := HRD.out
    have HN : Hid (SegAns name 0 false) := by
      cases L with
      | true => exact Or.inr ⟨rfl, HNO2.out rfl rfl⟩
      | false => exact Or.inr ⟨rfl, HNO.out rfl⟩
    clear hr HRD HYES HNO HNO2 HNO3 hTs
    cases L with
    | true =>
      go_enter Tryz.func208, Tryz.ntmps208
      go_wp2_with (first | (go_at_call 250; refine (HC.out _).mono ?_; rintro e w1 ⟨rfl, rfl⟩) | (go_at_call 251; refine (HQ.out _).mono ?_; rintro e w2 ⟨rfl, rfl⟩))
      go_ret2
      exact ⟨0, false, rfl, HN.out, rfl⟩
    | false =>
      go_enter Tryz.func208, Tryz.ntmps208
      go_wp2_with (first | (go_at_call 250; refine (HC.out _).mono ?_; rintro e w1 ⟨rfl, rfl⟩) | (go_at_call 251; refine (HQ.out _).mono ?_; rintro e w2 ⟨rfl, rfl⟩))
      go_ret2
      exact ⟨0, false, rfl, HN.out, rfl⟩
  | some n =>
    rw [hr] at HRD HYES HNO3
    have HQ : Hid (∀ w : World, Calls Tryz.prog 251 #[.string T] w fun e w' => e = .returned (.tuple #[.int .i64 (n : Int), .bool true]) ∧ w = w') := HRD.out
    cases L with
    | true =>
      by_cases hn : n ≤ 999
      · have HN : Hid (SegAns name (n : Int) true) := Or.inl ⟨rfl, by omega, HYES.out rfl n rfl hn⟩
        clear hr HRD HYES HNO HNO2 HNO3 hTs
        go_enter Tryz.func208, Tryz.ntmps208
        go_wp2_with (first | (go_at_call 250; refine (HC.out _).mono ?_; rintro e w1 ⟨rfl, rfl⟩) | (go_at_call 251; refine (HQ.out _).mono ?_; rintro e w2 ⟨rfl, rfl⟩))
        go_ret2
        refine ⟨_, _, rfl, ?_, rfl⟩
        rw [show decide ((n : Int) ≤ 999) = true by simp; omega]
        exact HN.out
      · have HN : Hid (SegAns name (n : Int) false) := Or.inr ⟨rfl, HNO3.out rfl n rfl hn⟩
        clear hr HRD HYES HNO HNO2 HNO3 hTs
        go_enter Tryz.func208, Tryz.ntmps208
        go_wp2_with (first | (go_at_call 250; refine (HC.out _).mono ?_; rintro e w1 ⟨rfl, rfl⟩) | (go_at_call 251; refine (HQ.out _).mono ?_; rintro e w2 ⟨rfl, rfl⟩))
        go_ret2
        refine ⟨_, _, rfl, ?_, rfl⟩
        rw [show decide ((n : Int) ≤ 999) = false by simp; omega]
        exact HN.out
    | false =>
      have HN : Hid (SegAns name (n : Int) false) := Or.inr ⟨rfl, HNO.out rfl⟩
      clear hr HRD HYES HNO HNO2 HNO3 hTs
      go_enter Tryz.func208, Tryz.ntmps208
      go_wp2_with (first | (go_at_call 250; refine (HC.out _).mono ?_; rintro e w1 ⟨rfl, rfl⟩) | (go_at_call 251; refine (HQ.out _).mono ?_; rintro e w2 ⟨rfl, rfl⟩))
      go_ret2
      exact ⟨_, false, rfl, HN.out, rfl⟩
end Go.Proofs.YtbcfiiilikkkeaaGreatDoor
namespace Go.Proofs.YtbcfiiilikkkeaaGreatDoor
open Go.RowKit
set_option linter.unusedVariables false
set_option linter.unusedSimpArgs false

theorem seg_small9 (n : Int) : (Shelves.segName n).size ≤ 1000 := Nat.le_trans (seg_size n) (by omega)
set_option maxHeartbeats 8000000 in
set_option maxRecDepth 100000 in
theorem add9_last {a ba : Option Addr} {g off cap bg boff bc b : Nat} {va vc vd : Value} (l : List FileL) (hlen : l.length ≤ 1048576) (hsz : ∀ f ∈ l, f.1.size ≤ 1048576 ∧ f.2.size ≤ 1048576) (hnil : a = none → cap = 0) (s : ShelfL) (n1 : s.man.segs.length ≤ 1048576) (n2 : s.man.conf.length ≤ 1048576) (n3 : s.dir.length ≤ 1048576) (st : Int) (ch : List ChangeL) (hcl : ch.length ≤ 2097152) (hcs : ∀ c ∈ ch, smallChange 2097152 c) (S : ByteArray) (hT : Txt st ch S true) (hS1 : 1 ≤ S.size) (hS2 : S.size ≤ 9000) (hC : Shelves.Clean l s) (hst : s.stamp ≤ st) (hbg : Shelves.begins l s.man = false)
    (D : List FileL) (k : Nat) (hrun : Disks.run l [⟨2, Shelves.segName (Shelves.lastOf s.man), ⟨#[]⟩, frameB S⟩] = (D, k)) (t : ShelfL) (R : Bool) (hI : AfterIs D k 1 t R) (w : World) (hf : FilesAt w a g off l) (hA : ShOwn b s va vc vd w) (hc : ChangeAt w ba bg boff ch) :
    Calls Tryz.prog 14 #[.agg #[.slice a l.length cap], shV s va vc vd, .agg #[.int .i64 st, .slice ba ch.length bc]] w (AddPost w (if R = true then t else Shelves.zeroS) (if R = true then [⟨2, Shelves.segName (Shelves.lastOf s.man), ⟨#[]⟩, frameB S⟩] else []) R) := by
  have hmo := Shelves.man_ok hC
  have hsl : 1 ≤ s.man.segs.length ∧ s.man.segs.length ≤ 8 := hmo.1
  have hnx := hmo.2.1
  obtain ⟨n, hn⟩ : ∃ n, n = Shelves.lastOf s.man := ⟨_, rfl⟩
  have HN : Hid (n = Shelves.lastOf s.man) := hn
  obtain ⟨F, hFr⟩ : ∃ F, F = frameB S := ⟨_, rfl⟩
  have hFs : F.size ≤ 20000 := by
    have h1 := varB_size S.size
    have h2 := four_size (Sums.sumOf S.data.toList)
    rw [hFr]
    unfold frameB
    rw [ByteArray.size_append, ByteArray.size_append]
    omega
  obtain ⟨t2, ht2⟩ : ∃ t2, t2 = Disks.textOf l (Shelves.segName n) := ⟨_, rfl⟩
  have HTX : Hid (Disks.TextIs l (Shelves.segName n) t2) := by show Disks.TextIs _ _ _; rw [ht2]; exact Disks.text_of l _
  have HTA : Hid (Shelves.textAt l n = Batches.by_ t2) := by show _ = _; rw [ht2]; rfl
  have ht20 : t2.size ≤ 20000 := by have := Shelves.text_le hC.disk n; rw [HTA.out, Scan.by_len] at this; exact this
  have hd : t2.size < 500 ∨ (500 ≤ t2.size ∧ ¬ s.man.segs.length < 8) ∨ (500 ≤ t2.size ∧ s.man.segs.length < 8 ∧ ¬ s.man.next ≤ 999) := by
    unfold Shelves.begins at hbg
    rw [← hn, HTA.out, Scan.by_len] at hbg
    simp only [Bool.and_eq_false_iff, decide_eq_false_iff_not] at hbg
    omega
  have HAF : Hid (∀ (W' : World) (q : Nat), FilesAt W' a g off l → RawsAt W' (some ⟨q, 0, none⟩) q 0 [⟨2, Shelves.segName n, ⟨#[]⟩, F⟩] → Calls Tryz.prog 65 #[.agg #[.slice a l.length cap], .slice (some ⟨q, 0, none⟩) 1 1] W' (AfterPost W' t R)) := fun W' q h1 h2 => after9_is l [⟨2, Shelves.segName n, ⟨#[]⟩, F⟩] hC.disk (by simp) hnil (by
      intro r hr
      simp only [List.mem_cons, List.not_mem_nil, or_false] at hr
      subst hr
      exact ⟨Nat.le_trans (seg_small9 n) (by omega), by simp [ByteArray.size], by simp only; omega⟩) D k (by rw [hn, hFr]; exact hrun) t R hI W' h1 h2
  have HFR : Hid (∀ W', Calls Tryz.prog 60 #[.string S] W' fun e w' => e = .returned (.tuple #[.string F, .bool true]) ∧ Below W'.heap.size W' w') := fun W' => by rw [hFr]; exact specFrame_yes S hS1 hS2 W'
  rw [← hn, ← hFr]
  obtain ⟨U, hU⟩ : ∃ U : ShelfL, U = if R = true then t else Shelves.zeroS := ⟨_, rfl⟩
  obtain ⟨V, hV⟩ : ∃ V : List Disks.RawL, V = if R = true then [⟨2, Shelves.segName n, ⟨#[]⟩, F⟩] else [] := ⟨_, rfl⟩
  have HU : Hid (U = if R = true then t else Shelves.zeroS) := hU
  have HV : Hid (V = if R = true then [⟨2, Shelves.segName n, ⟨#[]⟩, F⟩] else []) := hV
  rw [← hU, ← hV]
  clear hn hFr hU hV hrun hI hbg ht2 hmo
  obtain ⟨T, hTT⟩ : ∃ T : Bool, T = true := ⟨_, rfl⟩
  obtain ⟨Q, hQQ⟩ : ∃ Q : Bool, Q = true := ⟨_, rfl⟩
  rw [← hTT] at hT
  have hR : Q = true ↔ Shelves.Clean l s := ⟨fun _ => hC, fun _ => hQQ⟩
  obtain ⟨sa, sc, e1⟩ := own_slice hA.segs
  obtain ⟨ca, cc, e2⟩ := own_slice hA.conf
  obtain ⟨da, dc, e3⟩ := own_slice hA.dir
  subst e1 e2 e3
  obtain ⟨W, hW⟩ : ∃ W, W = ((((w.alloc (Obj.cells #[Value.slice a l.length cap] 46)).alloc (Obj.cells #[.slice sa s.man.segs.length sc, .int .i64 s.man.next, .int .i64 s.man.base, .int .i64 s.man.term, .slice ca s.man.conf.length cc, .slice da s.dir.length dc, .int .i64 s.stamp] 40)).alloc (Obj.cells #[.int .i64 st, .slice ba ch.length bc] 51)).alloc (Obj.cells #[.slice none 0 0, .int .i64 0, .int .i64 0, .int .i64 0, .slice none 0 0, .slice none 0 0, .int .i64 0] 40)) := ⟨_, rfl⟩
  have hb : Below w.heap.size w W := by rw [hW]; exact ((((Below.refl _ _).alloc (Nat.le_refl _) _).alloc (by simp) _).alloc (by simp; omega) _).alloc (by simp; omega) _
  have p0 : W.heap[w.heap.size]? = some (.cells #[Value.slice a l.length cap] 46 (0, 0)) := by
    rw [hW, Below.heap_alloc _ _ _ (by simp; omega), Below.heap_alloc _ _ _ (by simp; omega), Below.heap_alloc _ _ _ (by simp)]; exact heap_alloc_new w _
  have p1 : W.heap[w.heap.size + 1]? = some (.cells #[.slice sa s.man.segs.length sc, .int .i64 s.man.next, .int .i64 s.man.base, .int .i64 s.man.term, .slice ca s.man.conf.length cc, .slice da s.dir.length dc, .int .i64 s.stamp] 40 (0, 0)) := by
    rw [hW, Below.heap_alloc _ _ _ (by simp), Below.heap_alloc _ _ _ (by simp)]
    have := heap_alloc_new (w.alloc (Obj.cells #[Value.slice a l.length cap] 46)) (Obj.cells #[.slice sa s.man.segs.length sc, .int .i64 s.man.next, .int .i64 s.man.base, .int .i64 s.man.term, .slice ca s.man.conf.length cc, .slice da s.dir.length dc, .int .i64 s.stamp] 40); simpa using this
  have p2 : W.heap[w.heap.size + 1 + 1]? = some (.cells #[.int .i64 st, .slice ba ch.length bc] 51 (0, 0)) := by
    rw [hW, Below.heap_alloc _ _ _ (by simp)]
    have := heap_alloc_new ((w.alloc (Obj.cells #[Value.slice a l.length cap] 46)).alloc (Obj.cells #[.slice sa s.man.segs.length sc, .int .i64 s.man.next, .int .i64 s.man.base, .int .i64 s.man.term, .slice ca s.man.conf.length cc, .slice da s.dir.length dc, .int .i64 s.stamp] 40)) (Obj.cells #[.int .i64 st, .slice ba ch.length bc] 51); simpa using this
  have p3 : W.heap[w.heap.size + 1 + 1 + 1]? = some (.cells #[.slice none 0 0, .int .i64 0, .int .i64 0, .int .i64 0, .slice none 0 0, .slice none 0 0, .int .i64 0] 40 (0, 0)) := by
    rw [hW]
    have := heap_alloc_new (((w.alloc (Obj.cells #[Value.slice a l.length cap] 46)).alloc (Obj.cells #[.slice sa s.man.segs.length sc, .int .i64 s.man.next, .int .i64 s.man.base, .int .i64 s.man.term, .slice ca s.man.conf.length cc, .slice da s.dir.length dc, .int .i64 s.stamp] 40)).alloc (Obj.cells #[.int .i64 st, .slice ba ch.length bc] 51)) (Obj.cells #[.slice none 0 0, .int .i64 0, .int .i64 0, .int .i64 0, .slice none 0 0, .slice none 0 0, .int .i64 0] 40); simpa using this
  have HB : Hid (Below w.heap.size w W) := hb
  have K : ∀ (q : Nat) (ob : Obj), W.heap[q]? = some ob → ∀ W', Below W.heap.size W W' → W'.heap[q]? = some ob := fun q ob h W' hh => (hh.block _ (Array.getElem?_eq_some_iff.1 h).1).trans h
  have HP0 : Hid (∀ W', Below W.heap.size W W' → W'.heap[w.heap.size]? = some (.cells #[Value.slice a l.length cap] 46 (0, 0))) := K _ _ p0
  have HP1 : Hid (∀ W', Below W.heap.size W W' → W'.heap[w.heap.size + 1]? = some (.cells #[.slice sa s.man.segs.length sc, .int .i64 s.man.next, .int .i64 s.man.base, .int .i64 s.man.term, .slice ca s.man.conf.length cc, .slice da s.dir.length dc, .int .i64 s.stamp] 40 (0, 0))) := K _ _ p1
  have HP2 : Hid (∀ W', Below W.heap.size W W' → W'.heap[w.heap.size + 1 + 1]? = some (.cells #[.int .i64 st, .slice ba ch.length bc] 51 (0, 0))) := K _ _ p2
  have HRQ : Hid (∀ W', Below W.heap.size W W' → W'.heap[w.heap.size + 1 + 1 + 1]? = some (.cells #[.slice none 0 0, .int .i64 0, .int .i64 0, .int .i64 0, .slice none 0 0, .slice none 0 0, .int .i64 0] 40 (0, 0))) := K _ _ p3
  have HT : Hid (Calls Tryz.prog 58 #[.agg #[.int .i64 st, .slice ba ch.length bc]] W fun e w' => e = .returned (.tuple #[.string S, .bool T]) ∧ Below W.heap.size W w') := specText_any hT hcl W (hc.kept hb) hcs
  have HC : Hid (∀ W', Below W.heap.size W W' → Calls Tryz.prog 59 #[.agg #[.slice a l.length cap], shV s (.slice sa s.man.segs.length sc) (.slice ca s.man.conf.length cc) (.slice da s.dir.length dc)] W' fun e w' => e = .returned (.bool Q) ∧ Below W'.heap.size W' w') := fun W' h => clean9_is l hlen hsz s n1 n2 n3 Q hR W' ((hf.kept hb).kept h) ((hA.kept hb).kept h)
  have HFW : Hid (∀ W', Below W.heap.size W W' → FilesAt W' a g off l) := fun W' h => (hf.kept hb).kept h
  have HCP : Hid (∀ W', Below W.heap.size W W' → Calls Tryz.prog 61 #[manV ⟨s.man.segs, s.man.next, s.man.base, s.man.term, s.man.conf⟩ sa sc ca cc] W' fun e w' => ∃ v1 v2, e = .returned (.agg #[v1, .int .i64 s.man.next, .int .i64 s.man.base, .int .i64 s.man.term, v2]) ∧ w'.ownsRow W'.heap.size 3 1 v1 s.man.segs.length (cellsI s.man.segs) ∧ w'.ownsRow W'.heap.size 3 1 v2 s.man.conf.length (cellsI s.man.conf) ∧ Apart v1 v2 ∧ Below W'.heap.size W' w') := fun W' h => by
    have h2 := (hA.kept hb).kept h
    obtain ⟨_, g1, _, e1, i1⟩ := cellsI_slice h2.segs
    cases e1
    obtain ⟨_, g2, _, e2, i2⟩ := cellsI_slice h2.conf
    cases e2
    exact copyMan9_is s.man.segs s.man.conf s.man.next s.man.base s.man.term n1 n2 (own_nil h2.segs) (own_nil h2.conf) W' i1 i2
  unfold manV at HCP
  unfold shV cells7 at HC ⊢
  have c0 := cell_of_row _ _ 0 _ _ _ p2
  have c1 := cell_of_row _ _ 1 _ _ _ p2
  simp at c0 c1
  rw [hW] at c0 c1
  clear hT hR hC hA hf hc hb p0 p1 p2 p3 K hsz hcs hcl
  go_enter Tryz.func14, Tryz.ntmps14
  go_wp2_with fail
  rw [← hW]
  clear hW c0 c1
  refine Calls.mono HT.out ?_
  rintro e w1 ⟨rfl, hb1⟩
  have HB1 : Hid (Below W.heap.size W w1) := hb1
  clear hb1 HT
  subst hTT hQQ
  have k0 := cell_of_row _ _ 0 _ _ _ (HP0.out _ HB1.out)
  obtain ⟨⟨e0, e1, e2, e3, e4, e5, e6⟩, _⟩ := seven_cells (HP1.out _ HB1.out)
  simp at k0
  go_wp2_with fail
  clear k0 e0 e1 e2 e3 e4 e5 e6
  refine Calls.mono (HC.out _ HB1.out) ?_
  rintro e w2 ⟨rfl, hb2⟩
  have HB2 : Hid (Below W.heap.size W w2) := HB1.out.trans (hb2.mono HB1.out.size)
  clear hb2
  have e6 := cell_of_row _ _ 6 _ _ _ (HP1.out _ HB2.out)
  have m0 := cell_of_row _ _ 0 _ _ _ (HP2.out _ HB2.out)
  simp at e6 m0
  have hst' : ¬ st < s.stamp := by omega
  go_wp2_with fail
  clear e6 m0
  refine Calls.mono (HFR.out _) ?_
  rintro e w3 ⟨rfl, hb3⟩
  have HB3 : Hid (Below W.heap.size W w3) := HB2.out.trans (hb3.mono HB2.out.size)
  clear hb3
  obtain ⟨⟨e0, e1, e2, e3, e4, e5, e6⟩, _⟩ := seven_cells (HP1.out _ HB3.out)
  go_wp2_with fail
  clear e0 e1 e2 e3 e4 e5 e6
  refine Calls.mono (HCP.out _ HB3.out) ?_
  rintro e w4 ⟨v1, v2, rfl, o1, o2, _, hb4⟩
  obtain ⟨ma, mc, hv1⟩ := own_slice o1
  subst hv1
  obtain ⟨mb, md, hv2⟩ := own_slice o2
  subst hv2
  obtain ⟨W5, hW5⟩ : ∃ W5, W5 = w4.alloc (Obj.cells #[.slice ma s.man.segs.length mc, .int .i64 s.man.next, .int .i64 s.man.base, .int .i64 s.man.term, .slice mb s.man.conf.length md] 37) := ⟨_, rfl⟩
  have hb5 : Below w4.heap.size w4 W5 := by rw [hW5]; exact (Below.refl _ _).alloc (Nat.le_refl _) _
  have hB4 := HB3.out.trans (hb4.mono HB3.out.size)
  have HB5 : Hid (Below W.heap.size W W5) := hB4.trans (hb5.mono hB4.size)
  have q5 : W5.heap[w4.heap.size]? = some (.cells #[.slice ma s.man.segs.length mc, .int .i64 s.man.next, .int .i64 s.man.base, .int .i64 s.man.term, .slice mb s.man.conf.length md] 37 (0, 0)) := by rw [hW5]; exact heap_alloc_new w4 _
  obtain ⟨_, sg, _, eS, hAt⟩ := cellsI_slice (own_kept o1 hb5)
  cases eS
  have ea := hAt.1 (by omega)
  subst ea
  have c3 := hAt.2 (s.man.segs.length - 1) (by omega)
  rw [Shelves.last_at (by omega) (by omega), Nat.zero_add, ← HN.out] at c3
  have HQ5 : Hid (∀ W', Below W5.heap.size W5 W' → W'.heap[w4.heap.size]? = some (.cells (#[.slice (some ⟨sg, 0, none⟩) s.man.segs.length mc, .int .i64 s.man.next, .int .i64 s.man.base, .int .i64 s.man.term, .slice mb s.man.conf.length md]) 37 (0, 0))) := fun W' h => (h.block _ (Array.getElem?_eq_some_iff.1 q5).1).trans q5
  have k0 := cell_of_row _ _ 0 _ _ _ q5
  simp at k0
  clear o1 o2 hb4 hb5 hB4 q5 hAt
  rw [hW5] at c3 k0
  go_wp2_with fail
  rw [← hW5]
  have HW5 : Hid (Below w.heap.size w W5) := HB.out.trans (HB5.out.mono HB.out.size)
  clear hW5 c3 k0
  refine Calls.mono (specSeg_any n W5) ?_
  rintro e w6 ⟨rfl, hb6⟩
  obtain ⟨W7, hW7⟩ : ∃ W7, W7 = w6.alloc (Obj.cells #[.int .i64 2, .string (Shelves.segName n), .string ⟨#[]⟩, .string F] 103) := ⟨_, rfl⟩
  have hb7 : Below w6.heap.size w6 W7 := by rw [hW7]; exact (Below.refl _ _).alloc (Nat.le_refl _) _
  have hb57 : Below W5.heap.size W5 W7 := hb6.trans (hb7.mono hb6.size)
  have HB57 : Hid (Below W5.heap.size W5 W7) := hb57
  have HB7 : Hid (Below W.heap.size W W7) := HB5.out.trans (hb57.mono HB5.out.size)
  have HW7 : Hid (Below w.heap.size w W7) := HB.out.trans (HB7.out.mono HB.out.size)
  have ho7 := World.ownsRow_lit (base := w.heap.size) (e := 103) (size := 4) w6 #[.int .i64 2, .string (Shelves.segName n), .string ⟨#[]⟩, .string F] 1 (Nat.le_trans HW5.out.size hb6.size) (by decide) rfl
  have hr7 := rawsAt_new w6 ⟨2, Shelves.segName n, ⟨#[]⟩, F⟩
  have HO7 : Hid (∀ W', Below W7.heap.size W7 W' → W'.ownsRow w.heap.size 103 4 (.slice (some ⟨w6.heap.size, 0, none⟩) 1 1) 1 (cellsRaw [⟨2, Shelves.segName n, ⟨#[]⟩, F⟩])) := fun W' h => own_kept (by rw [hW7]; exact ho7) h
  have HR7 : Hid (∀ W', Below W7.heap.size W7 W' → RawsAt W' (some ⟨w6.heap.size, 0, none⟩) w6.heap.size 0 [⟨2, Shelves.segName n, ⟨#[]⟩, F⟩]) := fun W' h => RawsAt.kept (by rw [hW7]; exact hr7) h
  have k0 := cell_of_row _ _ 0 _ _ _ (HP0.out _ HB7.out)
  simp at k0
  clear hb6 hb7 hb57 ho7 hr7
  rw [hW7] at k0
  go_wp2_with fail
  rw [← hW7]
  clear k0
  refine Calls.mono (l03Text_is l hlen _ t2 HTX.out W7 (HFW.out _ HB7.out)) ?_
  rintro e w8 ⟨rfl, hb8⟩
  have HB78 : Hid (Below W7.heap.size W7 w8) := hb8
  have HB8 : Hid (Below W.heap.size W w8) := HB7.out.trans (hb8.mono HB7.out.size)
  have HW8 : Hid (Below w.heap.size w w8) := HB.out.trans (HB8.out.mono HB.out.size)
  have hq8 := HQ5.out _ (HB57.out.trans (hb8.mono HB57.out.size))
  have k0 := cell_of_row _ _ 0 _ _ _ (HP0.out _ HB8.out)
  have g0 := cell_of_row _ _ 0 _ _ _ hq8
  have g1 := cell_of_row _ _ 1 _ _ _ hq8
  simp at k0 g0 g1
  clear hb8 hq8 hW7
  have HD : Hid (∀ W', W' = w8 → Calls Tryz.prog 65 #[.agg #[.slice a l.length cap], .slice (some ⟨w6.heap.size, 0, none⟩) 1 1] W' (AfterPost W' t R)) := fun W' e => by subst e; exact HAF.out _ _ (HFW.out _ HB8.out) (HR7.out _ HB78.out)
  rcases hd with q1 | ⟨q1, q2⟩ | ⟨q1, q2, q3⟩
  all_goals
    try (have r1 : ¬ (500 : Int) ≤ (t2.size : Int) := by omega)
    try (have r1 : (500 : Int) ≤ (t2.size : Int) := by omega)
    try (have r2 : ¬ (s.man.segs.length : Int) < 8 := by omega)
    try (have r2 : (s.man.segs.length : Int) < 8 := by omega)
    go_wp2_with fail
    clear k0 g0 g1
    refine Calls.mono (HD.out _ rfl) ?_
    rintro e w9 ⟨va, vc, vd, rfl, hsh, hb9⟩
    unfold shV cells7
    obtain ⟨xa, xb, hva⟩ := own_slice hsh.segs
    subst hva
    obtain ⟨xc, xd, hvc⟩ := own_slice hsh.conf
    subst hvc
    obtain ⟨xe, xf, hvd⟩ := own_slice hsh.dir
    subst hvd
    obtain ⟨WA, hWA⟩ : ∃ WA, WA = w9.alloc (Obj.cells #[.slice xa t.man.segs.length xb, .int .i64 t.man.next, .int .i64 t.man.base, .int .i64 t.man.term, .slice xc t.man.conf.length xd, .slice xe t.dir.length xf, .int .i64 t.stamp] 40) := ⟨_, rfl⟩
    have hbA : Below w9.heap.size w9 WA := by rw [hWA]; exact (Below.refl _ _).alloc (Nat.le_refl _) _
    have hb8A : Below w8.heap.size w8 WA := hb9.trans (hbA.mono hb9.size)
    have HBA : Hid (Below W.heap.size W WA) := HB8.out.trans (hb8A.mono HB8.out.size)
    have HWA : Hid (Below w.heap.size w WA) := HB.out.trans (HBA.out.mono HB.out.size)
    have HSH : Hid (ShOwn w.heap.size t (.slice xa t.man.segs.length xb) (.slice xc t.man.conf.length xd) (.slice xe t.dir.length xf) WA) := (hsh.mono HW8.out.size).kept hbA
    have HRA : Hid (WA.ownsRow w.heap.size 103 4 (.slice (some ⟨w6.heap.size, 0, none⟩) 1 1) 1 (cellsRaw [⟨2, Shelves.segName n, ⟨#[]⟩, F⟩])) := HO7.out _ (HB78.out.trans (hb8A.mono HB78.out.size))
    have hqA : WA.heap[w9.heap.size]? = some (.cells #[.slice xa t.man.segs.length xb, .int .i64 t.man.next, .int .i64 t.man.base, .int .i64 t.man.term, .slice xc t.man.conf.length xd, .slice xe t.dir.length xf, .int .i64 t.stamp] 40 (0, 0)) := by rw [hWA]; exact heap_alloc_new w9 _
    have rQ := HRQ.out _ HBA.out
    have HQA : Hid (WA.heap[w.heap.size + 1 + 1 + 1]? = some (.cells #[.slice none 0 0, .int .i64 0, .int .i64 0, .int .i64 0, .slice none 0 0, .slice none 0 0, .int .i64 0] 40 (0, 0))) := rQ
    obtain ⟨⟨e0, e1, e2, e3, e4, e5, e6⟩, _⟩ := seven_cells hqA
    have HL : Hid (w.heap.size + 1 + 1 + 1 < w9.heap.size) := by
      show _ < _
      have h1 := (Array.getElem?_eq_some_iff.1 (HRQ.out _ HB8.out)).1
      have h2 := hb9.size
      omega
    have hn2 : w9.heap.size ≠ w.heap.size + 1 + 1 + 1 := by have := HL.out; omega
    have hn2' : w.heap.size + 1 + 1 + 1 ≠ w9.heap.size := by have := HL.out; omega
    clear hsh hb9 hbA hb8A hqA
    cases R with
    | true =>
      have HY := res7 HQA.out (.slice xa t.man.segs.length xb) (.int .i64 t.man.next) (.int .i64 t.man.base) (.int .i64 t.man.term) (.slice xc t.man.conf.length xd) (.slice xe t.dir.length xf) (.int .i64 t.stamp)
      have HFin : Hid (AddPost w U V true (.returned (.tuple #[.agg #[.slice xa t.man.segs.length xb, .int .i64 t.man.next, .int .i64 t.man.base, .int .i64 t.man.term, .slice xc t.man.conf.length xd, .slice xe t.dir.length xf, .int .i64 t.stamp], .slice (some ⟨w6.heap.size, 0, none⟩) 1 1, .bool true])) (set7 WA (w.heap.size + 1 + 1 + 1) (.slice xa t.man.segs.length xb) (.int .i64 t.man.next) (.int .i64 t.man.base) (.int .i64 t.man.term) (.slice xc t.man.conf.length xd) (.slice xe t.dir.length xf) (.int .i64 t.stamp))) := by
        show AddPost _ _ _ _ _ _
        rw [HU.out, HV.out]
        exact ⟨_, _, _, _, rfl, set7_sh HSH.out HQA.out (by decide) (by decide) _ _ _ _ _ _ _, set7_own HRA.out HQA.out (by decide) _ _ _ _ _ _ _, set7_below HWA.out (by omega) _ _ _ _ _ _ _⟩
      obtain ⟨⟨z0, z1, z2, z3, z4, z5, z6⟩, y0, y1, y2, y3, y4, y5, y6⟩ := seven_cells rQ
      clear rQ
      rw [hWA] at e0 e1 e2 e3 e4 e5 e6 z0 z1 z2 z3 z4 z5 z6 y0 y1 y2 y3 y4 y5 y6
      go_wp2
      rw [← hWA]
      obtain ⟨u0, u1, u2, u3, u4, u5, u6⟩ := HY
      unfold set7 at u0 u1 u2 u3 u4 u5 u6
      exact bodyPost_ret (v := .tuple #[.agg #[.slice xa t.man.segs.length xb, .int .i64 t.man.next, .int .i64 t.man.base, .int .i64 t.man.term, .slice xc t.man.conf.length xd, .slice xe t.dir.length xf, .int .i64 t.stamp], .slice (some ⟨w6.heap.size, 0, none⟩) 1 1, .bool true]) (by simp [results, Tryz.results14, go_sem, u0, u1, u2, u3, u4, u5, u6]) rfl HFin.out
    | false =>
      have HQ : Hid ((WA.alloc (Obj.cells #[] 103)).heap[w.heap.size + 1 + 1 + 1]? = some (.cells #[.slice none 0 0, .int .i64 0, .int .i64 0, .int .i64 0, .slice none 0 0, .slice none 0 0, .int .i64 0] 40 (0, 0))) := (((Below.refl _ _).alloc (Nat.le_refl _) _ : Below WA.heap.size WA (WA.alloc (Obj.cells #[] 103))).block _ (Array.getElem?_eq_some_iff.1 rQ).1).trans rQ
      have hbE : Below WA.heap.size WA (WA.alloc (Obj.cells #[] 103)) := (Below.refl _ _).alloc (Nat.le_refl _) _
      have HY := res7 HQ.out (.slice none 0 0) (.int .i64 0) (.int .i64 0) (.int .i64 0) (.slice none 0 0) (.slice none 0 0) (.int .i64 0)
      have hown := World.ownsRow_made (base := w.heap.size) (e := 103) (size := 4) WA #[] 0 HWA.out.size (by decide) rfl
      have HFin : Hid (AddPost w U V false (.returned (.tuple #[.agg #[.slice none 0 0, .int .i64 0, .int .i64 0, .int .i64 0, .slice none 0 0, .slice none 0 0, .int .i64 0], .slice (some ⟨WA.heap.size, 0, none⟩) 0 0, .bool false])) (set7 (WA.alloc (Obj.cells #[] 103)) (w.heap.size + 1 + 1 + 1) (.slice none 0 0) (.int .i64 0) (.int .i64 0) (.int .i64 0) (.slice none 0 0) (.slice none 0 0) (.int .i64 0))) := by
        show AddPost _ _ _ _ _ _
        rw [HU.out, HV.out]
        exact ⟨.slice none 0 0, .slice none 0 0, .slice none 0 0, _, rfl, ShOwn.zero _ _, set7_own hown HQ.out (by decide) _ _ _ _ _ _ _, set7_below (HWA.out.trans (hbE.mono HWA.out.size)) (by omega) _ _ _ _ _ _ _⟩
      obtain ⟨⟨z0, z1, z2, z3, z4, z5, z6⟩, y0, y1, y2, y3, y4, y5, y6⟩ := seven_cells HQ.out
      clear rQ hbE hown e0 e1 e2 e3 e4 e5 e6
      have hzA : WA.heap.size = w9.heap.size + 1 := by rw [hWA]; simp
      rw [hzA] at HFin
      rw [hWA] at z0 z1 z2 z3 z4 z5 z6 y0 y1 y2 y3 y4 y5 y6
      go_wp2
      rw [← hWA]
      obtain ⟨u0, u1, u2, u3, u4, u5, u6⟩ := HY
      unfold set7 at u0 u1 u2 u3 u4 u5 u6
      exact bodyPost_ret (v := .tuple #[.agg #[.slice none 0 0, .int .i64 0, .int .i64 0, .int .i64 0, .slice none 0 0, .slice none 0 0, .int .i64 0], .slice (some ⟨w9.heap.size + 1, 0, none⟩) 0 0, .bool false]) (by simp [results, Tryz.results14, go_sem, u0, u1, u2, u3, u4, u5, u6]) rfl HFin.out
end Go.Proofs.YtbcfiiilikkkeaaGreatDoor
namespace Go.Proofs.YtbcfiiilikkkeaaGreatDoor
set_option linter.unusedVariables false
namespace Shelves
open Go
open Batches (by_ by_inj lt)
open Scan (segEnd segSpots segStamp Full valAt by_len)
open Disks (fileAt textOf RawL nameIs run putRaw rawOut whole cutDone room)
/-- Each of a shelf's beginnings has a right directory. -/
def Pre (l : List FileL) (segs : List Int) : Prop := ∀ k, k ≤ segs.length → Dirs.ok (dirOf l [] (segs.take k))
end Shelves
end Go.Proofs.YtbcfiiilikkkeaaGreatDoor
namespace Go.Proofs.YtbcfiiilikkkeaaGreatDoor
set_option linter.unusedVariables false
namespace Shelves
open Go
open Batches (by_ by_inj lt)
open Scan (segEnd segSpots segStamp Full valAt by_len)
open Disks (fileAt textOf RawL nameIs run putRaw rawOut whole cutDone room)
theorem sealed_len (l : List UInt8) : (Mans.sealed l).length = l.length + 4 := by
  unfold Mans.sealed
  rw [List.length_append, Sums.four_len]
end Shelves
end Go.Proofs.YtbcfiiilikkkeaaGreatDoor
