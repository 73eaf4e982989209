/- The calls of the program's SegName, walked; what the tables hold. -/
import Derived.Test.YtbcfiiilikkkeaaGreatDoorSh
import Derived.Test.YtbcfiiilikkkeaaGreatDoorKit
import Derived.WalkSpells
import Derived.WalkLawsBesides
import Derived.Stop.LaidErr
import Derived.Lib.AppendIntMem
import Derived.Lib.LaidTab
import Derived.Lib.ItoaNum
namespace Go.Proofs.YtbcfiiilikkkeaaGreatDoor
open Go.RowKit
set_option linter.unusedVariables false

def Pow (w : World) : Prop := Lib.TabIs Tryz.prog w "internal/strconv.uint64pow10" .u64 Lib.pow10Tab
theorem Pow.below {w w' : World} (h : Pow w) (hb : Below w.heap.size w w') : Pow w' := Lib.tabBelow_of_tabIs h w' hb
theorem below_grow (w : World) (q : Nat) (os : Array Obj) : Below w.heap.size w (Sort.grow (w.drewN q) os) :=
  ⟨rfl, rfl, rfl, by simp [Sort.grow], fun i hi => by
    show ((w.drewN q).heap ++ os)[i]? = _
    rw [Array.getElem?_append_left (by show i < w.heap.size; omega)]
    rfl⟩
theorem dec_lib : ∀ (f m : Nat), m ≤ f → Words.dec m = Lib.decDigits m
  | 0, m, h => by
    obtain rfl : m = 0 := by omega
    rw [Lib.decDigits, dif_pos (by omega)]; rfl
  | f + 1, m, h => by
    by_cases h10 : m < 10
    · rw [Lib.decDigits, dif_pos h10]
      by_cases h0 : m = 0
      · subst h0; rfl
      · rw [Words.dec, if_neg h0, Words.dig_step m h0, show m / 10 = 0 from by omega, Words.dig_zero, show m % 10 = m from by omega, Words.fig, if_pos h10]; rfl
    · have ih := dec_lib f (m / 10) (by omega)
      rw [Words.dec, if_neg (by omega)] at ih
      rw [Lib.decDigits, dif_neg h10, ← ih, Words.dec, if_neg (by omega), Words.dig_step m (by omega), Words.fig, if_pos (by omega)]
theorem rdD_drop {s : ByteArray} {k n : Nat} {f : Bool} (h : k < s.size) : Words.rdD (s.data.toList.drop k) n f =
    if s[k].toNat < 48 ∨ 57 < s[k].toNat then none else if f = false ∧ n = 0 then none else if 1000000000 < 10 * n + (s[k].toNat - 48) then none else Words.rdD (s.data.toList.drop (k + 1)) (10 * n + (s[k].toNat - 48)) false := by
  have e : s.data.toList.drop k = s[k] :: s.data.toList.drop (k + 1) := by
    rw [List.drop_eq_getElem_cons (by rw [Words.size_list]; exact h)]; rfl
  rw [e, Words.rdD]

set_option maxHeartbeats 1000000 in
set_option maxRecDepth 100000 in
theorem implRD_any (s : ByteArray) (hs : s.size ≤ 1048576) (w : World) :
    Calls Tryz.prog 251 #[.string s] w fun e w' => e = .returned (rdDTuple (Words.rdD s.data.toList 0 true)) ∧ w = w' := by
  go_enter Tryz.func251, Tryz.ntmps251
  go_wp2
  go_step3
  go_wp2
  go_step3
  go_wp2
  go_loop [4, 5, 10] (fun x r i => ∃ k n : Nat, k ≤ s.size ∧ n ≤ 1000000000 ∧ i = .int .i64 (k : Int) ∧ r = .int .i64 (k : Int) ∧ x = .int .i64 (n : Int) ∧ Words.rdD (s.data.toList.drop k) n (k == 0) = Words.rdD s.data.toList 0 true)
    (fun _ _ i => s.size - (intOf i).toNat)
  case atStart => exact ⟨0, 0, by omega, by omega, rfl, rfl, rfl, rfl⟩
  case round =>
    obtain ⟨k, n, hk, hn, rfl, rfl, rfl, heq⟩ := hrel
    have HE : Hid (_ = _) := heq
    clear heq
    by_cases hlt : k < s.size
    · have hlti : (k : Int) < (s.size : Int) := by omega
      have hb : (s[k].toNat : Int) ≤ 255 := by have := s[k].toNat_lt; omega
      have HS : Hid (_ = _) := (rdD_drop (n := n) (f := k == 0) hlt).symm.trans HE.out
      clear HE
      by_cases h1 : (s[k].toNat : Int) - 48 < 0
      · have e := HS.out
        rw [if_pos (Or.inl (by omega))] at e
        have HN : Hid (_ = _) := e
        clear e HS
        by_cases hk0 : k = 0
        · have hk1 : ((k : Int) == 0) = true := by simp; omega
          clear hk0
          go_wp2
          try rw [Exit.noGoto_ret]
          go_ret2
          exact ⟨by rw [← HN.out]; rfl, rfl⟩
        · have hk1 : ((k : Int) == 0) = false := by simp; omega
          go_wp2
          try rw [Exit.noGoto_ret]
          go_ret2
          exact ⟨by rw [← HN.out]; rfl, rfl⟩
      · by_cases h2 : (9 : Int) < (s[k].toNat : Int) - 48
        · have e := HS.out
          rw [if_pos (Or.inr (by omega))] at e
          have HN : Hid (_ = _) := e
          clear e HS
          by_cases hk0 : k = 0
          · have hk1 : ((k : Int) == 0) = true := by simp; omega
            clear hk0
            go_wp2
            try rw [Exit.noGoto_ret]
            go_ret2
            exact ⟨by rw [← HN.out]; rfl, rfl⟩
          · have hk1 : ((k : Int) == 0) = false := by simp; omega
            go_wp2
            try rw [Exit.noGoto_ret]
            go_ret2
            exact ⟨by rw [← HN.out]; rfl, rfl⟩
        · by_cases hz : 0 < k ∧ n = 0
          · have e := HS.out
            rw [if_neg (by omega), if_pos ⟨by simp; omega, hz.2⟩] at e
            have HN : Hid (_ = _) := e
            clear e HS
            have hk1 : ((k : Int) == 0) = false := by simp; omega
            have hk2 : (0 : Int) < (k : Int) := by omega
            have hn0 : ((n : Int) == 0) = true := by simp; omega
            clear hz
            go_wp2
            try rw [Exit.noGoto_ret]
            go_ret2
            exact ⟨by rw [← HN.out]; rfl, rfl⟩
          · by_cases hM : (1000000000 : Int) < 10 * (n : Int) + ((s[k].toNat : Int) - 48)
            · have e := HS.out
              rw [if_neg (by omega), if_neg (by simp; omega), if_pos (by omega)] at e
              have HN : Hid (_ = _) := e
              clear e HS
              by_cases hk0 : k = 0
              · have hk1 : ((k : Int) == 0) = true := by simp; omega
                have hk2 : ¬ (0 : Int) < (k : Int) := by omega
                clear hk0 hz
                go_wp2
                try rw [Exit.noGoto_ret]
                go_ret2
                exact ⟨by rw [← HN.out]; rfl, rfl⟩
              · have hk1 : ((k : Int) == 0) = false := by simp; omega
                have hk2 : (0 : Int) < (k : Int) := by omega
                have hn0 : ((n : Int) == 0) = false := by simp; omega
                clear hz
                go_wp2
                try rw [Exit.noGoto_ret]
                go_ret2
                exact ⟨by rw [← HN.out]; rfl, rfl⟩
            · have e := HS.out
              rw [if_neg (by omega), if_neg (by simp; omega), if_neg (by omega)] at e
              have HN : Hid (_ = _) := e
              clear e HS
              by_cases hk0 : k = 0
              · have hk2 : ¬ (0 : Int) < (k : Int) := by omega
                clear hk0 hz
                go_wp2
                go_round
                case rel => exact ⟨k + 1, 10 * n + (s[k].toNat - 48), by omega, by omega, by go_num, by go_num, by go_num, HN.out⟩
                case measure => simp [intOf]; omega
              · have hk2 : (0 : Int) < (k : Int) := by omega
                have hn0 : ((n : Int) == 0) = false := by simp; omega
                clear hz
                go_wp2
                go_round
                case rel => exact ⟨k + 1, 10 * n + (s[k].toNat - 48), by omega, by omega, by go_num, by go_num, by go_num, HN.out⟩
                case measure => simp [intOf]; omega
    · have hlti : ¬ (k : Int) < (s.size : Int) := by omega
      have HT : Hid (s.data.toList.drop k = []) := List.drop_eq_nil_of_le (by rw [Words.size_list]; omega)
      by_cases hk0 : k = 0
      · have hk1 : ((k : Int) == 0) = true := by simp; omega
        have e := HE.out
        rw [HT.out, hk0] at e
        have HN : Hid (_ = _) := e
        clear e HE hk0
        go_wp2
        try rw [Exit.noGoto_ret]
        go_ret2
        exact ⟨by rw [← HN.out]; rfl, rfl⟩
      · have hk1 : ((k : Int) == 0) = false := by simp; omega
        have e := HE.out
        rw [HT.out, show (k == 0) = false from by simp; omega] at e
        have HN : Hid (_ = _) := e
        clear e HE
        go_wp2
        try rw [Exit.noGoto_ret]
        go_ret2
        exact ⟨by rw [← HN.out]; rfl, rfl⟩


theorem itoa_dec {n : Int} (h : 0 ≤ n) : Lib.itoa n = Words.dec n.toNat := by
  rw [Lib.itoa, if_neg (by omega), dec_lib n.toNat n.toNat (Nat.le_refl _)]
set_option maxHeartbeats 400000 in
theorem implDec_any (n : Int) (hn1 : -9223372036854775808 ≤ n) (hn2 : n ≤ 9223372036854775807) (w : World) (hp : Pow w) :
    Calls Tryz.prog 179 #[.int .i64 n] w fun e w' => e = .returned (.string ⟨(Lib.itoa n).toArray⟩) ∧ Below w.heap.size w w' := by
  have HP : Hid (Pow w) := hp
  have H1 : Hid (_ ≤ _) := hn1
  have H2 : Hid (_ ≤ _) := hn2
  clear hp hn1 hn2
  go_enter Tryz.func179, Tryz.ntmps179
  go_wp2_with (go_at_call 233; refine (Tryz.strconv_Itoa n H1.out H2.out _ HP.out).mono ?_; rintro e w1 ⟨rfl, k, os, rfl⟩)
  go_ret
  exact ⟨rfl, below_grow _ _ _⟩
theorem dec_len {n : Int} (h : 0 ≤ n ∧ n ≤ 999) : (⟨(Words.dec n.toNat).toArray⟩ : ByteArray).size ≤ 20 := by
  show (Words.dec n.toNat).toArray.size ≤ 20
  rw [List.size_toArray]
  by_cases h0 : n.toNat = 0
  · rw [h0]; decide
  · rw [Words.dec, if_neg h0]
    exact Words.dig_len 20 n.toNat (by omega)
set_option maxHeartbeats 1000000 in
theorem implSeg_any (n : Int) (w : World) (hp : Pow w) : Calls Tryz.prog 118 #[.int .i64 n] w fun e w' => e = .returned (.string (Shelves.segName n)) ∧ Below w.heap.size w w' := by
  by_cases h : 0 ≤ n ∧ n ≤ 999
  · obtain ⟨D, hD⟩ : ∃ D : ByteArray, D = ⟨(Words.dec n.toNat).toArray⟩ := ⟨_, rfl⟩
    have hz : D.size ≤ 20 := by rw [hD]; exact dec_len h
    have HS : Hid (Calls Tryz.prog 179 #[.int .i64 n] w fun e w' => e = .returned (.string D) ∧ Below w.heap.size w w') := by
      have := implDec_any n (by omega) (by omega) w hp
      rw [itoa_dec h.1] at this
      rw [hD]; exact this
    rw [← segName_cat h, ← hD]
    have h1 := h.1
    have h2 := h.2
    clear hD hp h
    go_enter Tryz.func118, Tryz.ntmps118
    go_wp2_with (go_at_call 179; refine Calls.mono HS.out ?_; rintro e w1 ⟨rfl, hb1⟩)
    go_ret
    exact ⟨rfl, hb1⟩
  · rw [segName_out h]
    by_cases h1 : n < 0
    · clear h hp
      go_enter Tryz.func118, Tryz.ntmps118
      go_wp2
      go_ret
      exact ⟨rfl, Below.refl _ _⟩
    · have h2 : 999 < n := by omega
      clear h hp
      go_enter Tryz.func118, Tryz.ntmps118
      go_wp2
      go_ret
      exact ⟨rfl, Below.refl _ _⟩
theorem seg_size (n : Int) : (Shelves.segName n).size ≤ 30 := by
  by_cases h : 0 ≤ n ∧ n ≤ 999
  · rw [← segName_cat h, ByteArray.size_append]
    have := dec_len h
    have e : (⟨#[103]⟩ : ByteArray).size = 1 := rfl
    omega
  · rw [segName_out h]; decide
/-- What segOf answers. -/
def SegAns (name : ByteArray) (n : Int) (B : Bool) : Prop := (B = true ∧ 0 ≤ n ∧ segNum name = n) ∨ (B = false ∧ segNum name < 0)
theorem segNum_of {name : ByteArray} {n : Nat} (h : n ≤ 999) (e : name = Shelves.segName n) : segNum name = (n : Int) := by
  unfold segNum
  rw [Shelves.segOf_iff.2 ⟨h, e⟩]
theorem segNum_not {name : ByteArray} (h : ∀ n : Nat, n ≤ 999 → name ≠ Shelves.segName n) : segNum name < 0 := by
  unfold segNum
  cases q : Shelves.segOf name with
  | none => decide
  | some n => obtain ⟨h1, h2⟩ := Shelves.segOf_iff.1 q; exact absurd h2 (h n h1)
theorem seg_bytes (n : Nat) (h : n ≤ 999) : (Shelves.segName n).data.toList = 103 :: Words.dec n := by
  have := Shelves.segName_in (n := (n : Int)) (by omega)
  simpa [Batches.by_] using this
set_option maxHeartbeats 1000000 in
set_option maxRecDepth 100000 in
theorem implSegOf_any (name : ByteArray) (hs : name.size ≤ 1048576) (w : World) : Calls Tryz.prog 208 #[.string name] w fun e w' => ∃ n B, e = .returned (.tuple #[.int .i64 n, .bool B]) ∧ SegAns name n B ∧ w = w' := by
  obtain ⟨T, hT⟩ : ∃ T : ByteArray, T = ⟨(Lib.trimPrefix name.data.toList [103]).toArray⟩ := ⟨_, rfl⟩
  obtain ⟨L, hL⟩ : ∃ L, L = Lib.hasPrefix name.data.toList [103] := ⟨_, rfl⟩
  have hTs : T.size ≤ 1048576 := by
    rw [hT]
    show (Lib.trimPrefix name.data.toList [103]).toArray.size ≤ _
    rw [List.size_toArray]
    have hl : name.data.toList.length ≤ 1048576 := by rw [Words.size_list]; exact hs
    unfold Lib.trimPrefix
    split
    · rw [List.length_drop]; omega
    · exact hl
  have HC : Hid (∀ w : World, Calls Tryz.prog 250 #[.string name, .string ⟨#[103]⟩] w fun e w' => e = .returned (.tuple #[.string T, .bool L]) ∧ w' = w) := fun w => by rw [hT, hL]; exact Tryz.strings_CutPrefix name ⟨#[103]⟩ w
  have hform : (L = true ∧ name.data.toList = 103 :: T.data.toList) ∨ (L = false ∧ ∀ r, name.data.toList ≠ 103 :: r) := by
    rw [hL, hT]
    unfold Lib.trimPrefix Lib.hasPrefix
    cases name.data.toList with
    | nil => right; exact ⟨by simp, fun r h => by cases h⟩
    | cons x r =>
      by_cases hx : x = 103
      · left; subst hx; simp
      · right
        refine ⟨by simp [List.isPrefixOf]; exact fun h => absurd h.symm hx, fun r' h => ?_⟩
        simp only [List.cons.injEq] at h
        exact hx h.1
  have hseg : ∀ k : Nat, k ≤ 999 → name = Shelves.segName k → L = true ∧ Words.rdD T.data.toList 0 true = some k := fun k hk e => by
    have h1 := seg_bytes k hk
    rw [← e] at h1
    rcases hform with ⟨h2, h3⟩ | ⟨h2, h3⟩
    · rw [h3] at h1
      simp only [List.cons.injEq, true_and] at h1
      exact ⟨h2, (Words.rdD_iff _ _).2 ⟨by omega, h1.symm⟩⟩
    · exact absurd h1 (h3 _)
  have HYES : Hid (L = true → ∀ n : Nat, Words.rdD T.data.toList 0 true = some n → n ≤ 999 → segNum name = (n : Int)) := fun h n hr hn => by
    rcases hform with ⟨_, h3⟩ | ⟨h2, _⟩
    · refine segNum_of hn (Batches.by_inj ?_)
      have h4 := ((Words.rdD_iff _ _).1 hr).2
      have h5 := seg_bytes n hn
      show name.data.toList = (Shelves.segName n).data.toList
      rw [h3, h5, ← h4]
    · rw [h2] at h; cases h
  have HNO : Hid (L = false → segNum name < 0) := fun h => segNum_not fun k hk e => by
    have := (hseg k hk e).1
    rw [h] at this; cases this
  have HNO2 : Hid (L = true → Words.rdD T.data.toList 0 true = none → segNum name < 0) := fun h hr => segNum_not fun k hk e => by
    have := (hseg k hk e).2
    rw [hr] at this; cases this
  have HNO3 : Hid (L = true → ∀ n : Nat, Words.rdD T.data.toList 0 true = some n → ¬ n ≤ 999 → segNum name < 0) := fun h n hr hn => segNum_not fun k hk e => by
    have := (hseg k hk e).2
    rw [hr] at this
    simp only [Option.some.injEq] at this
    omega
  clear hform hseg
  clear hT hL
  have HRD : Hid (∀ w : World, Calls Tryz.prog 251 #[.string T] w fun e w' => e = .returned (rdDTuple (Words.rdD T.data.toList 0 true)) ∧ w = w') := implRD_any T hTs
  cases hr : Words.rdD T.data.toList 0 true with
  | none =>
    rw [hr] at HRD HNO2
    have HQ : Hid (∀ w : World, Calls Tryz.prog 251 #[.string T] w fun e w' => e = .returned (.tuple #[.int .i64 0, .bool false]) ∧ w = w') := HRD.out
    have HN : Hid (SegAns name 0 false) := by
      cases L with
      | true => exact Or.inr ⟨rfl, HNO2.out rfl rfl⟩
      | false => exact Or.inr ⟨rfl, HNO.out rfl⟩
    clear hr HRD HYES HNO HNO2 HNO3 hTs
    cases L with
    | true =>
      go_enter Tryz.func208, Tryz.ntmps208
      go_wp2_with (first | (go_at_call 250; refine (HC.out _).mono ?_; rintro e w1 ⟨rfl, rfl⟩) | (go_at_call 251; refine (HQ.out _).mono ?_; rintro e w2 ⟨rfl, rfl⟩))
      go_ret2
      exact ⟨0, false, rfl, HN.out, rfl⟩
    | false =>
      go_enter Tryz.func208, Tryz.ntmps208
      go_wp2_with (first | (go_at_call 250; refine (HC.out _).mono ?_; rintro e w1 ⟨rfl, rfl⟩) | (go_at_call 251; refine (HQ.out _).mono ?_; rintro e w2 ⟨rfl, rfl⟩))
      go_ret2
      exact ⟨0, false, rfl, HN.out, rfl⟩
  | some n =>
    rw [hr] at HRD HYES HNO3
    have HQ : Hid (∀ w : World, Calls Tryz.prog 251 #[.string T] w fun e w' => e = .returned (.tuple #[.int .i64 (n : Int), .bool true]) ∧ w = w') := HRD.out
    cases L with
    | true =>
      by_cases hn : n ≤ 999
      · have HN : Hid (SegAns name (n : Int) true) := Or.inl ⟨rfl, by omega, HYES.out rfl n rfl hn⟩
        clear hr HRD HYES HNO HNO2 HNO3 hTs
        go_enter Tryz.func208, Tryz.ntmps208
        go_wp2_with (first | (go_at_call 250; refine (HC.out _).mono ?_; rintro e w1 ⟨rfl, rfl⟩) | (go_at_call 251; refine (HQ.out _).mono ?_; rintro e w2 ⟨rfl, rfl⟩))
        go_ret2
        refine ⟨_, _, rfl, ?_, rfl⟩
        rw [show decide ((n : Int) ≤ 999) = true by simp; omega]
        exact HN.out
      · have HN : Hid (SegAns name (n : Int) false) := Or.inr ⟨rfl, HNO3.out rfl n rfl hn⟩
        clear hr HRD HYES HNO HNO2 HNO3 hTs
        go_enter Tryz.func208, Tryz.ntmps208
        go_wp2_with (first | (go_at_call 250; refine (HC.out _).mono ?_; rintro e w1 ⟨rfl, rfl⟩) | (go_at_call 251; refine (HQ.out _).mono ?_; rintro e w2 ⟨rfl, rfl⟩))
        go_ret2
        refine ⟨_, _, rfl, ?_, rfl⟩
        rw [show decide ((n : Int) ≤ 999) = false by simp; omega]
        exact HN.out
    | false =>
      have HN : Hid (SegAns name (n : Int) false) := Or.inr ⟨rfl, HNO.out rfl⟩
      clear hr HRD HYES HNO HNO2 HNO3 hTs
      go_enter Tryz.func208, Tryz.ntmps208
      go_wp2_with (first | (go_at_call 250; refine (HC.out _).mono ?_; rintro e w1 ⟨rfl, rfl⟩) | (go_at_call 251; refine (HQ.out _).mono ?_; rintro e w2 ⟨rfl, rfl⟩))
      go_ret2
      exact ⟨_, false, rfl, HN.out, rfl⟩
end Go.Proofs.YtbcfiiilikkkeaaGreatDoor
