/- The calls of both ReadDecimal, and the law over them, walked. -/
import Derived.Test.YtpedpdgkbmpfjaaDoorDec
import Derived.Deep.RegionHeld3
import Derived.WalkMore
namespace Go.Proofs.YtpedpdgkbmpfjaaDoor
open Go.RowKit

def rdDTuple : Option Nat → Value
  | none => .tuple #[.int .i64 0, .bool false]
  | some n => .tuple #[.int .i64 (n : Int), .bool true]

theorem numF_take {s : ByteArray} {k : Nat} (h : k < s.size) : Words.numF (s.data.toList.take (k + 1)) 0 = 10 * Words.numF (s.data.toList.take k) 0 + (s[k].toNat - 48) := by
  rw [Words.take_snoc s k h, Words.numF_snoc]
set_option maxHeartbeats 1000000 in
set_option maxRecDepth 100000 in
theorem specRD_any (s : ByteArray) (hs : s.size ≤ 1048576) (w : World) :
    Calls Tryd.prog 49 #[.string s] w fun e w' => e = .returned (rdDTuple (Words.rdD s.data.toList 0 true)) ∧ Below w.heap.size w w' := by
  by_cases hlong : 10 < s.size
  · have HN : Hid (_ = _) := Words.rdD_long (l := s.data.toList) (by rw [Words.size_list]; exact hlong)
    go_enter Tryd.func49, Tryd.ntmps49
    go_wp2
    go_ret2
    exact ⟨by rw [HN.out]; rfl, Below.refl _ _⟩
  · go_enter Tryd.func49, Tryd.ntmps49
    go_wp2
    go_loop [4, 5] (fun x i => ∃ k n : Nat, k ≤ s.size ∧ n < 10 ^ k ∧ n ≤ 9999999999 ∧ i = .int .i64 (k : Int) ∧ x = .int .i64 (n : Int) ∧ n = Words.numF (s.data.toList.take k) 0)
      (fun _ i => s.size - (intOf i).toNat)
    case atStart => exact ⟨0, 0, by omega, by simp, by omega, rfl, rfl, rfl⟩
    case round =>
      obtain ⟨k, n, hk, hn, hn9, rfl, rfl, heq⟩ := hrel
      have HE : Hid (_ = _) := heq
      have HK : Hid (_ < _) := hn
      clear heq hn
      by_cases hlt : k < s.size
      · have hb : (s[k].toNat : Int) ≤ 255 := by have := s[k].toNat_lt; omega
        have hmem : s[k] ∈ s.data.toList := List.getElem_mem (l := s.data.toList) (by rw [Words.size_list]; exact hlt)
        have HM : Hid (_ ∈ _) := hmem
        clear hmem
        by_cases h1 : (s[k].toNat : Int) < 48
        · have HN : Hid (_ = _) := Words.rdD_nofig HM.out (by unfold Words.isFig; omega)
          go_wp2
          go_ret2
          exact ⟨by rw [HN.out]; rfl, Below.refl _ _⟩
        · by_cases h2 : (57 : Int) < (s[k].toNat : Int)
          · have HN : Hid (_ = _) := Words.rdD_nofig HM.out (by unfold Words.isFig; omega)
            go_wp2
            go_ret2
            exact ⟨by rw [HN.out]; rfl, Below.refl _ _⟩
          · go_wp2
            go_round
            case rel =>
              have hp : 10 * n + (s[k].toNat - 48) < 10 ^ (k + 1) := by have := HK.out; rw [Nat.pow_succ]; omega
              have hp10 : 10 ^ (k + 1) ≤ 10 ^ 10 := Nat.pow_le_pow_right (by omega) (by omega)
              have h10 : (10 : Nat) ^ 10 = 10000000000 := rfl
              exact ⟨k + 1, 10 * n + (s[k].toNat - 48), by omega, hp, by omega, by go_num, by go_num, by rw [numF_take hlt, ← HE.out]⟩
            case measure => simp [intOf]; omega
      · have HT : Hid (n = Words.numF s.data.toList 0) := by
          show _ = _
          rw [HE.out, List.take_of_length_le (by rw [Words.size_list]; omega)]
        by_cases hM : 1000000000 < n
        · have HN : Hid (_ = _) := Words.rdD_great (l := s.data.toList) (by rw [← HT.out]; exact hM)
          go_wp2
          go_ret2
          exact ⟨by rw [HN.out]; rfl, Below.refl _ _⟩
        · have hM2 : n ≤ 1000000000 := by omega
          by_cases hd : Words.dec n = s.data.toList
          · have HN : Hid (_ = _) := Words.rdD_yes (l := s.data.toList) (by rw [← HT.out]; exact hM2) (by rw [← HT.out]; exact hd)
            have hcmp : (Words.dec n == s.toList) = true := by rw [ByteArray.toList_eq, hd]; simp
            clear hd
            go_wp2_with (go_at_call 53; refine (dec_nat n hM2 _).mono ?_; rintro e w1 ⟨rfl, hb1⟩)
            go_ret2
            exact ⟨by rw [HN.out, ← HT.out]; rfl, hb1⟩
          · have HN : Hid (_ = _) := Words.rdD_other (l := s.data.toList) (by rw [← HT.out]; exact hd)
            have hcmp : (Words.dec n == s.toList) = false := by rw [ByteArray.toList_eq]; simpa using hd
            clear hd
            go_wp2_with (go_at_call 53; refine (dec_nat n hM2 _).mono ?_; rintro e w1 ⟨rfl, hb1⟩)
            go_ret2
            exact ⟨by rw [HN.out]; rfl, hb1⟩

theorem rdD_drop {s : ByteArray} {k n : Nat} {f : Bool} (h : k < s.size) : Words.rdD (s.data.toList.drop k) n f =
    if s[k].toNat < 48 ∨ 57 < s[k].toNat then none else if f = false ∧ n = 0 then none else if 1000000000 < 10 * n + (s[k].toNat - 48) then none else Words.rdD (s.data.toList.drop (k + 1)) (10 * n + (s[k].toNat - 48)) false := by
  have e : s.data.toList.drop k = s[k] :: s.data.toList.drop (k + 1) := by
    rw [List.drop_eq_getElem_cons (by rw [Words.size_list]; exact h)]; rfl
  rw [e, Words.rdD]

set_option maxHeartbeats 1000000 in
set_option maxRecDepth 100000 in
theorem implRD_any (s : ByteArray) (hs : s.size ≤ 1048576) (w : World) :
    Calls Tryd.prog 74 #[.string s] w fun e w' => e = .returned (rdDTuple (Words.rdD s.data.toList 0 true)) ∧ w = w' := by
  go_enter Tryd.func74, Tryd.ntmps74
  go_wp2
  go_step3
  go_wp2
  go_step3
  go_wp2
  go_loop [4, 5, 10] (fun x r i => ∃ k n : Nat, k ≤ s.size ∧ n ≤ 1000000000 ∧ i = .int .i64 (k : Int) ∧ r = .int .i64 (k : Int) ∧ x = .int .i64 (n : Int) ∧ Words.rdD (s.data.toList.drop k) n (k == 0) = Words.rdD s.data.toList 0 true)
    (fun _ _ i => s.size - (intOf i).toNat)
  case atStart => exact ⟨0, 0, by omega, by omega, rfl, rfl, rfl, rfl⟩
  case round =>
    obtain ⟨k, n, hk, hn, rfl, rfl, rfl, heq⟩ := hrel
    have HE : Hid (_ = _) := heq
    clear heq
    by_cases hlt : k < s.size
    · have hlti : (k : Int) < (s.size : Int) := by omega
      have hb : (s[k].toNat : Int) ≤ 255 := by have := s[k].toNat_lt; omega
      have HS : Hid (_ = _) := (rdD_drop (n := n) (f := k == 0) hlt).symm.trans HE.out
      clear HE
      by_cases h1 : (s[k].toNat : Int) - 48 < 0
      · have e := HS.out
        rw [if_pos (Or.inl (by omega))] at e
        have HN : Hid (_ = _) := e
        clear e HS
        by_cases hk0 : k = 0
        · have hk1 : ((k : Int) == 0) = true := by simp; omega
          clear hk0
          go_wp2
          try rw [Exit.noGoto_ret]
          go_ret2
          exact ⟨by rw [← HN.out]; rfl, rfl⟩
        · have hk1 : ((k : Int) == 0) = false := by simp; omega
          go_wp2
          try rw [Exit.noGoto_ret]
          go_ret2
          exact ⟨by rw [← HN.out]; rfl, rfl⟩
      · by_cases h2 : (9 : Int) < (s[k].toNat : Int) - 48
        · have e := HS.out
          rw [if_pos (Or.inr (by omega))] at e
          have HN : Hid (_ = _) := e
          clear e HS
          by_cases hk0 : k = 0
          · have hk1 : ((k : Int) == 0) = true := by simp; omega
            clear hk0
            go_wp2
            try rw [Exit.noGoto_ret]
            go_ret2
            exact ⟨by rw [← HN.out]; rfl, rfl⟩
          · have hk1 : ((k : Int) == 0) = false := by simp; omega
            go_wp2
            try rw [Exit.noGoto_ret]
            go_ret2
            exact ⟨by rw [← HN.out]; rfl, rfl⟩
        · by_cases hz : 0 < k ∧ n = 0
          · have e := HS.out
            rw [if_neg (by omega), if_pos ⟨by simp; omega, hz.2⟩] at e
            have HN : Hid (_ = _) := e
            clear e HS
            have hk1 : ((k : Int) == 0) = false := by simp; omega
            have hk2 : (0 : Int) < (k : Int) := by omega
            have hn0 : ((n : Int) == 0) = true := by simp; omega
            clear hz
            go_wp2
            try rw [Exit.noGoto_ret]
            go_ret2
            exact ⟨by rw [← HN.out]; rfl, rfl⟩
          · by_cases hM : (1000000000 : Int) < 10 * (n : Int) + ((s[k].toNat : Int) - 48)
            · have e := HS.out
              rw [if_neg (by omega), if_neg (by simp; omega), if_pos (by omega)] at e
              have HN : Hid (_ = _) := e
              clear e HS
              by_cases hk0 : k = 0
              · have hk1 : ((k : Int) == 0) = true := by simp; omega
                have hk2 : ¬ (0 : Int) < (k : Int) := by omega
                clear hk0 hz
                go_wp2
                try rw [Exit.noGoto_ret]
                go_ret2
                exact ⟨by rw [← HN.out]; rfl, rfl⟩
              · have hk1 : ((k : Int) == 0) = false := by simp; omega
                have hk2 : (0 : Int) < (k : Int) := by omega
                have hn0 : ((n : Int) == 0) = false := by simp; omega
                clear hz
                go_wp2
                try rw [Exit.noGoto_ret]
                go_ret2
                exact ⟨by rw [← HN.out]; rfl, rfl⟩
            · have e := HS.out
              rw [if_neg (by omega), if_neg (by simp; omega), if_neg (by omega)] at e
              have HN : Hid (_ = _) := e
              clear e HS
              by_cases hk0 : k = 0
              · have hk2 : ¬ (0 : Int) < (k : Int) := by omega
                clear hk0 hz
                go_wp2
                go_round
                case rel => exact ⟨k + 1, 10 * n + (s[k].toNat - 48), by omega, by omega, by go_num, by go_num, by go_num, HN.out⟩
                case measure => simp [intOf]; omega
              · have hk2 : (0 : Int) < (k : Int) := by omega
                have hn0 : ((n : Int) == 0) = false := by simp; omega
                clear hz
                go_wp2
                go_round
                case rel => exact ⟨k + 1, 10 * n + (s[k].toNat - 48), by omega, by omega, by go_num, by go_num, by go_num, HN.out⟩
                case measure => simp [intOf]; omega
    · have hlti : ¬ (k : Int) < (s.size : Int) := by omega
      have HT : Hid (s.data.toList.drop k = []) := List.drop_eq_nil_of_le (by rw [Words.size_list]; omega)
      by_cases hk0 : k = 0
      · have hk1 : ((k : Int) == 0) = true := by simp; omega
        have e := HE.out
        rw [HT.out, hk0] at e
        have HN : Hid (_ = _) := e
        clear e HE hk0
        go_wp2
        try rw [Exit.noGoto_ret]
        go_ret2
        exact ⟨by rw [← HN.out]; rfl, rfl⟩
      · have hk1 : ((k : Int) == 0) = false := by simp; omega
        have e := HE.out
        rw [HT.out, show (k == 0) = false from by simp; omega] at e
        have HN : Hid (_ = _) := e
        clear e HE
        go_wp2
        try rw [Exit.noGoto_ret]
        go_ret2
        exact ⟨by rw [← HN.out]; rfl, rfl⟩

theorem specRD_some {s : ByteArray} {n : Nat} (hs : s.size ≤ 1048576) (h : Words.rdD s.data.toList 0 true = some n) (w : World) :
    Calls Tryd.prog 49 #[.string s] w fun e w' => e = .returned (.tuple #[.int .i64 (n : Int), .bool true]) ∧ Below w.heap.size w w' := by
  have := specRD_any s hs w
  rwa [h] at this
theorem implRD_some {s : ByteArray} {n : Nat} (hs : s.size ≤ 1048576) (h : Words.rdD s.data.toList 0 true = some n) (w : World) :
    Calls Tryd.prog 74 #[.string s] w fun e w' => e = .returned (.tuple #[.int .i64 (n : Int), .bool true]) ∧ w = w' := by
  have := implRD_any s hs w
  rwa [h] at this

end Go.Proofs.YtpedpdgkbmpfjaaDoor
