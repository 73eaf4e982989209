/- The call of the program's ReadDecimal, walked. -/
import Derived.Test.YtbajccpnkgdfpaaDoorVar
import Derived.Test.YtbajccpnkgdfpaaDoorMathDec
import Derived.WalkMore
namespace Go.Proofs.YtbajccpnkgdfpaaDoor
open Go.RowKit

def rdDTuple : Option Nat → Value
  | none => .tuple #[.int .i64 0, .bool false]
  | some n => .tuple #[.int .i64 (n : Int), .bool true]

theorem rdD_drop {s : ByteArray} {k n : Nat} {f : Bool} (h : k < s.size) : Words.rdD (s.data.toList.drop k) n f =
    if s[k].toNat < 48 ∨ 57 < s[k].toNat then none else if f = false ∧ n = 0 then none else if 1000000000 < 10 * n + (s[k].toNat - 48) then none else Words.rdD (s.data.toList.drop (k + 1)) (10 * n + (s[k].toNat - 48)) false := by
  have e : s.data.toList.drop k = s[k] :: s.data.toList.drop (k + 1) := by
    rw [List.drop_eq_getElem_cons (by rw [Words.size_list]; exact h)]; rfl
  rw [e, Words.rdD]

set_option maxHeartbeats 1000000 in
set_option maxRecDepth 100000 in
theorem implRD_any (s : ByteArray) (hs : s.size ≤ 1048576) (w : World) :
    Calls Tryd.prog 9 #[.string s] w fun e w' => e = .returned (rdDTuple (Words.rdD s.data.toList 0 true)) ∧ w = w' := by
  go_enter Tryd.func9, Tryd.ntmps9
  go_wp2
  go_step3
  go_wp2
  go_step3
  go_wp2
  go_loop [4, 5, 10] (fun x r i => ∃ k n : Nat, k ≤ s.size ∧ n ≤ 1000000000 ∧ i = .int .i64 (k : Int) ∧ r = .int .i64 (k : Int) ∧ x = .int .i64 (n : Int) ∧ Words.rdD (s.data.toList.drop k) n (k == 0) = Words.rdD s.data.toList 0 true)
    (fun _ _ i => s.size - (intOf i).toNat)
  case atStart => exact ⟨0, 0, by omega, by omega, rfl, rfl, rfl, rfl⟩
  case round =>
    obtain ⟨k, n, hk, hn, rfl, rfl, rfl, heq⟩ := hrel
    have HE : Hid (_ = _) := heq
    clear heq
    by_cases hlt : k < s.size
    · have hlti : (k : Int) < (s.size : Int) := by omega
      have hb : (s[k].toNat : Int) ≤ 255 := by have := s[k].toNat_lt; omega
      have HS : Hid (_ = _) := (rdD_drop (n := n) (f := k == 0) hlt).symm.trans HE.out
      clear HE
      by_cases h1 : (s[k].toNat : Int) - 48 < 0
      · have e := HS.out
        rw [if_pos (Or.inl (by omega))] at e
        have HN : Hid (_ = _) := e
        clear e HS
        by_cases hk0 : k = 0
        · have hk1 : ((k : Int) == 0) = true := by simp; omega
          clear hk0
          go_wp2
          try rw [Exit.noGoto_ret]
          go_ret2
          exact ⟨by rw [← HN.out]; rfl, rfl⟩
        · have hk1 : ((k : Int) == 0) = false := by simp; omega
          go_wp2
          try rw [Exit.noGoto_ret]
          go_ret2
          exact ⟨by rw [← HN.out]; rfl, rfl⟩
      · by_cases h2 : (9 : Int) < (s[k].toNat : Int) - 48
        · have e := HS.out
          rw [if_pos (Or.inr (by omega))] at e
          have HN : Hid (_ = _) := e
          clear e HS
          by_cases hk0 : k = 0
          · have hk1 : ((k : Int) == 0) = true := by simp; omega
            clear hk0
            go_wp2
            try rw [Exit.noGoto_ret]
            go_ret2
            exact ⟨by rw [← HN.out]; rfl, rfl⟩
          · have hk1 : ((k : Int) == 0) = false := by simp; omega
            go_wp2
            try rw [Exit.noGoto_ret]
            go_ret2
            exact ⟨by rw [← HN.out]; rfl, rfl⟩
        · by_cases hz : 0 < k ∧ n = 0
          · have e := HS.out
            rw [if_neg (by omega), if_pos ⟨by simp; omega, hz.2⟩] at e
            have HN : Hid (_ = _) := e
            clear e HS
            have hk1 : ((k : Int) == 0) = false := by simp; omega
            have hk2 : (0 : Int) < (k : Int) := by omega
            have hn0 : ((n : Int) == 0) = true := by simp; omega
            clear hz
            go_wp2
            try rw [Exit.noGoto_ret]
            go_ret2
            exact ⟨by rw [← HN.out]; rfl, rfl⟩
          · by_cases hM : (1000000000 : Int) < 10 * (n : Int) + ((s[k].toNat : Int) - 48)
            · have e := HS.out
              rw [if_neg (by omega), if_neg (by simp; omega), if_pos (by omega)] at e
              have HN : Hid (_ = _) := e
              clear e HS
              by_cases hk0 : k = 0
              · have hk1 : ((k : Int) == 0) = true := by simp; omega
                have hk2 : ¬ (0 : Int) < (k : Int) := by omega
                clear hk0 hz
                go_wp2
                try rw [Exit.noGoto_ret]
                go_ret2
                exact ⟨by rw [← HN.out]; rfl, rfl⟩
              · have hk1 : ((k : Int) == 0) = false := by simp; omega
                have hk2 : (0 : Int) < (k : Int) := by omega
                have hn0 : ((n : Int) == 0) = false := by simp; omega
                clear hz
                go_wp2
                try rw [Exit.noGoto_ret]
                go_ret2
                exact ⟨by rw [← HN.out]; rfl, rfl⟩
            · have e := HS.out
              rw [if_neg (by omega), if_neg (by simp; omega), if_neg (by omega)] at e
              have HN : Hid (_ = _) := e
              clear e HS
              by_cases hk0 : k = 0
              · have hk2 : ¬ (0 : Int) < (k : Int) := by omega
                clear hk0 hz
                go_wp2
                go_round
                case rel => exact ⟨k + 1, 10 * n + (s[k].toNat - 48), by omega, by omega, by go_num, by go_num, by go_num, HN.out⟩
                case measure => simp [intOf]; omega
              · have hk2 : (0 : Int) < (k : Int) := by omega
                have hn0 : ((n : Int) == 0) = false := by simp; omega
                clear hz
                go_wp2
                go_round
                case rel => exact ⟨k + 1, 10 * n + (s[k].toNat - 48), by omega, by omega, by go_num, by go_num, by go_num, HN.out⟩
                case measure => simp [intOf]; omega
    · have hlti : ¬ (k : Int) < (s.size : Int) := by omega
      have HT : Hid (s.data.toList.drop k = []) := List.drop_eq_nil_of_le (by rw [Words.size_list]; omega)
      by_cases hk0 : k = 0
      · have hk1 : ((k : Int) == 0) = true := by simp; omega
        have e := HE.out
        rw [HT.out, hk0] at e
        have HN : Hid (_ = _) := e
        clear e HE hk0
        go_wp2
        try rw [Exit.noGoto_ret]
        go_ret2
        exact ⟨by rw [← HN.out]; rfl, rfl⟩
      · have hk1 : ((k : Int) == 0) = false := by simp; omega
        have e := HE.out
        rw [HT.out, show (k == 0) = false from by simp; omega] at e
        have HN : Hid (_ = _) := e
        clear e HE
        go_wp2
        try rw [Exit.noGoto_ret]
        go_ret2
        exact ⟨by rw [← HN.out]; rfl, rfl⟩

theorem implRD_some {s : ByteArray} {n : Nat} (hs : s.size ≤ 1048576) (h : Words.rdD s.data.toList 0 true = some n) (w : World) :
    Calls Tryd.prog 9 #[.string s] w fun e w' => e = .returned (.tuple #[.int .i64 (n : Int), .bool true]) ∧ w = w' := by
  have := implRD_any s hs w
  rwa [h] at this
end Go.Proofs.YtbajccpnkgdfpaaDoor
