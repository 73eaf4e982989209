/- The calls of both ReadVar, walked. -/
import Derived.Test.YtlmjhobijgmolaaVar
namespace Go.Proofs.Ytlmjhobijgmolaa
open Go.RowKit

def rdTuple : Option (Nat × Nat) → Value
  | none => .tuple #[.int .i64 0, .int .i64 0, .bool false]
  | some p => .tuple #[.int .i64 (p.1 : Int), .int .i64 (p.2 : Int), .bool true]

set_option maxHeartbeats 400000 in
theorem implRead_no (s : ByteArray) (a : Int) (h : ¬ (0 ≤ a ∧ a ≤ s.size)) (w : World) :
    Calls Try.prog 47 #[.string s, .int .i64 a] w fun e w' => e = .returned (rdTuple none) ∧ w' = w := by
  by_cases h0 : a < 0
  · go_enter Try.func47, Try.ntmps47
    go_wp2
    go_ret3
    exact ⟨rfl, rfl⟩
  · have h1 : (s.size : Int) < a := by omega
    go_enter Try.func47, Try.ntmps47
    go_wp2
    go_ret3
    exact ⟨rfl, rfl⟩

theorem rdT_none {l : List UInt8} {a : Nat} (h : none = Words.rdF 5 (l.drop a) 0 0) : rdTuple none = rdTuple (Words.rd l a) := by rw [Words.rd_none h.symm]
theorem rdT_some {l : List UInt8} {a n k : Nat} (h : some (n, k) = Words.rdF 5 (l.drop a) 0 0) : Value.tuple #[.int .i64 (n : Int), .int .i64 ((a + k : Nat) : Int), .bool true] = rdTuple (Words.rd l a) := by rw [Words.rd_some h.symm]; rfl

theorem ret3_num {x y x' y' : Int} (h1 : x = x') (h2 : y = y') : Ending.returned (.tuple #[.int .i64 x, .int .i64 y, .bool true]) = .returned (.tuple #[.int .i64 x', .int .i64 y', .bool true]) := by rw [h1, h2]

set_option maxHeartbeats 1000000 in
set_option maxRecDepth 100000 in
theorem implRead_yes (s : ByteArray) (hs : s.size ≤ 1048576) (a : Nat) (h : a ≤ s.size) (w : World) :
    Calls Try.prog 47 #[.string s, .int .i64 (a : Int)] w fun e w' => e = .returned (rdTuple (Words.rd s.data.toList a)) ∧ w' = w := by
  have h0 : ¬ (a : Int) < 0 := by omega
  have h1 : ¬ (s.size : Int) < (a : Int) := by omega
  go_enter Try.func47, Try.ntmps47
  go_wp2
  go_loop [7, 8] (fun x i => ∃ n k : Nat, k ≤ 5 ∧ n < 128 ^ k ∧ x = .int .i64 (n : Int) ∧ i = .int .i64 (k : Int) ∧ Words.rdF (5 - k) (s.data.toList.drop (a + k)) k n = Words.rdF 5 (s.data.toList.drop a) 0 0)
    (fun _ i => 5 - (intOf i).toNat)
  case atStart => exact ⟨0, 0, by omega, by simp, rfl, rfl, rfl⟩
  case round =>
    obtain ⟨n, k, hk, hn, rfl, rfl, heq⟩ := hrel
    have HE : Hid (Words.rdF (5 - k) (s.data.toList.drop (a + k)) k n = Words.rdF 5 (s.data.toList.drop a) 0 0) := heq
    clear heq
    by_cases hlt : k < 5 ∧ a + k < s.size
    · obtain ⟨hk5, hin⟩ := hlt
      have hbyte : (s[a + k].toNat : Int) < 256 := by have := s[a + k].toNat_lt; omega
      obtain ⟨p1, p2, p3, p4, p5⟩ := Words.part s[a + k].toNat n k hk5 hn
      have P4 : Hid (_ = _) := p4
      have P5 : Hid (_ < _) := p5
      clear p4 p5 hn
      by_cases hb : s[a + k].toNat < 128
      · have HE2 : Hid (_ = _) := (Words.rdB_end (n := n) hk5 hin hb).symm.trans HE.out
        clear HE
        have hbi : ¬ (127 : Int) < (s[a + k].toNat : Int) := by omega
        by_cases hz : 0 < k ∧ s[a + k].toNat = 0
        · obtain ⟨hz1, hz2⟩ := hz
          have hz3 : ((s[a + k].toNat : Int) == 0) = true := by rw [hz2]; rfl
          have HZ : Hid (s[a + k].toNat = 0) := hz2
          clear hz2
          go_wp2
          go_ret3
          refine ⟨congrArg Ending.returned (rdT_none (l := s.data.toList) ?_), rfl⟩
          have e := HE2.out
          rw [if_pos (Or.inr ⟨hz1, HZ.out⟩)] at e
          exact e
        · by_cases hM : 1000000000 < n + s[a + k].toNat % 128 * 128 ^ k
          · have hMi : (1000000000 : Int) < (n : Int) + (s[a + k].toNat : Int) % 128 * 2 ^ (7 * k) := by rw [P4.out]; omega
            have e := HE2.out
            rw [if_pos (Or.inl hM)] at e
            have HN : Hid (_ = _) := e
            clear e HE2 hM
            by_cases hz1 : 0 < k
            · have hz3 : ((s[a + k].toNat : Int) == 0) = false := by simp; omega
              clear hz
              go_wp2
              go_ret3
              exact ⟨congrArg Ending.returned (rdT_none (l := s.data.toList) HN.out), rfl⟩
            · clear hz
              go_wp2
              go_ret3
              exact ⟨congrArg Ending.returned (rdT_none (l := s.data.toList) HN.out), rfl⟩
          · have hMi : ¬ (1000000000 : Int) < (n : Int) + (s[a + k].toNat : Int) % 128 * 2 ^ (7 * k) := by rw [P4.out]; omega
            have e := HE2.out
            rw [if_neg (by rintro (h | h); exact hM h; exact hz h)] at e
            have HN : Hid (_ = _) := e
            clear e HE2 hM
            by_cases hz1 : 0 < k
            · have hz3 : ((s[a + k].toNat : Int) == 0) = false := by simp; omega
              clear hz
              go_wp2
              go_ret3
              refine ⟨?_, rfl⟩
              rw [← rdT_some HN.out]
              exact ret3_num P4.out (by omega)
            · clear hz
              go_wp2
              go_ret3
              refine ⟨?_, rfl⟩
              rw [← rdT_some HN.out]
              exact ret3_num P4.out (by omega)
      · have HE2 : Hid (_ = _) := (Words.rdB_more (n := n) hk5 hin hb).symm.trans HE.out
        clear HE
        have hbi : (127 : Int) < (s[a + k].toNat : Int) := by omega
        go_wp2
        go_round
        case rel => exact ⟨_, k + 1, by omega, P5.out, by rw [P4.out], by go_num, HE2.out⟩
        case measure => simp [intOf]; omega
    · have HN : Hid (_ = _) := (Words.rdB_none (n := n) hlt).symm.trans HE.out
      clear HE hn
      by_cases hk5 : k < 5
      · have hin : ¬ (a : Int) + (k : Int) < (s.size : Int) := by omega
        go_wp2
        go_ret3
        exact ⟨congrArg Ending.returned (rdT_none (l := s.data.toList) HN.out), rfl⟩
      · go_wp2
        go_ret3
        exact ⟨congrArg Ending.returned (rdT_none (l := s.data.toList) HN.out), rfl⟩
end Go.Proofs.Ytlmjhobijgmolaa
