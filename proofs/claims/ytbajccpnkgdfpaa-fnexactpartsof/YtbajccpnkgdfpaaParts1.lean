/- The calls of plainBytes, skipBlanks and partEnd, walked. -/
import Derived.Test.YtbajccpnkgdfpaaVar
import Derived.Test.YtbajccpnkgdfpaaMathParts
namespace Go.Proofs.Ytbajccpnkgdfpaa
open Go.RowKit

set_option maxHeartbeats 1000000 in
set_option maxRecDepth 100000 in
theorem plain_yes (s : ByteArray) (hs : s.size ≤ 1048576) (hp : Words.plain s.data.toList) (w : World) :
    Calls Try.prog 37 #[.string s] w fun e w' => e = .returned (.bool true) ∧ w = w' := by
  have HP : Hid (Words.plain s.data.toList) := hp
  clear hp
  go_enter Try.func37, Try.ntmps37
  go_wp2
  go_loop [6] (fun i => ∃ k : Nat, k ≤ s.size ∧ i = .int .i64 (k : Int)) (fun i => s.size - (intOf i).toNat)
  case atStart => exact ⟨0, by omega, rfl⟩
  case round =>
    obtain ⟨k, hk, rfl⟩ := hrel
    by_cases hlt : k < s.size
    · have hb := HP.out s[k] (Words.memB s k hlt)
      have h1 : ¬ (s[k].toNat : Int) < 32 := by omega
      have h2 : ¬ (126 : Int) < (s[k].toNat : Int) := by omega
      clear hb
      go_wp2
      go_round
      case rel => exact ⟨k + 1, by omega, by go_num⟩
      case measure => simp [intOf]; omega
    · go_wp2
      go_ret
      exact ⟨rfl, rfl⟩

set_option maxHeartbeats 1000000 in
set_option maxRecDepth 100000 in
theorem plain_no (s : ByteArray) (hs : s.size ≤ 1048576) (hp : ¬ Words.plain s.data.toList) (w : World) :
    Calls Try.prog 37 #[.string s] w fun e w' => e = .returned (.bool false) ∧ w = w' := by
  have HP : Hid (¬ Words.plain s.data.toList) := hp
  clear hp
  go_enter Try.func37, Try.ntmps37
  go_wp2
  go_loop [6] (fun i => ∃ k : Nat, k ≤ s.size ∧ i = .int .i64 (k : Int) ∧ ∀ b ∈ s.data.toList.take k, 32 ≤ b.toNat ∧ b.toNat ≤ 126) (fun i => s.size - (intOf i).toNat)
  case atStart => exact ⟨0, by omega, rfl, by simp⟩
  case round =>
    obtain ⟨k, hk, rfl, hall⟩ := hrel
    have HA : Hid (∀ b ∈ s.data.toList.take k, 32 ≤ b.toNat ∧ b.toNat ≤ 126) := hall
    clear hall
    by_cases hlt : k < s.size
    · by_cases h1 : (s[k].toNat : Int) < 32
      · go_wp2
        go_ret
        exact ⟨rfl, rfl⟩
      · by_cases h2 : (126 : Int) < (s[k].toNat : Int)
        · go_wp2
          go_ret
          exact ⟨rfl, rfl⟩
        · go_wp2
          go_round
          case rel =>
            refine ⟨k + 1, by omega, by go_num, ?_⟩
            rw [Words.take_snoc s k hlt]
            intro b hb
            rcases List.mem_append.1 hb with hb | hb
            · exact HA.out b hb
            · rw [List.mem_singleton.1 hb]; omega
          case measure => simp [intOf]; omega
    · refine absurd ?_ HP.out
      have := HA.out
      rw [List.take_of_length_le (by rw [Words.size_list]; omega)] at this
      exact this

set_option maxHeartbeats 1000000 in
set_option maxRecDepth 100000 in
theorem skip_any (s : ByteArray) (hs : s.size ≤ 1048576) (a : Nat) (ha : a ≤ s.size) (w : World) :
    Calls Try.prog 38 #[.string s, .int .i64 (a : Int)] w fun e w' => ∃ E : Nat, e = .returned (.int .i64 (E : Int)) ∧ w = w' ∧ a ≤ E ∧ E ≤ s.size ∧ Words.partsF (s.data.toList.drop a) [] = Words.partsF (s.data.toList.drop E) [] ∧ ∀ h : E < s.size, ¬ s[E].toNat = 32 := by
  go_enter Try.func38, Try.ntmps38
  go_wp2
  go_loop [1] (fun i => ∃ k : Nat, a ≤ k ∧ k ≤ s.size ∧ i = .int .i64 (k : Int) ∧ Words.partsF (s.data.toList.drop a) [] = Words.partsF (s.data.toList.drop k) []) (fun i => s.size - (intOf i).toNat)
  case atStart => exact ⟨a, by omega, ha, rfl, rfl⟩
  case round =>
    obtain ⟨k, hak, hk, rfl, heq⟩ := hrel
    have HE : Hid (_ = _) := heq
    clear heq
    by_cases hlt : k < s.size
    · have hlti : (k : Int) < (s.size : Int) := by omega
      by_cases hb : s[k].toNat = 32
      · have hbi : ((s[k].toNat : Int) == 32) = true := by simp; omega
        have HB : Hid (_ = _) := hb
        clear hb
        go_wp2
        go_round
        case rel => exact ⟨k + 1, by omega, by omega, by go_num, HE.out.trans (Words.parts_skip hlt HB.out)⟩
        case measure => simp [intOf]; omega
      · have hbi : ((s[k].toNat : Int) == 32) = false := by simp; omega
        go_wp2
        go_ret
        exact ⟨k, rfl, rfl, hak, hk, HE.out, fun _ => hb⟩
    · have hlti : ¬ (k : Int) < (s.size : Int) := by omega
      go_wp2
      go_ret
      exact ⟨k, rfl, rfl, hak, hk, HE.out, fun h => absurd h hlt⟩

set_option maxHeartbeats 1000000 in
set_option maxRecDepth 100000 in
theorem end_any (s : ByteArray) (hs : s.size ≤ 1048576) (a : Nat) (ha : a < s.size) (hna : ¬ s[a].toNat = 32) (w : World) :
    Calls Try.prog 39 #[.string s, .int .i64 (a : Int)] w fun e w' => ∃ E : Nat, e = .returned (.int .i64 (E : Int)) ∧ w = w' ∧ a < E ∧ E ≤ s.size ∧ Words.partsF (s.data.toList.drop a) [] = (s.data.toList.drop a).take (E - a) :: Words.partsF (s.data.toList.drop E) [] := by
  have HNA : Hid (¬ s[a].toNat = 32) := hna
  clear hna
  go_enter Try.func39, Try.ntmps39
  go_wp2
  go_loop [1] (fun i => ∃ k : Nat, a ≤ k ∧ k ≤ s.size ∧ i = .int .i64 (k : Int) ∧ Words.partsF (s.data.toList.drop a) [] = Words.partsF (s.data.toList.drop k) ((s.data.toList.drop a).take (k - a))) (fun i => s.size - (intOf i).toNat)
  case atStart => exact ⟨a, by omega, by omega, rfl, by simp⟩
  case round =>
    obtain ⟨k, hak, hk, rfl, heq⟩ := hrel
    have HE : Hid (_ = _) := heq
    clear heq
    by_cases hlt : k < s.size
    · have hlti : (k : Int) < (s.size : Int) := by omega
      by_cases hb : s[k].toNat = 32
      · have hbi : ((s[k].toNat : Int) != 32) = false := by simp; omega
        have HB : Hid (_ = _) := hb
        have hne : a ≠ k := by intro e; subst e; exact HNA.out hb
        clear hb
        go_wp2
        go_ret
        exact ⟨k, rfl, rfl, by omega, hk, HE.out.trans (Words.parts_end (Words.cut_ne (by omega) hk) fun _ => HB.out)⟩
      · have hbi : ((s[k].toNat : Int) != 32) = true := by simp; omega
        go_wp2
        go_round
        case rel => exact ⟨k + 1, by omega, by omega, by go_num, by rw [Words.cut_snoc hak hlt, HE.out]; exact Words.parts_more hlt hb⟩
        case measure => simp [intOf]; omega
    · have hlti : ¬ (k : Int) < (s.size : Int) := by omega
      go_wp2
      go_ret
      exact ⟨k, rfl, rfl, by omega, hk, HE.out.trans (Words.parts_end (Words.cut_ne (by omega) hk) fun h => absurd h hlt)⟩
end Go.Proofs.Ytbajccpnkgdfpaa
