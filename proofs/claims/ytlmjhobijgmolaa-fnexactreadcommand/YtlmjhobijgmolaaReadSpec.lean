/- The call of the specification's ReadVar, walked. -/
import Derived.Test.YtlmjhobijgmolaaRead
import Derived.Deep.RegionWith
import Derived.Deep.QuietTactic
import Derived.BigQuiet
import Derived.Deep.RegionHeld3
namespace Go.Proofs.Ytlmjhobijgmolaa
open Go.RowKit

set_option maxHeartbeats 400000 in
theorem specRead_no (s : ByteArray) (a : Int) (h : ¬ (0 ≤ a ∧ a ≤ s.size)) (w : World) :
    Calls Try.prog 36 #[.string s, .int .i64 a] w fun e w' => e = .returned (rdTuple none) ∧ Below w.heap.size w w' := by
  go_enter Try.func36, Try.ntmps36
  go_wp2_with (go_at_call 18; refine (in_no _ _ _ h _).mono ?_; rintro e w' ⟨rfl, rfl⟩)
  go_ret3
  exact ⟨rfl, Below.refl _ _⟩

theorem neq_of {s : ByteArray} {a k N : Nat} {x : Int} {Z : Prop} (hx : x = (N : Int)) (hX : Words.var N = (s.data.toList.drop a).take (k + 1) ↔ ¬ Z) :
    ((!(Words.var x.toNat == (s.extract a (a + k + 1)).toList)) = true → Z) ∧ ((!(Words.var x.toNat == (s.extract a (a + k + 1)).toList)) = false → ¬ Z) := by
  have hl : (s.extract a (a + k + 1)).toList = (s.data.toList.drop a).take (k + 1) := by
    have := Words.extract_list s a (a + k + 1)
    rw [show a + k + 1 - a = k + 1 from by omega] at this
    rw [← this]
    exact ByteArray.toList_eq _
  rw [hx, Int.toNat_natCast, hl]
  constructor
  · intro h
    refine Classical.byContradiction fun hz => ?_
    rw [hX.2 hz] at h
    simp at h
  · intro h
    refine hX.1 ?_
    simpa using h

theorem l01Var_int (x : Int) (h0 : 0 ≤ x) (h1 : x ≤ 1000000000) (w : World) :
    Calls Try.prog 21 #[.int .i64 x] w fun e w' => e = .returned (.string ⟨(Words.var x.toNat).toArray⟩) ∧ Below w.heap.size w w' := by
  have h := l01Var_any x.toNat (by omega) w
  rwa [Int.toNat_of_nonneg h0] at h

set_option maxHeartbeats 1000000 in
set_option maxRecDepth 100000 in
theorem specRead_yes (s : ByteArray) (hs : s.size ≤ 1048576) (a : Nat) (h : a ≤ s.size) (w : World) :
    Calls Try.prog 36 #[.string s, .int .i64 (a : Int)] w fun e w' => e = .returned (rdTuple (Words.rd s.data.toList a)) ∧ Below w.heap.size w w' := by
  go_enter Try.func36, Try.ntmps36
  go_wp2_with (go_at_call 18; refine (in_yes _ _ _ (by omega) _).mono ?_; rintro e w' ⟨rfl, rfl⟩)
  go_loop [7, 8, 9] (fun x sc i => ∃ n k P : Nat, k ≤ 5 ∧ n < 128 ^ k ∧ P = 128 ^ k ∧ x = .int .i64 (n : Int) ∧ sc = .int .i64 (P : Int) ∧ i = .int .i64 ((a : Int) + (k : Int)) ∧ a + k ≤ s.size ∧
      Words.rdF (5 - k) (s.data.toList.drop (a + k)) k n = Words.rdF 5 (s.data.toList.drop a) 0 0 ∧ (∀ c ∈ (s.data.toList.drop a).take k, 128 ≤ c.toNat) ∧ n = Words.val ((s.data.toList.drop a).take k))
    (fun _ _ i => a + 5 - (intOf i).toNat)
  case atStart => exact ⟨0, 0, 1, by omega, by simp, rfl, rfl, rfl, by simp, by omega, rfl, by simp, rfl⟩
  case round =>
    obtain ⟨n, k, P, hk, hn, hP, rfl, rfl, rfl, hak, heq, hmet, hval⟩ := hrel
    have HE : Hid (Words.rdF (5 - k) (s.data.toList.drop (a + k)) k n = Words.rdF 5 (s.data.toList.drop a) 0 0) := heq
    have HM : Hid (∀ c ∈ (s.data.toList.drop a).take k, 128 ≤ c.toNat) := hmet
    have HV : Hid (n = Words.val ((s.data.toList.drop a).take k)) := hval
    clear heq hmet hval
    by_cases hlt : k < 5 ∧ a + k < s.size
    · obtain ⟨hk5, hin⟩ := hlt
      have hbyte : (s[a + k].toNat : Int) < 256 := by have := s[a + k].toNat_lt; omega
      obtain ⟨p1, p0, p2, p3, p4, p5, p6⟩ := Words.partP s[a + k].toNat n k hk5 hn P hP
      have P4 : Hid (_ = _) := p4
      have P5 : Hid (_ < _) := p5
      have P6 : Hid (_ = _) := p6
      clear p4 p5 p6 hn hP
      have hll : k ≤ (s.data.toList.drop a).length := by rw [List.length_drop, Words.size_list]; omega
      by_cases hb : s[a + k].toNat < 128
      · have HE2 : Hid (_ = _) := (Words.rdB_end (n := n) hk5 hin hb).symm.trans HE.out
        have HX : Hid (_ ↔ _) := Words.met_val HM.out HV.out hll hin hb
        clear HE hll
        have hbi : (s[a + k].toNat : Int) < 128 := by omega
        by_cases hM : 1000000000 < n + s[a + k].toNat % 128 * 128 ^ k
        · have hMi : (1000000000 : Int) < (n : Int) + (s[a + k].toNat : Int) % 128 * (P : Int) := by rw [P4.out]; omega
          have e := HE2.out
          rw [if_pos (Or.inl hM)] at e
          have HN : Hid (_ = _) := e
          clear e HE2 hM
          go_wp2
          go_quiet (fail)
          go_wp2
          go_ret3
          exact ⟨congrArg Ending.returned (rdT_none (l := s.data.toList) HN.out), below_drewN (Below.refl _ _) _⟩
        · have hMi : ¬ (1000000000 : Int) < (n : Int) + (s[a + k].toNat : Int) % 128 * (P : Int) := by rw [P4.out]; omega
          have hMd : decide ((1000000000 : Int) < (n : Int) + (s[a + k].toNat : Int) % 128 * (P : Int)) = false := decide_eq_false hMi
          have hsl : ∀ wx, (Instr.slice 9 (.string s) (some (.int .i64 (a : Int))) (some (.int .i64 ((a : Int) + (k : Int) + 1))) none).run Try.prog wx = .ok (.string (s.extract a (a + k + 1))) wx := fun wx => by
            rw [run_slice_string wx 9 s .i64 .i64 _ _ Try.underlying9 (by omega) (by omega) (by omega)]
            congr 2
          have hwr : IntKind.i64.wrap ((a : Int) + (k : Int) + 1) = (a : Int) + (k : Int) + 1 := IntWalk.i64_in _ (by omega)
          have HMM : Hid (¬ _) := hM
          clear hM
          go_wp2
          go_region_held3 (fun _ => True) (trivial) (first | (go_at_call 21; refine (l01Var_int _ (by omega) (by omega) _).mono ?_; rintro e w1 ⟨rfl, hb1⟩))
          go_wp2
          · have hz := (neq_of P4.out HX.out).1 (by assumption)
            have e := HE2.out
            rw [if_pos (Or.inr hz)] at e
            go_ret3
            exact ⟨congrArg Ending.returned (rdT_none (l := s.data.toList) e), ((Below.refl _ _).drew).trans hb1⟩
          · have hz := (neq_of P4.out HX.out).2 (by assumption)
            have e := HE2.out
            rw [if_neg (by rintro (h | h); exact HMM.out h; exact hz h)] at e
            go_ret3
            refine ⟨?_, ((Below.refl _ _).drew).trans hb1⟩
            rw [← rdT_some e]
            exact ret3_num P4.out (by omega)
      · have HE2 : Hid (_ = _) := (Words.rdB_more (n := n) hk5 hin hb).symm.trans HE.out
        clear HE
        have hbi : ¬ (s[a + k].toNat : Int) < 128 := by omega
        go_wp2
        go_round
        case rel =>
          refine ⟨n + s[a + k].toNat % 128 * 128 ^ k, k + 1, P * 128, by omega, P5.out, P6.out, by rw [P4.out], by go_num, by go_num, by omega, HE2.out, ?_, ?_⟩
          · rw [Words.met_more hin]
            intro c hc
            rcases List.mem_append.1 hc with hc | hc
            · exact HM.out c hc
            · rw [List.mem_singleton.1 hc]; omega
          · rw [Words.met_more hin, Words.val_snoc, ← HV.out, List.length_take]
            rw [Nat.min_eq_left hll]
        case measure => simp [intOf]; omega
    · have HN : Hid (_ = _) := (Words.rdB_none (n := n) hlt).symm.trans HE.out
      clear HE hn
      by_cases hin : a + k < s.size
      · have hk5 : ¬ (a : Int) + (k : Int) < (a : Int) + 5 := by omega
        go_wp2
        go_ret3
        exact ⟨congrArg Ending.returned (rdT_none (l := s.data.toList) HN.out), Below.refl _ _⟩
      · have hin2 : ¬ (a : Int) + (k : Int) < (s.size : Int) := by omega
        go_wp2
        go_ret3
        exact ⟨congrArg Ending.returned (rdT_none (l := s.data.toList) HN.out), Below.refl _ _⟩
end Go.Proofs.Ytlmjhobijgmolaa
