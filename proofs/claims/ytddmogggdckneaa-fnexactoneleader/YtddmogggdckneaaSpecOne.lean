/- The specification's OneLeader, walked. -/
import Derived.Test.YtddmogggdckneaaLLdS
import Derived.Test.YtddmogggdckneaaMathW
import Derived.BigQuiet
namespace Go.Proofs.Ytddmogggdckneaa
open Go.RowKit
set_option linter.unusedVariables false
set_option linter.unusedSimpArgs false
theorem lcOne {l : List LcL} {i k : Nat} (hi : i < l.length) (hk : k < l.length) : Watch.one (lcPairs l) i k = !(decide (l[i].term = l[k].term) && decide (¬ l[i].node = l[k].node)) := by
  rw [Watch.one_at (by unfold lcPairs; simpa using hi) (by unfold lcPairs; simpa using hk)]
  unfold lcPairs lcPair
  simp only [List.getElem_map]
  rw [Bool.eq_iff_iff]
  simp
set_option maxHeartbeats 2000000 in
set_option maxRecDepth 100000 in
theorem specOneC_is {a : Option Addr} {g off cap : Nat} (l : List LcL) (hlen : l.length ≤ 1048576) (w : World) (hf : LcAt w a g off l) :
    Calls Try.prog 25 #[.slice a l.length cap] w fun e w' => e = .returned (.bool (Watch.allOne (lcPairs l) l.length)) ∧ Below w.heap.size w w' := by
  have HF : Hid (LcAt w a g off l) := hf
  clear hf
  go_enter Try.func25, Try.ntmps25
  go_wp2
  go_loopw [3] (fun i wr => ∃ k : Nat, k ≤ l.length ∧ i = .int .i64 (k : Int) ∧ Hid (Watch.allOne (lcPairs l) k = true) ∧ Below w.heap.size w wr)
    (fun i _ => l.length - (intOf i).toNat)
  case atStart => exact ⟨0, Nat.zero_le _, rfl, Watch.allOne_zero _, Below.refl _ _⟩
  case round =>
    obtain ⟨i, hi, rfl, HA, hbel⟩ := hrel
    by_cases hlt : i < l.length
    · have hk0 : (0 : Int) ≤ (i : Int) := by omega
      have hk1 : (i : Int) < (l.length : Int) := by omega
      go_wp2
      go_loopw [4] (fun j wr => ∃ k : Nat, k ≤ i ∧ j = .int .i64 (k : Int) ∧ Hid (Watch.ones (lcPairs l) i k = true) ∧ Below w.heap.size w wr)
        (fun j _ => i - (intOf j).toNat)
      case atStart => exact ⟨0, Nat.zero_le _, rfl, Watch.ones_zero _ _, hbel⟩
      case round =>
        obtain ⟨k, hk, rfl, HO, hbq⟩ := hrel
        by_cases hlk : k < i
        · have hj0 : (0 : Int) ≤ (k : Int) := by omega
          have hj1 : (k : Int) < (i : Int) := by omega
          have hj2 : (k : Int) < (l.length : Int) := by omega
          have hkl : k < l.length := by omega
          have hone := lcOne hlt hkl
          have hcc := (HF.out.kept hbq).2 i hlt
          have hdd := (HF.out.kept hbq).2 k hkl
          have ea := HF.out.1 (by omega)
          subst ea
          obtain ⟨A0, q0⟩ : ∃ A0, A0 = l[i].node := ⟨_, rfl⟩
          obtain ⟨A2, q2⟩ : ∃ A2, A2 = l[i].term := ⟨_, rfl⟩
          obtain ⟨B0, p0⟩ : ∃ B0, B0 = l[k].node := ⟨_, rfl⟩
          obtain ⟨B2, p2⟩ : ∃ B2, B2 = l[k].term := ⟨_, rfl⟩
          rw [← q0, ← q2] at hcc hone
          rw [← p0, ← p2] at hdd hone
          have HON : Hid _ := hone
          obtain ⟨c0, c2, _, _, _⟩ := hcc
          obtain ⟨d0, d2, _, _, _⟩ := hdd
          clear hone q0 q2 p0 p2
          go_wp2
          have NE := Abv.ne wr
          have C0 := fun x : Abv wr => x.cell c0
          have C2 := fun x : Abv wr => x.cell c2
          have D0 := fun x : Abv wr => x.cell d0
          have D2 := fun x : Abv wr => x.cell d2
          obtain ⟨X, hX⟩ : ∃ X, X = decide (¬ A0 = B0) := ⟨_, rfl⟩
          have x1 : decide (A0 = B0) = !X := by rw [hX]; simp
          have x2 : (A0 == B0) = !X := by rw [hX, Bool.eq_iff_iff]; simp
          rw [← hX] at HON
          clear hX
          by_cases e2 : A2 = B2
          · subst e2
            have h2 : decide (A2 = A2) = true := by simp
            have h2' : (A2 == A2) = true := by simp
            rw [h2] at HON
            cases X
            · simp only [Bool.not_false] at x1 x2
              refine wp_region_above (by kernel_rfl) (by kernel_rfl) ?_
              repeat (go_big_quiet_step (fail))
              refine wpQuiet_nil ?_
              rintro w1 ⟨⟨_, hb1⟩, rfl⟩
              clear NE C0 C2 D0 D2
              go_wp2
              go_roundw
              case rel => exact ⟨k + 1, by omega, by go_num, by show _ = _; rw [Watch.ones_succ, HO.out, HON.out]; rfl, hbq.trans (hb1.mono hbq.size)⟩
              case measure => simp [intOf]; omega
            · simp only [Bool.not_true] at x1 x2
              refine wp_region_above (by kernel_rfl) (by kernel_rfl) ?_
              repeat (go_big_quiet_step (fail))
              refine wpQuiet_nil ?_
              rintro w1 ⟨⟨_, hb1⟩, rfl⟩
              clear NE C0 C2 D0 D2
              have HN : Hid (Watch.allOne (lcPairs l) l.length = false) := by
                show _ = _
                have := Watch.allOne_no (l := lcPairs l) (i := i) (k := k) (by unfold lcPairs; simpa using hlt) hlk (by rw [HON.out]; rfl)
                simpa [lcPairs] using this
              go_wp2
              go_ret
              exact ⟨by rw [HN.out]; rfl, hbq.trans (hb1.mono hbq.size)⟩
          · have h2 : decide (A2 = B2) = false := by simpa using e2
            have h2' : (A2 == B2) = false := by simpa using e2
            rw [h2] at HON
            refine wp_region_above (by kernel_rfl) (by kernel_rfl) ?_
            repeat (go_big_quiet_step (fail))
            refine wpQuiet_nil ?_
            rintro w1 ⟨⟨_, hb1⟩, rfl⟩
            clear NE C0 C2 D0 D2
            go_wp2
            go_roundw
            case rel => exact ⟨k + 1, by omega, by go_num, by show _ = _; rw [Watch.ones_succ, HO.out, HON.out]; rfl, hbq.trans (hb1.mono hbq.size)⟩
            case measure => simp [intOf]; omega
        · have hki : k = i := by omega
          subst hki
          go_wp2
          go_roundw
          case rel => exact ⟨k + 1, by omega, by go_num, by show _ = _; rw [Watch.allOne_succ, HA.out, HO.out]; rfl, hbq⟩
          case measure => simp [intOf]; omega
    · have hk1 : ¬ (i : Int) < (l.length : Int) := by omega
      have HN : Hid (Watch.allOne (lcPairs l) l.length = true) := by
        show _ = _
        have : i = l.length := by omega
        rw [← this]; exact HA.out
      go_wp2
      go_ret
      exact ⟨by rw [HN.out]; rfl, hbel⟩
end Go.Proofs.Ytddmogggdckneaa
