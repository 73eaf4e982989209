/- The specification's SameApplied, walked. -/
import Derived.Test.YtddmogggdckneaaLAp
import Derived.Test.YtddmogggdckneaaMathW
import Derived.Test.YtddmogggdckneaaNeqEn
namespace Go.Proofs.Ytddmogggdckneaa
open Go.RowKit
set_option linter.unusedVariables false
set_option linter.unusedSimpArgs false
/-- What was applied, as a thing (its Index) and what was seen of it (its Entry). -/
def apPair (r : ApL) : Int × (Int × Int × ByteArray) := (r.index, (r.eterm, r.ekind, r.edata))
def apPairs (l : List ApL) : List (Int × (Int × Int × ByteArray)) := l.map apPair
theorem apOne {l : List ApL} {i k : Nat} (hi : i < l.length) (hk : k < l.length) : Watch.one (apPairs l) i k = !(decide (l[i].index = l[k].index) && decide (¬ (l[i].eterm = l[k].eterm ∧ l[i].ekind = l[k].ekind ∧ l[i].edata = l[k].edata))) := by
  rw [Watch.one_at (by unfold apPairs; simpa using hi) (by unfold apPairs; simpa using hk)]
  unfold apPairs apPair
  simp only [List.getElem_map]
  rw [Bool.eq_iff_iff]
  simp
set_option maxHeartbeats 2000000 in
set_option maxRecDepth 100000 in
theorem specSame_is {a : Option Addr} {g off cap : Nat} (l : List ApL) (hlen : l.length ≤ 1048576) (w : World) (hf : ApAt w a g off l) :
    Calls Try.prog 15 #[.slice a l.length cap] w fun e w' => e = .returned (.bool (Watch.allOne (apPairs l) l.length)) ∧ Below w.heap.size w w' := by
  have HF : Hid (ApAt w a g off l) := hf
  clear hf
  go_enter Try.func15, Try.ntmps15
  go_wp2
  go_loopw [3] (fun i wr => ∃ k : Nat, k ≤ l.length ∧ i = .int .i64 (k : Int) ∧ Hid (Watch.allOne (apPairs l) k = true) ∧ Below w.heap.size w wr)
    (fun i _ => l.length - (intOf i).toNat)
  case atStart => exact ⟨0, Nat.zero_le _, rfl, Watch.allOne_zero _, Below.refl _ _⟩
  case round =>
    obtain ⟨i, hi, rfl, HA, hbel⟩ := hrel
    by_cases hlt : i < l.length
    · have hk0 : (0 : Int) ≤ (i : Int) := by omega
      have hk1 : (i : Int) < (l.length : Int) := by omega
      go_wp2
      go_loopw [4] (fun j wr => ∃ k : Nat, k ≤ i ∧ j = .int .i64 (k : Int) ∧ Hid (Watch.ones (apPairs l) i k = true) ∧ Below w.heap.size w wr)
        (fun j _ => i - (intOf j).toNat)
      case atStart => exact ⟨0, Nat.zero_le _, rfl, Watch.ones_zero _ _, hbel⟩
      case round =>
        obtain ⟨k, hk, rfl, HO, hbq⟩ := hrel
        by_cases hlk : k < i
        · have hj0 : (0 : Int) ≤ (k : Int) := by omega
          have hj1 : (k : Int) < (i : Int) := by omega
          have hj2 : (k : Int) < (l.length : Int) := by omega
          have hkl : k < l.length := by omega
          have hone := apOne hlt hkl
          have hcc := (HF.out.kept hbq).2 i hlt
          have hdd := (HF.out.kept hbq).2 k hkl
          have ea := HF.out.1 (by omega)
          subst ea
          obtain ⟨A2, q2⟩ : ∃ A2, A2 = l[i].index := ⟨_, rfl⟩
          obtain ⟨A3, q3⟩ : ∃ A3, A3 = l[i].eterm := ⟨_, rfl⟩
          obtain ⟨A4, q4⟩ : ∃ A4, A4 = l[i].ekind := ⟨_, rfl⟩
          obtain ⟨A5, q5⟩ : ∃ A5, A5 = l[i].edata := ⟨_, rfl⟩
          obtain ⟨B2, p2⟩ : ∃ B2, B2 = l[k].index := ⟨_, rfl⟩
          obtain ⟨B3, p3⟩ : ∃ B3, B3 = l[k].eterm := ⟨_, rfl⟩
          obtain ⟨B4, p4⟩ : ∃ B4, B4 = l[k].ekind := ⟨_, rfl⟩
          obtain ⟨B5, p5⟩ : ∃ B5, B5 = l[k].edata := ⟨_, rfl⟩
          rw [← q2, ← q3, ← q4, ← q5] at hcc hone
          rw [← p2, ← p3, ← p4, ← p5] at hdd hone
          have HON : Hid _ := hone
          obtain ⟨_, _, c2, c3, c4, c5⟩ := hcc
          obtain ⟨_, _, d2, d3, d4, d5⟩ := hdd
          clear hone q2 q3 q4 q5 p2 p3 p4 p5
          go_wp2
          have NE := Abv.ne wr
          have C2 := fun x : Abv wr => x.cell c2
          have C3 := fun x : Abv wr => x.cell c3
          have C4 := fun x : Abv wr => x.cell c4
          have C5 := fun x : Abv wr => x.cell c5
          have D2 := fun x : Abv wr => x.cell d2
          have D3 := fun x : Abv wr => x.cell d3
          have D4 := fun x : Abv wr => x.cell d4
          have D5 := fun x : Abv wr => x.cell d5
          obtain ⟨X, hX⟩ : ∃ X, X = decide (¬ (A3 = B3 ∧ A4 = B4 ∧ A5 = B5)) := ⟨_, rfl⟩
          have hne : ∀ wx, (binOp .neq 27 (.agg #[.int .i64 A3, .int .i64 A4, .string A5]) (.agg #[.int .i64 B3, .int .i64 B4, .string B5])).run Try.prog wx = .ok (.bool X) wx := fun wx => by rw [hX]; exact neqEnt _ _ _ _ _ _ wx
          rw [← hX] at HON
          clear hX
          by_cases e2 : A2 = B2
          · subst e2
            have h2 : decide (A2 = A2) = true := by simp
            have h2' : (A2 == A2) = true := by simp
            rw [h2] at HON
            cases X
            · refine wp_region_above (by kernel_rfl) (by kernel_rfl) ?_
              repeat (go_big_quiet_step (fail))
              refine wpQuiet_nil ?_
              rintro w1 ⟨⟨_, hb1⟩, rfl⟩
              clear NE C2 C3 C4 C5 D2 D3 D4 D5
              go_wp2
              go_roundw
              case rel => exact ⟨k + 1, by omega, by go_num, by show _ = _; rw [Watch.ones_succ, HO.out, HON.out]; rfl, hbq.trans (hb1.mono hbq.size)⟩
              case measure => simp [intOf]; omega
            · refine wp_region_above (by kernel_rfl) (by kernel_rfl) ?_
              repeat (go_big_quiet_step (fail))
              refine wpQuiet_nil ?_
              rintro w1 ⟨⟨_, hb1⟩, rfl⟩
              clear NE C2 C3 C4 C5 D2 D3 D4 D5
              have HN : Hid (Watch.allOne (apPairs l) l.length = false) := by
                show _ = _
                have := Watch.allOne_no (l := apPairs l) (i := i) (k := k) (by unfold apPairs; simpa using hlt) hlk (by rw [HON.out]; rfl)
                simpa [apPairs] using this
              go_wp2
              go_ret
              exact ⟨by rw [HN.out]; rfl, hbq.trans (hb1.mono hbq.size)⟩
          · have h2 : decide (A2 = B2) = false := by simpa using e2
            have h2' : (A2 == B2) = false := by simpa using e2
            rw [h2] at HON
            refine wp_region_above (by kernel_rfl) (by kernel_rfl) ?_
            repeat (go_big_quiet_step (fail))
            refine wpQuiet_nil ?_
            rintro w1 ⟨⟨_, hb1⟩, rfl⟩
            clear NE C2 C3 C4 C5 D2 D3 D4 D5
            go_wp2
            go_roundw
            case rel => exact ⟨k + 1, by omega, by go_num, by show _ = _; rw [Watch.ones_succ, HO.out, HON.out]; rfl, hbq.trans (hb1.mono hbq.size)⟩
            case measure => simp [intOf]; omega
        · have hki : k = i := by omega
          subst hki
          go_wp2
          go_roundw
          case rel => exact ⟨k + 1, by omega, by go_num, by show _ = _; rw [Watch.allOne_succ, HA.out, HO.out]; rfl, hbq⟩
          case measure => simp [intOf]; omega
    · have hk1 : ¬ (i : Int) < (l.length : Int) := by omega
      have HN : Hid (Watch.allOne (apPairs l) l.length = true) := by
        show _ = _
        have : i = l.length := by omega
        rw [← this]; exact HA.out
      go_wp2
      go_ret
      exact ⟨by rw [HN.out]; rfl, hbel⟩
end Go.Proofs.Ytddmogggdckneaa
