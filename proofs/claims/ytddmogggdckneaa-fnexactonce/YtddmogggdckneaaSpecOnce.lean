/- The specification's Once, walked. Made by program. -/
import Derived.Test.YtddmogggdckneaaOnceM
namespace Go.Proofs.Ytddmogggdckneaa
open Go.RowKit
set_option linter.unusedVariables false
set_option linter.unusedSimpArgs false
def onceB (l : List RpL) : Bool := Watch.allR (Watch.relR onceR l) l.length
set_option maxHeartbeats 4000000 in
set_option maxRecDepth 100000 in
theorem specOnce_is {a : Option Addr} {g off cap : Nat} (l : List RpL) (hlen : l.length ≤ 1048576) (w : World) (hf : RpAt w a g off l) :
    Calls Try.prog 20 #[.slice a l.length cap] w fun e w' => e = .returned (.bool (onceB l)) ∧ Below w.heap.size w w' := by
  have HF : Hid (RpAt w a g off l) := hf
  clear hf
  go_enter Try.func20, Try.ntmps20
  go_wp2
  go_loopw [3] (fun i wr => ∃ k : Nat, k ≤ l.length ∧ i = .int .i64 (k : Int) ∧ Hid (Watch.allR (Watch.relR onceR l) k = true) ∧ Below w.heap.size w wr)
    (fun i _ => l.length - (intOf i).toNat)
  case atStart => exact ⟨0, Nat.zero_le _, rfl, Watch.allR_zero _, Below.refl _ _⟩
  case round =>
    obtain ⟨i, hi, rfl, HA, hbel⟩ := hrel
    by_cases hlt : i < l.length
    · have hk0 : (0 : Int) ≤ (i : Int) := by omega
      have hk1 : (i : Int) < (l.length : Int) := by omega
      go_wp2
      go_loopw [4] (fun j wr => ∃ k : Nat, k ≤ i ∧ j = .int .i64 (k : Int) ∧ Hid (Watch.onesR (Watch.relR onceR l) i k = true) ∧ Below w.heap.size w wr)
        (fun j _ => i - (intOf j).toNat)
      case atStart => exact ⟨0, Nat.zero_le _, rfl, Watch.onesR_zero _ _, hbel⟩
      case round =>
        obtain ⟨k, hk, rfl, HO, hbq⟩ := hrel
        by_cases hlk : k < i
        · have hj0 : (0 : Int) ≤ (k : Int) := by omega
          have hj1 : (k : Int) < (i : Int) := by omega
          have hj2 : (k : Int) < (l.length : Int) := by omega
          have hkl : k < l.length := by omega
          have hone := Watch.relR_at onceR hlt hkl
          have hcc := (HF.out.kept hbq).2 i hlt
          have ea := HF.out.1 (by omega)
          subst ea
          obtain ⟨A0, aa0⟩ : ∃ A0, A0 = l[i].call := ⟨_, rfl⟩
          obtain ⟨A1, aa1⟩ : ∃ A1, A1 = l[i].idx := ⟨_, rfl⟩
          obtain ⟨A2, aa2⟩ : ∃ A2, A2 = l[i].op := ⟨_, rfl⟩
          obtain ⟨A3, aa3⟩ : ∃ A3, A3 = l[i].session := ⟨_, rfl⟩
          obtain ⟨A4, aa4⟩ : ∃ A4, A4 = l[i].seq := ⟨_, rfl⟩
          obtain ⟨A5, aa5⟩ : ∃ A5, A5 = l[i].key := ⟨_, rfl⟩
          obtain ⟨A6, aa6⟩ : ∃ A6, A6 = l[i].old := ⟨_, rfl⟩
          obtain ⟨A7, aa7⟩ : ∃ A7, A7 = l[i].value := ⟨_, rfl⟩
          obtain ⟨A8, aa8⟩ : ∃ A8, A8 = l[i].text := ⟨_, rfl⟩
          obtain ⟨B0, bb0⟩ : ∃ B0, B0 = l[k].call := ⟨_, rfl⟩
          obtain ⟨B1, bb1⟩ : ∃ B1, B1 = l[k].idx := ⟨_, rfl⟩
          obtain ⟨B2, bb2⟩ : ∃ B2, B2 = l[k].op := ⟨_, rfl⟩
          obtain ⟨B3, bb3⟩ : ∃ B3, B3 = l[k].session := ⟨_, rfl⟩
          obtain ⟨B4, bb4⟩ : ∃ B4, B4 = l[k].seq := ⟨_, rfl⟩
          obtain ⟨B5, bb5⟩ : ∃ B5, B5 = l[k].key := ⟨_, rfl⟩
          obtain ⟨B6, bb6⟩ : ∃ B6, B6 = l[k].old := ⟨_, rfl⟩
          obtain ⟨B7, bb7⟩ : ∃ B7, B7 = l[k].value := ⟨_, rfl⟩
          obtain ⟨B8, bb8⟩ : ∃ B8, B8 = l[k].text := ⟨_, rfl⟩
          rw [← aa0, ← aa1, ← aa2, ← aa3, ← aa4, ← aa5, ← aa6, ← aa7, ← aa8] at hcc
          have hdd := (HF.out.kept (hbq.trans (((Below.refl _ _).alloc (Nat.le_refl _) (Obj.cells #[.int .i64 A0, .int .i64 A1, .int .i64 A2, .int .i64 A3, .int .i64 A4, .string A5, .string A6, .string A7, .string A8] 87)).mono hbq.size))).2 k hkl
          rw [← bb0, ← bb1, ← bb2, ← bb3, ← bb4, ← bb5, ← bb6, ← bb7, ← bb8] at hdd
          have HON : Hid (Watch.relR onceR l i k = !((decide (0 < A3) && resT A8) && (decide (0 < B3) && resT B8) && decide (A3 = B3) && decide (A4 = B4) && decide (A8 ≠ B8))) := by
            show _ = _
            rw [hone, aa3, aa4, aa8, bb3, bb4, bb8]
            rfl
          obtain ⟨c0, c1, c2, c3, c4, c5, c6, c7, c8⟩ := hcc
          obtain ⟨d0, d1, d2, d3, d4, d5, d6, d7, d8⟩ := hdd
          clear hone aa0 bb0 aa1 bb1 aa2 bb2 aa3 bb3 aa4 bb4 aa5 bb5 aa6 bb6 aa7 bb7 aa8 bb8
          obtain ⟨R1, hR1⟩ : ∃ R1, resT A8 = R1 := ⟨_, rfl⟩
          obtain ⟨R2, hR2⟩ : ∃ R2, resT B8 = R2 := ⟨_, rfl⟩
          obtain ⟨N, hN⟩ : ∃ N, N = decide (¬ A8 = B8) := ⟨_, rfl⟩
          have HN8 : Hid (decide (A8 ≠ B8) = N) := hN.symm
          have n1 := str_beq A8 B8 N hN
          have n2 := str_deq A8 B8 N hN
          rw [hR1, hR2, HN8.out] at HON
          have HR1 : Hid (resT A8 = R1) := hR1
          have HR2 : Hid (resT B8 = R2) := hR2
          clear hN hR1 hR2 HN8
          obtain ⟨W2, hW2⟩ : ∃ W2, W2 = (wr.alloc (Obj.cells #[.int .i64 A0, .int .i64 A1, .int .i64 A2, .int .i64 A3, .int .i64 A4, .string A5, .string A6, .string A7, .string A8] 87)).alloc (Obj.cells #[.int .i64 B0, .int .i64 B1, .int .i64 B2, .int .i64 B3, .int .i64 B4, .string B5, .string B6, .string B7, .string B8] 87) := ⟨_, rfl⟩
          have hb2 : Below wr.heap.size wr W2 := by rw [hW2]; exact ((Below.refl _ _).alloc (Nat.le_refl _) _).alloc (by simp) _
          have hr5 : W2.heap[wr.heap.size]? = some (.cells #[.int .i64 A0, .int .i64 A1, .int .i64 A2, .int .i64 A3, .int .i64 A4, .string A5, .string A6, .string A7, .string A8] 87 (0, 0)) := by
            rw [hW2, Below.heap_alloc _ _ _ (by simp)]
            exact heap_alloc_new wr _
          have hr6 : W2.heap[wr.heap.size + 1]? = some (.cells #[.int .i64 B0, .int .i64 B1, .int .i64 B2, .int .i64 B3, .int .i64 B4, .string B5, .string B6, .string B7, .string B8] 87 (0, 0)) := by
            rw [hW2]
            have := heap_alloc_new (wr.alloc (Obj.cells #[.int .i64 A0, .int .i64 A1, .int .i64 A2, .int .i64 A3, .int .i64 A4, .string A5, .string A6, .string A7, .string A8] 87)) (.cells #[.int .i64 B0, .int .i64 B1, .int .i64 B2, .int .i64 B3, .int .i64 B4, .string B5, .string B6, .string B7, .string B8] 87)
            simpa using this
          have HX : Hid (∀ X, Below W2.heap.size W2 X → X.cell? ⟨wr.heap.size, 8, none⟩ = some (.string A8) ∧ X.cell? ⟨wr.heap.size + 1, 8, none⟩ = some (.string B8)) := fun X h =>
            ⟨by have := cell_of_row _ _ 8 _ _ _ ((h.block _ (Array.getElem?_eq_some_iff.1 hr5).1).trans hr5); simpa using this, by have := cell_of_row _ _ 8 _ _ _ ((h.block _ (Array.getElem?_eq_some_iff.1 hr6).1).trans hr6); simpa using this⟩
          have HB2 : Hid (Below w.heap.size w W2) := hbq.trans (hb2.mono hbq.size)
          have p3 := cell_of_row _ _ 3 _ _ _ hr5
          have p4 := cell_of_row _ _ 4 _ _ _ hr5
          have p8 := cell_of_row _ _ 8 _ _ _ hr5
          have q3 := cell_of_row _ _ 3 _ _ _ hr6
          have q4 := cell_of_row _ _ 4 _ _ _ hr6
          have q8 := cell_of_row _ _ 8 _ _ _ hr6
          simp at p3 p4 p8 q3 q4 q8
          have e2 : (wr.alloc (Obj.cells #[.int .i64 A0, .int .i64 A1, .int .i64 A2, .int .i64 A3, .int .i64 A4, .string A5, .string A6, .string A7, .string A8] 87)).alloc (Obj.cells #[.int .i64 B0, .int .i64 B1, .int .i64 B2, .int .i64 B3, .int .i64 B4, .string B5, .string B6, .string B7, .string B8] 87) = W2 := hW2.symm
          clear hb2 hr5 hr6 hW2
          by_cases s1 : 0 < A3
          · by_cases e3 : A3 = B3
            · subst e3
              by_cases e4 : A4 = B4
              · subst e4
                have t3 : decide (A3 = A3) = true := by simp
                have t4 : decide (A4 = A4) = true := by simp
                cases R1
                · clear n1 n2 HR2
                  go_wp2_with (first | (rw [e2]) | fail)
                  try rw [e2]
                  refine (result45_is A8 _).mono ?_
                  rintro e w5 ⟨rfl, hb5⟩
                  rw [HR1.out]
                  have HC5 : Hid (Below W2.heap.size W2 w5) := hb5
                  obtain ⟨y0, z0⟩ := HX.out _ HC5.out
                  clear hb5
                  go_wp2
                  go_roundw
                  case rel => exact ⟨k + 1, by omega, by go_num, by show _ = _; rw [Watch.onesR_succ, HO.out, HON.out]; simp [s1], (HB2.out.trans (HC5.out.mono HB2.out.size))⟩
                  case measure => simp [intOf]; omega
                · cases R2
                  · clear n1 n2
                    go_wp2_with (first | (rw [e2]) | fail)
                    try rw [e2]
                    refine (result45_is A8 _).mono ?_
                    rintro e w5 ⟨rfl, hb5⟩
                    rw [HR1.out]
                    have HC5 : Hid (Below W2.heap.size W2 w5) := hb5
                    obtain ⟨y0, z0⟩ := HX.out _ HC5.out
                    clear hb5
                    go_wp2_with fail
                    refine (result45_is B8 _).mono ?_
                    rintro e w6 ⟨rfl, hb6⟩
                    rw [HR2.out]
                    have HC6 : Hid (Below W2.heap.size W2 w6) := HC5.out.trans (hb6.mono HC5.out.size)
                    obtain ⟨y1, z1⟩ := HX.out _ HC6.out
                    clear hb6
                    clear y0 z0
                    go_wp2
                    go_roundw
                    case rel => exact ⟨k + 1, by omega, by go_num, by show _ = _; rw [Watch.onesR_succ, HO.out, HON.out]; simp [s1], (HB2.out.trans (HC6.out.mono HB2.out.size))⟩
                    case measure => simp [intOf]; omega
                  · cases N
                    · simp only [Bool.not_false] at n1 n2
                      go_wp2_with (first | (rw [e2]) | fail)
                      try rw [e2]
                      refine (result45_is A8 _).mono ?_
                      rintro e w5 ⟨rfl, hb5⟩
                      rw [HR1.out]
                      have HC5 : Hid (Below W2.heap.size W2 w5) := hb5
                      obtain ⟨y0, z0⟩ := HX.out _ HC5.out
                      clear hb5
                      go_wp2_with fail
                      refine (result45_is B8 _).mono ?_
                      rintro e w6 ⟨rfl, hb6⟩
                      rw [HR2.out]
                      have HC6 : Hid (Below W2.heap.size W2 w6) := HC5.out.trans (hb6.mono HC5.out.size)
                      obtain ⟨y1, z1⟩ := HX.out _ HC6.out
                      clear hb6
                      clear y0 z0
                      go_wp2
                      go_roundw
                      case rel => exact ⟨k + 1, by omega, by go_num, by show _ = _; rw [Watch.onesR_succ, HO.out, HON.out]; simp [s1], (HB2.out.trans (HC6.out.mono HB2.out.size))⟩
                      case measure => simp [intOf]; omega
                    · simp only [Bool.not_true] at n1 n2
                      go_wp2_with (first | (rw [e2]) | fail)
                      try rw [e2]
                      refine (result45_is A8 _).mono ?_
                      rintro e w5 ⟨rfl, hb5⟩
                      rw [HR1.out]
                      have HC5 : Hid (Below W2.heap.size W2 w5) := hb5
                      obtain ⟨y0, z0⟩ := HX.out _ HC5.out
                      clear hb5
                      go_wp2_with fail
                      refine (result45_is B8 _).mono ?_
                      rintro e w6 ⟨rfl, hb6⟩
                      rw [HR2.out]
                      have HC6 : Hid (Below W2.heap.size W2 w6) := HC5.out.trans (hb6.mono HC5.out.size)
                      obtain ⟨y1, z1⟩ := HX.out _ HC6.out
                      clear hb6
                      clear y0 z0
                      go_wp2
                      have HN : Hid (onceB l = false) := Watch.allR_no hlt hlk (by rw [HON.out]; simp [s1])
                      go_ret
                      exact ⟨by rw [HN.out]; rfl, (HB2.out.trans (HC6.out.mono HB2.out.size))⟩
              · have t4 : decide (A4 = B4) = false := by simpa using e4
                clear n1 n2 HR1 HR2
                go_wp2_with (first | (rw [e2]) | fail)
                try rw [e2]
                go_roundw
                case rel => exact ⟨k + 1, by omega, by go_num, by show _ = _; rw [Watch.onesR_succ, HO.out, HON.out]; simp [s1, e4], HB2.out⟩
                case measure => simp [intOf]; omega
            · have t3 : decide (A3 = B3) = false := by simpa using e3
              clear n1 n2 HR1 HR2
              go_wp2_with (first | (rw [e2]) | fail)
              try rw [e2]
              go_roundw
              case rel => exact ⟨k + 1, by omega, by go_num, by show _ = _; rw [Watch.onesR_succ, HO.out, HON.out]; simp [s1, e3], HB2.out⟩
              case measure => simp [intOf]; omega
          · clear n1 n2 HR1 HR2
            go_wp2_with (first | (rw [e2]) | fail)
            try rw [e2]
            go_roundw
            case rel => exact ⟨k + 1, by omega, by go_num, by show _ = _; rw [Watch.onesR_succ, HO.out, HON.out]; simp [s1], HB2.out⟩
            case measure => simp [intOf]; omega
        · have hki : k = i := by omega
          subst hki
          go_wp2
          go_roundw
          case rel => exact ⟨k + 1, by omega, by go_num, by show _ = _; rw [Watch.allR_succ, HA.out, HO.out]; rfl, hbq⟩
          case measure => simp [intOf]; omega
    · have hk1 : ¬ (i : Int) < (l.length : Int) := by omega
      have HN : Hid (onceB l = true) := by
        show _ = _
        have : i = l.length := by omega
        unfold onceB
        rw [← this]; exact HA.out
      go_wp2
      go_ret
      exact ⟨by rw [HN.out]; rfl, hbel⟩
end Go.Proofs.Ytddmogggdckneaa
