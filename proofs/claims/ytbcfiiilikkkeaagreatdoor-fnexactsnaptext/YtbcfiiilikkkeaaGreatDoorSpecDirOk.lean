/- The calls of DirOk, the specification's and the program's, walked. -/
import Derived.Test.YtbcfiiilikkkeaaGreatDoorWhole2
import Derived.Test.YtbcfiiilikkkeaaGreatDoorRdDir
namespace Go.Proofs.YtbcfiiilikkkeaaGreatDoor
open Go.RowKit
set_option linter.unusedVariables false

theorem in_q (x lo hi : Int) (w : World) : Calls Tryz.prog 130 #[.int .i64 x, .int .i64 lo, .int .i64 hi] w fun e w' => e = .returned (.bool (Dirs.inB x lo hi)) ∧ w' = w := by
  by_cases h : lo ≤ x ∧ x ≤ hi
  · rw [Dirs.inB_iff.2 h]
    exact (in_yes x lo hi h w).mono fun e w' ⟨h1, h2⟩ => ⟨h1, h2⟩
  · have e : Dirs.inB x lo hi = false := by
      cases e : Dirs.inB x lo hi
      · rfl
      · exact absurd (Dirs.inB_iff.1 e) h
    rw [e]
    exact (in_no x lo hi (by omega) w).mono fun e w' ⟨h1, h2⟩ => ⟨h1, h2⟩
set_option maxHeartbeats 8000000 in
set_option maxRecDepth 100000 in
theorem specDirOk_any (R : Bool) {a : Option Addr} {g off cap : Nat} (l : List SpotL) (hlen : l.length ≤ 2097152) (w : World) (hf : SpotAt w a g off l) (hsz : ∀ c ∈ l, smallSpot 2097152 c) (hR : R = true ↔ Dirs.ok l) :
    Calls Tryz.prog 104 #[.slice a l.length cap] w fun e w' => e = .returned (.bool R) ∧ Below w.heap.size w w' := by
  have HR : Hid (R = true ↔ Dirs.ok l) := hR
  clear hR
  have HF : Hid (SpotAt w a g off l) := hf
  have HS : Hid (∀ c ∈ l, smallSpot 2097152 c) := hsz
  clear hf hsz
  by_cases h60 : 60 < l.length
  · have h1 : (60 : Int) < (l.length : Int) := by omega
    go_enter Tryz.func104, Tryz.ntmps104
    go_wp2
    go_ret
    exact ⟨by rw [ans_no HR.out (fun h => by have := h.1; omega)]; rfl, Below.refl _ _⟩
  · have h1 : ¬ (60 : Int) < (l.length : Int) := by omega
    go_enter Tryz.func104, Tryz.ntmps104
    go_wp2
    go_loopw [3] (fun i wr => ∃ k : Nat, k ≤ l.length ∧ i = .int .i64 (k : Int) ∧ (∀ j, j < k → Dirs.okAt l j) ∧ Below w.heap.size w wr)
      (fun i _ => l.length - (intOf i).toNat)
    case atStart => exact ⟨0, Nat.zero_le _, rfl, fun j hj => absurd hj (Nat.not_lt_zero _), Below.refl _ _⟩
    case round =>
      obtain ⟨k, hk, rfl, hall, hbel⟩ := hrel
      have HA : Hid (∀ j, j < k → Dirs.okAt l j) := hall
      clear hall
      by_cases hlt : k < l.length
      · obtain ⟨c0, c1, c2, c3⟩ := (HF.out.kept hbel).2 k hlt
        have ea := HF.out.1 (by omega)
        subst ea
        have s0 := HS.out l[k] (List.getElem_mem _)
        have HO : Hid (Dirs.okAt l k ↔ Dirs.spotOk l[k] ∧ (0 < k → ∃ hi : k - 1 < l.length, Batches.lt l[k - 1].key l[k].key = true)) := ⟨fun ⟨_, h⟩ => h, fun h => ⟨hlt, h⟩⟩
        obtain ⟨c, hc⟩ : ∃ c, c = l[k] := ⟨_, rfl⟩
        rw [← hc] at c0 c1 c2 c3 s0 HO
        clear hc
        obtain ⟨A, S, P, Z⟩ := c
        simp only at c0 c1 c2 c3 HO
        unfold smallSpot at s0
        simp only at s0
        have hk0 : (0 : Int) ≤ (k : Int) := by omega
        have hk1 : (k : Int) < (l.length : Int) := by omega
        go_wp2_with fail
        obtain ⟨W1, hW1⟩ : ∃ W1, W1 = wr.alloc (Obj.cells #[Value.string A, Value.int .i64 S, Value.int .i64 P, Value.int .i64 Z] 134) := ⟨_, rfl⟩
        rw [← hW1]
        have hB1 : Below wr.heap.size wr W1 := by rw [hW1]; exact (Below.refl _ _).alloc (Nat.le_refl _) _
        have f0 : W1.cell? ⟨wr.heap.size, 0, none⟩ = some (.string A) := by rw [hW1]; exact cell_of_row _ _ 0 _ _ _ (heap_alloc_new wr _)
        have f1 : W1.cell? ⟨wr.heap.size, 1, none⟩ = some (.int .i64 S) := by rw [hW1]; exact cell_of_row _ _ 1 _ _ _ (heap_alloc_new wr _)
        have f2 : W1.cell? ⟨wr.heap.size, 2, none⟩ = some (.int .i64 P) := by rw [hW1]; exact cell_of_row _ _ 2 _ _ _ (heap_alloc_new wr _)
        have f3 : W1.cell? ⟨wr.heap.size, 3, none⟩ = some (.int .i64 Z) := by rw [hW1]; exact cell_of_row _ _ 3 _ _ _ (heap_alloc_new wr _)
        have hw1 : Below w.heap.size w W1 := hbel.trans (hB1.mono hbel.size)
        clear hW1 c0 c1 c2 c3
        by_cases hn : 1 ≤ A.size ∧ A.size ≤ 10
        · rcases Nat.eq_zero_or_pos k with hk00 | hp
          · have hkd : decide (0 < k) = false := decide_eq_false (by omega)
            have HZ : Hid (k = 0) := hk00
            clear hk00
            cases g1 : Dirs.inB S 0 999
            case false =>
              have HN : Hid (¬ Dirs.okAt l k) := by
                show ¬ _
                rw [HO.out]
                exact fun q => Dirs.inB_no g1 q.1.2.1
              have NE := Abv.ne W1
              have F0 := fun x : Abv W1 => x.cell f0
              have F1 := fun x : Abv W1 => x.cell f1
              have F2 := fun x : Abv W1 => x.cell f2
              have F3 := fun x : Abv W1 => x.cell f3
              refine wp_region_above (by kernel_rfl) (by kernel_rfl) ?_
              repeat (go_big_quiet_step (first | (go_at_call 166; exact calls_above_q (l05Key_is A (by omega) true (by simp [hn]) _)) | (go_at_call 130; exact calls_above_q (in_q _ _ _ _))))
              refine wpQuiet_nil ?_
              rintro w1 ⟨⟨_, hb1⟩, rfl⟩
              clear NE F0 F1 F2 F3
              go_wp2
              go_ret
              exact ⟨by rw [ans_no HR.out (Dirs.not_ok hlt HN.out)]; rfl, hw1.trans (hb1.mono hw1.size)⟩
            case true =>
            cases g2 : Dirs.inB P 0 20000
            case false =>
              have HN : Hid (¬ Dirs.okAt l k) := by
                show ¬ _
                rw [HO.out]
                exact fun q => Dirs.inB_no g2 q.1.2.2.1
              have NE := Abv.ne W1
              have F0 := fun x : Abv W1 => x.cell f0
              have F1 := fun x : Abv W1 => x.cell f1
              have F2 := fun x : Abv W1 => x.cell f2
              have F3 := fun x : Abv W1 => x.cell f3
              refine wp_region_above (by kernel_rfl) (by kernel_rfl) ?_
              repeat (go_big_quiet_step (first | (go_at_call 166; exact calls_above_q (l05Key_is A (by omega) true (by simp [hn]) _)) | (go_at_call 130; exact calls_above_q (in_q _ _ _ _))))
              refine wpQuiet_nil ?_
              rintro w1 ⟨⟨_, hb1⟩, rfl⟩
              clear NE F0 F1 F2 F3
              go_wp2
              go_ret
              exact ⟨by rw [ans_no HR.out (Dirs.not_ok hlt HN.out)]; rfl, hw1.trans (hb1.mono hw1.size)⟩
            case true =>
            cases g3 : Dirs.inB Z 0 40
            case false =>
              have HN : Hid (¬ Dirs.okAt l k) := by
                show ¬ _
                rw [HO.out]
                exact fun q => Dirs.inB_no g3 q.1.2.2.2
              have NE := Abv.ne W1
              have F0 := fun x : Abv W1 => x.cell f0
              have F1 := fun x : Abv W1 => x.cell f1
              have F2 := fun x : Abv W1 => x.cell f2
              have F3 := fun x : Abv W1 => x.cell f3
              refine wp_region_above (by kernel_rfl) (by kernel_rfl) ?_
              repeat (go_big_quiet_step (first | (go_at_call 166; exact calls_above_q (l05Key_is A (by omega) true (by simp [hn]) _)) | (go_at_call 130; exact calls_above_q (in_q _ _ _ _))))
              refine wpQuiet_nil ?_
              rintro w1 ⟨⟨_, hb1⟩, rfl⟩
              clear NE F0 F1 F2 F3
              go_wp2
              go_ret
              exact ⟨by rw [ans_no HR.out (Dirs.not_ok hlt HN.out)]; rfl, hw1.trans (hb1.mono hw1.size)⟩
            case true =>
              have HN : Hid (Dirs.okAt l k) := HO.out.2 ⟨⟨hn, Dirs.inB_iff.1 g1, Dirs.inB_iff.1 g2, Dirs.inB_iff.1 g3⟩, fun h => absurd h (by have := HZ.out; omega)⟩
              have NE := Abv.ne W1
              have F0 := fun x : Abv W1 => x.cell f0
              have F1 := fun x : Abv W1 => x.cell f1
              have F2 := fun x : Abv W1 => x.cell f2
              have F3 := fun x : Abv W1 => x.cell f3
              refine wp_region_above (by kernel_rfl) (by kernel_rfl) ?_
              repeat (go_big_quiet_step (first | (go_at_call 166; exact calls_above_q (l05Key_is A (by omega) true (by simp [hn]) _)) | (go_at_call 130; exact calls_above_q (in_q _ _ _ _))))
              refine wpQuiet_nil ?_
              rintro w1 ⟨⟨_, hb1⟩, rfl⟩
              clear NE F0 F1 F2 F3
              go_wp2
              go_roundw
              case rel => exact ⟨k + 1, by omega, by go_num, Dirs.ok_step HA.out HN.out, hw1.trans (hb1.mono hw1.size)⟩
              case measure => simp [intOf]; omega
          · obtain ⟨m, rfl⟩ : ∃ m, k = m + 1 := ⟨k - 1, by omega⟩
            obtain ⟨e0, _⟩ := (HF.out.kept (hbel.trans (hB1.mono hbel.size))).2 m (by omega)
            obtain ⟨E, hE⟩ : ∃ E, E = l[m].key := ⟨_, rfl⟩
            rw [← hE] at e0
            have HEE : Hid (E = l[m].key) := hE
            clear hE
            have hm1 : IntKind.i64.wrap ((m : Int) + 1 - 1) = (m : Int) := by rw [IntWalk.i64_in _ (by omega)]; omega
            have hm2 : decide ((0 : Int) < (m : Int) + 1) = true := decide_eq_true (by omega)
            have hm3 : (0 : Int) ≤ (m : Int) := by omega
            have hm4 : (m : Int) < (l.length : Int) := by omega
            by_cases hb : Op.bytesLess E.toList A.toList = true
            · skip
              cases g1 : Dirs.inB S 0 999
              case false =>
                have HN : Hid (¬ Dirs.okAt l (m + 1)) := by
                  show ¬ _
                  rw [HO.out]
                  exact fun q => Dirs.inB_no g1 q.1.2.1
                have NE := Abv.ne W1
                have F0 := fun x : Abv W1 => x.cell f0
                have F1 := fun x : Abv W1 => x.cell f1
                have F2 := fun x : Abv W1 => x.cell f2
                have F3 := fun x : Abv W1 => x.cell f3
                have FE := fun x : Abv W1 => x.cell e0
                refine wp_region_above (by kernel_rfl) (by kernel_rfl) ?_
                repeat (go_big_quiet_step (first | (go_at_call 166; exact calls_above_q (l05Key_is A (by omega) true (by simp [hn]) _)) | (go_at_call 130; exact calls_above_q (in_q _ _ _ _))))
                refine wpQuiet_nil ?_
                rintro w1 ⟨⟨_, hb1⟩, rfl⟩
                clear NE F0 F1 F2 F3 FE
                go_wp2
                go_ret
                exact ⟨by rw [ans_no HR.out (Dirs.not_ok hlt HN.out)]; rfl, hw1.trans (hb1.mono hw1.size)⟩
              case true =>
              cases g2 : Dirs.inB P 0 20000
              case false =>
                have HN : Hid (¬ Dirs.okAt l (m + 1)) := by
                  show ¬ _
                  rw [HO.out]
                  exact fun q => Dirs.inB_no g2 q.1.2.2.1
                have NE := Abv.ne W1
                have F0 := fun x : Abv W1 => x.cell f0
                have F1 := fun x : Abv W1 => x.cell f1
                have F2 := fun x : Abv W1 => x.cell f2
                have F3 := fun x : Abv W1 => x.cell f3
                have FE := fun x : Abv W1 => x.cell e0
                refine wp_region_above (by kernel_rfl) (by kernel_rfl) ?_
                repeat (go_big_quiet_step (first | (go_at_call 166; exact calls_above_q (l05Key_is A (by omega) true (by simp [hn]) _)) | (go_at_call 130; exact calls_above_q (in_q _ _ _ _))))
                refine wpQuiet_nil ?_
                rintro w1 ⟨⟨_, hb1⟩, rfl⟩
                clear NE F0 F1 F2 F3 FE
                go_wp2
                go_ret
                exact ⟨by rw [ans_no HR.out (Dirs.not_ok hlt HN.out)]; rfl, hw1.trans (hb1.mono hw1.size)⟩
              case true =>
              cases g3 : Dirs.inB Z 0 40
              case false =>
                have HN : Hid (¬ Dirs.okAt l (m + 1)) := by
                  show ¬ _
                  rw [HO.out]
                  exact fun q => Dirs.inB_no g3 q.1.2.2.2
                have NE := Abv.ne W1
                have F0 := fun x : Abv W1 => x.cell f0
                have F1 := fun x : Abv W1 => x.cell f1
                have F2 := fun x : Abv W1 => x.cell f2
                have F3 := fun x : Abv W1 => x.cell f3
                have FE := fun x : Abv W1 => x.cell e0
                refine wp_region_above (by kernel_rfl) (by kernel_rfl) ?_
                repeat (go_big_quiet_step (first | (go_at_call 166; exact calls_above_q (l05Key_is A (by omega) true (by simp [hn]) _)) | (go_at_call 130; exact calls_above_q (in_q _ _ _ _))))
                refine wpQuiet_nil ?_
                rintro w1 ⟨⟨_, hb1⟩, rfl⟩
                clear NE F0 F1 F2 F3 FE
                go_wp2
                go_ret
                exact ⟨by rw [ans_no HR.out (Dirs.not_ok hlt HN.out)]; rfl, hw1.trans (hb1.mono hw1.size)⟩
              case true =>
                have HN : Hid (Dirs.okAt l (m + 1)) := HO.out.2 ⟨⟨hn, Dirs.inB_iff.1 g1, Dirs.inB_iff.1 g2, Dirs.inB_iff.1 g3⟩, fun _ => ⟨by omega, by show Op.bytesLess _ _ = true; simp only [Nat.add_sub_cancel]; rw [← HEE.out]; exact hb⟩⟩
                have NE := Abv.ne W1
                have F0 := fun x : Abv W1 => x.cell f0
                have F1 := fun x : Abv W1 => x.cell f1
                have F2 := fun x : Abv W1 => x.cell f2
                have F3 := fun x : Abv W1 => x.cell f3
                have FE := fun x : Abv W1 => x.cell e0
                refine wp_region_above (by kernel_rfl) (by kernel_rfl) ?_
                repeat (go_big_quiet_step (first | (go_at_call 166; exact calls_above_q (l05Key_is A (by omega) true (by simp [hn]) _)) | (go_at_call 130; exact calls_above_q (in_q _ _ _ _))))
                refine wpQuiet_nil ?_
                rintro w1 ⟨⟨_, hb1⟩, rfl⟩
                clear NE F0 F1 F2 F3 FE
                go_wp2
                go_roundw
                case rel => exact ⟨(m + 1) + 1, by omega, by go_num, Dirs.ok_step HA.out HN.out, hw1.trans (hb1.mono hw1.size)⟩
                case measure => simp [intOf]; omega
            · have hb' : Op.bytesLess E.toList A.toList = false := by simpa using hb
              have HN : Hid (¬ Dirs.okAt l (m + 1)) := by
                show ¬ _
                rw [HO.out]
                rintro ⟨_, q⟩
                obtain ⟨_, q2⟩ := q (by omega)
                simp only [Nat.add_sub_cancel, Batches.lt] at q2
                rw [← HEE.out] at q2
                exact hb q2
              have NE := Abv.ne W1
              have F0 := fun x : Abv W1 => x.cell f0
              have F1 := fun x : Abv W1 => x.cell f1
              have F2 := fun x : Abv W1 => x.cell f2
              have F3 := fun x : Abv W1 => x.cell f3
              have FE := fun x : Abv W1 => x.cell e0
              refine wp_region_above (by kernel_rfl) (by kernel_rfl) ?_
              repeat (go_big_quiet_step (first | (go_at_call 166; exact calls_above_q (l05Key_is A (by omega) true (by simp [hn]) _)) | (go_at_call 130; exact calls_above_q (in_q _ _ _ _))))
              refine wpQuiet_nil ?_
              rintro w1 ⟨⟨_, hb1⟩, rfl⟩
              clear NE F0 F1 F2 F3 FE
              go_wp2
              go_ret
              exact ⟨by rw [ans_no HR.out (Dirs.not_ok hlt HN.out)]; rfl, hw1.trans (hb1.mono hw1.size)⟩
        · skip
          have HN : Hid (¬ Dirs.okAt l k) := by
            show ¬ _
            rw [HO.out]
            exact fun q => hn q.1.1
          have NE := Abv.ne W1
          have F0 := fun x : Abv W1 => x.cell f0
          have F1 := fun x : Abv W1 => x.cell f1
          have F2 := fun x : Abv W1 => x.cell f2
          have F3 := fun x : Abv W1 => x.cell f3
          refine wp_region_above (by kernel_rfl) (by kernel_rfl) ?_
          repeat (go_big_quiet_step (first | (go_at_call 166; exact calls_above_q (l05Key_is A (by omega) false (by simp [hn]) _)) | (go_at_call 130; exact calls_above_q (in_q _ _ _ _))))
          refine wpQuiet_nil ?_
          rintro w1 ⟨⟨_, hb1⟩, rfl⟩
          clear NE F0 F1 F2 F3
          go_wp2
          go_ret
          exact ⟨by rw [ans_no HR.out (Dirs.not_ok hlt HN.out)]; rfl, hw1.trans (hb1.mono hw1.size)⟩
      · have hk1 : ¬ (k : Int) < (l.length : Int) := by omega
        go_wp2
        go_ret
        exact ⟨by rw [HR.out.2 ⟨by omega, fun j hj => HA.out j (by omega)⟩]; rfl, hbel⟩
end Go.Proofs.YtbcfiiilikkkeaaGreatDoor
