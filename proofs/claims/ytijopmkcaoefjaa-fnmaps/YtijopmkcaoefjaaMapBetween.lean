/- The calls of MapBetween, the specification's and the program's, walked. Made by program. -/
import Derived.Test.YtijopmkcaoefjaaSideBetween
namespace Go.Proofs.Ytijopmkcaoefjaa
open Go.RowKit
set_option linter.unusedVariables false

theorem own_empty {W : World} {base g E z : Nat} (h : W.heap[g]? = some (.cells #[] E (0, 0))) (hb : base ≤ g) : W.ownsRow base E z (.slice (some ⟨g, 0, none⟩) 0 0) 0 [] :=
  ⟨by simp, .inr ⟨g, 0, #[], rfl, hb, h, Nat.le_refl _, Nat.zero_le _, by simp, by simp⟩⟩
/-- What MapBetween is to answer. -/
def BetR (lA lB : List PairL) (cs : List ChangeL) (R : Bool) : Prop :=
  ((Maps.ok lA ∧ Maps.ok lB) ∧ (Maps.between lA lB).length ≤ 60 ∧ cs = Maps.between lA lB ∧ R = true) ∨ (¬ ((Maps.ok lA ∧ Maps.ok lB) ∧ (Maps.between lA lB).length ≤ 60) ∧ cs = [] ∧ R = false)
theorem betR_ex (lA lB : List PairL) : ∃ cs R, BetR lA lB cs R := by
  by_cases h : (Maps.ok lA ∧ Maps.ok lB) ∧ (Maps.between lA lB).length ≤ 60
  · exact ⟨_, _, Or.inl ⟨h.1, h.2, rfl, rfl⟩⟩
  · exact ⟨_, _, Or.inr ⟨h, rfl, rfl⟩⟩
theorem betR_len {lA lB : List PairL} {cs : List ChangeL} {R : Bool} (h : BetR lA lB cs R) : cs.length ≤ 60 := by
  rcases h with ⟨_, h, rfl, _⟩ | ⟨_, rfl, _⟩
  · exact h
  · simp
set_option maxHeartbeats 1000000 in
theorem implBetween_any {aA aB : Option Addr} {gA offA capA gB offB capB : Nat} (lA lB : List PairL) (hlA : lA.length ≤ 2097152) (hlB : lB.length ≤ 2097152) (hsA : ∀ c ∈ lA, smallPair 2097152 c) (hsB : ∀ c ∈ lB, smallPair 2097152 c) (cs : List ChangeL) (R : Bool) (hR : BetR lA lB cs R) (w : World) (hfA : PairAt w aA gA offA lA) (hfB : PairAt w aB gB offB lB) :
    Calls Try.prog 11 #[.slice aA lA.length capA, .slice aB lB.length capB] w fun e w' => ∃ v, e = .returned (.tuple #[v, .bool R]) ∧ w'.ownsRow w.heap.size 65 3 v cs.length (cellsChange cs) ∧ Below w.heap.size w w' := by
  have HFA : Hid (PairAt w aA gA offA lA) := hfA
  have HFB : Hid (PairAt w aB gB offB lB) := hfB
  have HSA : Hid (∀ c ∈ lA, smallPair 2097152 c) := hsA
  have HSB : Hid (∀ c ∈ lB, smallPair 2097152 c) := hsB
  have HR : Hid (BetR lA lB cs R) := hR
  clear hfA hfB hsA hsB hR
  by_cases h1 : Maps.ok lA
  · by_cases h2 : Maps.ok lB
    · have hA := h1.1
      have hB := h2.1
      go_enter Try.func11, Try.ntmps11
      go_wp2_with fail
      refine (implMapOk_any true lA hlA _ HFA.out HSA.out (by simp [h1])).mono ?_
      rintro e w1 ⟨rfl, hb1⟩
      go_wp2_with fail
      refine (implMapOk_any true lB hlB _ (HFB.out.kept hb1) HSB.out (by simp [h2])).mono ?_
      rintro e w2 ⟨rfl, hb2⟩
      have hbb := hb1.trans (hb2.mono hb1.size)
      clear hb1 hb2
      have HOK : Hid (Maps.ok lA ∧ Maps.ok lB) := ⟨h1, h2⟩
      clear h1 h2
      go_wp2_with fail
      refine (sideBetween_is lA lB hA hB HSA.out HSB.out w2 (HFA.out.kept hbb) (HFB.out.kept hbb)).mono ?_
      rintro e w3 ⟨v, rfl, hown, hb3⟩
      obtain ⟨va, vc, rfl⟩ := own_slice hown
      obtain ⟨L, hL⟩ : ∃ L, L = Maps.between lA lB := ⟨_, rfl⟩
      rw [← hL] at hown ⊢
      have HL : Hid (L = Maps.between lA lB) := hL
      have HO : Hid (w3.ownsRow w.heap.size 65 3 (.slice va L.length vc) L.length (cellsChange L)) := own_mono hown hbb.size
      have HB : Hid (Below w.heap.size w w3) := hbb.trans (hb3.mono hbb.size)
      clear hL hown hbb hb3
      by_cases h60 : L.length ≤ 60
      · have hg : ¬ (60 : Int) < (L.length : Int) := by omega
        have HC : Hid (cs = L ∧ R = true) := by
          rcases HR.out with ⟨_, _, hc, hr⟩ | ⟨h, _⟩
          · exact ⟨by rw [hc, HL.out], hr⟩
          · exact absurd ⟨HOK.out, by rw [← HL.out]; exact h60⟩ h
        go_wp2
        go_ret2
        rw [HC.out.1, HC.out.2]
        exact ⟨_, rfl, HO.out, HB.out⟩
      · have hg : (60 : Int) < (L.length : Int) := by omega
        have HC : Hid (cs = [] ∧ R = false) := by
          rcases HR.out with ⟨_, h, _⟩ | ⟨_, h⟩
          · rw [← HL.out] at h; exact absurd h h60
          · exact h
        go_wp2
        go_ret2
        rw [HC.out.1, HC.out.2]
        exact ⟨_, rfl, World.ownsRow_nil _ _ _ _, HB.out⟩
    · have HC : Hid (cs = [] ∧ R = false) := by
        rcases HR.out with ⟨h, _⟩ | ⟨_, h⟩
        · exact absurd h.2 h2
        · exact h
      go_enter Try.func11, Try.ntmps11
      go_wp2_with fail
      refine (implMapOk_any true lA hlA _ HFA.out HSA.out (by simp [h1])).mono ?_
      rintro e w1 ⟨rfl, hb1⟩
      go_wp2_with fail
      refine (implMapOk_any false lB hlB _ (HFB.out.kept hb1) HSB.out (by simp [h2])).mono ?_
      rintro e w2 ⟨rfl, hb2⟩
      have hbb := hb1.trans (hb2.mono hb1.size)
      clear hb1 hb2
      go_wp2
      go_ret2
      rw [HC.out.1, HC.out.2]
      exact ⟨_, rfl, World.ownsRow_nil _ _ _ _, hbb⟩
  · have HC : Hid (cs = [] ∧ R = false) := by
      rcases HR.out with ⟨h, _⟩ | ⟨_, h⟩
      · exact absurd h.1 h1
      · exact h
    go_enter Try.func11, Try.ntmps11
    go_wp2_with fail
    refine (implMapOk_any false lA hlA _ HFA.out HSA.out (by simp [h1])).mono ?_
    rintro e w1 ⟨rfl, hb1⟩
    go_wp2
    go_ret2
    rw [HC.out.1, HC.out.2]
    exact ⟨_, rfl, World.ownsRow_nil _ _ _ _, hb1⟩
set_option maxHeartbeats 4000000 in
set_option maxRecDepth 100000 in
theorem specBetween_any {aA aB : Option Addr} {gA offA capA gB offB capB : Nat} (lA lB : List PairL) (hlA : lA.length ≤ 2097152) (hlB : lB.length ≤ 2097152) (hsA : ∀ c ∈ lA, smallPair 2097152 c) (hsB : ∀ c ∈ lB, smallPair 2097152 c) (cs : List ChangeL) (R : Bool) (hR : BetR lA lB cs R) (w : World) (hfA : PairAt w aA gA offA lA) (hfB : PairAt w aB gB offB lB) :
    Calls Try.prog 31 #[.slice aA lA.length capA, .slice aB lB.length capB] w fun e w' => ∃ v, e = .returned (.tuple #[v, .bool R]) ∧ w'.ownsRow w.heap.size 65 3 v cs.length (cellsChange cs) ∧ Below w.heap.size w w' := by
  obtain ⟨i0, hi, hz0, hz1, hz2⟩ := info_parts Try.info65
  have HFA : Hid (PairAt w aA gA offA lA) := hfA
  have HFB : Hid (PairAt w aB gB offB lB) := hfB
  have HSA : Hid (∀ c ∈ lA, smallPair 2097152 c) := hsA
  have HSB : Hid (∀ c ∈ lB, smallPair 2097152 c) := hsB
  have HR : Hid (BetR lA lB cs R) := hR
  have hb0 : Below w.heap.size w (w.alloc (Obj.cells #[] 65)) := (Below.refl _ _).alloc (Nat.le_refl _) _
  have HB0 : Hid (PairAt (w.alloc (Obj.cells #[] 65)) aA gA offA lA ∧ PairAt (w.alloc (Obj.cells #[] 65)) aB gB offB lB) := ⟨hfA.kept hb0, hfB.kept hb0⟩
  have HS0 : Hid (RSt w 65 3 (.slice (some ⟨w.heap.size, 0, none⟩) 0 0) 0 [] (w.alloc (Obj.cells #[] 65))) := ⟨own_empty (heap_alloc_new w _) (Nat.le_refl _), hb0⟩
  clear hfA hfB hsA hsB hR hb0
  by_cases h1 : Maps.ok lA
  · by_cases h2 : Maps.ok lB
    · have hA60 := h1.1
      have hB60 := h2.1
      go_enter Try.func31, Try.ntmps31
      go_wp2_with fail
      refine (specMapOk_any true lA hlA _ HB0.out.1 HSA.out (by simp [h1])).mono ?_
      rintro e w1 ⟨rfl, hb1⟩
      have HFB1 : Hid (PairAt w1 aB gB offB lB) := HB0.out.2.kept hb1
      have HS1 : Hid (RSt w 65 3 (.slice (some ⟨w.heap.size, 0, none⟩) 0 0) 0 [] w1) := HS0.out.step hb1
      clear hb1 HB0 HS0
      go_wp2_with fail
      refine (specMapOk_any true lB hlB _ HFB1.out HSB.out (by simp [h2])).mono ?_
      rintro e w2 ⟨rfl, hb2⟩
      have HS2 : Hid (RSt w 65 3 (.slice (some ⟨w.heap.size, 0, none⟩) 0 0) 0 [] w2) := HS1.out.step hb2
      have HOK : Hid (Maps.ok lA ∧ Maps.ok lB) := ⟨h1, h2⟩
      have HLN : Hid ((Maps.between lA lB).length ≤ 120) := Nat.le_trans (Maps.between_len lA lB) (by omega)
      clear h1 h2 hb2 HS1 HFB1
      go_wp2
      go_loopw [6, 7, 8] (fun u x y wr => ∃ (i j : Nat) (v : Value) (pre : List ChangeL), i ≤ lA.length ∧ j ≤ lB.length ∧ x = .int .i64 (i : Int) ∧ y = .int .i64 (j : Int) ∧ v = u ∧ pre ++ Maps.between (lA.drop i) (lB.drop j) = Maps.between lA lB ∧ RSt w 65 3 v pre.length (cellsChange pre) wr)
        (fun _ x y _ => (lA.length - (intOf x).toNat) + (lB.length - (intOf y).toNat))
      case atStart => exact ⟨0, 0, _, [], Nat.zero_le _, Nat.zero_le _, rfl, rfl, rfl, rfl, HS2.out⟩
      case round =>
        obtain ⟨i, j, v, pre, hiA, hjB, rfl, rfl, rfl, heq, hrs⟩ := hrel
        have HEQ : Hid (pre ++ Maps.between (lA.drop i) (lB.drop j) = Maps.between lA lB) := heq
        have HS : Hid (RSt w 65 3 v pre.length (cellsChange pre) wr) := hrs
        have hpb : pre.length ≤ 120 := by have h1 := HLN.out; rw [← HEQ.out, List.length_append] at h1; omega
        have hpl : pre.length + 1 ≤ maxLen := by unfold maxLen; omega
        have hby : (pre.length + 1) * 40 ≤ 140737488355328 := by omega
        clear heq hrs HS2
        obtain ⟨va, vc, rfl⟩ := own_slice HS.out.own
        by_cases hA : i < lA.length
        · by_cases hB : j < lB.length
          · skip
            obtain ⟨a0, a1⟩ := (HFA.out.kept HS.out.below).2 i hA
            have eA := HFA.out.1 (by omega)
            subst eA
            have hgA : gA < wr.heap.size := World.block_lt_of_cell? wr _ a0
            obtain ⟨A, qA⟩ : ∃ A, A = lA[i].key := ⟨_, rfl⟩
            obtain ⟨V, qV⟩ : ∃ V, V = lA[i].value := ⟨_, rfl⟩
            have HEA : Hid (lA[i] = ⟨A, V⟩) := by show _ = _; rw [qA, qV]
            rw [← qA] at a0
            rw [← qV] at a1
            clear qA qV
            have iA0 : (0 : Int) ≤ (i : Int) := by omega
            have iA1 : (i : Int) < (lA.length : Int) := by omega
            have iA3 : ((i : Int) == (lA.length : Int)) = false := beq_eq_false_iff_ne.2 (by omega)
            obtain ⟨b0, b1⟩ := (HFB.out.kept HS.out.below).2 j hB
            have eB := HFB.out.1 (by omega)
            subst eB
            have hgB : gB < wr.heap.size := World.block_lt_of_cell? wr _ b0
            obtain ⟨B, qB⟩ : ∃ B, B = lB[j].key := ⟨_, rfl⟩
            obtain ⟨U, qU⟩ : ∃ U, U = lB[j].value := ⟨_, rfl⟩
            have HEB : Hid (lB[j] = ⟨B, U⟩) := by show _ = _; rw [qB, qU]
            rw [← qB] at b0
            rw [← qU] at b1
            clear qB qU
            have jB0 : (0 : Int) ≤ (j : Int) := by omega
            have jB1 : (j : Int) < (lB.length : Int) := by omega
            have jB3 : ((j : Int) == (lB.length : Int)) = false := beq_eq_false_iff_ne.2 (by omega)
            by_cases h1 : Batches.lt A B = true
            · skip
              have hab : Op.bytesLess A.toList B.toList = true := h1
              have HCASE : Hid (Maps.between (lA.drop i) (lB.drop j) = Maps.del ⟨A, V⟩ :: Maps.between (lA.drop (i + 1)) (lB.drop j)) := by
                show _ = _
                rw [drop_at hA, drop_at hB, HEA.out, HEB.out, Maps.between]
                simp only
                rw [if_pos h1, ← HEB.out, ← drop_at hB]
              clear h1
              go_wp2_with fail
              have NE := Abv.ne wr
              have Fa0 := fun x : Abv wr => x.cell a0
              have Fa1 := fun x : Abv wr => x.cell a1
              have Fb0 := fun x : Abv wr => x.cell b0
              have Fb1 := fun x : Abv wr => x.cell b1
              refine wp_region_above (by kernel_rfl) (by kernel_rfl) ?_
              repeat (go_big_quiet_step (fail))
              refine wpQuiet_nil ?_
              rintro w1 ⟨⟨_, hb1⟩, rfl⟩
              clear NE Fa0 Fa1 Fb0 Fb1
              have S1 : Hid (RSt w 65 3 (.slice va pre.length vc) pre.length (cellsChange pre) w1) := HS.out.step hb1
              have a01 := (hb1.cell (p := ⟨gA, offA + i * 2, none⟩) hgA).trans a0
              have a11 := (hb1.cell (p := ⟨gA, offA + i * 2 + 1, none⟩) hgA).trans a1
              have b01 := (hb1.cell (p := ⟨gB, offB + j * 2, none⟩) hgB).trans b0
              have b11 := (hb1.cell (p := ⟨gB, offB + j * 2 + 1, none⟩) hgB).trans b1
              have hgA1 : gA < w1.heap.size := Nat.lt_of_lt_of_le hgA hb1.size
              have hgB1 : gB < w1.heap.size := Nat.lt_of_lt_of_le hgB hb1.size
              clear hb1 a0 a1 b0 b1 HS
              go_wp2_with (at_builtin; refine wpList_append_lies _ rfl _ _ 27 rfl w.heap.size 65 i0 (.agg #[.string ByteArray.empty, .string ByteArray.empty, .bool false]) 3 40 Try.underlying27 hi hz0 hz1 hz2 rfl (Nat.zero_lt_succ _) _ pre.length (cellsChange pre) rfl ((S1.out.alloc _).own) ⟨w1.heap.size, 0, none⟩ 1 1 [.string A, .string ⟨#[]⟩, .bool true] rfl rfl (World.news_of_block (cs := #[.string A, .string ⟨#[]⟩, .bool true]) (t := 65) (fr := (0, 0)) (heap_alloc_new w1 _)) (change_news ⟨A, ⟨#[]⟩, true⟩) (Nat.zero_lt_succ _) hpl hby (by have h2 := S1.out.below.size; simp; omega) (w1.heap.size + 1) (by simp) ?_; intro g2 cap2 w8 hown8 hgrow hat hlt8)
              have S9 : Hid (RSt w 65 3 (.slice (some ⟨g2, 0, none⟩) (pre.length + 1) cap2) (pre.length + 1) (cellsChange pre ++ [.string A, .string ⟨#[]⟩, .bool true]) w8) := (S1.out.alloc _).app hgrow hown8
              clear hown8 hgrow hat hlt8 S1
              go_roundw
              case rel =>
                refine ⟨i + 1, j, _, pre ++ [⟨A, ⟨#[]⟩, true⟩], by omega, by omega, by first | rfl | go_num, by first | rfl | go_num, rfl, ?_, ?_⟩
                · rw [List.append_assoc, ← HEQ.out, HCASE.out]; rfl
                · rw [List.length_append, cellsChange_app]; exact S9.out
              case measure => simp [intOf]; omega
            · by_cases h2 : Batches.lt B A = true
              · skip
                have hab : Op.bytesLess A.toList B.toList = false := by simpa [Batches.lt] using h1
                have hle := le_of_lt h2
                have hne : (A.toList == B.toList) = false := (Maps.same_lt h2).2
                have HCASE : Hid (Maps.between (lA.drop i) (lB.drop j) = Maps.put ⟨B, U⟩ :: Maps.between (lA.drop i) (lB.drop (j + 1))) := by
                  show _ = _
                  rw [drop_at hA, drop_at hB, HEA.out, HEB.out, Maps.between]
                  simp only
                  rw [if_neg h1, if_pos h2, ← HEA.out, ← drop_at hA]
                clear h1 h2
                go_wp2_with fail
                have NE := Abv.ne wr
                have Fa0 := fun x : Abv wr => x.cell a0
                have Fa1 := fun x : Abv wr => x.cell a1
                have Fb0 := fun x : Abv wr => x.cell b0
                have Fb1 := fun x : Abv wr => x.cell b1
                refine wp_region_above (by kernel_rfl) (by kernel_rfl) ?_
                repeat (go_big_quiet_step (fail))
                refine wpQuiet_nil ?_
                rintro w1 ⟨⟨_, hb1⟩, rfl⟩
                clear NE Fa0 Fa1 Fb0 Fb1
                have S1 : Hid (RSt w 65 3 (.slice va pre.length vc) pre.length (cellsChange pre) w1) := HS.out.step hb1
                have a01 := (hb1.cell (p := ⟨gA, offA + i * 2, none⟩) hgA).trans a0
                have a11 := (hb1.cell (p := ⟨gA, offA + i * 2 + 1, none⟩) hgA).trans a1
                have b01 := (hb1.cell (p := ⟨gB, offB + j * 2, none⟩) hgB).trans b0
                have b11 := (hb1.cell (p := ⟨gB, offB + j * 2 + 1, none⟩) hgB).trans b1
                have hgA1 : gA < w1.heap.size := Nat.lt_of_lt_of_le hgA hb1.size
                have hgB1 : gB < w1.heap.size := Nat.lt_of_lt_of_le hgB hb1.size
                clear hb1 a0 a1 b0 b1 HS
                go_wp2_with fail
                have NE := Abv.ne w1
                have Fa0 := fun x : Abv w1 => x.cell a01
                have Fa1 := fun x : Abv w1 => x.cell a11
                have Fb0 := fun x : Abv w1 => x.cell b01
                have Fb1 := fun x : Abv w1 => x.cell b11
                refine wp_region_above (by kernel_rfl) (by kernel_rfl) ?_
                repeat (go_big_quiet_step (fail))
                refine wpQuiet_nil ?_
                rintro w2 ⟨⟨_, hb2⟩, rfl⟩
                clear NE Fa0 Fa1 Fb0 Fb1
                have S2 : Hid (RSt w 65 3 (.slice va pre.length vc) pre.length (cellsChange pre) w2) := S1.out.step hb2
                have a02 := (hb2.cell (p := ⟨gA, offA + i * 2, none⟩) hgA1).trans a01
                have a12 := (hb2.cell (p := ⟨gA, offA + i * 2 + 1, none⟩) hgA1).trans a11
                have b02 := (hb2.cell (p := ⟨gB, offB + j * 2, none⟩) hgB1).trans b01
                have b12 := (hb2.cell (p := ⟨gB, offB + j * 2 + 1, none⟩) hgB1).trans b11
                have hgA2 : gA < w2.heap.size := Nat.lt_of_lt_of_le hgA1 hb2.size
                have hgB2 : gB < w2.heap.size := Nat.lt_of_lt_of_le hgB1 hb2.size
                clear hb2 a01 a11 b01 b11 S1
                go_wp2_with fail
                go_region_law (refine step_append_lies _ (by rfl) _ _ _ (by rfl) w.heap.size 65 i0 _ 3 40 Try.underlying27 hi hz0 hz1 hz2 rfl (Nat.zero_lt_succ _) _ pre.length (cellsChange pre) (by rfl) ((S2.out.alloc _).drew.own) ⟨w2.heap.size, 0, none⟩ 1 1 [.string B, .string U, .bool false] (by rfl) (by rfl) (World.news_of_block (cs := #[.string B, .string U, .bool false]) (t := 65) (fr := (0, 0)) (heap_alloc_new w2 _)) (change_news ⟨B, U, false⟩) (Nat.zero_lt_succ _) hpl hby (by have h2 := S2.out.below.size; simp; omega) (w2.heap.size + 1) (Array.size_push ..) ?_; intro g2 cap2 w8 hown8 hgrow hat hlt8)
                all_goals
                  have S9 : Hid (RSt w 65 3 (.slice (some ⟨g2, 0, none⟩) (pre.length + 1) cap2) (pre.length + 1) (cellsChange pre ++ [.string B, .string U, .bool false]) w8) := (S2.out.alloc _).drew.app hgrow hown8
                  clear hown8 hgrow hat hlt8 S2
                  go_wp2
                  go_roundw
                  case rel =>
                    refine ⟨i, j + 1, _, pre ++ [⟨B, U, false⟩], by omega, by omega, by first | rfl | go_num, by first | rfl | go_num, rfl, ?_, ?_⟩
                    · rw [List.append_assoc, ← HEQ.out, HCASE.out]; rfl
                    · rw [List.length_append, cellsChange_app]; exact S9.out
                  case measure => simp [intOf]; omega
              · skip
                have hab : Op.bytesLess A.toList B.toList = false := by simpa [Batches.lt] using h1
                have hle := le_of_not h2
                have hne : (A.toList == B.toList) = true := (Maps.same_iff A B).2 (Maps.eq_of_not h1 h2)
                have H12 : Hid (¬ Batches.lt A B = true ∧ ¬ Batches.lt B A = true) := ⟨h1, h2⟩
                clear h1 h2
                cases hsv : Maps.same V U with
                | true =>
                  have HCASE : Hid (Maps.between (lA.drop i) (lB.drop j) = Maps.between (lA.drop (i + 1)) (lB.drop (j + 1))) := by
                    show _ = _
                    rw [drop_at hA, drop_at hB, HEA.out, HEB.out, Maps.between]
                    simp only
                    rw [if_neg H12.out.1, if_neg H12.out.2, if_pos hsv]
                  have hq : (V.toList == U.toList) = true := hsv
                  clear hsv
                  go_wp2_with fail
                  have NE := Abv.ne wr
                  have Fa0 := fun x : Abv wr => x.cell a0
                  have Fa1 := fun x : Abv wr => x.cell a1
                  have Fb0 := fun x : Abv wr => x.cell b0
                  have Fb1 := fun x : Abv wr => x.cell b1
                  refine wp_region_above (by kernel_rfl) (by kernel_rfl) ?_
                  repeat (go_big_quiet_step (fail))
                  refine wpQuiet_nil ?_
                  rintro w1 ⟨⟨_, hb1⟩, rfl⟩
                  clear NE Fa0 Fa1 Fb0 Fb1
                  have S1 : Hid (RSt w 65 3 (.slice va pre.length vc) pre.length (cellsChange pre) w1) := HS.out.step hb1
                  have a01 := (hb1.cell (p := ⟨gA, offA + i * 2, none⟩) hgA).trans a0
                  have a11 := (hb1.cell (p := ⟨gA, offA + i * 2 + 1, none⟩) hgA).trans a1
                  have b01 := (hb1.cell (p := ⟨gB, offB + j * 2, none⟩) hgB).trans b0
                  have b11 := (hb1.cell (p := ⟨gB, offB + j * 2 + 1, none⟩) hgB).trans b1
                  have hgA1 : gA < w1.heap.size := Nat.lt_of_lt_of_le hgA hb1.size
                  have hgB1 : gB < w1.heap.size := Nat.lt_of_lt_of_le hgB hb1.size
                  clear hb1 a0 a1 b0 b1 HS
                  go_wp2_with fail
                  have NE := Abv.ne w1
                  have Fa0 := fun x : Abv w1 => x.cell a01
                  have Fa1 := fun x : Abv w1 => x.cell a11
                  have Fb0 := fun x : Abv w1 => x.cell b01
                  have Fb1 := fun x : Abv w1 => x.cell b11
                  refine wp_region_above (by kernel_rfl) (by kernel_rfl) ?_
                  repeat (go_big_quiet_step (fail))
                  refine wpQuiet_nil ?_
                  rintro w2 ⟨⟨_, hb2⟩, rfl⟩
                  clear NE Fa0 Fa1 Fb0 Fb1
                  have S2 : Hid (RSt w 65 3 (.slice va pre.length vc) pre.length (cellsChange pre) w2) := S1.out.step hb2
                  have a02 := (hb2.cell (p := ⟨gA, offA + i * 2, none⟩) hgA1).trans a01
                  have a12 := (hb2.cell (p := ⟨gA, offA + i * 2 + 1, none⟩) hgA1).trans a11
                  have b02 := (hb2.cell (p := ⟨gB, offB + j * 2, none⟩) hgB1).trans b01
                  have b12 := (hb2.cell (p := ⟨gB, offB + j * 2 + 1, none⟩) hgB1).trans b11
                  have hgA2 : gA < w2.heap.size := Nat.lt_of_lt_of_le hgA1 hb2.size
                  have hgB2 : gB < w2.heap.size := Nat.lt_of_lt_of_le hgB1 hb2.size
                  clear hb2 a01 a11 b01 b11 S1
                  go_wp2_with fail
                  have NE := Abv.ne w2
                  have Fa0 := fun x : Abv w2 => x.cell a02
                  have Fa1 := fun x : Abv w2 => x.cell a12
                  have Fb0 := fun x : Abv w2 => x.cell b02
                  have Fb1 := fun x : Abv w2 => x.cell b12
                  refine wp_region_above (by kernel_rfl) (by kernel_rfl) ?_
                  repeat (go_big_quiet_step (fail))
                  refine wpQuiet_nil ?_
                  rintro w3 ⟨⟨_, hb3⟩, rfl⟩
                  clear NE Fa0 Fa1 Fb0 Fb1
                  have S3 : Hid (RSt w 65 3 (.slice va pre.length vc) pre.length (cellsChange pre) w3) := S2.out.step hb3
                  have a03 := (hb3.cell (p := ⟨gA, offA + i * 2, none⟩) hgA2).trans a02
                  have a13 := (hb3.cell (p := ⟨gA, offA + i * 2 + 1, none⟩) hgA2).trans a12
                  have b03 := (hb3.cell (p := ⟨gB, offB + j * 2, none⟩) hgB2).trans b02
                  have b13 := (hb3.cell (p := ⟨gB, offB + j * 2 + 1, none⟩) hgB2).trans b12
                  have hgA3 : gA < w3.heap.size := Nat.lt_of_lt_of_le hgA2 hb3.size
                  have hgB3 : gB < w3.heap.size := Nat.lt_of_lt_of_le hgB2 hb3.size
                  clear hb3 a02 a12 b02 b12 S2
                  go_wp2
                  go_roundw
                  case rel => exact ⟨i + 1, j + 1, _, pre, by omega, by omega, by first | rfl | go_num, by first | rfl | go_num, rfl, by rw [← HEQ.out, HCASE.out], S3.out⟩
                  case measure => simp [intOf]; omega
                | false =>
                  have HCASE : Hid (Maps.between (lA.drop i) (lB.drop j) = Maps.put ⟨B, U⟩ :: Maps.between (lA.drop (i + 1)) (lB.drop (j + 1))) := by
                    show _ = _
                    rw [drop_at hA, drop_at hB, HEA.out, HEB.out, Maps.between]
                    simp only
                    rw [if_neg H12.out.1, if_neg H12.out.2, if_neg (by rw [hsv]; simp)]
                  have hq : (V.toList == U.toList) = false := hsv
                  clear hsv
                  go_wp2_with fail
                  have NE := Abv.ne wr
                  have Fa0 := fun x : Abv wr => x.cell a0
                  have Fa1 := fun x : Abv wr => x.cell a1
                  have Fb0 := fun x : Abv wr => x.cell b0
                  have Fb1 := fun x : Abv wr => x.cell b1
                  refine wp_region_above (by kernel_rfl) (by kernel_rfl) ?_
                  repeat (go_big_quiet_step (fail))
                  refine wpQuiet_nil ?_
                  rintro w1 ⟨⟨_, hb1⟩, rfl⟩
                  clear NE Fa0 Fa1 Fb0 Fb1
                  have S1 : Hid (RSt w 65 3 (.slice va pre.length vc) pre.length (cellsChange pre) w1) := HS.out.step hb1
                  have a01 := (hb1.cell (p := ⟨gA, offA + i * 2, none⟩) hgA).trans a0
                  have a11 := (hb1.cell (p := ⟨gA, offA + i * 2 + 1, none⟩) hgA).trans a1
                  have b01 := (hb1.cell (p := ⟨gB, offB + j * 2, none⟩) hgB).trans b0
                  have b11 := (hb1.cell (p := ⟨gB, offB + j * 2 + 1, none⟩) hgB).trans b1
                  have hgA1 : gA < w1.heap.size := Nat.lt_of_lt_of_le hgA hb1.size
                  have hgB1 : gB < w1.heap.size := Nat.lt_of_lt_of_le hgB hb1.size
                  clear hb1 a0 a1 b0 b1 HS
                  go_wp2_with fail
                  have NE := Abv.ne w1
                  have Fa0 := fun x : Abv w1 => x.cell a01
                  have Fa1 := fun x : Abv w1 => x.cell a11
                  have Fb0 := fun x : Abv w1 => x.cell b01
                  have Fb1 := fun x : Abv w1 => x.cell b11
                  refine wp_region_above (by kernel_rfl) (by kernel_rfl) ?_
                  repeat (go_big_quiet_step (fail))
                  refine wpQuiet_nil ?_
                  rintro w2 ⟨⟨_, hb2⟩, rfl⟩
                  clear NE Fa0 Fa1 Fb0 Fb1
                  have S2 : Hid (RSt w 65 3 (.slice va pre.length vc) pre.length (cellsChange pre) w2) := S1.out.step hb2
                  have a02 := (hb2.cell (p := ⟨gA, offA + i * 2, none⟩) hgA1).trans a01
                  have a12 := (hb2.cell (p := ⟨gA, offA + i * 2 + 1, none⟩) hgA1).trans a11
                  have b02 := (hb2.cell (p := ⟨gB, offB + j * 2, none⟩) hgB1).trans b01
                  have b12 := (hb2.cell (p := ⟨gB, offB + j * 2 + 1, none⟩) hgB1).trans b11
                  have hgA2 : gA < w2.heap.size := Nat.lt_of_lt_of_le hgA1 hb2.size
                  have hgB2 : gB < w2.heap.size := Nat.lt_of_lt_of_le hgB1 hb2.size
                  clear hb2 a01 a11 b01 b11 S1
                  go_wp2_with fail
                  have NE := Abv.ne w2
                  have Fa0 := fun x : Abv w2 => x.cell a02
                  have Fa1 := fun x : Abv w2 => x.cell a12
                  have Fb0 := fun x : Abv w2 => x.cell b02
                  have Fb1 := fun x : Abv w2 => x.cell b12
                  refine wp_region_above (by kernel_rfl) (by kernel_rfl) ?_
                  repeat (go_big_quiet_step (fail))
                  refine wpQuiet_nil ?_
                  rintro w3 ⟨⟨_, hb3⟩, rfl⟩
                  clear NE Fa0 Fa1 Fb0 Fb1
                  have S3 : Hid (RSt w 65 3 (.slice va pre.length vc) pre.length (cellsChange pre) w3) := S2.out.step hb3
                  have a03 := (hb3.cell (p := ⟨gA, offA + i * 2, none⟩) hgA2).trans a02
                  have a13 := (hb3.cell (p := ⟨gA, offA + i * 2 + 1, none⟩) hgA2).trans a12
                  have b03 := (hb3.cell (p := ⟨gB, offB + j * 2, none⟩) hgB2).trans b02
                  have b13 := (hb3.cell (p := ⟨gB, offB + j * 2 + 1, none⟩) hgB2).trans b12
                  have hgA3 : gA < w3.heap.size := Nat.lt_of_lt_of_le hgA2 hb3.size
                  have hgB3 : gB < w3.heap.size := Nat.lt_of_lt_of_le hgB2 hb3.size
                  clear hb3 a02 a12 b02 b12 S2
                  go_wp2_with fail
                  go_region_law (refine step_append_lies _ (by rfl) _ _ _ (by rfl) w.heap.size 65 i0 _ 3 40 Try.underlying27 hi hz0 hz1 hz2 rfl (Nat.zero_lt_succ _) _ pre.length (cellsChange pre) (by rfl) ((S3.out.alloc _).drew.own) ⟨w3.heap.size, 0, none⟩ 1 1 [.string B, .string U, .bool false] (by rfl) (by rfl) (World.news_of_block (cs := #[.string B, .string U, .bool false]) (t := 65) (fr := (0, 0)) (heap_alloc_new w3 _)) (change_news ⟨B, U, false⟩) (Nat.zero_lt_succ _) hpl hby (by have h2 := S3.out.below.size; simp; omega) (w3.heap.size + 1) (Array.size_push ..) ?_; intro g2 cap2 w8 hown8 hgrow hat hlt8)
                  all_goals
                    have S9 : Hid (RSt w 65 3 (.slice (some ⟨g2, 0, none⟩) (pre.length + 1) cap2) (pre.length + 1) (cellsChange pre ++ [.string B, .string U, .bool false]) w8) := (S3.out.alloc _).drew.app hgrow hown8
                    clear hown8 hgrow hat hlt8 S3
                    go_wp2
                    go_roundw
                    case rel =>
                      refine ⟨i + 1, j + 1, _, pre ++ [⟨B, U, false⟩], by omega, by omega, by first | rfl | go_num, by first | rfl | go_num, rfl, ?_, ?_⟩
                      · rw [List.append_assoc, ← HEQ.out, HCASE.out]; rfl
                      · rw [List.length_append, cellsChange_app]; exact S9.out
                    case measure => simp [intOf]; omega
          · obtain rfl : j = lB.length := by omega
            obtain ⟨a0, a1⟩ := (HFA.out.kept HS.out.below).2 i hA
            have eA := HFA.out.1 (by omega)
            subst eA
            have hgA : gA < wr.heap.size := World.block_lt_of_cell? wr _ a0
            obtain ⟨A, qA⟩ : ∃ A, A = lA[i].key := ⟨_, rfl⟩
            obtain ⟨V, qV⟩ : ∃ V, V = lA[i].value := ⟨_, rfl⟩
            have HEA : Hid (lA[i] = ⟨A, V⟩) := by show _ = _; rw [qA, qV]
            rw [← qA] at a0
            rw [← qV] at a1
            clear qA qV
            have iA0 : (0 : Int) ≤ (i : Int) := by omega
            have iA1 : (i : Int) < (lA.length : Int) := by omega
            have iA3 : ((i : Int) == (lA.length : Int)) = false := beq_eq_false_iff_ne.2 (by omega)
            clear hB
            have HCASE : Hid (Maps.between (lA.drop i) (lB.drop lB.length) = Maps.del ⟨A, V⟩ :: Maps.between (lA.drop (i + 1)) (lB.drop lB.length)) := by
              show _ = _
              rw [drop_at hA, drop_end, HEA.out, Maps.between]
            go_wp2_with fail
            have NE := Abv.ne wr
            have Fa0 := fun x : Abv wr => x.cell a0
            have Fa1 := fun x : Abv wr => x.cell a1
            refine wp_region_above (by kernel_rfl) (by kernel_rfl) ?_
            repeat (go_big_quiet_step (fail))
            refine wpQuiet_nil ?_
            rintro w1 ⟨⟨_, hb1⟩, rfl⟩
            clear NE Fa0 Fa1
            have S1 : Hid (RSt w 65 3 (.slice va pre.length vc) pre.length (cellsChange pre) w1) := HS.out.step hb1
            have a01 := (hb1.cell (p := ⟨gA, offA + i * 2, none⟩) hgA).trans a0
            have a11 := (hb1.cell (p := ⟨gA, offA + i * 2 + 1, none⟩) hgA).trans a1
            have hgA1 : gA < w1.heap.size := Nat.lt_of_lt_of_le hgA hb1.size
            clear hb1 a0 a1 HS
            go_wp2_with (at_builtin; refine wpList_append_lies _ rfl _ _ 27 rfl w.heap.size 65 i0 (.agg #[.string ByteArray.empty, .string ByteArray.empty, .bool false]) 3 40 Try.underlying27 hi hz0 hz1 hz2 rfl (Nat.zero_lt_succ _) _ pre.length (cellsChange pre) rfl ((S1.out.alloc _).own) ⟨w1.heap.size, 0, none⟩ 1 1 [.string A, .string ⟨#[]⟩, .bool true] rfl rfl (World.news_of_block (cs := #[.string A, .string ⟨#[]⟩, .bool true]) (t := 65) (fr := (0, 0)) (heap_alloc_new w1 _)) (change_news ⟨A, ⟨#[]⟩, true⟩) (Nat.zero_lt_succ _) hpl hby (by have h2 := S1.out.below.size; simp; omega) (w1.heap.size + 1) (by simp) ?_; intro g2 cap2 w8 hown8 hgrow hat hlt8)
            have S9 : Hid (RSt w 65 3 (.slice (some ⟨g2, 0, none⟩) (pre.length + 1) cap2) (pre.length + 1) (cellsChange pre ++ [.string A, .string ⟨#[]⟩, .bool true]) w8) := (S1.out.alloc _).app hgrow hown8
            clear hown8 hgrow hat hlt8 S1
            go_roundw
            case rel =>
              refine ⟨i + 1, lB.length, _, pre ++ [⟨A, ⟨#[]⟩, true⟩], by omega, by omega, by first | rfl | go_num, by first | rfl | go_num, rfl, ?_, ?_⟩
              · rw [List.append_assoc, ← HEQ.out, HCASE.out]; rfl
              · rw [List.length_append, cellsChange_app]; exact S9.out
            case measure => simp [intOf]; omega
        · obtain rfl : i = lA.length := by omega
          clear hA
          by_cases hB : j < lB.length
          · skip
            obtain ⟨b0, b1⟩ := (HFB.out.kept HS.out.below).2 j hB
            have eB := HFB.out.1 (by omega)
            subst eB
            have hgB : gB < wr.heap.size := World.block_lt_of_cell? wr _ b0
            obtain ⟨B, qB⟩ : ∃ B, B = lB[j].key := ⟨_, rfl⟩
            obtain ⟨U, qU⟩ : ∃ U, U = lB[j].value := ⟨_, rfl⟩
            have HEB : Hid (lB[j] = ⟨B, U⟩) := by show _ = _; rw [qB, qU]
            rw [← qB] at b0
            rw [← qU] at b1
            clear qB qU
            have jB0 : (0 : Int) ≤ (j : Int) := by omega
            have jB1 : (j : Int) < (lB.length : Int) := by omega
            have jB3 : ((j : Int) == (lB.length : Int)) = false := beq_eq_false_iff_ne.2 (by omega)
            have HCASE : Hid (Maps.between (lA.drop lA.length) (lB.drop j) = Maps.put ⟨B, U⟩ :: Maps.between (lA.drop lA.length) (lB.drop (j + 1))) := by
              show _ = _
              rw [drop_at hB, drop_end, HEB.out, Maps.between]
            go_wp2_with fail
            have NE := Abv.ne wr
            have Fb0 := fun x : Abv wr => x.cell b0
            have Fb1 := fun x : Abv wr => x.cell b1
            refine wp_region_above (by kernel_rfl) (by kernel_rfl) ?_
            repeat (go_big_quiet_step (fail))
            refine wpQuiet_nil ?_
            rintro w1 ⟨⟨_, hb1⟩, rfl⟩
            clear NE Fb0 Fb1
            have S1 : Hid (RSt w 65 3 (.slice va pre.length vc) pre.length (cellsChange pre) w1) := HS.out.step hb1
            have b01 := (hb1.cell (p := ⟨gB, offB + j * 2, none⟩) hgB).trans b0
            have b11 := (hb1.cell (p := ⟨gB, offB + j * 2 + 1, none⟩) hgB).trans b1
            have hgB1 : gB < w1.heap.size := Nat.lt_of_lt_of_le hgB hb1.size
            clear hb1 b0 b1 HS
            go_wp2_with fail
            have NE := Abv.ne w1
            have Fb0 := fun x : Abv w1 => x.cell b01
            have Fb1 := fun x : Abv w1 => x.cell b11
            refine wp_region_above (by kernel_rfl) (by kernel_rfl) ?_
            repeat (go_big_quiet_step (fail))
            refine wpQuiet_nil ?_
            rintro w2 ⟨⟨_, hb2⟩, rfl⟩
            clear NE Fb0 Fb1
            have S2 : Hid (RSt w 65 3 (.slice va pre.length vc) pre.length (cellsChange pre) w2) := S1.out.step hb2
            have b02 := (hb2.cell (p := ⟨gB, offB + j * 2, none⟩) hgB1).trans b01
            have b12 := (hb2.cell (p := ⟨gB, offB + j * 2 + 1, none⟩) hgB1).trans b11
            have hgB2 : gB < w2.heap.size := Nat.lt_of_lt_of_le hgB1 hb2.size
            clear hb2 b01 b11 S1
            go_wp2_with fail
            go_region_law (refine step_append_lies _ (by rfl) _ _ _ (by rfl) w.heap.size 65 i0 _ 3 40 Try.underlying27 hi hz0 hz1 hz2 rfl (Nat.zero_lt_succ _) _ pre.length (cellsChange pre) (by rfl) ((S2.out.alloc _).drew.own) ⟨w2.heap.size, 0, none⟩ 1 1 [.string B, .string U, .bool false] (by rfl) (by rfl) (World.news_of_block (cs := #[.string B, .string U, .bool false]) (t := 65) (fr := (0, 0)) (heap_alloc_new w2 _)) (change_news ⟨B, U, false⟩) (Nat.zero_lt_succ _) hpl hby (by have h2 := S2.out.below.size; simp; omega) (w2.heap.size + 1) (Array.size_push ..) ?_; intro g2 cap2 w8 hown8 hgrow hat hlt8)
            all_goals
              have S9 : Hid (RSt w 65 3 (.slice (some ⟨g2, 0, none⟩) (pre.length + 1) cap2) (pre.length + 1) (cellsChange pre ++ [.string B, .string U, .bool false]) w8) := (S2.out.alloc _).drew.app hgrow hown8
              clear hown8 hgrow hat hlt8 S2
              go_wp2
              go_roundw
              case rel =>
                refine ⟨lA.length, j + 1, _, pre ++ [⟨B, U, false⟩], by omega, by omega, by first | rfl | go_num, by first | rfl | go_num, rfl, ?_, ?_⟩
                · rw [List.append_assoc, ← HEQ.out, HCASE.out]; rfl
                · rw [List.length_append, cellsChange_app]; exact S9.out
              case measure => simp [intOf]; omega
          · obtain rfl : j = lB.length := by omega
            have HE : Hid (pre = Maps.between lA lB) := by
              show _ = _
              rw [← HEQ.out, drop_end, drop_end, Maps.between, List.append_nil]
            clear hB
            by_cases h60 : pre.length ≤ 60
            · have hg : ¬ (60 : Int) < (pre.length : Int) := by omega
              have HC : Hid (cs = pre ∧ R = true) := by
                rcases HR.out with ⟨_, _, hc, hr⟩ | ⟨h, _⟩
                · exact ⟨by rw [hc, HE.out], hr⟩
                · exact absurd ⟨HOK.out, by rw [← HE.out]; exact h60⟩ h
              go_wp2
              go_ret2
              rw [HC.out.1, HC.out.2]
              exact ⟨_, rfl, HS.out.own, HS.out.below⟩
            · have hg : (60 : Int) < (pre.length : Int) := by omega
              have HC : Hid (cs = [] ∧ R = false) := by
                rcases HR.out with ⟨_, h, _⟩ | ⟨_, h⟩
                · rw [← HE.out] at h; exact absurd h h60
                · exact h
              go_wp2
              go_ret2
              rw [HC.out.1, HC.out.2]
              exact ⟨_, rfl, own_empty (heap_alloc_new wr _) HS.out.below.size, (HS.out.alloc _).below⟩
    · have HC : Hid (cs = [] ∧ R = false) := by
        rcases HR.out with ⟨h, _⟩ | ⟨_, h⟩
        · exact absurd h.2 h2
        · exact h
      go_enter Try.func31, Try.ntmps31
      go_wp2_with fail
      refine (specMapOk_any true lA hlA _ HB0.out.1 HSA.out (by simp [h1])).mono ?_
      rintro e w1 ⟨rfl, hb1⟩
      have HFB1 : Hid (PairAt w1 aB gB offB lB) := HB0.out.2.kept hb1
      have HS1 : Hid (RSt w 65 3 (.slice (some ⟨w.heap.size, 0, none⟩) 0 0) 0 [] w1) := HS0.out.step hb1
      clear hb1 HB0 HS0
      go_wp2_with fail
      refine (specMapOk_any false lB hlB _ HFB1.out HSB.out (by simp [h2])).mono ?_
      rintro e w2 ⟨rfl, hb2⟩
      have HS2 : Hid (RSt w 65 3 (.slice (some ⟨w.heap.size, 0, none⟩) 0 0) 0 [] w2) := HS1.out.step hb2
      clear hb2
      go_wp2
      go_ret2
      rw [HC.out.1, HC.out.2]
      exact ⟨_, rfl, HS2.out.own, HS2.out.below⟩
  · have HC : Hid (cs = [] ∧ R = false) := by
      rcases HR.out with ⟨h, _⟩ | ⟨_, h⟩
      · exact absurd h.1 h1
      · exact h
    go_enter Try.func31, Try.ntmps31
    go_wp2_with fail
    refine (specMapOk_any false lA hlA _ HB0.out.1 HSA.out (by simp [h1])).mono ?_
    rintro e w1 ⟨rfl, hb1⟩
    have HS1 : Hid (RSt w 65 3 (.slice (some ⟨w.heap.size, 0, none⟩) 0 0) 0 [] w1) := HS0.out.step hb1
    clear hb1
    go_wp2
    go_ret2
    rw [HC.out.1, HC.out.2]
    exact ⟨_, rfl, HS1.out.own, HS1.out.below⟩
end Go.Proofs.Ytijopmkcaoefjaa
