/- The call of the program's sideBySide over a map and changes, walked. Made by program. -/
import Derived.Test.YtpedpdgkbmpfjaaDoorComes2
namespace Go.Proofs.YtpedpdgkbmpfjaaDoor
open Go.RowKit
set_option linter.unusedVariables false
set_option maxHeartbeats 4000000 in
set_option maxRecDepth 100000 in
theorem sideDo_is {aA aB : Option Addr} {gA offA capA gB offB capB : Nat} (lA : List PairL) (lB : List ChangeL) (hlA : lA.length ≤ 60) (hlB : lB.length ≤ 60) (hsA : ∀ c ∈ lA, smallPair 2097152 c) (hsB : ∀ c ∈ lB, smallChange 2097152 c) (w : World) (hfA : PairAt w aA gA offA lA) (hfB : ChangeAt w aB gB offB lB) :
    Calls Tryd.prog 78 #[.slice aA lA.length capA, .slice aB lB.length capB, .func (.func 79) #[] #[], .func (.func 80) #[] #[]] w fun e w' => ∃ v, e = .returned v ∧ w'.ownsRow w.heap.size 48 2 v (Maps.doing lA lB).length (cellsPair (Maps.doing lA lB)) ∧ Below w.heap.size w w' := by
  obtain ⟨i0, hi, hz0, hz1, hz2⟩ := info_parts Tryd.info48
  have HFA : Hid (PairAt w aA gA offA lA) := hfA
  have HFB : Hid (ChangeAt w aB gB offB lB) := hfB
  have HSS : Hid ((∀ c ∈ lA, smallPair 2097152 c) ∧ (∀ c ∈ lB, smallChange 2097152 c)) := ⟨hsA, hsB⟩
  have HLN : Hid ((Maps.doing lA lB).length ≤ 120) := Nat.le_trans (Maps.doing_len lA lB) (by omega)
  clear hfA hfB hsA hsB
  go_enter Tryd.func78, Tryd.ntmps78
  go_wp2
  go_loopw [9, 10, 11] (fun u x y wr => ∃ (i j : Nat) (v : Value) (pre : List PairL), i ≤ lA.length ∧ j ≤ lB.length ∧ x = .int .i64 (i : Int) ∧ y = .int .i64 (j : Int) ∧ v = u ∧ pre ++ Maps.doing (lA.drop i) (lB.drop j) = Maps.doing lA lB ∧ RSt w 48 2 v pre.length (cellsPair pre) wr)
    (fun _ x y _ => (lA.length - (intOf x).toNat) + (lB.length - (intOf y).toNat))
  case atStart => exact ⟨0, 0, _, [], Nat.zero_le _, Nat.zero_le _, rfl, rfl, rfl, rfl, World.ownsRow_nil _ _ _ _, Below.refl _ _⟩
  case round =>
    obtain ⟨i, j, v, pre, hiA, hjB, rfl, rfl, rfl, heq, hrs⟩ := hrel
    have HEQ : Hid (pre ++ Maps.doing (lA.drop i) (lB.drop j) = Maps.doing lA lB) := heq
    have HS : Hid (RSt w 48 2 v pre.length (cellsPair pre) wr) := hrs
    have hpb : pre.length ≤ 120 := by have h1 := HLN.out; rw [← HEQ.out, List.length_append] at h1; omega
    have hpl : pre.length + 1 ≤ maxLen := by unfold maxLen; omega
    have hby : (pre.length + 1) * 32 ≤ 140737488355328 := by omega
    clear heq hrs
    obtain ⟨va, vc, rfl⟩ := own_slice HS.out.own
    skip
    by_cases hA : i < lA.length
    · by_cases hB : j < lB.length
      · skip
        obtain ⟨a0, a1⟩ := (HFA.out.kept HS.out.below).2 i hA
        have eA := HFA.out.1 (by omega)
        subst eA
        have hgA : gA < wr.heap.size := World.block_lt_of_cell? wr _ a0
        obtain ⟨A, qA⟩ : ∃ A, A = lA[i].key := ⟨_, rfl⟩
        obtain ⟨V, qV⟩ : ∃ V, V = lA[i].value := ⟨_, rfl⟩
        have HEA : Hid (lA[i] = ⟨A, V⟩) := by show _ = _; rw [qA, qV]
        have HSA : Hid (smallPair 2097152 ⟨A, V⟩) := by have := HSS.out.1 lA[i] (List.getElem_mem _); rw [HEA.out] at this; exact this
        rw [← qA] at a0
        rw [← qV] at a1
        clear qA qV
        have iA0 : (0 : Int) ≤ (i : Int) := by omega
        have iA1 : (i : Int) < (lA.length : Int) := by omega
        have iA2 : ¬ i = lA.length := by omega
        have iA3 : ((i : Int) == (lA.length : Int)) = false := beq_eq_false_iff_ne.2 (by omega)
        obtain ⟨b0, b1, b2⟩ := (HFB.out.kept HS.out.below).2 j hB
        have eB := HFB.out.1 (by omega)
        subst eB
        have hgB : gB < wr.heap.size := World.block_lt_of_cell? wr _ b0
        obtain ⟨B, qB⟩ : ∃ B, B = lB[j].key := ⟨_, rfl⟩
        obtain ⟨U, qU⟩ : ∃ U, U = lB[j].value := ⟨_, rfl⟩
        obtain ⟨G, qG⟩ : ∃ G, G = lB[j].gone := ⟨_, rfl⟩
        have HEB : Hid (lB[j] = ⟨B, U, G⟩) := by show _ = _; rw [qB, qU, qG]
        have HSB : Hid (smallPair 2097152 ⟨B, U⟩) := by have := HSS.out.2 lB[j] (List.getElem_mem _); rw [HEB.out] at this; exact this
        rw [← qB] at b0
        rw [← qU] at b1
        rw [← qG] at b2
        clear qB qU qG
        have jB0 : (0 : Int) ≤ (j : Int) := by omega
        have jB1 : (j : Int) < (lB.length : Int) := by omega
        have jB2 : ¬ j = lB.length := by omega
        have jB3 : ((j : Int) == (lB.length : Int)) = false := beq_eq_false_iff_ne.2 (by omega)
        by_cases h1 : Batches.lt A B = true
        · skip
          obtain ⟨x, hx⟩ : ∃ x : Int, x = -1 := ⟨_, rfl⟩
          have HX : Hid (Cmp A B x) := Or.inl ⟨h1, hx⟩
          have hx1 : decide (x ≤ 0) = true := decide_eq_true (by omega)
          have hx2 : decide (0 ≤ x) = false := decide_eq_false (by omega)
          have HCASE : Hid (Maps.doing (lA.drop i) (lB.drop j) = (⟨A, V⟩ : PairL) :: Maps.doing (lA.drop (i + 1)) (lB.drop j)) := by
            show _ = _
            rw [drop_at hA, drop_at hB, HEA.out, HEB.out, Maps.doing]
            simp only
            rw [if_pos h1, ← HEB.out, ← drop_at hB]
          clear hx h1
          go_wp2_with fail
          have NE := Abv.ne wr
          have Fa0 := fun x : Abv wr => x.cell a0
          have Fa1 := fun x : Abv wr => x.cell a1
          have Fb0 := fun x : Abv wr => x.cell b0
          have Fb1 := fun x : Abv wr => x.cell b1
          have Fb2 := fun x : Abv wr => x.cell b2
          refine wp_region_above (by kernel_rfl) (by kernel_rfl) ?_
          repeat (go_big_quiet_step (first | (go_at_call 79; exact calls_above (orderToChange_is A V B U _ x HX.out _))))
          refine wpQuiet_nil ?_
          rintro w1 ⟨⟨_, hb1⟩, rfl⟩
          clear NE Fa0 Fa1 Fb0 Fb1 Fb2
          have S1 : Hid (RSt w 48 2 (.slice va pre.length vc) pre.length (cellsPair pre) w1) := HS.out.step hb1
          have a01 := (hb1.cell (p := ⟨gA, offA + i * 2, none⟩) hgA).trans a0
          have a11 := (hb1.cell (p := ⟨gA, offA + i * 2 + 1, none⟩) hgA).trans a1
          have b01 := (hb1.cell (p := ⟨gB, offB + j * 3, none⟩) hgB).trans b0
          have b11 := (hb1.cell (p := ⟨gB, offB + j * 3 + 1, none⟩) hgB).trans b1
          have b21 := (hb1.cell (p := ⟨gB, offB + j * 3 + 2, none⟩) hgB).trans b2
          have hgA1 : gA < w1.heap.size := Nat.lt_of_lt_of_le hgA hb1.size
          have hgB1 : gB < w1.heap.size := Nat.lt_of_lt_of_le hgB hb1.size
          clear hb1 a0 a1 b0 b1 b2 HS
          go_wp2_with fail
          have NE := Abv.ne w1
          have Fa0 := fun x : Abv w1 => x.cell a01
          have Fa1 := fun x : Abv w1 => x.cell a11
          have Fb0 := fun x : Abv w1 => x.cell b01
          have Fb1 := fun x : Abv w1 => x.cell b11
          have Fb2 := fun x : Abv w1 => x.cell b21
          refine wp_region_above (by kernel_rfl) (by kernel_rfl) ?_
          repeat (go_big_quiet_step (first | (go_at_call 79; exact calls_above (orderToChange_is A V B U _ x HX.out _))))
          refine wpQuiet_nil ?_
          rintro w2 ⟨⟨_, hb2⟩, rfl⟩
          clear NE Fa0 Fa1 Fb0 Fb1 Fb2
          have S2 : Hid (RSt w 48 2 (.slice va pre.length vc) pre.length (cellsPair pre) w2) := S1.out.step hb2
          have a02 := (hb2.cell (p := ⟨gA, offA + i * 2, none⟩) hgA1).trans a01
          have a12 := (hb2.cell (p := ⟨gA, offA + i * 2 + 1, none⟩) hgA1).trans a11
          have b02 := (hb2.cell (p := ⟨gB, offB + j * 3, none⟩) hgB1).trans b01
          have b12 := (hb2.cell (p := ⟨gB, offB + j * 3 + 1, none⟩) hgB1).trans b11
          have b22 := (hb2.cell (p := ⟨gB, offB + j * 3 + 2, none⟩) hgB1).trans b21
          clear hb2 S1 a01 a11 b01 b11 b21
          go_wp2_with fail
          refine (pb_keep A V HSA.out.1 HSA.out.2 w2 a02 a12).mono ?_
          rintro e w3 ⟨rfl, hb3⟩
          have S3 : Hid (RSt w 48 2 (.slice va pre.length vc) pre.length (cellsPair pre) (w3.alloc (Obj.cells #[Value.string A, Value.string V] 48))) := (S2.out.step hb3).alloc _
          clear hb3 S2 a02 a12 b02 b12 b22
          go_wp2_with (at_builtin; refine wpList_append_lies _ rfl _ _ 27 rfl w.heap.size 48 i0 (.agg #[.string ByteArray.empty, .string ByteArray.empty]) 2 32 Tryd.underlying27 hi hz0 hz1 hz2 rfl (Nat.zero_lt_succ _) _ pre.length (cellsPair pre) rfl ((S3.out.alloc _).own) ⟨w3.heap.size + 1, 0, none⟩ 1 1 [.string A, .string V] rfl rfl (news_two (cs := #[.string A, .string V]) (t := 48) (fr := (0, 0))) (pair_news ⟨A, V⟩) (Nat.zero_lt_succ _) hpl hby (by have h2 := S3.out.below.size; simp at h2 ⊢; omega) (w3.heap.size + 1 + 1) (by simp) ?_; intro g2 cap2 w8 hown8 hgrow hat hlt8)
          have S9 : Hid (RSt w 48 2 (.slice (some ⟨g2, 0, none⟩) (pre.length + 1) cap2) (pre.length + 1) (cellsPair pre ++ [.string A, .string V]) w8) := (S3.out.alloc _).app hgrow hown8
          clear hown8 hgrow hat hlt8 S3
          go_roundw
          case rel =>
            refine ⟨i + 1, j, _, pre ++ [⟨A, V⟩], by omega, by omega, by first | rfl | go_num, by first | rfl | go_num, rfl, ?_, ?_⟩
            · rw [List.append_assoc, ← HEQ.out, HCASE.out]; rfl
            · rw [List.length_append, cellsPair_app]; exact S9.out
          case measure => simp [intOf]; omega
        · by_cases h2 : Batches.lt B A = true
          · skip
            obtain ⟨x, hx⟩ : ∃ x : Int, x = 1 := ⟨_, rfl⟩
            have HX : Hid (Cmp A B x) := Or.inr (Or.inr ⟨h2, hx⟩)
            have hx1 : decide (x ≤ 0) = false := decide_eq_false (by omega)
            have hx2 : decide (0 ≤ x) = true := decide_eq_true (by omega)
            have H12 : Hid (¬ Batches.lt A B = true ∧ Batches.lt B A = true) := ⟨h1, h2⟩
            clear hx h1 h2
            cases G with
            | true =>
              have HCASE : Hid (Maps.doing (lA.drop i) (lB.drop j) = Maps.doing (lA.drop i) (lB.drop (j + 1))) := by
                show _ = _
                rw [drop_at hA, drop_at hB, HEA.out, HEB.out, Maps.doing]
                simp only
                rw [if_neg H12.out.1, if_pos H12.out.2, ← HEA.out, ← drop_at hA]; simp [Maps.left]
              go_wp2_with fail
              have NE := Abv.ne wr
              have Fa0 := fun x : Abv wr => x.cell a0
              have Fa1 := fun x : Abv wr => x.cell a1
              have Fb0 := fun x : Abv wr => x.cell b0
              have Fb1 := fun x : Abv wr => x.cell b1
              have Fb2 := fun x : Abv wr => x.cell b2
              refine wp_region_above (by kernel_rfl) (by kernel_rfl) ?_
              repeat (go_big_quiet_step (first | (go_at_call 79; exact calls_above (orderToChange_is A V B U _ x HX.out _))))
              refine wpQuiet_nil ?_
              rintro w1 ⟨⟨_, hb1⟩, rfl⟩
              clear NE Fa0 Fa1 Fb0 Fb1 Fb2
              have S1 : Hid (RSt w 48 2 (.slice va pre.length vc) pre.length (cellsPair pre) w1) := HS.out.step hb1
              have a01 := (hb1.cell (p := ⟨gA, offA + i * 2, none⟩) hgA).trans a0
              have a11 := (hb1.cell (p := ⟨gA, offA + i * 2 + 1, none⟩) hgA).trans a1
              have b01 := (hb1.cell (p := ⟨gB, offB + j * 3, none⟩) hgB).trans b0
              have b11 := (hb1.cell (p := ⟨gB, offB + j * 3 + 1, none⟩) hgB).trans b1
              have b21 := (hb1.cell (p := ⟨gB, offB + j * 3 + 2, none⟩) hgB).trans b2
              have hgA1 : gA < w1.heap.size := Nat.lt_of_lt_of_le hgA hb1.size
              have hgB1 : gB < w1.heap.size := Nat.lt_of_lt_of_le hgB hb1.size
              clear hb1 a0 a1 b0 b1 b2 HS
              go_wp2_with fail
              have NE := Abv.ne w1
              have Fa0 := fun x : Abv w1 => x.cell a01
              have Fa1 := fun x : Abv w1 => x.cell a11
              have Fb0 := fun x : Abv w1 => x.cell b01
              have Fb1 := fun x : Abv w1 => x.cell b11
              have Fb2 := fun x : Abv w1 => x.cell b21
              refine wp_region_above (by kernel_rfl) (by kernel_rfl) ?_
              repeat (go_big_quiet_step (first | (go_at_call 79; exact calls_above (orderToChange_is A V B U _ x HX.out _))))
              refine wpQuiet_nil ?_
              rintro w2 ⟨⟨_, hb2⟩, rfl⟩
              clear NE Fa0 Fa1 Fb0 Fb1 Fb2
              have S2 : Hid (RSt w 48 2 (.slice va pre.length vc) pre.length (cellsPair pre) w2) := S1.out.step hb2
              have a02 := (hb2.cell (p := ⟨gA, offA + i * 2, none⟩) hgA1).trans a01
              have a12 := (hb2.cell (p := ⟨gA, offA + i * 2 + 1, none⟩) hgA1).trans a11
              have b02 := (hb2.cell (p := ⟨gB, offB + j * 3, none⟩) hgB1).trans b01
              have b12 := (hb2.cell (p := ⟨gB, offB + j * 3 + 1, none⟩) hgB1).trans b11
              have b22 := (hb2.cell (p := ⟨gB, offB + j * 3 + 2, none⟩) hgB1).trans b21
              clear hb2 S1 a01 a11 b01 b11 b21
              go_wp2_with fail
              refine (pb_gone none w2 b22).mono ?_
              rintro e w3 ⟨rfl, hb3⟩
              have S3 : Hid (RSt w 48 2 (.slice va pre.length vc) pre.length (cellsPair pre) (w3.alloc (Obj.cells #[Value.string ⟨#[]⟩, Value.string ⟨#[]⟩] 48))) := (S2.out.step hb3).alloc _
              clear hb3 S2 a02 a12 b02 b12 b22
              go_wp2
              go_roundw
              case rel => exact ⟨i, j + 1, _, pre, by omega, by omega, by first | rfl | go_num, by first | rfl | go_num, rfl, by rw [← HEQ.out, HCASE.out], S3.out⟩
              case measure => simp [intOf]; omega
            | false =>
              have HCASE : Hid (Maps.doing (lA.drop i) (lB.drop j) = (⟨B, U⟩ : PairL) :: Maps.doing (lA.drop i) (lB.drop (j + 1))) := by
                show _ = _
                rw [drop_at hA, drop_at hB, HEA.out, HEB.out, Maps.doing]
                simp only
                rw [if_neg H12.out.1, if_pos H12.out.2, ← HEA.out, ← drop_at hA]; simp [Maps.left]
              go_wp2_with fail
              have NE := Abv.ne wr
              have Fa0 := fun x : Abv wr => x.cell a0
              have Fa1 := fun x : Abv wr => x.cell a1
              have Fb0 := fun x : Abv wr => x.cell b0
              have Fb1 := fun x : Abv wr => x.cell b1
              have Fb2 := fun x : Abv wr => x.cell b2
              refine wp_region_above (by kernel_rfl) (by kernel_rfl) ?_
              repeat (go_big_quiet_step (first | (go_at_call 79; exact calls_above (orderToChange_is A V B U _ x HX.out _))))
              refine wpQuiet_nil ?_
              rintro w1 ⟨⟨_, hb1⟩, rfl⟩
              clear NE Fa0 Fa1 Fb0 Fb1 Fb2
              have S1 : Hid (RSt w 48 2 (.slice va pre.length vc) pre.length (cellsPair pre) w1) := HS.out.step hb1
              have a01 := (hb1.cell (p := ⟨gA, offA + i * 2, none⟩) hgA).trans a0
              have a11 := (hb1.cell (p := ⟨gA, offA + i * 2 + 1, none⟩) hgA).trans a1
              have b01 := (hb1.cell (p := ⟨gB, offB + j * 3, none⟩) hgB).trans b0
              have b11 := (hb1.cell (p := ⟨gB, offB + j * 3 + 1, none⟩) hgB).trans b1
              have b21 := (hb1.cell (p := ⟨gB, offB + j * 3 + 2, none⟩) hgB).trans b2
              have hgA1 : gA < w1.heap.size := Nat.lt_of_lt_of_le hgA hb1.size
              have hgB1 : gB < w1.heap.size := Nat.lt_of_lt_of_le hgB hb1.size
              clear hb1 a0 a1 b0 b1 b2 HS
              go_wp2_with fail
              have NE := Abv.ne w1
              have Fa0 := fun x : Abv w1 => x.cell a01
              have Fa1 := fun x : Abv w1 => x.cell a11
              have Fb0 := fun x : Abv w1 => x.cell b01
              have Fb1 := fun x : Abv w1 => x.cell b11
              have Fb2 := fun x : Abv w1 => x.cell b21
              refine wp_region_above (by kernel_rfl) (by kernel_rfl) ?_
              repeat (go_big_quiet_step (first | (go_at_call 79; exact calls_above (orderToChange_is A V B U _ x HX.out _))))
              refine wpQuiet_nil ?_
              rintro w2 ⟨⟨_, hb2⟩, rfl⟩
              clear NE Fa0 Fa1 Fb0 Fb1 Fb2
              have S2 : Hid (RSt w 48 2 (.slice va pre.length vc) pre.length (cellsPair pre) w2) := S1.out.step hb2
              have a02 := (hb2.cell (p := ⟨gA, offA + i * 2, none⟩) hgA1).trans a01
              have a12 := (hb2.cell (p := ⟨gA, offA + i * 2 + 1, none⟩) hgA1).trans a11
              have b02 := (hb2.cell (p := ⟨gB, offB + j * 3, none⟩) hgB1).trans b01
              have b12 := (hb2.cell (p := ⟨gB, offB + j * 3 + 1, none⟩) hgB1).trans b11
              have b22 := (hb2.cell (p := ⟨gB, offB + j * 3 + 2, none⟩) hgB1).trans b21
              clear hb2 S1 a01 a11 b01 b11 b21
              go_wp2_with fail
              refine (pb_put none B U HSB.out.1 HSB.out.2 w2 b02 b12 b22).mono ?_
              rintro e w3 ⟨rfl, hb3⟩
              have S3 : Hid (RSt w 48 2 (.slice va pre.length vc) pre.length (cellsPair pre) (w3.alloc (Obj.cells #[Value.string B, Value.string U] 48))) := (S2.out.step hb3).alloc _
              clear hb3 S2 a02 a12 b02 b12 b22
              go_wp2_with (at_builtin; refine wpList_append_lies _ rfl _ _ 27 rfl w.heap.size 48 i0 (.agg #[.string ByteArray.empty, .string ByteArray.empty]) 2 32 Tryd.underlying27 hi hz0 hz1 hz2 rfl (Nat.zero_lt_succ _) _ pre.length (cellsPair pre) rfl ((S3.out.alloc _).own) ⟨w3.heap.size + 1, 0, none⟩ 1 1 [.string B, .string U] rfl rfl (news_two (cs := #[.string B, .string U]) (t := 48) (fr := (0, 0))) (pair_news ⟨B, U⟩) (Nat.zero_lt_succ _) hpl hby (by have h2 := S3.out.below.size; simp at h2 ⊢; omega) (w3.heap.size + 1 + 1) (by simp) ?_; intro g2 cap2 w8 hown8 hgrow hat hlt8)
              have S9 : Hid (RSt w 48 2 (.slice (some ⟨g2, 0, none⟩) (pre.length + 1) cap2) (pre.length + 1) (cellsPair pre ++ [.string B, .string U]) w8) := (S3.out.alloc _).app hgrow hown8
              clear hown8 hgrow hat hlt8 S3
              go_roundw
              case rel =>
                refine ⟨i, j + 1, _, pre ++ [⟨B, U⟩], by omega, by omega, by first | rfl | go_num, by first | rfl | go_num, rfl, ?_, ?_⟩
                · rw [List.append_assoc, ← HEQ.out, HCASE.out]; rfl
                · rw [List.length_append, cellsPair_app]; exact S9.out
              case measure => simp [intOf]; omega
          · skip
            obtain ⟨x, hx⟩ : ∃ x : Int, x = 0 := ⟨_, rfl⟩
            have HX : Hid (Cmp A B x) := Or.inr (Or.inl ⟨Maps.eq_of_not h1 h2, hx⟩)
            have hx1 : decide (x ≤ 0) = true := decide_eq_true (by omega)
            have hx2 : decide (0 ≤ x) = true := decide_eq_true (by omega)
            have H12 : Hid (¬ Batches.lt A B = true ∧ ¬ Batches.lt B A = true) := ⟨h1, h2⟩
            clear hx h1 h2
            cases G with
            | true =>
              have HCASE : Hid (Maps.doing (lA.drop i) (lB.drop j) = Maps.doing (lA.drop (i + 1)) (lB.drop (j + 1))) := by
                show _ = _
                rw [drop_at hA, drop_at hB, HEA.out, HEB.out, Maps.doing]
                simp only
                rw [if_neg H12.out.1, if_neg H12.out.2]; simp [Maps.left]
              go_wp2_with fail
              have NE := Abv.ne wr
              have Fa0 := fun x : Abv wr => x.cell a0
              have Fa1 := fun x : Abv wr => x.cell a1
              have Fb0 := fun x : Abv wr => x.cell b0
              have Fb1 := fun x : Abv wr => x.cell b1
              have Fb2 := fun x : Abv wr => x.cell b2
              refine wp_region_above (by kernel_rfl) (by kernel_rfl) ?_
              repeat (go_big_quiet_step (first | (go_at_call 79; exact calls_above (orderToChange_is A V B U _ x HX.out _))))
              refine wpQuiet_nil ?_
              rintro w1 ⟨⟨_, hb1⟩, rfl⟩
              clear NE Fa0 Fa1 Fb0 Fb1 Fb2
              have S1 : Hid (RSt w 48 2 (.slice va pre.length vc) pre.length (cellsPair pre) w1) := HS.out.step hb1
              have a01 := (hb1.cell (p := ⟨gA, offA + i * 2, none⟩) hgA).trans a0
              have a11 := (hb1.cell (p := ⟨gA, offA + i * 2 + 1, none⟩) hgA).trans a1
              have b01 := (hb1.cell (p := ⟨gB, offB + j * 3, none⟩) hgB).trans b0
              have b11 := (hb1.cell (p := ⟨gB, offB + j * 3 + 1, none⟩) hgB).trans b1
              have b21 := (hb1.cell (p := ⟨gB, offB + j * 3 + 2, none⟩) hgB).trans b2
              have hgA1 : gA < w1.heap.size := Nat.lt_of_lt_of_le hgA hb1.size
              have hgB1 : gB < w1.heap.size := Nat.lt_of_lt_of_le hgB hb1.size
              clear hb1 a0 a1 b0 b1 b2 HS
              go_wp2_with fail
              have NE := Abv.ne w1
              have Fa0 := fun x : Abv w1 => x.cell a01
              have Fa1 := fun x : Abv w1 => x.cell a11
              have Fb0 := fun x : Abv w1 => x.cell b01
              have Fb1 := fun x : Abv w1 => x.cell b11
              have Fb2 := fun x : Abv w1 => x.cell b21
              refine wp_region_above (by kernel_rfl) (by kernel_rfl) ?_
              repeat (go_big_quiet_step (first | (go_at_call 79; exact calls_above (orderToChange_is A V B U _ x HX.out _))))
              refine wpQuiet_nil ?_
              rintro w2 ⟨⟨_, hb2⟩, rfl⟩
              clear NE Fa0 Fa1 Fb0 Fb1 Fb2
              have S2 : Hid (RSt w 48 2 (.slice va pre.length vc) pre.length (cellsPair pre) w2) := S1.out.step hb2
              have a02 := (hb2.cell (p := ⟨gA, offA + i * 2, none⟩) hgA1).trans a01
              have a12 := (hb2.cell (p := ⟨gA, offA + i * 2 + 1, none⟩) hgA1).trans a11
              have b02 := (hb2.cell (p := ⟨gB, offB + j * 3, none⟩) hgB1).trans b01
              have b12 := (hb2.cell (p := ⟨gB, offB + j * 3 + 1, none⟩) hgB1).trans b11
              have b22 := (hb2.cell (p := ⟨gB, offB + j * 3 + 2, none⟩) hgB1).trans b21
              clear hb2 S1 a01 a11 b01 b11 b21
              go_wp2_with fail
              refine (pb_gone (some ⟨gA, offA + i * 2, none⟩) w2 b22).mono ?_
              rintro e w3 ⟨rfl, hb3⟩
              have S3 : Hid (RSt w 48 2 (.slice va pre.length vc) pre.length (cellsPair pre) (w3.alloc (Obj.cells #[Value.string ⟨#[]⟩, Value.string ⟨#[]⟩] 48))) := (S2.out.step hb3).alloc _
              clear hb3 S2 a02 a12 b02 b12 b22
              go_wp2
              go_roundw
              case rel => exact ⟨i + 1, j + 1, _, pre, by omega, by omega, by first | rfl | go_num, by first | rfl | go_num, rfl, by rw [← HEQ.out, HCASE.out], S3.out⟩
              case measure => simp [intOf]; omega
            | false =>
              have HCASE : Hid (Maps.doing (lA.drop i) (lB.drop j) = (⟨B, U⟩ : PairL) :: Maps.doing (lA.drop (i + 1)) (lB.drop (j + 1))) := by
                show _ = _
                rw [drop_at hA, drop_at hB, HEA.out, HEB.out, Maps.doing]
                simp only
                rw [if_neg H12.out.1, if_neg H12.out.2]; simp [Maps.left]
              go_wp2_with fail
              have NE := Abv.ne wr
              have Fa0 := fun x : Abv wr => x.cell a0
              have Fa1 := fun x : Abv wr => x.cell a1
              have Fb0 := fun x : Abv wr => x.cell b0
              have Fb1 := fun x : Abv wr => x.cell b1
              have Fb2 := fun x : Abv wr => x.cell b2
              refine wp_region_above (by kernel_rfl) (by kernel_rfl) ?_
              repeat (go_big_quiet_step (first | (go_at_call 79; exact calls_above (orderToChange_is A V B U _ x HX.out _))))
              refine wpQuiet_nil ?_
              rintro w1 ⟨⟨_, hb1⟩, rfl⟩
              clear NE Fa0 Fa1 Fb0 Fb1 Fb2
              have S1 : Hid (RSt w 48 2 (.slice va pre.length vc) pre.length (cellsPair pre) w1) := HS.out.step hb1
              have a01 := (hb1.cell (p := ⟨gA, offA + i * 2, none⟩) hgA).trans a0
              have a11 := (hb1.cell (p := ⟨gA, offA + i * 2 + 1, none⟩) hgA).trans a1
              have b01 := (hb1.cell (p := ⟨gB, offB + j * 3, none⟩) hgB).trans b0
              have b11 := (hb1.cell (p := ⟨gB, offB + j * 3 + 1, none⟩) hgB).trans b1
              have b21 := (hb1.cell (p := ⟨gB, offB + j * 3 + 2, none⟩) hgB).trans b2
              have hgA1 : gA < w1.heap.size := Nat.lt_of_lt_of_le hgA hb1.size
              have hgB1 : gB < w1.heap.size := Nat.lt_of_lt_of_le hgB hb1.size
              clear hb1 a0 a1 b0 b1 b2 HS
              go_wp2_with fail
              have NE := Abv.ne w1
              have Fa0 := fun x : Abv w1 => x.cell a01
              have Fa1 := fun x : Abv w1 => x.cell a11
              have Fb0 := fun x : Abv w1 => x.cell b01
              have Fb1 := fun x : Abv w1 => x.cell b11
              have Fb2 := fun x : Abv w1 => x.cell b21
              refine wp_region_above (by kernel_rfl) (by kernel_rfl) ?_
              repeat (go_big_quiet_step (first | (go_at_call 79; exact calls_above (orderToChange_is A V B U _ x HX.out _))))
              refine wpQuiet_nil ?_
              rintro w2 ⟨⟨_, hb2⟩, rfl⟩
              clear NE Fa0 Fa1 Fb0 Fb1 Fb2
              have S2 : Hid (RSt w 48 2 (.slice va pre.length vc) pre.length (cellsPair pre) w2) := S1.out.step hb2
              have a02 := (hb2.cell (p := ⟨gA, offA + i * 2, none⟩) hgA1).trans a01
              have a12 := (hb2.cell (p := ⟨gA, offA + i * 2 + 1, none⟩) hgA1).trans a11
              have b02 := (hb2.cell (p := ⟨gB, offB + j * 3, none⟩) hgB1).trans b01
              have b12 := (hb2.cell (p := ⟨gB, offB + j * 3 + 1, none⟩) hgB1).trans b11
              have b22 := (hb2.cell (p := ⟨gB, offB + j * 3 + 2, none⟩) hgB1).trans b21
              clear hb2 S1 a01 a11 b01 b11 b21
              go_wp2_with fail
              refine (pb_put (some ⟨gA, offA + i * 2, none⟩) B U HSB.out.1 HSB.out.2 w2 b02 b12 b22).mono ?_
              rintro e w3 ⟨rfl, hb3⟩
              have S3 : Hid (RSt w 48 2 (.slice va pre.length vc) pre.length (cellsPair pre) (w3.alloc (Obj.cells #[Value.string B, Value.string U] 48))) := (S2.out.step hb3).alloc _
              clear hb3 S2 a02 a12 b02 b12 b22
              go_wp2_with (at_builtin; refine wpList_append_lies _ rfl _ _ 27 rfl w.heap.size 48 i0 (.agg #[.string ByteArray.empty, .string ByteArray.empty]) 2 32 Tryd.underlying27 hi hz0 hz1 hz2 rfl (Nat.zero_lt_succ _) _ pre.length (cellsPair pre) rfl ((S3.out.alloc _).own) ⟨w3.heap.size + 1, 0, none⟩ 1 1 [.string B, .string U] rfl rfl (news_two (cs := #[.string B, .string U]) (t := 48) (fr := (0, 0))) (pair_news ⟨B, U⟩) (Nat.zero_lt_succ _) hpl hby (by have h2 := S3.out.below.size; simp at h2 ⊢; omega) (w3.heap.size + 1 + 1) (by simp) ?_; intro g2 cap2 w8 hown8 hgrow hat hlt8)
              have S9 : Hid (RSt w 48 2 (.slice (some ⟨g2, 0, none⟩) (pre.length + 1) cap2) (pre.length + 1) (cellsPair pre ++ [.string B, .string U]) w8) := (S3.out.alloc _).app hgrow hown8
              clear hown8 hgrow hat hlt8 S3
              go_roundw
              case rel =>
                refine ⟨i + 1, j + 1, _, pre ++ [⟨B, U⟩], by omega, by omega, by first | rfl | go_num, by first | rfl | go_num, rfl, ?_, ?_⟩
                · rw [List.append_assoc, ← HEQ.out, HCASE.out]; rfl
                · rw [List.length_append, cellsPair_app]; exact S9.out
              case measure => simp [intOf]; omega
      · obtain rfl : j = lB.length := by omega
        obtain ⟨a0, a1⟩ := (HFA.out.kept HS.out.below).2 i hA
        have eA := HFA.out.1 (by omega)
        subst eA
        have hgA : gA < wr.heap.size := World.block_lt_of_cell? wr _ a0
        obtain ⟨A, qA⟩ : ∃ A, A = lA[i].key := ⟨_, rfl⟩
        obtain ⟨V, qV⟩ : ∃ V, V = lA[i].value := ⟨_, rfl⟩
        have HEA : Hid (lA[i] = ⟨A, V⟩) := by show _ = _; rw [qA, qV]
        have HSA : Hid (smallPair 2097152 ⟨A, V⟩) := by have := HSS.out.1 lA[i] (List.getElem_mem _); rw [HEA.out] at this; exact this
        rw [← qA] at a0
        rw [← qV] at a1
        clear qA qV
        have iA0 : (0 : Int) ≤ (i : Int) := by omega
        have iA1 : (i : Int) < (lA.length : Int) := by omega
        have iA2 : ¬ i = lA.length := by omega
        have iA3 : ((i : Int) == (lA.length : Int)) = false := beq_eq_false_iff_ne.2 (by omega)
        clear hB
        have HCASE : Hid (Maps.doing (lA.drop i) (lB.drop lB.length) = (⟨A, V⟩ : PairL) :: Maps.doing (lA.drop (i + 1)) (lB.drop lB.length)) := by
          show _ = _
          rw [drop_at hA, drop_end, HEA.out, Maps.doing]
        go_wp2_with fail
        have NE := Abv.ne wr
        have Fa0 := fun x : Abv wr => x.cell a0
        have Fa1 := fun x : Abv wr => x.cell a1
        refine wp_region_above (by kernel_rfl) (by kernel_rfl) ?_
        repeat (go_big_quiet_step (fail))
        refine wpQuiet_nil ?_
        rintro w1 ⟨⟨_, hb1⟩, rfl⟩
        clear NE Fa0 Fa1
        have S1 : Hid (RSt w 48 2 (.slice va pre.length vc) pre.length (cellsPair pre) w1) := HS.out.step hb1
        have a01 := (hb1.cell (p := ⟨gA, offA + i * 2, none⟩) hgA).trans a0
        have a11 := (hb1.cell (p := ⟨gA, offA + i * 2 + 1, none⟩) hgA).trans a1
        have hgA1 : gA < w1.heap.size := Nat.lt_of_lt_of_le hgA hb1.size
        clear hb1 a0 a1 HS
        go_wp2_with fail
        have NE := Abv.ne w1
        have Fa0 := fun x : Abv w1 => x.cell a01
        have Fa1 := fun x : Abv w1 => x.cell a11
        refine wp_region_above (by kernel_rfl) (by kernel_rfl) ?_
        repeat (go_big_quiet_step (fail))
        refine wpQuiet_nil ?_
        rintro w2 ⟨⟨_, hb2⟩, rfl⟩
        clear NE Fa0 Fa1
        have S2 : Hid (RSt w 48 2 (.slice va pre.length vc) pre.length (cellsPair pre) w2) := S1.out.step hb2
        have a02 := (hb2.cell (p := ⟨gA, offA + i * 2, none⟩) hgA1).trans a01
        have a12 := (hb2.cell (p := ⟨gA, offA + i * 2 + 1, none⟩) hgA1).trans a11
        clear hb2 S1 a01 a11
        go_wp2_with fail
        refine (pb_keep A V HSA.out.1 HSA.out.2 w2 a02 a12).mono ?_
        rintro e w3 ⟨rfl, hb3⟩
        have S3 : Hid (RSt w 48 2 (.slice va pre.length vc) pre.length (cellsPair pre) (w3.alloc (Obj.cells #[Value.string A, Value.string V] 48))) := (S2.out.step hb3).alloc _
        clear hb3 S2 a02 a12
        go_wp2_with (at_builtin; refine wpList_append_lies _ rfl _ _ 27 rfl w.heap.size 48 i0 (.agg #[.string ByteArray.empty, .string ByteArray.empty]) 2 32 Tryd.underlying27 hi hz0 hz1 hz2 rfl (Nat.zero_lt_succ _) _ pre.length (cellsPair pre) rfl ((S3.out.alloc _).own) ⟨w3.heap.size + 1, 0, none⟩ 1 1 [.string A, .string V] rfl rfl (news_two (cs := #[.string A, .string V]) (t := 48) (fr := (0, 0))) (pair_news ⟨A, V⟩) (Nat.zero_lt_succ _) hpl hby (by have h2 := S3.out.below.size; simp at h2 ⊢; omega) (w3.heap.size + 1 + 1) (by simp) ?_; intro g2 cap2 w8 hown8 hgrow hat hlt8)
        have S9 : Hid (RSt w 48 2 (.slice (some ⟨g2, 0, none⟩) (pre.length + 1) cap2) (pre.length + 1) (cellsPair pre ++ [.string A, .string V]) w8) := (S3.out.alloc _).app hgrow hown8
        clear hown8 hgrow hat hlt8 S3
        go_roundw
        case rel =>
          refine ⟨i + 1, lB.length, _, pre ++ [⟨A, V⟩], by omega, by omega, by first | rfl | go_num, by first | rfl | go_num, rfl, ?_, ?_⟩
          · rw [List.append_assoc, ← HEQ.out, HCASE.out]; rfl
          · rw [List.length_append, cellsPair_app]; exact S9.out
        case measure => simp [intOf]; omega
    · obtain rfl : i = lA.length := by omega
      clear hA
      by_cases hB : j < lB.length
      · skip
        obtain ⟨b0, b1, b2⟩ := (HFB.out.kept HS.out.below).2 j hB
        have eB := HFB.out.1 (by omega)
        subst eB
        have hgB : gB < wr.heap.size := World.block_lt_of_cell? wr _ b0
        obtain ⟨B, qB⟩ : ∃ B, B = lB[j].key := ⟨_, rfl⟩
        obtain ⟨U, qU⟩ : ∃ U, U = lB[j].value := ⟨_, rfl⟩
        obtain ⟨G, qG⟩ : ∃ G, G = lB[j].gone := ⟨_, rfl⟩
        have HEB : Hid (lB[j] = ⟨B, U, G⟩) := by show _ = _; rw [qB, qU, qG]
        have HSB : Hid (smallPair 2097152 ⟨B, U⟩) := by have := HSS.out.2 lB[j] (List.getElem_mem _); rw [HEB.out] at this; exact this
        rw [← qB] at b0
        rw [← qU] at b1
        rw [← qG] at b2
        clear qB qU qG
        have jB0 : (0 : Int) ≤ (j : Int) := by omega
        have jB1 : (j : Int) < (lB.length : Int) := by omega
        have jB2 : ¬ j = lB.length := by omega
        have jB3 : ((j : Int) == (lB.length : Int)) = false := beq_eq_false_iff_ne.2 (by omega)
        cases G with
        | true =>
          have HCASE : Hid (Maps.doing (lA.drop lA.length) (lB.drop j) = Maps.doing (lA.drop lA.length) (lB.drop (j + 1))) := by
            show _ = _
            rw [drop_at hB, drop_end, HEB.out, Maps.doing]; simp [Maps.left]
          go_wp2_with fail
          have NE := Abv.ne wr
          have Fb0 := fun x : Abv wr => x.cell b0
          have Fb1 := fun x : Abv wr => x.cell b1
          have Fb2 := fun x : Abv wr => x.cell b2
          refine wp_region_above (by kernel_rfl) (by kernel_rfl) ?_
          repeat (go_big_quiet_step (fail))
          refine wpQuiet_nil ?_
          rintro w1 ⟨⟨_, hb1⟩, rfl⟩
          clear NE Fb0 Fb1 Fb2
          have S1 : Hid (RSt w 48 2 (.slice va pre.length vc) pre.length (cellsPair pre) w1) := HS.out.step hb1
          have b01 := (hb1.cell (p := ⟨gB, offB + j * 3, none⟩) hgB).trans b0
          have b11 := (hb1.cell (p := ⟨gB, offB + j * 3 + 1, none⟩) hgB).trans b1
          have b21 := (hb1.cell (p := ⟨gB, offB + j * 3 + 2, none⟩) hgB).trans b2
          have hgB1 : gB < w1.heap.size := Nat.lt_of_lt_of_le hgB hb1.size
          clear hb1 b0 b1 b2 HS
          go_wp2_with fail
          have NE := Abv.ne w1
          have Fb0 := fun x : Abv w1 => x.cell b01
          have Fb1 := fun x : Abv w1 => x.cell b11
          have Fb2 := fun x : Abv w1 => x.cell b21
          refine wp_region_above (by kernel_rfl) (by kernel_rfl) ?_
          repeat (go_big_quiet_step (fail))
          refine wpQuiet_nil ?_
          rintro w2 ⟨⟨_, hb2⟩, rfl⟩
          clear NE Fb0 Fb1 Fb2
          have S2 : Hid (RSt w 48 2 (.slice va pre.length vc) pre.length (cellsPair pre) w2) := S1.out.step hb2
          have b02 := (hb2.cell (p := ⟨gB, offB + j * 3, none⟩) hgB1).trans b01
          have b12 := (hb2.cell (p := ⟨gB, offB + j * 3 + 1, none⟩) hgB1).trans b11
          have b22 := (hb2.cell (p := ⟨gB, offB + j * 3 + 2, none⟩) hgB1).trans b21
          clear hb2 S1 b01 b11 b21
          go_wp2_with fail
          refine (pb_gone none w2 b22).mono ?_
          rintro e w3 ⟨rfl, hb3⟩
          have S3 : Hid (RSt w 48 2 (.slice va pre.length vc) pre.length (cellsPair pre) (w3.alloc (Obj.cells #[Value.string ⟨#[]⟩, Value.string ⟨#[]⟩] 48))) := (S2.out.step hb3).alloc _
          clear hb3 S2 b02 b12 b22
          go_wp2
          go_roundw
          case rel => exact ⟨lA.length, j + 1, _, pre, by omega, by omega, by first | rfl | go_num, by first | rfl | go_num, rfl, by rw [← HEQ.out, HCASE.out], S3.out⟩
          case measure => simp [intOf]; omega
        | false =>
          have HCASE : Hid (Maps.doing (lA.drop lA.length) (lB.drop j) = (⟨B, U⟩ : PairL) :: Maps.doing (lA.drop lA.length) (lB.drop (j + 1))) := by
            show _ = _
            rw [drop_at hB, drop_end, HEB.out, Maps.doing]; simp [Maps.left]
          go_wp2_with fail
          have NE := Abv.ne wr
          have Fb0 := fun x : Abv wr => x.cell b0
          have Fb1 := fun x : Abv wr => x.cell b1
          have Fb2 := fun x : Abv wr => x.cell b2
          refine wp_region_above (by kernel_rfl) (by kernel_rfl) ?_
          repeat (go_big_quiet_step (fail))
          refine wpQuiet_nil ?_
          rintro w1 ⟨⟨_, hb1⟩, rfl⟩
          clear NE Fb0 Fb1 Fb2
          have S1 : Hid (RSt w 48 2 (.slice va pre.length vc) pre.length (cellsPair pre) w1) := HS.out.step hb1
          have b01 := (hb1.cell (p := ⟨gB, offB + j * 3, none⟩) hgB).trans b0
          have b11 := (hb1.cell (p := ⟨gB, offB + j * 3 + 1, none⟩) hgB).trans b1
          have b21 := (hb1.cell (p := ⟨gB, offB + j * 3 + 2, none⟩) hgB).trans b2
          have hgB1 : gB < w1.heap.size := Nat.lt_of_lt_of_le hgB hb1.size
          clear hb1 b0 b1 b2 HS
          go_wp2_with fail
          have NE := Abv.ne w1
          have Fb0 := fun x : Abv w1 => x.cell b01
          have Fb1 := fun x : Abv w1 => x.cell b11
          have Fb2 := fun x : Abv w1 => x.cell b21
          refine wp_region_above (by kernel_rfl) (by kernel_rfl) ?_
          repeat (go_big_quiet_step (fail))
          refine wpQuiet_nil ?_
          rintro w2 ⟨⟨_, hb2⟩, rfl⟩
          clear NE Fb0 Fb1 Fb2
          have S2 : Hid (RSt w 48 2 (.slice va pre.length vc) pre.length (cellsPair pre) w2) := S1.out.step hb2
          have b02 := (hb2.cell (p := ⟨gB, offB + j * 3, none⟩) hgB1).trans b01
          have b12 := (hb2.cell (p := ⟨gB, offB + j * 3 + 1, none⟩) hgB1).trans b11
          have b22 := (hb2.cell (p := ⟨gB, offB + j * 3 + 2, none⟩) hgB1).trans b21
          clear hb2 S1 b01 b11 b21
          go_wp2_with fail
          refine (pb_put none B U HSB.out.1 HSB.out.2 w2 b02 b12 b22).mono ?_
          rintro e w3 ⟨rfl, hb3⟩
          have S3 : Hid (RSt w 48 2 (.slice va pre.length vc) pre.length (cellsPair pre) (w3.alloc (Obj.cells #[Value.string B, Value.string U] 48))) := (S2.out.step hb3).alloc _
          clear hb3 S2 b02 b12 b22
          go_wp2_with (at_builtin; refine wpList_append_lies _ rfl _ _ 27 rfl w.heap.size 48 i0 (.agg #[.string ByteArray.empty, .string ByteArray.empty]) 2 32 Tryd.underlying27 hi hz0 hz1 hz2 rfl (Nat.zero_lt_succ _) _ pre.length (cellsPair pre) rfl ((S3.out.alloc _).own) ⟨w3.heap.size + 1, 0, none⟩ 1 1 [.string B, .string U] rfl rfl (news_two (cs := #[.string B, .string U]) (t := 48) (fr := (0, 0))) (pair_news ⟨B, U⟩) (Nat.zero_lt_succ _) hpl hby (by have h2 := S3.out.below.size; simp at h2 ⊢; omega) (w3.heap.size + 1 + 1) (by simp) ?_; intro g2 cap2 w8 hown8 hgrow hat hlt8)
          have S9 : Hid (RSt w 48 2 (.slice (some ⟨g2, 0, none⟩) (pre.length + 1) cap2) (pre.length + 1) (cellsPair pre ++ [.string B, .string U]) w8) := (S3.out.alloc _).app hgrow hown8
          clear hown8 hgrow hat hlt8 S3
          go_roundw
          case rel =>
            refine ⟨lA.length, j + 1, _, pre ++ [⟨B, U⟩], by omega, by omega, by first | rfl | go_num, by first | rfl | go_num, rfl, ?_, ?_⟩
            · rw [List.append_assoc, ← HEQ.out, HCASE.out]; rfl
            · rw [List.length_append, cellsPair_app]; exact S9.out
          case measure => simp [intOf]; omega
      · obtain rfl : j = lB.length := by omega
        have HE : Hid (pre = Maps.doing lA lB) := by
          show _ = _
          rw [← HEQ.out, drop_end, drop_end, Maps.doing, List.append_nil]
        clear hB
        go_wp2
        go_ret
        refine ⟨_, rfl, ?_, HS.out.below⟩
        rw [← HE.out]
        exact HS.out.own
end Go.Proofs.YtpedpdgkbmpfjaaDoor
