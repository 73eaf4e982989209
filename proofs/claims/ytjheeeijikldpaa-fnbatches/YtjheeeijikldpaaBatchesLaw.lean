/- The law FnBatches, walked: a drawn batch, right or not. -/
import Derived.Test.YtjheeeijikldpaaSameBatch
import Derived.Test.YtjheeeijikldpaaReadLawB
import Derived.Test.YtjheeeijikldpaaTextLaw
namespace Go.Proofs.Ytjheeeijikldpaa
open Go.RowKit
set_option linter.unusedVariables false

theorem one_len {c : ChangeL} (h : Batches.changeOk c) : (Batches.one c).length ≤ 200 := by
  have h1 := Batches.short_len c.key
  have h2 := Batches.short_len c.value
  have h3 := h.2.1
  have h4 := h.2.2.1
  simp only [Batches.one, List.length_append, List.length_cons]
  omega
theorem many_len : ∀ l : List ChangeL, (∀ c ∈ l, Batches.changeOk c) → (Batches.many l).length ≤ 200 * l.length
  | [], _ => by simp [Batches.many]
  | c :: l, h => by
    have h1 := one_len (h c List.mem_cons_self)
    have h2 := many_len l (fun x hx => h x (List.mem_cons_of_mem _ hx))
    simp only [Batches.many, List.length_append, List.length_cons]
    omega
theorem text_len {st : Int} {l : List ChangeL} (h : Batches.ok st l) : (⟨(Batches.text st.toNat l).toArray⟩ : ByteArray).size ≤ 1048576 := by
  have h1 := Words.var_len st.toNat
  have h2 := Words.var_len l.length
  have h3 := many_len l (fun c hc => by
    obtain ⟨j, hj, rfl⟩ := List.mem_iff_getElem.1 hc
    exact (h.2.2 j hj).2.1)
  have h4 := h.2.1
  have h5 := h.1
  rw [(Is.mk (Batches.text st.toNat l)).size]
  simp only [Batches.text, List.length_append]
  omega
theorem text_res {st : Int} {l : List ChangeL} (h : Batches.ok st l) : Res ⟨(Batches.text st.toNat l).toArray⟩ st l true := by
  have e : ((st.toNat : Nat) : Int) = st := Int.toNat_of_nonneg h.1.1
  exact Or.inl ⟨st.toNat, e.symm, ⟨rfl, by rw [e]; exact h⟩, rfl⟩

set_option maxHeartbeats 400000 in
theorem fnBatches_big {a : Option Addr} {len cap : Nat} (w : World) (h : 1048576 < len) :
    Calls Try.prog 3 #[.slice a len cap] w fun e w' => e = .returned (.bool true) ∧ Below w.heap.size w w' := by
  go_enter Try.func3, Try.ntmps3
  go_wp2_with (go_at_call 7; refine (big_yes a len cap h _).mono ?_; rintro e w1 ⟨rfl, rfl⟩)
  go_ret
  exact ⟨rfl, Below.refl _ _⟩
set_option maxHeartbeats 1000000 in
set_option maxRecDepth 100000 in
theorem fnBatches_any {a : Option Addr} {len cap b off : Nat} {z : Nat → Int} (w : World) (hc : Code w.heap.size w a len b off z) :
    Calls Try.prog 3 #[.slice a len cap] w fun e w' => e = .returned (.bool true) ∧ Below w.heap.size w w' := by
  have hlen := hc.2.1
  have HC : Hid (Code w.heap.size w a len b off z) := hc
  clear hc
  go_enter Try.func3, Try.ntmps3
  go_wp2_with fail
  refine (big_no a len cap hlen w).mono ?_
  rintro e wz ⟨rfl, hwz⟩
  subst hwz
  go_wp2_with fail
  refine (drawBatch_any w (Nat.le_refl _) HC.out).mono ?_
  rintro e w1 ⟨st, v, l, rfl, ho1, hl, hlite, hb1⟩
  obtain ⟨a1, c1, rfl⟩ := own_slice ho1
  have HLT : Hid (∀ c ∈ l, smallChange 2097152 c) := hlite
  have L1 : Hid (LawS w [] [⟨.slice a1 l.length c1, 47, 3, l.length, cellsChange l⟩] w1) := (LawS.start w).call hb1 ho1
  clear ho1 hb1 hlite HC
  obtain ⟨W1, hW1⟩ : ∃ W1, W1 = w1.alloc (Obj.cells #[Value.int IntKind.i64 st, Value.slice a1 l.length c1] 26 (0, 0)) := ⟨_, rfl⟩
  have L2 : Hid (LawS w [(w1.heap.size, (Obj.cells #[Value.int IntKind.i64 st, Value.slice a1 l.length c1] 26 (0, 0)))] [⟨.slice a1 l.length c1, 47, 3, l.length, cellsChange l⟩] W1) := by rw [hW1]; exact L1.out.alloc _
  obtain ⟨d0, d1⟩ := L2.out.two (List.Mem.head _)
  rw [hW1] at d0 d1
  obtain ⟨S, R, hT⟩ := txt_ex st l
  have HT : Hid (Txt st l S R) := hT
  clear hT
  go_wp2_with fail
  rw [← hW1]
  clear hW1 L1 d0 d1
  obtain ⟨b1, hb1⟩ : ∃ b1, b1 = w1.heap.size := ⟨_, rfl⟩
  rw [← hb1] at L2 ⊢
  clear hb1
  obtain ⟨_, g1, _, e1, hA1⟩ := cellsChange_slice (L2.out.row 0 rfl)
  cases e1
  refine (implText_any HT.out (by omega) W1 hA1 HLT.out).mono ?_
  rintro e w2 ⟨rfl, hb2⟩
  have L3 : Hid (LawS w [(b1, (Obj.cells #[Value.int IntKind.i64 st, Value.slice a1 l.length c1] 26 (0, 0)))] [⟨.slice a1 l.length c1, 47, 3, l.length, cellsChange l⟩] w2) := L2.out.step hb2
  clear hb2 hA1 L2
  obtain ⟨st2, l2, R2, hR2, hcase, hSz⟩ : ∃ st2 l2 R2, Res S st2 l2 R2 ∧ ((R = true ∧ st = st2 ∧ l = l2 ∧ R2 = true ∧ Batches.ok st l) ∨ (R = false ∧ ¬ Batches.ok st l)) ∧ S.size ≤ 1048576 := by
    rcases HT.out with ⟨h1, rfl, rfl⟩ | ⟨h1, rfl, rfl⟩
    · exact ⟨st, l, true, text_res h1, Or.inl ⟨rfl, rfl, rfl, rfl, h1⟩, text_len h1⟩
    · obtain ⟨st2, l2, R2, h2⟩ := res_ex ⟨#[]⟩
      exact ⟨st2, l2, R2, h2, Or.inr ⟨rfl, h1⟩, Nat.zero_le _⟩
  have HR2 : Hid (Res S st2 l2 R2) := hR2
  clear hR2
  go_wp2_with fail
  refine (implReadB_any HR2.out hSz _).mono ?_
  rintro e w3 ⟨v3, rfl, ho3, hb3⟩
  obtain ⟨a2, c2, rfl⟩ := own_slice ho3
  have L4 : Hid (LawS w [(b1, (Obj.cells #[Value.int IntKind.i64 st, Value.slice a1 l.length c1] 26 (0, 0)))] [⟨.slice a2 l2.length c2, 47, 3, l2.length, cellsChange l2⟩, ⟨.slice a1 l.length c1, 47, 3, l.length, cellsChange l⟩] w3) := L3.out.call hb3 ho3
  clear ho3 hb3 L3
  obtain ⟨W3, hW3⟩ : ∃ W3, W3 = w3.alloc (Obj.cells #[Value.int IntKind.i64 st2, Value.slice a2 l2.length c2] 26 (0, 0)) := ⟨_, rfl⟩
  have L5 : Hid (LawS w [(w3.heap.size, (Obj.cells #[Value.int IntKind.i64 st2, Value.slice a2 l2.length c2] 26 (0, 0))), (b1, (Obj.cells #[Value.int IntKind.i64 st, Value.slice a1 l.length c1] 26 (0, 0)))] [⟨.slice a2 l2.length c2, 47, 3, l2.length, cellsChange l2⟩, ⟨.slice a1 l.length c1, 47, 3, l.length, cellsChange l⟩] W3) := by rw [hW3]; exact L4.out.alloc _
  obtain ⟨d0, d1⟩ := L5.out.two (List.Mem.head _)
  obtain ⟨e0, e1⟩ := L5.out.two (List.Mem.tail _ (List.Mem.head _))
  rw [hW3] at d0 d1 e0 e1
  go_wp2_with fail
  rw [← hW3]
  clear hW3 L4 d0 d1 e0 e1
  obtain ⟨b2, hb2⟩ : ∃ b2, b2 = w3.heap.size := ⟨_, rfl⟩
  rw [← hb2] at L5 ⊢
  clear hb2
  have hl2 : l.length ≤ 2097152 := by omega
  have hl3 : l.length ≤ 1048576 := by omega
  rcases hcase with ⟨rfl, rfl, rfl, rfl, hok⟩ | ⟨rfl, hok⟩
  · have HQ : Hid (Batches.ok st l) := hok
    clear hok
    obtain ⟨_, g1, _, ee1, hA1⟩ := cellsChange_slice (L5.out.row 1 rfl)
    cases ee1
    refine (specOk_any true st l hl2 _ hA1 HLT.out (by simp [HQ.out])).mono ?_
    rintro e w4 ⟨rfl, hb4⟩
    have L6 : Hid (LawS w [(b2, (Obj.cells #[Value.int IntKind.i64 st, Value.slice a2 l.length c2] 26 (0, 0))), (b1, (Obj.cells #[Value.int IntKind.i64 st, Value.slice a1 l.length c1] 26 (0, 0)))] [⟨.slice a2 l.length c2, 47, 3, l.length, cellsChange l⟩, ⟨.slice a1 l.length c1, 47, 3, l.length, cellsChange l⟩] w4) := L5.out.step hb4
    clear hb4 hA1 L5
    obtain ⟨d0, d1⟩ := L6.out.two (List.Mem.head _)
    obtain ⟨e0, e1⟩ := L6.out.two (List.Mem.tail _ (List.Mem.head _))
    go_wp2_with fail
    clear d0 d1 e0 e1
    obtain ⟨_, g1, _, ee1, hA1⟩ := cellsChange_slice (L6.out.row 1 rfl)
    cases ee1
    refine (implOk_any true st l hl2 _ hA1 HLT.out (by simp [HQ.out])).mono ?_
    rintro e w5 ⟨rfl, hb5⟩
    have L7 : Hid (LawS w [(b2, (Obj.cells #[Value.int IntKind.i64 st, Value.slice a2 l.length c2] 26 (0, 0))), (b1, (Obj.cells #[Value.int IntKind.i64 st, Value.slice a1 l.length c1] 26 (0, 0)))] [⟨.slice a2 l.length c2, 47, 3, l.length, cellsChange l⟩, ⟨.slice a1 l.length c1, 47, 3, l.length, cellsChange l⟩] w5) := L6.out.step hb5
    clear hb5 hA1 L6
    obtain ⟨d0, d1⟩ := L7.out.two (List.Mem.head _)
    obtain ⟨e0, e1⟩ := L7.out.two (List.Mem.tail _ (List.Mem.head _))
    go_wp2_with fail
    clear d0 d1 e0 e1
    obtain ⟨_, g1, _, ee1, hA1⟩ := cellsChange_slice (L7.out.row 1 rfl)
    cases ee1
    obtain ⟨_, g2, _, ee2, hA2⟩ := cellsChange_slice (L7.out.row 0 rfl)
    cases ee2
    refine (sameBatch_yes l hl3 _ hA2 hA1).mono ?_
    rintro e w6 ⟨rfl, hb6⟩
    have L8 : Hid (LawS w [(b2, (Obj.cells #[Value.int IntKind.i64 st, Value.slice a2 l.length c2] 26 (0, 0))), (b1, (Obj.cells #[Value.int IntKind.i64 st, Value.slice a1 l.length c1] 26 (0, 0)))] [⟨.slice a2 l.length c2, 47, 3, l.length, cellsChange l⟩, ⟨.slice a1 l.length c1, 47, 3, l.length, cellsChange l⟩] w6) := L7.out.step hb6
    clear hb6 hA1 hA2 L7
    go_wp2
    go_ret
    exact ⟨rfl, L8.out.below⟩
  · have HQ : Hid (¬ Batches.ok st l) := hok
    clear hok
    obtain ⟨_, g1, _, ee1, hA1⟩ := cellsChange_slice (L5.out.row 1 rfl)
    cases ee1
    refine (specOk_any false st l hl2 _ hA1 HLT.out (by simp [HQ.out])).mono ?_
    rintro e w4 ⟨rfl, hb4⟩
    have L6 : Hid (LawS w [(b2, (Obj.cells #[Value.int IntKind.i64 st2, Value.slice a2 l2.length c2] 26 (0, 0))), (b1, (Obj.cells #[Value.int IntKind.i64 st, Value.slice a1 l.length c1] 26 (0, 0)))] [⟨.slice a2 l2.length c2, 47, 3, l2.length, cellsChange l2⟩, ⟨.slice a1 l.length c1, 47, 3, l.length, cellsChange l⟩] w4) := L5.out.step hb4
    clear hb4 hA1 L5
    obtain ⟨d0, d1⟩ := L6.out.two (List.Mem.head _)
    obtain ⟨e0, e1⟩ := L6.out.two (List.Mem.tail _ (List.Mem.head _))
    go_wp2_with fail
    clear d0 d1 e0 e1
    obtain ⟨_, g1, _, ee1, hA1⟩ := cellsChange_slice (L6.out.row 1 rfl)
    cases ee1
    refine (implOk_any false st l hl2 _ hA1 HLT.out (by simp [HQ.out])).mono ?_
    rintro e w5 ⟨rfl, hb5⟩
    have L7 : Hid (LawS w [(b2, (Obj.cells #[Value.int IntKind.i64 st2, Value.slice a2 l2.length c2] 26 (0, 0))), (b1, (Obj.cells #[Value.int IntKind.i64 st, Value.slice a1 l.length c1] 26 (0, 0)))] [⟨.slice a2 l2.length c2, 47, 3, l2.length, cellsChange l2⟩, ⟨.slice a1 l.length c1, 47, 3, l.length, cellsChange l⟩] w5) := L6.out.step hb5
    clear hb5 hA1 L6
    obtain ⟨d0, d1⟩ := L7.out.two (List.Mem.head _)
    obtain ⟨e0, e1⟩ := L7.out.two (List.Mem.tail _ (List.Mem.head _))
    go_wp2
    go_ret
    exact ⟨rfl, L7.out.below⟩
end Go.Proofs.Ytjheeeijikldpaa
