/- The exact law of ReadBatch, walked. -/
import Derived.Test.YtjheeeijikldpaaSpecRead2
import Derived.Test.YtjheeeijikldpaaImplRead
import Derived.Test.YtjheeeijikldpaaMarkChange
import Derived.Test.YtjheeeijikldpaaBatch
import Derived.Test.YtjheeeijikldpaaLaw
namespace Go.Proofs.Ytjheeeijikldpaa
open Go.RowKit
set_option linter.unusedVariables false

/-- What ReadBatch is to answer. -/
def Res (t : ByteArray) (st : Int) (l : List ChangeL) (R : Bool) : Prop := (∃ n : Nat, st = (n : Int) ∧ Batches.Got t n l ∧ R = true) ∨ ((∀ n m, ¬ Batches.Got t n m) ∧ st = 0 ∧ l = [] ∧ R = false)
theorem res_ex (t : ByteArray) : ∃ st l R, Res t st l R := by
  by_cases h : ∃ n m, Batches.Got t n m
  · obtain ⟨n, m, h⟩ := h
    exact ⟨n, m, true, Or.inl ⟨n, rfl, h, rfl⟩⟩
  · exact ⟨0, [], false, Or.inr ⟨fun n m hg => h ⟨n, m, hg⟩, rfl, rfl, rfl⟩⟩
theorem Res.len {t : ByteArray} {st : Int} {l : List ChangeL} {R : Bool} (h : Res t st l R) : l.length ≤ 60 := by
  rcases h with ⟨n, _, h, _⟩ | ⟨_, _, rfl, _⟩
  · exact h.2.2.1
  · simp
theorem specReadB_any {t : ByteArray} {st : Int} {l : List ChangeL} {R : Bool} (hR : Res t st l R) (hs : t.size ≤ 1048576) (w : World) :
    Calls Try.prog 18 #[.string t] w fun en w' => ∃ v, en = .returned (.tuple #[.agg #[.int .i64 st, v], .bool R]) ∧ w'.ownsRow w.heap.size 47 3 v l.length (cellsChange l) ∧ Below w.heap.size w w' := by
  rcases hR with ⟨n, rfl, h, rfl⟩ | ⟨h, rfl, rfl, rfl⟩
  · exact specReadB_got hs w h
  · exact (specReadB_none hs w h).mono fun e w' ⟨h1, h2⟩ => ⟨_, h1, World.ownsRow_nil _ _ _ _, h2⟩
theorem implReadB_any {t : ByteArray} {st : Int} {l : List ChangeL} {R : Bool} (hR : Res t st l R) (hs : t.size ≤ 1048576) (w : World) :
    Calls Try.prog 10 #[.string t] w fun en w' => ∃ v, en = .returned (.tuple #[.agg #[.int .i64 st, v], .bool R]) ∧ w'.ownsRow w.heap.size 47 3 v l.length (cellsChange l) ∧ Below w.heap.size w w' := by
  rcases hR with ⟨n, rfl, h, rfl⟩ | ⟨h, rfl, rfl, rfl⟩
  · exact implReadB_yes hs w h
  · exact (implReadB_no hs w h).mono fun e w' ⟨h1, h2⟩ => ⟨_, h1, World.ownsRow_nil _ _ _ _, h2⟩

set_option maxHeartbeats 1000000 in
set_option maxRecDepth 100000 in
theorem lawRead_any (t : ByteArray) (hmax : t.size ≤ maxLen) (w : World) :
    Calls Try.prog 6 #[.string t] w fun e w' => e = .returned (.bool true) ∧ Below w.heap.size w w' := by
  unfold maxLen at hmax
  by_cases hbig : 1048576 < t.size
  · go_enter Try.func6, Try.ntmps6
    go_wp2
    go_ret
    exact ⟨rfl, Below.refl _ _⟩
  · have hs : t.size ≤ 1048576 := by omega
    obtain ⟨st, l, R, hR⟩ := res_ex t
    have hl := hR.len
    have HR : Hid (Res t st l R) := hR
    clear hR
    go_enter Try.func6, Try.ntmps6
    go_wp2_with fail
    refine (specReadB_any HR.out hs w).mono ?_
    rintro en w1 ⟨v1, rfl, ho1, hb1⟩
    obtain ⟨a1, c1, rfl⟩ := own_slice ho1
    have L1 : Hid (LawS w [] [⟨.slice a1 l.length c1, 47, 3, l.length, cellsChange l⟩] w1) := (LawS.start w).call hb1 ho1
    clear ho1 hb1
    go_wp2_with fail
    obtain ⟨W1, hW1⟩ : ∃ W1, W1 = w1.alloc (Obj.cells #[Value.int IntKind.i64 st, Value.slice a1 l.length c1] 26 (0, 0)) := ⟨_, rfl⟩
    have L2 : Hid (LawS w [(w1.heap.size, (Obj.cells #[Value.int IntKind.i64 st, Value.slice a1 l.length c1] 26 (0, 0)))] [⟨.slice a1 l.length c1, 47, 3, l.length, cellsChange l⟩] W1) := by rw [hW1]; exact L1.out.alloc _
    rw [← hW1]
    clear hW1 L1
    obtain ⟨b1, hb1⟩ : ∃ b1, b1 = w1.heap.size := ⟨_, rfl⟩
    rw [← hb1] at L2 ⊢
    clear hb1
    refine (implReadB_any HR.out hs _).mono ?_
    rintro en w2 ⟨v2, rfl, ho2, hb2⟩
    obtain ⟨a2, c2, rfl⟩ := own_slice ho2
    have L3 : Hid (LawS w [(b1, (Obj.cells #[Value.int IntKind.i64 st, Value.slice a1 l.length c1] 26 (0, 0)))] [⟨.slice a2 l.length c2, 47, 3, l.length, cellsChange l⟩, ⟨.slice a1 l.length c1, 47, 3, l.length, cellsChange l⟩] w2) := L2.out.call hb2 ho2
    clear ho2 hb2 L2
    obtain ⟨W2, hW2⟩ : ∃ W2, W2 = w2.alloc (Obj.cells #[Value.int IntKind.i64 st, Value.slice a2 l.length c2] 26 (0, 0)) := ⟨_, rfl⟩
    have L4 : Hid (LawS w [(w2.heap.size, (Obj.cells #[Value.int IntKind.i64 st, Value.slice a2 l.length c2] 26 (0, 0))), (b1, (Obj.cells #[Value.int IntKind.i64 st, Value.slice a1 l.length c1] 26 (0, 0)))] [⟨.slice a2 l.length c2, 47, 3, l.length, cellsChange l⟩, ⟨.slice a1 l.length c1, 47, 3, l.length, cellsChange l⟩] W2) := by rw [hW2]; exact L3.out.alloc _
    obtain ⟨d0, d1⟩ := L4.out.two (List.Mem.head _)
    obtain ⟨e0, e1⟩ := L4.out.two (List.Mem.tail _ (List.Mem.head _))
    rw [hW2] at d0 d1 e0 e1
    go_wp2_with fail
    rw [← hW2]
    clear d0 d1 e0 e1 hW2 L3
    obtain ⟨b2, hb2⟩ : ∃ b2, b2 = w2.heap.size := ⟨_, rfl⟩
    rw [← hb2] at L4 ⊢
    clear hb2
    obtain ⟨_, g1, _, e1, hA1⟩ := cellsChange_slice (L4.out.row 1 rfl)
    cases e1
    obtain ⟨_, g2, _, e2, hA2⟩ := cellsChange_slice (L4.out.row 0 rfl)
    cases e2
    refine (eqBatch_same l (by omega) _ hA2 hA1).mono ?_
    rintro en w3 ⟨rfl, hb3⟩
    have L5 : Hid (LawS w [(b2, (Obj.cells #[Value.int IntKind.i64 st, Value.slice a2 l.length c2] 26 (0, 0))), (b1, (Obj.cells #[Value.int IntKind.i64 st, Value.slice a1 l.length c1] 26 (0, 0)))] [⟨.slice a2 l.length c2, 47, 3, l.length, cellsChange l⟩, ⟨.slice a1 l.length c1, 47, 3, l.length, cellsChange l⟩] w3) := L4.out.step hb3
    clear hb3 hA1 hA2 L4
    obtain ⟨d0, d1⟩ := L5.out.two (List.Mem.head _)
    go_wp2_with fail
    clear d0 d1
    refine (markBatch_is st l (by omega) _ (L5.out.row 0 rfl)).mono ?_
    rintro en w4 ⟨rfl, hown, hg⟩
    have L6 : Hid (LawS w [(b2, (Obj.cells #[Value.int IntKind.i64 st, Value.slice a2 l.length c2] 26 (0, 0))), (b1, (Obj.cells #[Value.int IntKind.i64 st, Value.slice a1 l.length c1] 26 (0, 0)))] [⟨.slice a2 l.length c2, 47, 3, l.length, cellsChange (marksChange 1 l.length)⟩, ⟨.slice a1 l.length c1, 47, 3, l.length, cellsChange l⟩] w4) := L5.out.mark 0 (r := ⟨.slice a2 l.length c2, 47, 3, l.length, cellsChange l⟩) rfl hg hown
    clear hown hg L5
    obtain ⟨M, hM⟩ : ∃ M : Nat, M = 1 + 3 * l.length := ⟨_, rfl⟩
    rw [← hM]
    have hM0 : ¬ (M : Int) < 0 := by omega
    obtain ⟨d0, d1⟩ := L6.out.two (List.Mem.head _)
    go_wp2_with fail
    clear d0 d1
    obtain ⟨_, g5, _, e5, hA5⟩ := marks_at (L6.out.row 0 rfl)
    cases e5
    refine (heldBatch_is st l.length (by omega) _ hA5).mono ?_
    rintro en w5 ⟨rfl, hb5⟩
    have L7 : Hid (LawS w [(b2, (Obj.cells #[Value.int IntKind.i64 st, Value.slice a2 l.length c2] 26 (0, 0))), (b1, (Obj.cells #[Value.int IntKind.i64 st, Value.slice a1 l.length c1] 26 (0, 0)))] [⟨.slice a2 l.length c2, 47, 3, l.length, cellsChange (marksChange 1 l.length)⟩, ⟨.slice a1 l.length c1, 47, 3, l.length, cellsChange l⟩] w5) := L6.out.step hb5
    clear hb5 hA5 L6
    rw [← hM]
    go_wp2_with fail
    refine (implReadB_any HR.out hs _).mono ?_
    rintro en w6 ⟨v3, rfl, ho3, hb3⟩
    obtain ⟨a3, c3, rfl⟩ := own_slice ho3
    have L8 : Hid (LawS w [(b2, (Obj.cells #[Value.int IntKind.i64 st, Value.slice a2 l.length c2] 26 (0, 0))), (b1, (Obj.cells #[Value.int IntKind.i64 st, Value.slice a1 l.length c1] 26 (0, 0)))] [⟨.slice a3 l.length c3, 47, 3, l.length, cellsChange l⟩, ⟨.slice a2 l.length c2, 47, 3, l.length, cellsChange (marksChange 1 l.length)⟩, ⟨.slice a1 l.length c1, 47, 3, l.length, cellsChange l⟩] w6) := L7.out.call hb3 ho3
    clear ho3 hb3 L7
    obtain ⟨W3, hW3⟩ : ∃ W3, W3 = w6.alloc (Obj.cells #[Value.int IntKind.i64 st, Value.slice a3 l.length c3] 26 (0, 0)) := ⟨_, rfl⟩
    have L9 : Hid (LawS w [(w6.heap.size, (Obj.cells #[Value.int IntKind.i64 st, Value.slice a3 l.length c3] 26 (0, 0))), (b2, (Obj.cells #[Value.int IntKind.i64 st, Value.slice a2 l.length c2] 26 (0, 0))), (b1, (Obj.cells #[Value.int IntKind.i64 st, Value.slice a1 l.length c1] 26 (0, 0)))] [⟨.slice a3 l.length c3, 47, 3, l.length, cellsChange l⟩, ⟨.slice a2 l.length c2, 47, 3, l.length, cellsChange (marksChange 1 l.length)⟩, ⟨.slice a1 l.length c1, 47, 3, l.length, cellsChange l⟩] W3) := by rw [hW3]; exact L8.out.alloc _
    obtain ⟨d0, d1⟩ := L9.out.two (List.Mem.head _)
    obtain ⟨e0, e1⟩ := L9.out.two (List.Mem.tail _ (List.Mem.tail _ (List.Mem.head _)))
    rw [hW3] at d0 d1 e0 e1
    go_wp2_with fail
    rw [← hW3]
    clear d0 d1 e0 e1 hW3 L8
    obtain ⟨b3, hb3⟩ : ∃ b3, b3 = w6.heap.size := ⟨_, rfl⟩
    rw [← hb3] at L9 ⊢
    clear hb3
    obtain ⟨_, g6, _, e6, hA6⟩ := cellsChange_slice (L9.out.row 2 rfl)
    cases e6
    obtain ⟨_, g7, _, e7, hA7⟩ := cellsChange_slice (L9.out.row 0 rfl)
    cases e7
    refine (eqBatch_same l (by omega) _ hA7 hA6).mono ?_
    rintro en w7 ⟨rfl, hb7⟩
    have L10 : Hid (LawS w [(b3, (Obj.cells #[Value.int IntKind.i64 st, Value.slice a3 l.length c3] 26 (0, 0))), (b2, (Obj.cells #[Value.int IntKind.i64 st, Value.slice a2 l.length c2] 26 (0, 0))), (b1, (Obj.cells #[Value.int IntKind.i64 st, Value.slice a1 l.length c1] 26 (0, 0)))] [⟨.slice a3 l.length c3, 47, 3, l.length, cellsChange l⟩, ⟨.slice a2 l.length c2, 47, 3, l.length, cellsChange (marksChange 1 l.length)⟩, ⟨.slice a1 l.length c1, 47, 3, l.length, cellsChange l⟩] w7) := L9.out.step hb7
    clear hb7 hA6 hA7 L9
    obtain ⟨d0, d1⟩ := L10.out.two (List.Mem.tail _ (List.Mem.head _))
    go_wp2_with fail
    clear d0 d1
    obtain ⟨_, g8, _, e8, hA8⟩ := marks_at (L10.out.row 1 rfl)
    cases e8
    refine (heldBatch_is st l.length (by omega) _ hA8).mono ?_
    rintro en w8 ⟨rfl, hb8⟩
    have L11 : Hid (LawS w [(b3, (Obj.cells #[Value.int IntKind.i64 st, Value.slice a3 l.length c3] 26 (0, 0))), (b2, (Obj.cells #[Value.int IntKind.i64 st, Value.slice a2 l.length c2] 26 (0, 0))), (b1, (Obj.cells #[Value.int IntKind.i64 st, Value.slice a1 l.length c1] 26 (0, 0)))] [⟨.slice a3 l.length c3, 47, 3, l.length, cellsChange l⟩, ⟨.slice a2 l.length c2, 47, 3, l.length, cellsChange (marksChange 1 l.length)⟩, ⟨.slice a1 l.length c1, 47, 3, l.length, cellsChange l⟩] w8) := L10.out.step hb8
    clear hb8 hA8 L10
    rw [← hM]
    go_wp2
    go_ret
    exact ⟨rfl, L11.out.below⟩
end Go.Proofs.Ytjheeeijikldpaa
