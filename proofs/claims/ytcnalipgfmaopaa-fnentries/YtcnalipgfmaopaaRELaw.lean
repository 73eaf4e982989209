/- The law of ReadEntry, walked. -/
import Derived.Test.YtcnalipgfmaopaaSpecRE
import Derived.Test.YtcnalipgfmaopaaImplRE
import Derived.Test.YtcnalipgfmaopaaEntLaws
namespace Go.Proofs.Ytcnalipgfmaopaa
open Go.RowKit
open Ents (okB kindB rest ent Gets Torn Got right text textS)
set_option linter.unusedVariables false
set_option linter.unusedSimpArgs false

theorem implRE_is {t : ByteArray} {i : Nat} {e : EntL} {R : Bool} (hs : t.size ≤ 1048576) (h : REIs t i e R) (w : World) :
    Calls Try.prog 25 #[.string t] w fun en w' => en = .returned (.tuple #[.int .i64 (i : Int), entV e, .bool R]) ∧ Below w.heap.size w w' := by
  have no : (∀ i' e', ¬ Got t i' e') → Calls Try.prog 25 #[.string t] w (fun en w' => en = .returned reNo ∧ Below w.heap.size w w') → Calls Try.prog 25 #[.string t] w fun en w' => en = .returned (.tuple #[.int .i64 (i : Int), entV e, .bool R]) ∧ Below w.heap.size w w' := fun hn hc => by
    obtain ⟨rfl, rfl, rfl⟩ := re_none h hn
    exact hc
  rcases Ents.torn_or t with ht | ⟨i', j, k, a, b, hg⟩
  · exact no (Ents.torn_not ht) (implRE_fails hs w (Or.inl ht))
  · cases hk : kindB (ent t j k b) with
    | false =>
      refine no (fun i2 e2 hgot => ?_) (implRE_fails hs w (Or.inr ⟨_, _, _, _, _, hg, hk⟩))
      obtain ⟨_, rfl⟩ := Ents.got_of hg hgot
      have := (Ents.okB_iff.1 hgot.2.1).2
      rw [hk] at this
      cases this
    | true =>
      by_cases hr : right (i' : Int) (ent t j k b)
      · obtain ⟨h1, h2, h3⟩ := re_uniq h ((Ents.gets_got hg).2 hr)
        subst h1 h2 h3
        exact implRE_got hs w hg hr
      · refine no (fun i2 e2 hgot => ?_) (implRE_wrong hs w hg hk hr)
        obtain ⟨rfl, rfl⟩ := Ents.got_of hg hgot
        exact hr hgot.2
set_option maxHeartbeats 2000000 in
set_option maxRecDepth 100000 in
theorem lawReadEntry_any (t : ByteArray) (ht : t.size ≤ maxLen) (w : World) : Calls Try.prog 7 #[.string t] w fun en w' => en = .returned (.bool true) ∧ Below w.heap.size w w' := by
  unfold maxLen at ht
  by_cases hbig : 1048576 < t.size
  · have h1 : (1048576 : Int) < (t.size : Int) := by omega
    go_enter Try.func7, Try.ntmps7
    go_wp2
    go_ret
    exact ⟨rfl, Below.refl _ _⟩
  · have h1 : ¬ (1048576 : Int) < (t.size : Int) := by omega
    obtain ⟨i, e, R, hre⟩ := re_ex t
    have HSP : Hid (∀ W, Calls Try.prog 24 #[.string t] W fun en w' => en = .returned (.tuple #[.int .i64 (i : Int), entV e, .bool R]) ∧ Below W.heap.size W w') := fun W => specRE_is (by omega) hre W
    have HIM : Hid (∀ W, Calls Try.prog 25 #[.string t] W fun en w' => en = .returned (.tuple #[.int .i64 (i : Int), entV e, .bool R]) ∧ Below W.heap.size W w') := fun W => implRE_is (by omega) hre W
    have HEQ : Hid (∀ W, Calls Try.prog 26 #[entV e, entV e] W fun en w' => en = .returned (.bool true) ∧ Below W.heap.size W w') := fun W => eqEntry_same e W
    unfold entV at HSP HIM HEQ
    have hn1 : (!((i : Int) == (i : Int))) = false := by simp
    have hn2 : (!(R == R)) = false := by simp
    clear hre
    go_enter Try.func7, Try.ntmps7
    go_wp2_with fail
    refine Calls.mono (HSP.out _) ?_
    rintro en w1 ⟨rfl, hb1⟩
    have HB1 : Hid (Below w.heap.size w w1) := hb1
    clear hb1
    obtain ⟨W2, hW2⟩ : ∃ W2, W2 = w1.alloc (Obj.cells #[.int .i64 e.term, .int .i64 e.kind, .string e.data] 36) := ⟨_, rfl⟩
    have hE2 : W2.heap[w1.heap.size]? = some (.cells #[.int .i64 e.term, .int .i64 e.kind, .string e.data] 36 (0, 0)) := by rw [hW2]; exact heap_alloc_new w1 _
    have HE2 : Hid (W2.heap[w1.heap.size]? = some (.cells #[.int .i64 e.term, .int .i64 e.kind, .string e.data] 36 (0, 0))) := hE2
    have HB2 : Hid (Below w.heap.size w W2) := by rw [hW2]; exact HB1.out.alloc HB1.out.size _
    clear hE2
    go_wp2_with fail
    rw [← hW2]
    clear hW2
    refine Calls.mono (HIM.out _) ?_
    rintro en w3 ⟨rfl, hb3⟩
    have he3 := (hb3.block _ (Array.getElem?_eq_some_iff.1 HE2.out).1).trans HE2.out
    have HB3 : Hid (Below w.heap.size w w3) := HB2.out.trans (hb3.mono HB2.out.size)
    have hl : w1.heap.size < w3.heap.size := (Array.getElem?_eq_some_iff.1 he3).1
    have x0 := cell_of_row _ _ 0 _ _ _ he3
    have x1 := cell_of_row _ _ 1 _ _ _ he3
    have x2 := cell_of_row _ _ 2 _ _ _ he3
    simp at x0 x1 x2
    have HB4 : Hid (Below w.heap.size w (w3.alloc (Obj.cells #[.int .i64 e.term, .int .i64 e.kind, .string e.data] 36))) := HB3.out.alloc HB3.out.size _
    obtain ⟨p, hp⟩ : ∃ p, p = w1.heap.size := ⟨_, rfl⟩
    rw [← hp] at x0 x1 x2 hl ⊢
    clear he3 hb3 HB2 HE2 hp
    go_wp2_with fail
    refine Calls.mono (HEQ.out _) ?_
    rintro en w5 ⟨rfl, hb5⟩
    have HB5 : Hid (Below w.heap.size w w5) := HB4.out.trans (hb5.mono HB4.out.size)
    clear hb5
    go_wp2
    go_ret
    exact ⟨rfl, HB5.out⟩
end Go.Proofs.Ytcnalipgfmaopaa
