/- The calls of the program's reader, walked: one, flag, change. -/
import Derived.Test.YtinhgonmdnbdiaaReader
import Derived.StillTailTactics
namespace Go.Proofs.Ytinhgonmdnbdiaa
open Go.RowKit
set_option linter.unusedVariables false

theorem need_yes_q (r : Value) (w : World) : Calls Try.prog 83 #[r, .bool true] w fun e w' => e = .returned (.tuple #[]) ∧ w' = w := (need_yes r w).mono fun _ _ ⟨h1, h2⟩ => ⟨h1, h2.symm⟩
set_option maxHeartbeats 400000 in
theorem one_some {rb : Nat} {t : ByteArray} {a : Nat} (hs : t.size ≤ 1048576) (w : World) (hr : Rd w rb t a) (h : a < t.size) :
    Calls Try.prog 120 #[.pointer (some ⟨rb, 0, none⟩)] w fun e w' => e = .returned (.int .u8 (t[a].toNat : Int)) ∧ Rd w' rb t (a + 1) ∧ w.grownBy w' (some rb) := by
  have HR : Hid (Rd w rb t a) := hr
  have c0 := hr.c0
  have c1 := hr.c1
  have f1 := hr.fz 1
  have h' : (a : Int) < (t.size : Int) := by omega
  clear hr
  go_enter Try.func120, Try.ntmps120
  go_wp2_with fail
  go_quiet (first | (go_at_call 83; exact Calls.quiet_of_same (need_yes_q _ _)))
  go_wp2_with fail
  go_quiet (fail)
  go_wp2_with fail
  go_ret
  exact ⟨rfl, Rd.set (w := w.drewN _) (a := a) HR.out (b := a + 1) (by omega), (grown_drewN (World.grownBy.refl w _) _).trans (grown_set _ _ _ _)⟩
set_option maxHeartbeats 400000 in
set_option maxRecDepth 100000 in
theorem one_none {rb : Nat} {t : ByteArray} {a : Nat} (hs : t.size ≤ 1048576) (w : World) (hr : Rd w rb t a) (h : ¬ a < t.size) :
    Calls Try.prog 120 #[.pointer (some ⟨rb, 0, none⟩)] w fun e w' => e = .panicked thrown ∧ w.grownBy w' (some rb) := by
  have HR : Hid (Rd w rb t a) := hr
  have c0 := hr.c0
  have c1 := hr.c1
  have h' : decide ((a : Int) < (t.size : Int)) = false := decide_eq_false (by omega)
  have h2 : decide (a < t.size) = false := decide_eq_false h
  clear hr h
  go_enter Try.func120, Try.ntmps120
  go_wp2_with fail
  go_still_tail 11, (by kernel_rfl)
  go_wp2_with (go_at_call 83; refine (need_no _ _).mono ?_; rintro e w2 ⟨rfl, rfl⟩)
  exact ⟨rfl, rfl, grown_drew (World.grownBy.refl w _)⟩

theorem rdFlag_parts {t : ByteArray} {a b : Nat} {g : Bool} (h : Batches.rdFlag t a = some (g, b)) : ∃ ha : a < t.size, t[a].toNat ≤ 1 ∧ g = ((t[a].toNat : Int) == 1) ∧ b = a + 1 := by
  unfold Batches.rdFlag at h
  split at h
  · cases h
  · rename_i x hx
    obtain ⟨ha, hxe⟩ := List.getElem?_eq_some_iff.1 hx
    have ha' : a < t.size := ha
    have e : t[a] = x := hxe
    split at h
    · rename_i hb
      simp only [Option.some.injEq, Prod.mk.injEq] at h
      refine ⟨ha', by rw [e]; exact hb, ?_, h.2.symm⟩
      rw [e, ← h.1]
      rcases (show x.toNat = 0 ∨ x.toNat = 1 by omega) with q | q <;> rw [q] <;> rfl
    · cases h
theorem rdFlag_not {t : ByteArray} {a : Nat} (h : Batches.rdFlag t a = none) : ¬ a < t.size ∨ ∃ ha : a < t.size, ¬ t[a].toNat ≤ 1 := by
  by_cases ha : a < t.size
  · right
    refine ⟨ha, fun hb => ?_⟩
    unfold Batches.rdFlag at h
    have hx : (Batches.by_ t)[a]? = some t[a] := by
      rw [List.getElem?_eq_getElem (show a < (Batches.by_ t).length from ha)]; rfl
    rw [hx] at h
    simp only [if_pos hb] at h
    cases h
  · exact Or.inl ha
set_option maxHeartbeats 400000 in
theorem flag_some {rb : Nat} {t : ByteArray} {a b : Nat} {g : Bool} (hs : t.size ≤ 1048576) (w : World) (hr : Rd w rb t a) (h : Batches.rdFlag t a = some (g, b)) :
    Calls Try.prog 117 #[.pointer (some ⟨rb, 0, none⟩)] w fun e w' => e = .returned (.bool g) ∧ Rd w' rb t b ∧ w.grownBy w' (some rb) := by
  obtain ⟨ha, h1, hg, rfl⟩ := rdFlag_parts h
  have HR : Hid (Rd w rb t a) := hr
  obtain ⟨X, hX⟩ : ∃ X : Nat, X = t[a].toNat := ⟨_, rfl⟩
  have HX : Hid (X = t[a].toNat) := hX
  rw [← hX] at h1 hg
  have HA : Hid (a < t.size) := ha
  have h1' : (X : Int) ≤ 1 := by omega
  have HG : Hid (g = ((X : Int) == 1)) := hg
  clear hr h hX hg
  go_enter Try.func117, Try.ntmps117
  go_wp2_with (first | (go_at_call 120; refine (one_some hs _ HR.out HA.out).mono ?_; rintro e w1 ⟨rfl, hr1, hg1⟩; rw [← HX.out]) | (go_at_call 83; refine (need_yes _ _).mono ?_; rintro e w2 ⟨rfl, rfl⟩))
  go_ret
  exact ⟨by rw [HG.out]; rfl, hr1, hg1⟩
set_option maxHeartbeats 400000 in
theorem flag_none {rb : Nat} {t : ByteArray} {a : Nat} (hs : t.size ≤ 1048576) (w : World) (hr : Rd w rb t a) (h : Batches.rdFlag t a = none) :
    Calls Try.prog 117 #[.pointer (some ⟨rb, 0, none⟩)] w fun e w' => e = .panicked thrown ∧ w.grownBy w' (some rb) := by
  have HR : Hid (Rd w rb t a) := hr
  clear hr
  rcases rdFlag_not h with ha | ⟨ha, hb⟩
  · have HA : Hid (¬ a < t.size) := ha
    clear h ha
    go_enter Try.func117, Try.ntmps117
    go_wp2_with (first | (go_at_call 120; refine (one_none hs _ HR.out HA.out).mono ?_; rintro e w1 ⟨rfl, hg1⟩))
    exact ⟨rfl, rfl, hg1⟩
  · obtain ⟨X, hX⟩ : ∃ X : Nat, X = t[a].toNat := ⟨_, rfl⟩
    have HX : Hid (X = t[a].toNat) := hX
    rw [← hX] at hb
    have HA : Hid (a < t.size) := ha
    have h1 : decide ((X : Int) ≤ 1) = false := decide_eq_false (by omega)
    have h2 : decide (X ≤ 1) = false := decide_eq_false (by omega)
    clear h hX hb
    go_enter Try.func117, Try.ntmps117
    go_wp2_with (first | (go_at_call 120; refine (one_some hs _ HR.out HA.out).mono ?_; rintro e w1 ⟨rfl, hr1, hg1⟩; rw [← HX.out]) | (go_at_call 83; refine (need_no _ _).mono ?_; rintro e w2 ⟨rfl, rfl⟩))
    exact ⟨rfl, rfl, hg1⟩

theorem rdOne_parts {t : ByteArray} {a b : Nat} {c : ChangeL} (h : Batches.rdOne t a = some (c, b)) :
    ∃ a1 a2, Batches.rdShort t a = some (c.key, a1) ∧ Batches.rdFlag t a1 = some (c.gone, a2) ∧ Batches.rdShort t a2 = some (c.value, b) := by
  unfold Batches.rdOne at h
  split at h
  · cases h
  · rename_i k a1 h1
    split at h
    · cases h
    · rename_i g a2 h2
      split at h
      · cases h
      · rename_i v a3 h3
        simp only [Option.some.injEq, Prod.mk.injEq] at h
        obtain ⟨rfl, rfl⟩ := h
        exact ⟨a1, a2, h1, h2, h3⟩
theorem rdOne_not {t : ByteArray} {a : Nat} (h : Batches.rdOne t a = none) :
    Batches.rdShort t a = none ∨ (∃ k a1, Batches.rdShort t a = some (k, a1) ∧ Batches.rdFlag t a1 = none) ∨ (∃ k a1 g a2, Batches.rdShort t a = some (k, a1) ∧ Batches.rdFlag t a1 = some (g, a2) ∧ Batches.rdShort t a2 = none) := by
  unfold Batches.rdOne at h
  split at h
  · rename_i h1; exact Or.inl h1
  · rename_i k a1 h1
    split at h
    · rename_i h2; exact Or.inr (Or.inl ⟨k, a1, h1, h2⟩)
    · rename_i g a2 h2
      split at h
      · rename_i h3; exact Or.inr (Or.inr ⟨k, a1, g, a2, h1, h2, h3⟩)
      · cases h
theorem Rd.setNew {w : World} {rb : Nat} {t : ByteArray} {a : Nat} (h : Rd w rb t a) {k : Nat} (hk : rb ≠ k) (j : Nat) (v : Value) : Rd (w.setCell ⟨k, j, none⟩ v) rb t a := ⟨set_far h.1 hk j v, h.2⟩
set_option maxHeartbeats 1000000 in
set_option maxRecDepth 100000 in
theorem change_some {rb : Nat} {t : ByteArray} {a b : Nat} {c : ChangeL} (hs : t.size ≤ 1048576) (w : World) (hr : Rd w rb t a) (h : Batches.rdOne t a = some (c, b)) :
    Calls Try.prog 107 #[.pointer (some ⟨rb, 0, none⟩)] w fun e w' => e = .returned (changeV c) ∧ Rd w' rb t b ∧ w.grownBy w' (some rb) := by
  obtain ⟨a1, a2, h1, h2, h3⟩ := rdOne_parts h
  obtain ⟨A, V, G⟩ := c
  unfold changeV
  simp only at h1 h2 h3 ⊢
  have hlt := hr.lt
  have HR : Hid (Rd (w.alloc (Obj.cells #[Value.string ⟨#[]⟩, Value.string ⟨#[]⟩, Value.bool false] 53)) rb t a) := hr.below ((Below.refl _ _).alloc (Nat.le_refl _) _)
  have HN : Hid ((w.alloc (Obj.cells #[Value.string ⟨#[]⟩, Value.string ⟨#[]⟩, Value.bool false] 53)).heap[w.heap.size]? = some (.cells #[Value.string ⟨#[]⟩, Value.string ⟨#[]⟩, Value.bool false] 53 (0, 0))) := heap_alloc_new w _
  have HG : Hid (w.grownBy (w.alloc (Obj.cells #[Value.string ⟨#[]⟩, Value.string ⟨#[]⟩, Value.bool false] 53)) (some rb)) := grown_alloc _ _
  have H1 : Hid (_ = _) := h1
  have H2 : Hid (_ = _) := h2
  have H3 : Hid (_ = _) := h3
  clear hr h h1 h2 h3
  go_enter Try.func107, Try.ntmps107
  go_wp2_with fail
  refine (short_some hs _ HR.out H1.out).mono ?_
  rintro e w1 ⟨rfl, hr1, hg1⟩
  have HR1 : Hid (Rd w1 rb t a1) := hr1
  have HN1 : Hid (_ = _) := grown_keep HN.out hg1 (by omega)
  have HG1 : Hid (w.grownBy w1 (some rb)) := HG.out.trans hg1
  clear hr1 hg1 HR HN HG
  go_wp2_with fail
  refine (flag_some hs _ HR1.out H2.out).mono ?_
  rintro e w2 ⟨rfl, hr2, hg2⟩
  have HR2 : Hid (Rd w2 rb t a2) := hr2
  have HN2 : Hid (_ = _) := grown_keep HN1.out hg2 (by omega)
  have HG2 : Hid (w.grownBy w2 (some rb)) := HG1.out.trans hg2
  clear hr2 hg2 HR1 HN1 HG1
  go_wp2_with fail
  refine (short_some hs _ HR2.out H3.out).mono ?_
  rintro e w3 ⟨rfl, hr3, hg3⟩
  have HR3 : Hid (Rd w3 rb t b) := hr3
  have hn3 := grown_keep HN2.out hg3 (by omega)
  have HN3 : Hid (w3.heap[w.heap.size]? = some (.cells #[Value.string ⟨#[]⟩, Value.string ⟨#[]⟩, Value.bool false] 53 (0, 0))) := hn3
  have HG3 : Hid (w.grownBy w3 (some rb)) := HG2.out.trans hg3
  have c0 := cell_of_row _ _ 0 _ _ _ hn3
  have c1 := cell_of_row _ _ 1 _ _ _ hn3
  have c2 := cell_of_row _ _ 2 _ _ _ hn3
  have f0 := frozen_of_row _ _ 0 _ _ hn3
  have f1 := frozen_of_row _ _ 1 _ _ hn3
  have f2 := frozen_of_row _ _ 2 _ _ hn3
  simp at c0 c1 c2
  clear hr3 hg3 HR2 HN2 HG2 hn3
  go_wp2
  obtain ⟨l0, l1, l2⟩ := three_cell HN3.out (.string A) (.string V) (.bool G)
  exact bodyPost_ret (v := .agg #[.string A, .string V, .bool G]) (by simp [results, Try.results107, go_sem, l0, l1, l2]) rfl ⟨rfl, ((HR3.out.setNew (k := w.heap.size) (by omega) 0 _).setNew (k := w.heap.size) (by omega) 1 _).setNew (k := w.heap.size) (by omega) 2 _, grown_new (grown_new (grown_new HG3.out (k := w.heap.size) (Nat.le_refl _) 0 _) (k := w.heap.size) (Nat.le_refl _) 1 _) (k := w.heap.size) (Nat.le_refl _) 2 _⟩
set_option maxHeartbeats 1000000 in
set_option maxRecDepth 100000 in
theorem change_none {rb : Nat} {t : ByteArray} {a : Nat} (hs : t.size ≤ 1048576) (w : World) (hr : Rd w rb t a) (h : Batches.rdOne t a = none) :
    Calls Try.prog 107 #[.pointer (some ⟨rb, 0, none⟩)] w fun e w' => e = .panicked thrown ∧ w.grownBy w' (some rb) := by
  have HR : Hid (Rd (w.alloc (Obj.cells #[Value.string ⟨#[]⟩, Value.string ⟨#[]⟩, Value.bool false] 53)) rb t a) := hr.below ((Below.refl _ _).alloc (Nat.le_refl _) _)
  have HG : Hid (w.grownBy (w.alloc (Obj.cells #[Value.string ⟨#[]⟩, Value.string ⟨#[]⟩, Value.bool false] 53)) (some rb)) := grown_alloc _ _
  clear hr
  rcases rdOne_not h with h1 | ⟨k, a1, h1, h2⟩ | ⟨k, a1, g, a2, h1, h2, h3⟩
  · have H1 : Hid (_ = _) := h1
    clear h h1
    go_enter Try.func107, Try.ntmps107
    go_wp2_with (go_at_call 84; refine (short_none hs _ HR.out H1.out).mono ?_; rintro e w1 ⟨rfl, hg1⟩)
    exact ⟨rfl, rfl, HG.out.trans hg1⟩
  · have H1 : Hid (_ = _) := h1
    have H2 : Hid (_ = _) := h2
    clear h h1 h2
    go_enter Try.func107, Try.ntmps107
    go_wp2_with (first | (go_at_call 84; refine (short_some hs _ HR.out H1.out).mono ?_; rintro e w1 ⟨rfl, hr1, hg1⟩) | (go_at_call 117; refine (flag_none hs _ hr1 H2.out).mono ?_; rintro e w2 ⟨rfl, hg2⟩))
    exact ⟨rfl, rfl, (HG.out.trans hg1).trans hg2⟩
  · have H1 : Hid (_ = _) := h1
    have H2 : Hid (_ = _) := h2
    have H3 : Hid (_ = _) := h3
    clear h h1 h2 h3
    go_enter Try.func107, Try.ntmps107
    go_wp2_with fail
    refine (short_some hs _ HR.out H1.out).mono ?_
    rintro e w1 ⟨rfl, hr1, hg1⟩
    have HR1 : Hid (Rd w1 rb t a1) := hr1
    have HG1 : Hid (w.grownBy w1 (some rb)) := HG.out.trans hg1
    clear hr1 hg1
    go_wp2_with fail
    refine (flag_some hs _ HR1.out H2.out).mono ?_
    rintro e w2 ⟨rfl, hr2, hg2⟩
    have HR2 : Hid (Rd w2 rb t a2) := hr2
    have HG2 : Hid (w.grownBy w2 (some rb)) := HG1.out.trans hg2
    clear hr2 hg2
    go_wp2_with fail
    refine (short_none hs _ HR2.out H3.out).mono ?_
    rintro e w3 ⟨rfl, hg3⟩
    exact ⟨rfl, rfl, HG2.out.trans hg3⟩
end Go.Proofs.Ytinhgonmdnbdiaa
