/- The calls of the program's reader, walked: one, flag, change. The calls of the specification's cursor over a text, walked: l05Var, l05Take, l05ReadShort. -/
import Derived.Test.YtbcfiiilikkkeaaGreatDoorReader
import Derived.StillTailTactics
namespace Go.Proofs.YtbcfiiilikkkeaaGreatDoor
open Go.RowKit
set_option linter.unusedVariables false

theorem need_yes_q (r : Value) (w : World) : Calls Tryz.prog 289 #[r, .bool true] w fun e w' => e = .returned (.tuple #[]) ∧ w' = w := (need_yes r w).mono fun _ _ ⟨h1, h2⟩ => ⟨h1, h2.symm⟩
set_option maxHeartbeats 400000 in
theorem one_some {rb : Nat} {t : ByteArray} {a : Nat} (hs : t.size ≤ 1048576) (w : World) (hr : Rd w rb t a) (h : a < t.size) :
    Calls Tryz.prog 331 #[.pointer (some ⟨rb, 0, none⟩)] w fun e w' => e = .returned (.int .u8 (t[a].toNat : Int)) ∧ Rd w' rb t (a + 1) ∧ w.grownBy w' (some rb) := by
  have HR : Hid (Rd w rb t a) := hr
  have c0 := hr.c0
  have c1 := hr.c1
  have f1 := hr.fz 1
  have h' : (a : Int) < (t.size : Int) := by omega
  clear hr
  go_enter Tryz.func331, Tryz.ntmps331
  go_wp2_with fail
  go_quiet (first | (go_at_call 289; exact Calls.quiet_of_same (need_yes_q _ _)))
  go_wp2_with fail
  go_quiet (fail)
  go_wp2_with fail
  go_ret
  exact ⟨rfl, Rd.set (w := w.drewN _) (a := a) HR.out (b := a + 1) (by omega), (grown_drewN (World.grownBy.refl w _) _).trans (grown_set _ _ _ _)⟩
set_option maxHeartbeats 400000 in
set_option maxRecDepth 100000 in
theorem one_none {rb : Nat} {t : ByteArray} {a : Nat} (hs : t.size ≤ 1048576) (w : World) (hr : Rd w rb t a) (h : ¬ a < t.size) :
    Calls Tryz.prog 331 #[.pointer (some ⟨rb, 0, none⟩)] w fun e w' => e = .panicked thrown ∧ w.grownBy w' (some rb) := by
  have HR : Hid (Rd w rb t a) := hr
  have c0 := hr.c0
  have c1 := hr.c1
  have h' : decide ((a : Int) < (t.size : Int)) = false := decide_eq_false (by omega)
  have h2 : decide (a < t.size) = false := decide_eq_false h
  clear hr h
  go_enter Tryz.func331, Tryz.ntmps331
  go_wp2_with fail
  go_still_tail 11, (by kernel_rfl)
  go_wp2_with (go_at_call 289; refine (need_no _ _).mono ?_; rintro e w2 ⟨rfl, rfl⟩)
  exact ⟨rfl, rfl, grown_drew (World.grownBy.refl w _)⟩

theorem rdFlag_parts {t : ByteArray} {a b : Nat} {g : Bool} (h : Batches.rdFlag t a = some (g, b)) : ∃ ha : a < t.size, t[a].toNat ≤ 1 ∧ g = ((t[a].toNat : Int) == 1) ∧ b = a + 1 := by
  unfold Batches.rdFlag at h
  split at h
  · cases h
  · rename_i x hx
    obtain ⟨ha, hxe⟩ := List.getElem?_eq_some_iff.1 hx
    have ha' : a < t.size := ha
    have e : t[a] = x := hxe
    split at h
    · rename_i hb
      simp only [Option.some.injEq, Prod.mk.injEq] at h
      refine ⟨ha', by rw [e]; exact hb, ?_, h.2.symm⟩
      rw [e, ← h.1]
      rcases (show x.toNat = 0 ∨ x.toNat = 1 by omega) with q | q <;> rw [q] <;> rfl
    · cases h
theorem rdFlag_not {t : ByteArray} {a : Nat} (h : Batches.rdFlag t a = none) : ¬ a < t.size ∨ ∃ ha : a < t.size, ¬ t[a].toNat ≤ 1 := by
  by_cases ha : a < t.size
  · right
    refine ⟨ha, fun hb => ?_⟩
    unfold Batches.rdFlag at h
    have hx : (Batches.by_ t)[a]? = some t[a] := by
      rw [List.getElem?_eq_getElem (show a < (Batches.by_ t).length from ha)]; rfl
    rw [hx] at h
    simp only [if_pos hb] at h
    cases h
  · exact Or.inl ha
set_option maxHeartbeats 400000 in
theorem flag_some {rb : Nat} {t : ByteArray} {a b : Nat} {g : Bool} (hs : t.size ≤ 1048576) (w : World) (hr : Rd w rb t a) (h : Batches.rdFlag t a = some (g, b)) :
    Calls Tryz.prog 310 #[.pointer (some ⟨rb, 0, none⟩)] w fun e w' => e = .returned (.bool g) ∧ Rd w' rb t b ∧ w.grownBy w' (some rb) := by
  obtain ⟨ha, h1, hg, rfl⟩ := rdFlag_parts h
  have HR : Hid (Rd w rb t a) := hr
  obtain ⟨X, hX⟩ : ∃ X : Nat, X = t[a].toNat := ⟨_, rfl⟩
  have HX : Hid (X = t[a].toNat) := hX
  rw [← hX] at h1 hg
  have HA : Hid (a < t.size) := ha
  have h1' : (X : Int) ≤ 1 := by omega
  have HG : Hid (g = ((X : Int) == 1)) := hg
  clear hr h hX hg
  go_enter Tryz.func310, Tryz.ntmps310
  go_wp2_with (first | (go_at_call 331; refine (one_some hs _ HR.out HA.out).mono ?_; rintro e w1 ⟨rfl, hr1, hg1⟩; rw [← HX.out]) | (go_at_call 289; refine (need_yes _ _).mono ?_; rintro e w2 ⟨rfl, rfl⟩))
  go_ret
  exact ⟨by rw [HG.out]; rfl, hr1, hg1⟩
set_option maxHeartbeats 400000 in
theorem flag_none {rb : Nat} {t : ByteArray} {a : Nat} (hs : t.size ≤ 1048576) (w : World) (hr : Rd w rb t a) (h : Batches.rdFlag t a = none) :
    Calls Tryz.prog 310 #[.pointer (some ⟨rb, 0, none⟩)] w fun e w' => e = .panicked thrown ∧ w.grownBy w' (some rb) := by
  have HR : Hid (Rd w rb t a) := hr
  clear hr
  rcases rdFlag_not h with ha | ⟨ha, hb⟩
  · have HA : Hid (¬ a < t.size) := ha
    clear h ha
    go_enter Tryz.func310, Tryz.ntmps310
    go_wp2_with (first | (go_at_call 331; refine (one_none hs _ HR.out HA.out).mono ?_; rintro e w1 ⟨rfl, hg1⟩))
    exact ⟨rfl, rfl, hg1⟩
  · obtain ⟨X, hX⟩ : ∃ X : Nat, X = t[a].toNat := ⟨_, rfl⟩
    have HX : Hid (X = t[a].toNat) := hX
    rw [← hX] at hb
    have HA : Hid (a < t.size) := ha
    have h1 : decide ((X : Int) ≤ 1) = false := decide_eq_false (by omega)
    have h2 : decide (X ≤ 1) = false := decide_eq_false (by omega)
    clear h hX hb
    go_enter Tryz.func310, Tryz.ntmps310
    go_wp2_with (first | (go_at_call 331; refine (one_some hs _ HR.out HA.out).mono ?_; rintro e w1 ⟨rfl, hr1, hg1⟩; rw [← HX.out]) | (go_at_call 289; refine (need_no _ _).mono ?_; rintro e w2 ⟨rfl, rfl⟩))
    exact ⟨rfl, rfl, hg1⟩

theorem rdOne_parts {t : ByteArray} {a b : Nat} {c : ChangeL} (h : Batches.rdOne t a = some (c, b)) :
    ∃ a1 a2, Batches.rdShort t a = some (c.key, a1) ∧ Batches.rdFlag t a1 = some (c.gone, a2) ∧ Batches.rdShort t a2 = some (c.value, b) := by
  unfold Batches.rdOne at h
  split at h
  · cases h
  · rename_i k a1 h1
    split at h
    · cases h
    · rename_i g a2 h2
      split at h
      · cases h
      · rename_i v a3 h3
        simp only [Option.some.injEq, Prod.mk.injEq] at h
        obtain ⟨rfl, rfl⟩ := h
        exact ⟨a1, a2, h1, h2, h3⟩
theorem rdOne_not {t : ByteArray} {a : Nat} (h : Batches.rdOne t a = none) :
    Batches.rdShort t a = none ∨ (∃ k a1, Batches.rdShort t a = some (k, a1) ∧ Batches.rdFlag t a1 = none) ∨ (∃ k a1 g a2, Batches.rdShort t a = some (k, a1) ∧ Batches.rdFlag t a1 = some (g, a2) ∧ Batches.rdShort t a2 = none) := by
  unfold Batches.rdOne at h
  split at h
  · rename_i h1; exact Or.inl h1
  · rename_i k a1 h1
    split at h
    · rename_i h2; exact Or.inr (Or.inl ⟨k, a1, h1, h2⟩)
    · rename_i g a2 h2
      split at h
      · rename_i h3; exact Or.inr (Or.inr ⟨k, a1, g, a2, h1, h2, h3⟩)
      · cases h
theorem Rd.setNew {w : World} {rb : Nat} {t : ByteArray} {a : Nat} (h : Rd w rb t a) {k : Nat} (hk : rb ≠ k) (j : Nat) (v : Value) : Rd (w.setCell ⟨k, j, none⟩ v) rb t a := ⟨set_far h.1 hk j v, h.2⟩
set_option maxHeartbeats 1000000 in
set_option maxRecDepth 100000 in
theorem change_some {rb : Nat} {t : ByteArray} {a b : Nat} {c : ChangeL} (hs : t.size ≤ 1048576) (w : World) (hr : Rd w rb t a) (h : Batches.rdOne t a = some (c, b)) :
    Calls Tryz.prog 281 #[.pointer (some ⟨rb, 0, none⟩)] w fun e w' => e = .returned (changeV c) ∧ Rd w' rb t b ∧ w.grownBy w' (some rb) := by
  obtain ⟨a1, a2, h1, h2, h3⟩ := rdOne_parts h
  obtain ⟨A, V, G⟩ := c
  unfold changeV
  simp only at h1 h2 h3 ⊢
  have hlt := hr.lt
  have HR : Hid (Rd (w.alloc (Obj.cells #[Value.string ⟨#[]⟩, Value.string ⟨#[]⟩, Value.bool false] 149)) rb t a) := hr.below ((Below.refl _ _).alloc (Nat.le_refl _) _)
  have HN : Hid ((w.alloc (Obj.cells #[Value.string ⟨#[]⟩, Value.string ⟨#[]⟩, Value.bool false] 149)).heap[w.heap.size]? = some (.cells #[Value.string ⟨#[]⟩, Value.string ⟨#[]⟩, Value.bool false] 149 (0, 0))) := heap_alloc_new w _
  have HG : Hid (w.grownBy (w.alloc (Obj.cells #[Value.string ⟨#[]⟩, Value.string ⟨#[]⟩, Value.bool false] 149)) (some rb)) := grown_alloc _ _
  have H1 : Hid (_ = _) := h1
  have H2 : Hid (_ = _) := h2
  have H3 : Hid (_ = _) := h3
  clear hr h h1 h2 h3
  go_enter Tryz.func281, Tryz.ntmps281
  go_wp2_with fail
  refine (short_some hs _ HR.out H1.out).mono ?_
  rintro e w1 ⟨rfl, hr1, hg1⟩
  have HR1 : Hid (Rd w1 rb t a1) := hr1
  have HN1 : Hid (_ = _) := grown_keep HN.out hg1 (by omega)
  have HG1 : Hid (w.grownBy w1 (some rb)) := HG.out.trans hg1
  clear hr1 hg1 HR HN HG
  go_wp2_with fail
  refine (flag_some hs _ HR1.out H2.out).mono ?_
  rintro e w2 ⟨rfl, hr2, hg2⟩
  have HR2 : Hid (Rd w2 rb t a2) := hr2
  have HN2 : Hid (_ = _) := grown_keep HN1.out hg2 (by omega)
  have HG2 : Hid (w.grownBy w2 (some rb)) := HG1.out.trans hg2
  clear hr2 hg2 HR1 HN1 HG1
  go_wp2_with fail
  refine (short_some hs _ HR2.out H3.out).mono ?_
  rintro e w3 ⟨rfl, hr3, hg3⟩
  have HR3 : Hid (Rd w3 rb t b) := hr3
  have hn3 := grown_keep HN2.out hg3 (by omega)
  have HN3 : Hid (w3.heap[w.heap.size]? = some (.cells #[Value.string ⟨#[]⟩, Value.string ⟨#[]⟩, Value.bool false] 149 (0, 0))) := hn3
  have HG3 : Hid (w.grownBy w3 (some rb)) := HG2.out.trans hg3
  have c0 := cell_of_row _ _ 0 _ _ _ hn3
  have c1 := cell_of_row _ _ 1 _ _ _ hn3
  have c2 := cell_of_row _ _ 2 _ _ _ hn3
  have f0 := frozen_of_row _ _ 0 _ _ hn3
  have f1 := frozen_of_row _ _ 1 _ _ hn3
  have f2 := frozen_of_row _ _ 2 _ _ hn3
  simp at c0 c1 c2
  clear hr3 hg3 HR2 HN2 HG2 hn3
  go_wp2
  obtain ⟨l0, l1, l2⟩ := three_cell HN3.out (.string A) (.string V) (.bool G)
  exact bodyPost_ret (v := .agg #[.string A, .string V, .bool G]) (by simp [results, Tryz.results281, go_sem, l0, l1, l2]) rfl ⟨rfl, ((HR3.out.setNew (k := w.heap.size) (by omega) 0 _).setNew (k := w.heap.size) (by omega) 1 _).setNew (k := w.heap.size) (by omega) 2 _, grown_new (grown_new (grown_new HG3.out (k := w.heap.size) (Nat.le_refl _) 0 _) (k := w.heap.size) (Nat.le_refl _) 1 _) (k := w.heap.size) (Nat.le_refl _) 2 _⟩
set_option maxHeartbeats 1000000 in
set_option maxRecDepth 100000 in
theorem change_none {rb : Nat} {t : ByteArray} {a : Nat} (hs : t.size ≤ 1048576) (w : World) (hr : Rd w rb t a) (h : Batches.rdOne t a = none) :
    Calls Tryz.prog 281 #[.pointer (some ⟨rb, 0, none⟩)] w fun e w' => e = .panicked thrown ∧ w.grownBy w' (some rb) := by
  have HR : Hid (Rd (w.alloc (Obj.cells #[Value.string ⟨#[]⟩, Value.string ⟨#[]⟩, Value.bool false] 149)) rb t a) := hr.below ((Below.refl _ _).alloc (Nat.le_refl _) _)
  have HG : Hid (w.grownBy (w.alloc (Obj.cells #[Value.string ⟨#[]⟩, Value.string ⟨#[]⟩, Value.bool false] 149)) (some rb)) := grown_alloc _ _
  clear hr
  rcases rdOne_not h with h1 | ⟨k, a1, h1, h2⟩ | ⟨k, a1, g, a2, h1, h2, h3⟩
  · have H1 : Hid (_ = _) := h1
    clear h h1
    go_enter Tryz.func281, Tryz.ntmps281
    go_wp2_with (go_at_call 309; refine (short_none hs _ HR.out H1.out).mono ?_; rintro e w1 ⟨rfl, hg1⟩)
    exact ⟨rfl, rfl, HG.out.trans hg1⟩
  · have H1 : Hid (_ = _) := h1
    have H2 : Hid (_ = _) := h2
    clear h h1 h2
    go_enter Tryz.func281, Tryz.ntmps281
    go_wp2_with (first | (go_at_call 309; refine (short_some hs _ HR.out H1.out).mono ?_; rintro e w1 ⟨rfl, hr1, hg1⟩) | (go_at_call 310; refine (flag_none hs _ hr1 H2.out).mono ?_; rintro e w2 ⟨rfl, hg2⟩))
    exact ⟨rfl, rfl, (HG.out.trans hg1).trans hg2⟩
  · have H1 : Hid (_ = _) := h1
    have H2 : Hid (_ = _) := h2
    have H3 : Hid (_ = _) := h3
    clear h h1 h2 h3
    go_enter Tryz.func281, Tryz.ntmps281
    go_wp2_with fail
    refine (short_some hs _ HR.out H1.out).mono ?_
    rintro e w1 ⟨rfl, hr1, hg1⟩
    have HR1 : Hid (Rd w1 rb t a1) := hr1
    have HG1 : Hid (w.grownBy w1 (some rb)) := HG.out.trans hg1
    clear hr1 hg1
    go_wp2_with fail
    refine (flag_some hs _ HR1.out H2.out).mono ?_
    rintro e w2 ⟨rfl, hr2, hg2⟩
    have HR2 : Hid (Rd w2 rb t a2) := hr2
    have HG2 : Hid (w.grownBy w2 (some rb)) := HG1.out.trans hg2
    clear hr2 hg2
    go_wp2_with fail
    refine (short_none hs _ HR2.out H3.out).mono ?_
    rintro e w3 ⟨rfl, hg3⟩
    exact ⟨rfl, rfl, HG2.out.trans hg3⟩
end Go.Proofs.YtbcfiiilikkkeaaGreatDoor
namespace Go.Proofs.YtbcfiiilikkkeaaGreatDoor
open Go.RowKit
set_option linter.unusedVariables false

/-- A cursor at cb, that far in its text, bad or not. -/
def C5 (w : World) (cb : Nat) (t : ByteArray) (a : Nat) (bad : Bool) : Prop := w.heap[cb]? = some (.cells #[.string t, .int .i64 (a : Int), .bool bad] 223 (0, 0)) ∧ a ≤ t.size
section
variable {w w' : World} {cb a : Nat} {t : ByteArray} {bad : Bool}
theorem C5.c0 (h : C5 w cb t a bad) : w.cell? ⟨cb, 0, none⟩ = some (.string t) := cell_of_row _ _ 0 _ _ _ h.1
theorem C5.c1 (h : C5 w cb t a bad) : w.cell? ⟨cb, 1, none⟩ = some (.int .i64 (a : Int)) := cell_of_row _ _ 1 _ _ _ h.1
theorem C5.c2 (h : C5 w cb t a bad) : w.cell? ⟨cb, 2, none⟩ = some (.bool bad) := cell_of_row _ _ 2 _ _ _ h.1
theorem C5.fz (h : C5 w cb t a bad) (i : Nat) : w.frozen? ⟨cb, i, none⟩ = false := frozen_of_row _ _ _ _ _ h.1
theorem C5.lt (h : C5 w cb t a bad) : cb < w.heap.size := (Array.getElem?_eq_some_iff.1 h.1).1
theorem C5.below (h : C5 w cb t a bad) (hb : Below w.heap.size w w') : C5 w' cb t a bad := ⟨(hb.block _ h.lt).trans h.1, h.2⟩
theorem C5.setAt (h : C5 w cb t a bad) {b : Nat} (hb : b ≤ t.size) : C5 (w.setCell ⟨cb, 1, none⟩ (.int .i64 (b : Int))) cb t b bad := by
  refine ⟨?_, hb⟩
  have := heap_setCell_same w cb 1 _ 223 (.int .i64 (b : Int)) h.1
  simpa using this
theorem C5.setBad (h : C5 w cb t a bad) : C5 (w.setCell ⟨cb, 2, none⟩ (.bool true)) cb t a true := by
  refine ⟨?_, h.2⟩
  have := heap_setCell_same w cb 2 _ 223 (.bool true) h.1
  simpa using this
theorem C5.far (h : C5 w cb t a bad) {k : Nat} (hk : cb ≠ k) (j : Nat) (v : Value) : C5 (w.setCell ⟨k, j, none⟩ v) cb t a bad := ⟨set_far h.1 hk j v, h.2⟩
end

set_option maxHeartbeats 1000000 in
theorem l05Var_ok {cb : Nat} {t : ByteArray} {a n b : Nat} (hs : t.size ≤ 1048576) (w : World) (hc : C5 w cb t a false) (h : Words.rd t.data.toList a = some (n, b)) :
    Calls Tryz.prog 174 #[.pointer (some ⟨cb, 0, none⟩)] w fun e w' => e = .returned (.int .i64 (n : Int)) ∧ C5 w' cb t b false ∧ w.grownBy w' (some cb) := by
  have hb := (Batches.rd_cut h).2.1
  have HC : Hid (C5 w cb t a false) := hc
  have HZ : Hid (rdZ t (a : Int) = some (n, b)) := (rdZ_at hc.2).trans h
  have c0 := hc.c0
  have c1 := hc.c1
  clear h hc
  go_enter Tryz.func174, Tryz.ntmps174
  go_wp2_with fail
  have NE := Abv.ne w
  have F0 := fun x : Abv w => x.cell c0
  have F1 := fun x : Abv w => x.cell c1
  refine wp_region_above (by kernel_rfl) (by kernel_rfl) ?_
  repeat (go_big_quiet_step (first | (go_at_call 173; exact calls_above (specRead_some hs HZ.out _))))
  refine wpQuiet_nil ?_
  rintro w1 ⟨⟨_, hb1⟩, rfl⟩
  clear NE F0 F1
  rename World => w1
  have hc1 := HC.out.below hb1
  have HC1 : Hid (C5 w1 cb t a false) := hc1
  have d1 := hc1.c1
  have d2 := hc1.c2
  have f1 := hc1.fz 1
  clear hc1
  go_wp2
  go_ret
  exact ⟨rfl, HC1.out.setAt hb, (own_below' hb1).trans (grown_set _ _ _ _)⟩
set_option maxHeartbeats 1000000 in
theorem l05Var_none {cb : Nat} {t : ByteArray} {a : Nat} (hs : t.size ≤ 1048576) (w : World) (hc : C5 w cb t a false) (h : Words.rd t.data.toList a = none) :
    Calls Tryz.prog 174 #[.pointer (some ⟨cb, 0, none⟩)] w fun e w' => e = .returned (.int .i64 0) ∧ C5 w' cb t a true ∧ w.grownBy w' (some cb) := by
  have HC : Hid (C5 w cb t a false) := hc
  have HZ : Hid (rdZ t (a : Int) = none) := (rdZ_at hc.2).trans h
  have c0 := hc.c0
  have c1 := hc.c1
  clear h hc
  go_enter Tryz.func174, Tryz.ntmps174
  go_wp2_with fail
  have NE := Abv.ne w
  have F0 := fun x : Abv w => x.cell c0
  have F1 := fun x : Abv w => x.cell c1
  refine wp_region_above (by kernel_rfl) (by kernel_rfl) ?_
  repeat (go_big_quiet_step (first | (go_at_call 173; exact calls_above (specRead_none hs HZ.out _))))
  refine wpQuiet_nil ?_
  rintro w1 ⟨⟨_, hb1⟩, rfl⟩
  clear NE F0 F1
  rename World => w1
  have hc1 := HC.out.below hb1
  have HC1 : Hid (C5 w1 cb t a false) := hc1
  have d2 := hc1.c2
  have f2 := hc1.fz 2
  clear hc1
  go_wp2
  go_ret
  exact ⟨rfl, HC1.out.setBad, (own_below' hb1).trans (grown_set _ _ _ _)⟩
set_option maxHeartbeats 1000000 in
theorem l05Var_bad {cb : Nat} {t : ByteArray} {a : Nat} (hs : t.size ≤ 1048576) (w : World) (hc : C5 w cb t a true) :
    Calls Tryz.prog 174 #[.pointer (some ⟨cb, 0, none⟩)] w fun e w' => e = .returned (.int .i64 0) ∧ C5 w' cb t a true ∧ w.grownBy w' (some cb) := by
  have HC : Hid (C5 w cb t a true) := hc
  have c0 := hc.c0
  have c1 := hc.c1
  have ha := hc.2
  clear hc
  cases hrd : rdTuple (rdZ t (a : Int)) with
  | tuple vs =>
    obtain ⟨x, y, z, hxyz⟩ : ∃ x y z, rdTuple (rdZ t (a : Int)) = .tuple #[.int .i64 x, .int .i64 y, .bool z] := by
      cases rdZ t (a : Int) with
      | none => exact ⟨_, _, _, rfl⟩
      | some p => exact ⟨_, _, _, rfl⟩
    have HK : Hid (∀ w, Calls Tryz.prog 173 #[.string t, .int .i64 (a : Int)] w fun e w' => e = .returned (.tuple #[.int .i64 x, .int .i64 y, .bool z]) ∧ Below w.heap.size w w') := fun w => by
      have := specRead_any t hs (a : Int) w
      rwa [hxyz] at this
    clear hrd hxyz
    go_enter Tryz.func174, Tryz.ntmps174
    go_wp2_with fail
    have NE := Abv.ne w
    have F0 := fun x : Abv w => x.cell c0
    have F1 := fun x : Abv w => x.cell c1
    refine wp_region_above (by kernel_rfl) (by kernel_rfl) ?_
    repeat (go_big_quiet_step (first | (go_at_call 173; exact calls_above (HK.out _))))
    refine wpQuiet_nil ?_
    rintro w1 ⟨⟨_, hb1⟩, rfl⟩
    clear NE F0 F1
    rename World => w1
    have hc1 := HC.out.below hb1
    have HC1 : Hid (C5 w1 cb t a true) := hc1
    have d2 := hc1.c2
    have f2 := hc1.fz 2
    clear hc1
    go_wp2
    go_ret
    exact ⟨rfl, HC1.out.setBad, (own_below' hb1).trans (grown_set _ _ _ _)⟩
  | _ => cases hz : rdZ t (a : Int) <;> rw [hz] at hrd <;> cases hrd
set_option maxHeartbeats 1000000 in
theorem take_ok {cb : Nat} {t : ByteArray} {a n : Nat} (hs : t.size ≤ 1048576) (w : World) (hc : C5 w cb t a false) (h : a + n ≤ t.size) :
    Calls Tryz.prog 176 #[.pointer (some ⟨cb, 0, none⟩), .int .i64 (n : Int)] w fun e w' => e = .returned (.string (t.extract a (a + n))) ∧ C5 w' cb t (a + n) false ∧ w.grownBy w' (some cb) := by
  obtain ⟨M, hM⟩ : ∃ M : Nat, M = a + n := ⟨_, rfl⟩
  rw [← hM]
  have HM : Hid (M = a + n) := hM
  clear hM
  have HC : Hid (C5 w cb t a false) := hc
  have c0 := hc.c0
  have c1 := hc.c1
  have c2 := hc.c2
  have f1 := hc.fz 1
  obtain ⟨D, hD⟩ : ∃ D : Nat, D = t.size - a := ⟨_, rfl⟩
  have hm : IntKind.i64.wrap ((t.size : Int) - (a : Int)) = (D : Int) := by rw [IntWalk.i64_in _ (by omega)]; omega
  have h1 : decide ((D : Int) < (n : Int)) = false := decide_eq_false (by omega)
  have h2 : decide (D < n) = false := decide_eq_false (by omega)
  clear hc hD
  go_enter Tryz.func176, Tryz.ntmps176
  go_wp2_with fail
  have NE := Abv.ne w
  have F0 := fun x : Abv w => x.cell c0
  have F1 := fun x : Abv w => x.cell c1
  have F2 := fun x : Abv w => x.cell c2
  refine wp_region_above (by kernel_rfl) (by kernel_rfl) ?_
  repeat (go_big_quiet_step (fail))
  refine wpQuiet_nil ?_
  rintro w1 ⟨⟨_, hb1⟩, rfl⟩
  clear NE F0 F1 F2
  rename World => w1
  have hc1 := HC.out.below hb1
  have HC1 : Hid (C5 w1 cb t a false) := hc1
  have d0 := hc1.c0
  have d1 := hc1.c1
  have d2 := hc1.c2
  have g1 := hc1.fz 1
  clear hc1 hm h1 h2 c0 c1 c2 f1 HC
  go_wp2_with fail
  have hM := HM.out
  rw [show (a : Int) + (n : Int) = (M : Int) by omega]
  have hC2 := HC1.out.setAt (b := M) (by omega)
  obtain ⟨W2, hW2⟩ : ∃ W2, W2 = w1.setCell ⟨cb, 1, none⟩ (.int .i64 (M : Int)) := ⟨_, rfl⟩
  have hg2 : w.grownBy W2 (some cb) := by rw [hW2]; exact (own_below' hb1).trans (grown_set _ _ _ _)
  rw [← hW2] at hC2 ⊢
  have HC2 : Hid (C5 W2 cb t M false) := hC2
  have e0 := hC2.c0
  have e1 := hC2.c1
  have hm : IntKind.i64.wrap ((M : Int) - (n : Int)) = (a : Int) := by rw [IntWalk.i64_in _ (by omega)]; omega
  have hsl : ∀ wx, (Instr.slice 9 (.string t) (some (.int .i64 (a : Int))) (some (.int .i64 (M : Int))) none).run Tryz.prog wx = .ok (.string (t.extract a M)) wx := fun wx => by
    rw [run_slice_string wx 9 t .i64 .i64 _ _ Tryz.underlying9 (by omega) (by omega) (by omega)]
    congr 2
  clear hW2 hC2 d0 d1 d2 g1 HC1 hM hb1
  have NE := Abv.ne W2
  have F0 := fun x : Abv W2 => x.cell e0
  have F1 := fun x : Abv W2 => x.cell e1
  refine wp_region_above (by kernel_rfl) (by kernel_rfl) ?_
  repeat (go_big_quiet_step (fail))
  refine wpQuiet_nil ?_
  rintro w3 ⟨⟨_, hb3⟩, rfl⟩
  clear NE F0 F1 hm hsl
  go_wp2
  go_ret
  exact ⟨rfl, HC2.out.below hb3, hg2.trans (own_below' hb3)⟩
set_option maxHeartbeats 1000000 in
theorem take_bad {cb : Nat} {t : ByteArray} {a : Nat} {n : Int} (hs : t.size ≤ 1048576) (w : World) (bad : Bool) (hc : C5 w cb t a bad) (h : bad = true ∨ (t.size : Int) - (a : Int) < n) (hn : n ≤ 1000000000) :
    Calls Tryz.prog 176 #[.pointer (some ⟨cb, 0, none⟩), .int .i64 n] w fun e w' => e = .returned (.string ⟨#[]⟩) ∧ C5 w' cb t a true ∧ w.grownBy w' (some cb) := by
  have HC : Hid (C5 w cb t a bad) := hc
  have ha := hc.2
  have c0 := hc.c0
  have c1 := hc.c1
  have c2 := hc.c2
  have f2 := hc.fz 2
  clear hc
  cases bad with
  | true =>
    clear h
    go_enter Tryz.func176, Tryz.ntmps176
    go_wp2_with fail
    have NE := Abv.ne w
    have F0 := fun x : Abv w => x.cell c0
    have F1 := fun x : Abv w => x.cell c1
    have F2 := fun x : Abv w => x.cell c2
    refine wp_region_above (by kernel_rfl) (by kernel_rfl) ?_
    repeat (go_big_quiet_step (fail))
    refine wpQuiet_nil ?_
    rintro w1 ⟨⟨_, hb1⟩, rfl⟩
    clear NE F0 F1 F2
    rename World => w1
    have hc1 := HC.out.below hb1
    have HC1 : Hid (C5 w1 cb t a true) := hc1
    have d2 := hc1.c2
    have g2 := hc1.fz 2
    clear hc1
    go_wp2
    go_ret
    exact ⟨rfl, HC1.out.setBad, (own_below' hb1).trans (grown_set _ _ _ _)⟩
  | false =>
    have h1 : (t.size : Int) - (a : Int) < n := by simpa using h
    obtain ⟨D, hD⟩ : ∃ D : Nat, D = t.size - a := ⟨_, rfl⟩
    have hm : IntKind.i64.wrap ((t.size : Int) - (a : Int)) = (D : Int) := by rw [IntWalk.i64_in _ (by omega)]; omega
    have h2 : decide ((D : Int) < n) = true := decide_eq_true (by omega)
    clear h h1 hD
    go_enter Tryz.func176, Tryz.ntmps176
    go_wp2_with fail
    have NE := Abv.ne w
    have F0 := fun x : Abv w => x.cell c0
    have F1 := fun x : Abv w => x.cell c1
    have F2 := fun x : Abv w => x.cell c2
    refine wp_region_above (by kernel_rfl) (by kernel_rfl) ?_
    repeat (go_big_quiet_step (fail))
    refine wpQuiet_nil ?_
    rintro w1 ⟨⟨_, hb1⟩, rfl⟩
    clear NE F0 F1 F2
    rename World => w1
    have hc1 := HC.out.below hb1
    have HC1 : Hid (C5 w1 cb t a false) := hc1
    have d2 := hc1.c2
    have g2 := hc1.fz 2
    clear hc1 hm h2
    go_wp2
    go_ret
    exact ⟨rfl, HC1.out.setBad, (own_below' hb1).trans (grown_set _ _ _ _)⟩

set_option maxHeartbeats 1000000 in
theorem short5_ok {cb : Nat} {t : ByteArray} {a b : Nat} {x : ByteArray} (hs : t.size ≤ 1048576) (w : World) (hc : C5 w cb t a false) (h : Batches.rdShort t a = some (x, b)) :
    Calls Tryz.prog 175 #[.pointer (some ⟨cb, 0, none⟩)] w fun e w' => e = .returned (.string x) ∧ C5 w' cb t b false ∧ w.grownBy w' (some cb) := by
  obtain ⟨n, k, h1, h2, h3, rfl, rfl⟩ := rdShort_parts hc.2 h
  have HC : Hid (C5 w cb t a false) := hc
  have H1 : Hid (Words.rd t.data.toList a = some (n, k)) := by show _ = _; rw [← rdZ_at hc.2]; exact h1
  clear hc h h1
  go_enter Tryz.func175, Tryz.ntmps175
  go_wp2_with (first | (go_at_call 174; refine (l05Var_ok hs _ HC.out H1.out).mono ?_; rintro e w1 ⟨rfl, hc1, hg1⟩) | (go_at_call 176; refine (take_ok hs _ hc1 h3).mono ?_; rintro e w2 ⟨rfl, hc2, hg2⟩))
  go_ret
  exact ⟨rfl, hc2, hg1.trans hg2⟩
/-- What a read leaves, whatever is read. -/
def Some5 (w w' : World) (cb : Nat) (t : ByteArray) (a : Nat) : Prop := ∃ a' bad, C5 w' cb t a' bad ∧ a ≤ a' ∧ (bad = true ∨ a < a') ∧ w.grownBy w' (some cb)
theorem l05Var_any {cb : Nat} {t : ByteArray} {a : Nat} (hs : t.size ≤ 1048576) (w : World) (bad : Bool) (hc : C5 w cb t a bad) :
    Calls Tryz.prog 174 #[.pointer (some ⟨cb, 0, none⟩)] w fun e w' => ∃ n : Nat, e = .returned (.int .i64 (n : Int)) ∧ n ≤ 1000000000 ∧ Some5 w w' cb t a := by
  cases bad with
  | true => exact (l05Var_bad hs w hc).mono fun e w' ⟨h1, h2, h3⟩ => ⟨0, h1, by omega, a, true, h2, Nat.le_refl _, Or.inl rfl, h3⟩
  | false =>
    cases h : Words.rd t.data.toList a with
    | none => exact (l05Var_none hs w hc h).mono fun e w' ⟨h1, h2, h3⟩ => ⟨0, h1, by omega, a, true, h2, Nat.le_refl _, Or.inl rfl, h3⟩
    | some p =>
      obtain ⟨n, b⟩ := p
      have hb := Batches.rd_cut h
      exact (l05Var_ok hs w hc h).mono fun e w' ⟨h1, h2, h3⟩ => ⟨n, h1, hb.2.2.2, b, false, h2, Nat.le_of_lt hb.1, Or.inr hb.1, h3⟩
theorem take_any {cb : Nat} {t : ByteArray} {a n : Nat} (hs : t.size ≤ 1048576) (w : World) (bad : Bool) (hc : C5 w cb t a bad) (hn : n ≤ 1000000000) :
    Calls Tryz.prog 176 #[.pointer (some ⟨cb, 0, none⟩), .int .i64 (n : Int)] w fun e w' => ∃ x : ByteArray, e = .returned (.string x) ∧ x.size ≤ t.size ∧ ∃ a' bad', C5 w' cb t a' bad' ∧ a ≤ a' ∧ (bad = true → bad' = true) ∧ w.grownBy w' (some cb) := by
  cases bad with
  | true => exact (take_bad hs w true hc (Or.inl rfl) (by omega)).mono fun e w' ⟨h1, h2, h3⟩ => ⟨_, h1, Nat.zero_le _, a, true, h2, Nat.le_refl _, fun _ => rfl, h3⟩
  | false =>
    by_cases h : a + n ≤ t.size
    · exact (take_ok hs w hc h).mono fun e w' ⟨h1, h2, h3⟩ => ⟨_, h1, by rw [ByteArray.size_extract]; omega, a + n, false, h2, by omega, fun h => h, h3⟩
    · have ha := hc.2
      exact (take_bad hs w false hc (Or.inr (by omega)) (by omega)).mono fun e w' ⟨h1, h2, h3⟩ => ⟨_, h1, Nat.zero_le _, a, true, h2, Nat.le_refl _, fun _ => rfl, h3⟩
set_option maxHeartbeats 1000000 in
theorem short5_any {cb : Nat} {t : ByteArray} {a : Nat} (hs : t.size ≤ 1048576) (w : World) (bad : Bool) (hc : C5 w cb t a bad) :
    Calls Tryz.prog 175 #[.pointer (some ⟨cb, 0, none⟩)] w fun e w' => ∃ x : ByteArray, e = .returned (.string x) ∧ x.size ≤ t.size ∧ Some5 w w' cb t a := by
  have HC : Hid (C5 w cb t a bad) := hc
  clear hc
  go_enter Tryz.func175, Tryz.ntmps175
  go_wp2_with fail
  refine (l05Var_any hs _ bad HC.out).mono ?_
  rintro e w1 ⟨n, rfl, hn, a1, bad1, hc1, ha1, hb1, hg1⟩
  have HC1 : Hid (C5 w1 cb t a1 bad1) := hc1
  have HG1 : Hid (w.grownBy w1 (some cb)) := hg1
  have HB1 : Hid (bad1 = true ∨ a < a1) := hb1
  clear hc1 hg1 hb1
  go_wp2_with fail
  refine (take_any hs _ bad1 HC1.out hn).mono ?_
  rintro e w2 ⟨x, rfl, hx, a2, bad2, hc2, ha2, hb2, hg2⟩
  have HC2 : Hid (C5 w2 cb t a2 bad2) := hc2
  have HB2 : Hid (bad1 = true → bad2 = true) := hb2
  have HG2 : Hid (w.grownBy w2 (some cb)) := HG1.out.trans hg2
  clear hc2 hg2 hb2
  go_wp2
  go_ret
  refine ⟨x, rfl, hx, a2, bad2, HC2.out, by omega, ?_, HG2.out⟩
  rcases HB1.out with h | h
  · exact Or.inl (HB2.out h)
  · exact Or.inr (by omega)
end Go.Proofs.YtbcfiiilikkkeaaGreatDoor
