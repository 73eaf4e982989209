/- The call of the program's (*textReader).batch, walked. -/
import Derived.Test.YtbcfiiilikkkeaaGreatDoorSpecCur
import Derived.Deep.AppendLies
import Derived.Deep.RegionHeld3
import Derived.Deep.RegionLaw
namespace Go.Proofs.YtbcfiiilikkkeaaGreatDoor
open Go.RowKit
set_option linter.unusedVariables false

/-- What batch holds: the reader, the variable b, the result's, the changes read so far. -/
structure BSt (w : World) (rb bb : Nat) (t : ByteArray) (st : Int) (a : Nat) (v : Value) (pre : List ChangeL) (W : World) : Prop where
  rd : Rd W rb t a
  blk : W.heap[bb]? = some (.cells #[.int .i64 st, v] 51 (0, 0))
  res : W.heap[w.heap.size]? = some (.cells #[.int .i64 0, .slice none 0 0] 51 (0, 0))
  own : W.ownsRow w.heap.size 149 3 v pre.length (cellsChange pre)
  grown : w.grownBy W (some rb)
  up : rb < w.heap.size ∧ w.heap.size < bb
section
variable {w W W' : World} {rb bb a a' : Nat} {t : ByteArray} {st : Int} {v : Value} {pre : List ChangeL}
theorem BSt.call (h : BSt w rb bb t st a v pre W) (hr : Rd W' rb t a') (hg : W.grownBy W' (some rb)) : BSt w rb bb t st a' v pre W' :=
  have hu := h.up
  ⟨hr, grown_keep h.blk hg (by omega), grown_keep h.res hg (by omega), h.own.kept hg (Or.inr (own_not h.own h.rd.1 (by decide))), h.grown.trans hg, hu⟩
theorem BSt.drew (h : BSt w rb bb t st a v pre W) : BSt w rb bb t st a v pre W.drew := ⟨h.rd, h.blk, h.res, h.own, grown_drew h.grown, h.up⟩
theorem BSt.alloc (h : BSt w rb bb t st a v pre W) (o : Obj) : BSt w rb bb t st a v pre (W.alloc o) :=
  h.call (h.rd.below ((Below.refl _ _).alloc (Nat.le_refl _) _)) (grown_alloc _ _)
theorem BSt.c1 (h : BSt w rb bb t st a v pre W) : W.cell? ⟨bb, 1, none⟩ = some v := cell_of_row _ _ 1 _ _ _ h.blk
/-- An append to its own row. -/
theorem BSt.app (h : BSt w rb bb t st a v pre W) {v' : Value} {c : ChangeL} (hg : W.grownBy W' v.ownBlock) (hown : W'.ownsRow w.heap.size 149 3 v' (pre.length + 1) (cellsChange pre ++ [.string c.key, .string c.value, .bool c.gone])) :
    BSt w rb bb t st a v' (pre ++ [c]) (W'.setCell ⟨bb, 1, none⟩ v') := by
  have hu := h.up
  have e1 : ∀ {q : Nat} {cs : Array Value} {ty : TypeId}, W.heap[q]? = some (.cells cs ty (0, 0)) → 149 ≠ ty → W'.heap[q]? = some (.cells cs ty (0, 0)) := fun {q cs ty} hq hne =>
    (hg.block q (Array.getElem?_eq_some_iff.1 hq).1 (fun e => own_not h.own hq hne e.symm)).trans hq
  have hb' := e1 h.blk (by decide)
  have hblk : (W'.setCell ⟨bb, 1, none⟩ v').heap[bb]? = some (.cells #[.int .i64 st, v'] 51 (0, 0)) := by
    have := heap_setCell_same W' bb 1 _ 51 v' hb'
    simpa using this
  have hown' : W'.ownsRow w.heap.size 149 3 v' (pre ++ [c]).length (cellsChange (pre ++ [c])) := by
    rw [cellsChange_app, List.length_append]; exact hown
  refine ⟨⟨set_far (e1 h.rd.1 (by decide)) (by omega) _ _, h.rd.2⟩, hblk, set_far (e1 h.res (by decide)) (by omega) _ _, own_set hown' _ _ _ (own_not hown' hb' (by decide)), ?_, hu⟩
  have h1 : w.grownBy W' (some rb) := h.grown.andThen hg (fun r e => Or.inl (h.own.lt r e).1)
  exact grown_new h1 (by omega) _ _
end
theorem change_news (c : ChangeL) : ∀ u ∈ [Value.string c.key, .string c.value, .bool c.gone], u.oneCell' = true := by
  intro u hu
  simp at hu
  rcases hu with rfl | rfl | rfl <;> rfl
theorem rdMany_next {t : ByteArray} {m a e : Nat} {l : List ChangeL} (h : Batches.rdMany t (m + 1) a = some (l, e)) : ∃ c a1 r, Batches.rdOne t a = some (c, a1) ∧ Batches.rdMany t m a1 = some (r, e) ∧ l = c :: r := by
  rw [Batches.rdMany] at h
  split at h
  · cases h
  · rename_i c a1 h1
    split at h
    · cases h
    · rename_i r a2 h2
      simp only [Option.some.injEq, Prod.mk.injEq] at h
      obtain ⟨rfl, rfl⟩ := h
      exact ⟨c, a1, r, h1, h2, rfl⟩
theorem rdMany_torn {t : ByteArray} {m a : Nat} (h : Batches.rdMany t (m + 1) a = none) : Batches.rdOne t a = none ∨ ∃ c a1, Batches.rdOne t a = some (c, a1) ∧ Batches.rdMany t m a1 = none := by
  rw [Batches.rdMany] at h
  split at h
  · rename_i h1; exact Or.inl h1
  · rename_i c a1 h1
    split at h
    · rename_i h2; exact Or.inr ⟨c, a1, h1, h2⟩
    · cases h

set_option maxHeartbeats 1000000 in
set_option maxRecDepth 100000 in
theorem batch_some {rb : Nat} {t : ByteArray} {st a1 n a2 e : Nat} {l : List ChangeL} (hs : t.size ≤ 1048576) (w : World) (hr : Rd w rb t 0)
    (h1 : Words.rd t.data.toList 0 = some (st, a1)) (h2 : Words.rd t.data.toList a1 = some (n, a2)) (hn : n ≤ 60) (h3 : Batches.rdMany t n a2 = some (l, e)) :
    Calls Tryz.prog 228 #[.pointer (some ⟨rb, 0, none⟩)] w fun en w' => ∃ v, en = .returned (.agg #[.int .i64 (st : Int), v]) ∧ w'.ownsRow w.heap.size 149 3 v l.length (cellsChange l) ∧ Rd w' rb t e ∧ w.grownBy w' (some rb) := by
  obtain ⟨i0, hi, hz0, hz1, hz2⟩ := info_parts Tryz.info149
  have hlt := hr.lt
  have HR : Hid (Rd (w.alloc (Obj.cells #[Value.int IntKind.i64 0, Value.slice none 0 0] 51)) rb t 0) := hr.below ((Below.refl _ _).alloc (Nat.le_refl _) _)
  have HZ : Hid ((w.alloc (Obj.cells #[Value.int IntKind.i64 0, Value.slice none 0 0] 51)).heap[w.heap.size]? = some (Obj.cells #[Value.int IntKind.i64 0, Value.slice none 0 0] 51 (0, 0))) := heap_alloc_new w _
  have HG : Hid (w.grownBy (w.alloc (Obj.cells #[Value.int IntKind.i64 0, Value.slice none 0 0] 51)) (some rb)) := grown_alloc _ _
  have H1 : Hid (_ = _) := h1
  have H2 : Hid (_ = _) := h2
  have H3 : Hid (_ = _) := h3
  have HC : Hid (∀ wx : World, (callFunc 281 #[.pointer (some ⟨rb, 0, none⟩)]).run Tryz.prog wx = .ok (.enter 281 #[.pointer (some ⟨rb, 0, none⟩)]) wx) := fun _ => by kernel_rfl
  clear hr h1 h2 h3
  go_enter Tryz.func228, Tryz.ntmps228
  go_wp2_with fail
  refine (number_some hs _ HR.out H1.out).mono ?_
  rintro en w1 ⟨rfl, hr1, hg1⟩
  have hz1 := (HG.out.trans hg1).size
  have hzz : w.heap.size < w1.heap.size := by have := hg1.size; simp at this; omega
  have HS1 : Hid (BSt w rb w1.heap.size t (st : Int) a1 (.slice none 0 0) [] (w1.alloc (Obj.cells #[Value.int IntKind.i64 ↑st, Value.slice none 0 0] 51))) :=
    ⟨hr1.below ((Below.refl _ _).alloc (Nat.le_refl _) _), heap_alloc_new w1 _, ((Below.refl _ _).alloc (Nat.le_refl _) _ : Below w1.heap.size w1 _).block _ hzz |>.trans (grown_keep HZ.out hg1 (by omega)), World.ownsRow_nil _ _ _ _, (HG.out.trans hg1).trans (grown_alloc _ _), hlt, hzz⟩
  obtain ⟨bb, hbb⟩ : ∃ bb, bb = w1.heap.size := ⟨_, rfl⟩
  rw [← hbb] at HS1
  clear hr1 hg1 hz1 HR HZ HG
  go_wp2_with fail
  rw [← hbb]
  refine (count_some hs _ HS1.out.rd H2.out hn).mono ?_
  rintro en w2 ⟨rfl, hr2, hg2⟩
  have HS2 : Hid (BSt w rb bb t (st : Int) a2 (.slice none 0 0) [] w2) := HS1.out.call hr2 hg2
  clear hr2 hg2 HS1 hbb hzz
  go_wp2
  go_loopw [9] (fun i wr => ∃ (k a' : Nat) (v : Value) (pre rest : List ChangeL), k ≤ n ∧ i = .int .i64 (k : Int) ∧ pre.length = k ∧ pre ++ rest = l ∧ Batches.rdMany t (n - k) a' = some (rest, e) ∧ BSt w rb bb t (st : Int) a' v pre wr)
    (fun i _ => n - (intOf i).toNat)
  case atStart => exact ⟨0, a2, _, [], l, Nat.zero_le _, rfl, rfl, rfl, H3.out, HS2.out⟩
  case round =>
    obtain ⟨k, a', v, pre, rest, hk, rfl, hpl0, hpr, hrd, hst⟩ := hrel
    have HS : Hid (BSt w rb bb t (st : Int) a' v pre wr) := hst
    have HP : Hid (pre ++ rest = l) := hpr
    have HM : Hid (Batches.rdMany t (n - k) a' = some (rest, e)) := hrd
    have HPL : Hid (pre.length = k) := hpl0
    clear hst hpr hrd hpl0
    by_cases hlt : k < n
    · obtain ⟨c, a1', r, hone, hmany, hrest⟩ := rdMany_next (m := n - k - 1) (by rw [show n - k - 1 + 1 = n - k by omega]; exact HM.out)
      have HO : Hid (_ = _) := hone
      have HM1 : Hid (Batches.rdMany t (n - (k + 1)) a1' = some (r, e)) := by rw [show n - (k + 1) = n - k - 1 by omega]; exact hmany
      have HP1 : Hid ((pre ++ [c]) ++ r = l) := by show _ = _; rw [← HP.out, hrest]; simp
      clear hone hmany hrest HM HP
      obtain ⟨va, vc, rfl⟩ := own_slice HS.out.own
      have hu := HS.out.up
      have cB := HS.out.c1
      have hnB := own_not HS.out.own HS.out.blk (by decide)
      have hpl : pre.length + 1 ≤ maxLen := by have := HPL.out; unfold maxLen; omega
      have hby : (pre.length + 1) * 40 ≤ 140737488355328 := by have := HPL.out; omega
      have hk1 : (k : Int) < (n : Int) := by omega
      go_wp2_with fail
      go_region_law (first | (refine step_call (by rfl) 281 _ _ (by rfl) (.pointer (some ⟨rb, 0, none⟩)) (by rfl) (changeV c) _ HC.out (change_some hs _ (HS.out.drew.rd) HO.out) ?_; rintro wa ⟨hra, hga⟩; have HSa : Hid (BSt w rb bb t (st : Int) a1' (.slice va pre.length vc) pre wa) := HS.out.drew.call hra hga; have cRa := HSa.out.c1; have cRb := fun o => (HSa.out.alloc o).c1; clear hra hga; unfold changeV) | (refine step_append_lies _ (by rfl) _ _ _ (by rfl) w.heap.size 149 i0 _ 3 40 Tryz.underlying49 hi hz0 hz1 hz2 rfl (Nat.zero_lt_succ _) _ pre.length (cellsChange pre) (by rfl) ((HSa.out.alloc _).own) ⟨wa.heap.size, 0, none⟩ 1 1 [.string c.key, .string c.value, .bool c.gone] (by rfl) (by rfl) (World.news_of_block (cs := #[.string c.key, .string c.value, .bool c.gone]) (t := 149) (fr := (0, 0)) (heap_alloc_new wa _)) (change_news c) (Nat.zero_lt_succ _) hpl hby (by have h2 := HSa.out.grown.size; simp; omega) (wa.heap.size + 1) (Array.size_push ..) ?_; intro g2 cap2 w8 hown8 hgrow hat hlt8; have hB8 := grown_keep' (HSa.out.alloc _).blk hgrow hnB; have cR8 := cell_of_row _ _ 1 _ _ _ hB8; have fR8 := frozen_of_row _ _ 1 _ _ hB8))
      all_goals
        have HS9 : Hid (BSt w rb bb t (st : Int) a1' (.slice (some ⟨g2, 0, none⟩) (pre.length + 1) cap2) (pre ++ [c]) (w8.setCell ⟨bb, 1, none⟩ (.slice (some ⟨g2, 0, none⟩) (pre.length + 1) cap2))) := (HSa.out.alloc _).app hgrow hown8
        clear hown8 hgrow hat hlt8 hB8
        go_wp2
        go_roundw
        case rel => exact ⟨k + 1, a1', _, pre ++ [c], r, by omega, by go_num, by have := HPL.out; simp; omega, HP1.out, HM1.out, HS9.out⟩
        case measure => simp [intOf]; omega
    · have hk1 : ¬ (k : Int) < (n : Int) := by omega
      have HE : Hid (rest = [] ∧ a' = e) := by
        have h := HM.out
        rw [show n - k = 0 by omega, Batches.rdMany] at h
        simp only [Option.some.injEq, Prod.mk.injEq] at h
        exact ⟨h.1.symm, h.2⟩
      obtain ⟨va, vc, rfl⟩ := own_slice HS.out.own
      have hu := HS.out.up
      have b0 := cell_of_row _ _ 0 _ _ _ HS.out.blk
      have b1 := cell_of_row _ _ 1 _ _ _ HS.out.blk
      have r0 := cell_of_row _ _ 0 _ _ _ HS.out.res
      have r1 := cell_of_row _ _ 1 _ _ _ HS.out.res
      have fr0 := frozen_of_row _ _ 0 _ _ HS.out.res
      have fr1 := frozen_of_row _ _ 1 _ _ HS.out.res
      simp at b0 b1 r0 r1
      go_wp2
      obtain ⟨l0, l1⟩ := two_cell HS.out.res (.int .i64 (st : Int)) (.slice va pre.length vc)
      have hpe : pre = l := by rw [← HP.out, HE.out.1]; simp
      refine bodyPost_ret (v := .agg #[.int .i64 (st : Int), .slice va pre.length vc]) (by simp [results, Tryz.results228, go_sem, l0, l1]) rfl ⟨.slice va pre.length vc, rfl, ?_, ?_, ?_⟩
      · rw [← hpe]
        exact own_set (own_set HS.out.own _ _ _ (own_not HS.out.own HS.out.res (by decide))) _ _ _ (own_not HS.out.own HS.out.res (by decide))
      · rw [← HE.out.2]
        exact (HS.out.rd.setNew (k := w.heap.size) (by omega) 0 _).setNew (k := w.heap.size) (by omega) 1 _
      · exact grown_new (grown_new HS.out.grown (k := w.heap.size) (Nat.le_refl _) 0 _) (k := w.heap.size) (Nat.le_refl _) 1 _
set_option maxHeartbeats 1000000 in
set_option maxRecDepth 100000 in
theorem batch_torn {rb : Nat} {t : ByteArray} {st a1 n a2 : Nat} (hs : t.size ≤ 1048576) (w : World) (hr : Rd w rb t 0)
    (h1 : Words.rd t.data.toList 0 = some (st, a1)) (h2 : Words.rd t.data.toList a1 = some (n, a2)) (hn : n ≤ 60) (h3 : Batches.rdMany t n a2 = none) :
    Calls Tryz.prog 228 #[.pointer (some ⟨rb, 0, none⟩)] w fun en w' => en = .panicked thrown ∧ w.grownBy w' (some rb) := by
  obtain ⟨i0, hi, hz0, hz1, hz2⟩ := info_parts Tryz.info149
  have hlt := hr.lt
  have HR : Hid (Rd (w.alloc (Obj.cells #[Value.int IntKind.i64 0, Value.slice none 0 0] 51)) rb t 0) := hr.below ((Below.refl _ _).alloc (Nat.le_refl _) _)
  have HZ : Hid ((w.alloc (Obj.cells #[Value.int IntKind.i64 0, Value.slice none 0 0] 51)).heap[w.heap.size]? = some (Obj.cells #[Value.int IntKind.i64 0, Value.slice none 0 0] 51 (0, 0))) := heap_alloc_new w _
  have HG : Hid (w.grownBy (w.alloc (Obj.cells #[Value.int IntKind.i64 0, Value.slice none 0 0] 51)) (some rb)) := grown_alloc _ _
  have H1 : Hid (_ = _) := h1
  have H2 : Hid (_ = _) := h2
  have H3 : Hid (_ = _) := h3
  have HC : Hid (∀ wx : World, (callFunc 281 #[.pointer (some ⟨rb, 0, none⟩)]).run Tryz.prog wx = .ok (.enter 281 #[.pointer (some ⟨rb, 0, none⟩)]) wx) := fun _ => by kernel_rfl
  clear hr h1 h2 h3
  go_enter Tryz.func228, Tryz.ntmps228
  go_wp2_with fail
  refine (number_some hs _ HR.out H1.out).mono ?_
  rintro en w1 ⟨rfl, hr1, hg1⟩
  have hz1 := (HG.out.trans hg1).size
  have hzz : w.heap.size < w1.heap.size := by have := hg1.size; simp at this; omega
  have HS1 : Hid (BSt w rb w1.heap.size t (st : Int) a1 (.slice none 0 0) [] (w1.alloc (Obj.cells #[Value.int IntKind.i64 ↑st, Value.slice none 0 0] 51))) :=
    ⟨hr1.below ((Below.refl _ _).alloc (Nat.le_refl _) _), heap_alloc_new w1 _, ((Below.refl _ _).alloc (Nat.le_refl _) _ : Below w1.heap.size w1 _).block _ hzz |>.trans (grown_keep HZ.out hg1 (by omega)), World.ownsRow_nil _ _ _ _, (HG.out.trans hg1).trans (grown_alloc _ _), hlt, hzz⟩
  obtain ⟨bb, hbb⟩ : ∃ bb, bb = w1.heap.size := ⟨_, rfl⟩
  rw [← hbb] at HS1
  clear hr1 hg1 hz1 HR HZ HG
  go_wp2_with fail
  rw [← hbb]
  refine (count_some hs _ HS1.out.rd H2.out hn).mono ?_
  rintro en w2 ⟨rfl, hr2, hg2⟩
  have HS2 : Hid (BSt w rb bb t (st : Int) a2 (.slice none 0 0) [] w2) := HS1.out.call hr2 hg2
  clear hr2 hg2 HS1 hbb hzz
  go_wp2
  go_loopw [9] (fun i wr => ∃ (k a' : Nat) (v : Value) (pre : List ChangeL), k ≤ n ∧ i = .int .i64 (k : Int) ∧ pre.length = k ∧ Batches.rdMany t (n - k) a' = none ∧ BSt w rb bb t (st : Int) a' v pre wr)
    (fun i _ => n - (intOf i).toNat)
  case atStart => exact ⟨0, a2, _, [], Nat.zero_le _, rfl, rfl, H3.out, HS2.out⟩
  case round =>
    obtain ⟨k, a', v, pre, hk, rfl, hpl0, hrd, hst⟩ := hrel
    have HS : Hid (BSt w rb bb t (st : Int) a' v pre wr) := hst
    have HM : Hid (Batches.rdMany t (n - k) a' = none) := hrd
    have HPL : Hid (pre.length = k) := hpl0
    clear hst hrd hpl0
    have hlt : k < n := by
      rcases Nat.lt_or_ge k n with h | h
      · exact h
      · have := HM.out
        rw [show n - k = 0 by omega, Batches.rdMany] at this
        cases this
    rcases rdMany_torn (m := n - k - 1) (by rw [show n - k - 1 + 1 = n - k by omega]; exact HM.out) with hone | ⟨c, a1', hone, hmany⟩
    · have HO : Hid (Batches.rdOne t a' = none) := hone
      clear hone
      obtain ⟨va, vc, rfl⟩ := own_slice HS.out.own
      have hk1 : (k : Int) < (n : Int) := by omega
      go_wp2_with fail
      refine wp_region_held_drew (S := fun w' => w'.cell? ⟨bb, 1, none⟩ = some (.slice va pre.length vc)) (by kernel_rfl) HS.out.drew.c1 (fun hSw => ?_)
      refine wpAnyH_take (i := 0) (v := .pointer (some ⟨bb, 1, none⟩)) rfl (by kernel_rfl) (by kernel_rfl) (by kernel_rfl) (fun _ _ _ h => h) (Or.inl ⟨by rfl, fun w hw => by go_simp⟩) hSw ?_
      refine wpAnyH_take (i := 1) (v := .slice va pre.length vc) rfl (by kernel_rfl) (by kernel_rfl) (by kernel_rfl) (fun _ _ _ h => h) (Or.inl ⟨by rfl, fun w hw => by dsimp only at hw; go_simp⟩) hSw ?_
      refine wpAnyH_take (i := 2) (v := .pointer (some ⟨rb, 0, none⟩)) rfl (by kernel_rfl) (by kernel_rfl) (by kernel_rfl) (fun _ _ _ h => h) (Or.inl ⟨by rfl, fun w hw => by go_simp⟩) hSw ?_
      refine wpAnyH_ready (rs := [3]) (by kernel_rfl) (by simp) ?_
      refine AllReadyH.cons rfl (fun K hK => ?_) AllReadyH.nil
      refine step_panic (by rfl) 281 _ _ (by rfl) (.pointer (some ⟨rb, 0, none⟩)) (by rfl) thrown _ HC.out (change_none hs _ HS.out.drew.rd HO.out) ?_
      intro w9 hg9
      exact ⟨rfl, rfl, HS.out.drew.grown.trans hg9⟩
    · have HO : Hid (_ = _) := hone
      have HM1 : Hid (Batches.rdMany t (n - (k + 1)) a1' = none) := by rw [show n - (k + 1) = n - k - 1 by omega]; exact hmany
      clear hone hmany HM
      obtain ⟨va, vc, rfl⟩ := own_slice HS.out.own
      have hu := HS.out.up
      have cB := HS.out.c1
      have hnB := own_not HS.out.own HS.out.blk (by decide)
      have hpl : pre.length + 1 ≤ maxLen := by have := HPL.out; unfold maxLen; omega
      have hby : (pre.length + 1) * 40 ≤ 140737488355328 := by have := HPL.out; omega
      have hk1 : (k : Int) < (n : Int) := by omega
      go_wp2_with fail
      go_region_law (first | (refine step_call (by rfl) 281 _ _ (by rfl) (.pointer (some ⟨rb, 0, none⟩)) (by rfl) (changeV c) _ HC.out (change_some hs _ (HS.out.drew.rd) HO.out) ?_; rintro wa ⟨hra, hga⟩; have HSa : Hid (BSt w rb bb t (st : Int) a1' (.slice va pre.length vc) pre wa) := HS.out.drew.call hra hga; have cRa := HSa.out.c1; have cRb := fun o => (HSa.out.alloc o).c1; clear hra hga; unfold changeV) | (refine step_append_lies _ (by rfl) _ _ _ (by rfl) w.heap.size 149 i0 _ 3 40 Tryz.underlying49 hi hz0 hz1 hz2 rfl (Nat.zero_lt_succ _) _ pre.length (cellsChange pre) (by rfl) ((HSa.out.alloc _).own) ⟨wa.heap.size, 0, none⟩ 1 1 [.string c.key, .string c.value, .bool c.gone] (by rfl) (by rfl) (World.news_of_block (cs := #[.string c.key, .string c.value, .bool c.gone]) (t := 149) (fr := (0, 0)) (heap_alloc_new wa _)) (change_news c) (Nat.zero_lt_succ _) hpl hby (by have h2 := HSa.out.grown.size; simp; omega) (wa.heap.size + 1) (Array.size_push ..) ?_; intro g2 cap2 w8 hown8 hgrow hat hlt8; have hB8 := grown_keep' (HSa.out.alloc _).blk hgrow hnB; have cR8 := cell_of_row _ _ 1 _ _ _ hB8; have fR8 := frozen_of_row _ _ 1 _ _ hB8))
      all_goals
        have HS9 : Hid (BSt w rb bb t (st : Int) a1' (.slice (some ⟨g2, 0, none⟩) (pre.length + 1) cap2) (pre ++ [c]) (w8.setCell ⟨bb, 1, none⟩ (.slice (some ⟨g2, 0, none⟩) (pre.length + 1) cap2))) := (HSa.out.alloc _).app hgrow hown8
        clear hown8 hgrow hat hlt8 hB8
        go_wp2
        go_roundw
        case rel => exact ⟨k + 1, a1', _, pre ++ [c], by omega, by go_num, by have := HPL.out; simp; omega, HM1.out, HS9.out⟩
        case measure => simp [intOf]; omega
set_option maxHeartbeats 1000000 in
theorem batch_over {rb : Nat} {t : ByteArray} {st a1 n a2 : Nat} (hs : t.size ≤ 1048576) (w : World) (hr : Rd w rb t 0) (h1 : Words.rd t.data.toList 0 = some (st, a1)) (h2 : Words.rd t.data.toList a1 = some (n, a2)) (hn : ¬ n ≤ 60) :
    Calls Tryz.prog 228 #[.pointer (some ⟨rb, 0, none⟩)] w fun en w' => en = .panicked thrown ∧ w.grownBy w' (some rb) := by
  have hlt := hr.lt
  have HR : Hid (Rd (w.alloc (Obj.cells #[Value.int IntKind.i64 0, Value.slice none 0 0] 51)) rb t 0) := hr.below ((Below.refl _ _).alloc (Nat.le_refl _) _)
  have HZ : Hid ((w.alloc (Obj.cells #[Value.int IntKind.i64 0, Value.slice none 0 0] 51)).heap[w.heap.size]? = some (Obj.cells #[Value.int IntKind.i64 0, Value.slice none 0 0] 51 (0, 0))) := heap_alloc_new w _
  have HG : Hid (w.grownBy (w.alloc (Obj.cells #[Value.int IntKind.i64 0, Value.slice none 0 0] 51)) (some rb)) := grown_alloc _ _
  have H1 : Hid (_ = _) := h1
  have H2 : Hid (_ = _) := h2
  clear hr h1 h2
  go_enter Tryz.func228, Tryz.ntmps228
  go_wp2_with fail
  refine (number_some hs _ HR.out H1.out).mono ?_
  rintro en w1 ⟨rfl, hr1, hg1⟩
  have hz1 := (HG.out.trans hg1).size
  have hzz : w.heap.size < w1.heap.size := by have := hg1.size; simp at this; omega
  have HS1 : Hid (BSt w rb w1.heap.size t (st : Int) a1 (.slice none 0 0) [] (w1.alloc (Obj.cells #[Value.int IntKind.i64 ↑st, Value.slice none 0 0] 51))) :=
    ⟨hr1.below ((Below.refl _ _).alloc (Nat.le_refl _) _), heap_alloc_new w1 _, ((Below.refl _ _).alloc (Nat.le_refl _) _ : Below w1.heap.size w1 _).block _ hzz |>.trans (grown_keep HZ.out hg1 (by omega)), World.ownsRow_nil _ _ _ _, (HG.out.trans hg1).trans (grown_alloc _ _), hlt, hzz⟩
  obtain ⟨bb, hbb⟩ : ∃ bb, bb = w1.heap.size := ⟨_, rfl⟩
  rw [← hbb] at HS1
  clear hr1 hg1 hz1 HR HZ HG
  go_wp2_with fail
  rw [← hbb]
  refine (count_over hs _ HS1.out.rd H2.out hn).mono ?_
  rintro en w2 ⟨rfl, hg2⟩
  exact ⟨rfl, rfl, HS1.out.grown.trans hg2⟩
set_option maxHeartbeats 1000000 in
theorem batch_nocount {rb : Nat} {t : ByteArray} {st a1 : Nat} (hs : t.size ≤ 1048576) (w : World) (hr : Rd w rb t 0) (h1 : Words.rd t.data.toList 0 = some (st, a1)) (h2 : Words.rd t.data.toList a1 = none) :
    Calls Tryz.prog 228 #[.pointer (some ⟨rb, 0, none⟩)] w fun en w' => en = .panicked thrown ∧ w.grownBy w' (some rb) := by
  have hlt := hr.lt
  have HR : Hid (Rd (w.alloc (Obj.cells #[Value.int IntKind.i64 0, Value.slice none 0 0] 51)) rb t 0) := hr.below ((Below.refl _ _).alloc (Nat.le_refl _) _)
  have HZ : Hid ((w.alloc (Obj.cells #[Value.int IntKind.i64 0, Value.slice none 0 0] 51)).heap[w.heap.size]? = some (Obj.cells #[Value.int IntKind.i64 0, Value.slice none 0 0] 51 (0, 0))) := heap_alloc_new w _
  have HG : Hid (w.grownBy (w.alloc (Obj.cells #[Value.int IntKind.i64 0, Value.slice none 0 0] 51)) (some rb)) := grown_alloc _ _
  have H1 : Hid (_ = _) := h1
  have H2 : Hid (_ = _) := h2
  clear hr h1 h2
  go_enter Tryz.func228, Tryz.ntmps228
  go_wp2_with fail
  refine (number_some hs _ HR.out H1.out).mono ?_
  rintro en w1 ⟨rfl, hr1, hg1⟩
  have hz1 := (HG.out.trans hg1).size
  have hzz : w.heap.size < w1.heap.size := by have := hg1.size; simp at this; omega
  have HS1 : Hid (BSt w rb w1.heap.size t (st : Int) a1 (.slice none 0 0) [] (w1.alloc (Obj.cells #[Value.int IntKind.i64 ↑st, Value.slice none 0 0] 51))) :=
    ⟨hr1.below ((Below.refl _ _).alloc (Nat.le_refl _) _), heap_alloc_new w1 _, ((Below.refl _ _).alloc (Nat.le_refl _) _ : Below w1.heap.size w1 _).block _ hzz |>.trans (grown_keep HZ.out hg1 (by omega)), World.ownsRow_nil _ _ _ _, (HG.out.trans hg1).trans (grown_alloc _ _), hlt, hzz⟩
  obtain ⟨bb, hbb⟩ : ∃ bb, bb = w1.heap.size := ⟨_, rfl⟩
  rw [← hbb] at HS1
  clear hr1 hg1 hz1 HR HZ HG
  go_wp2_with fail
  rw [← hbb]
  refine (count_none hs _ HS1.out.rd H2.out).mono ?_
  rintro en w2 ⟨rfl, hg2⟩
  exact ⟨rfl, rfl, HS1.out.grown.trans hg2⟩
set_option maxHeartbeats 1000000 in
theorem batch_nostamp {rb : Nat} {t : ByteArray} (hs : t.size ≤ 1048576) (w : World) (hr : Rd w rb t 0) (h1 : Words.rd t.data.toList 0 = none) :
    Calls Tryz.prog 228 #[.pointer (some ⟨rb, 0, none⟩)] w fun en w' => en = .panicked thrown ∧ w.grownBy w' (some rb) := by
  have hlt := hr.lt
  have HR : Hid (Rd (w.alloc (Obj.cells #[Value.int IntKind.i64 0, Value.slice none 0 0] 51)) rb t 0) := hr.below ((Below.refl _ _).alloc (Nat.le_refl _) _)
  have HZ : Hid ((w.alloc (Obj.cells #[Value.int IntKind.i64 0, Value.slice none 0 0] 51)).heap[w.heap.size]? = some (Obj.cells #[Value.int IntKind.i64 0, Value.slice none 0 0] 51 (0, 0))) := heap_alloc_new w _
  have HG : Hid (w.grownBy (w.alloc (Obj.cells #[Value.int IntKind.i64 0, Value.slice none 0 0] 51)) (some rb)) := grown_alloc _ _
  have H1 : Hid (_ = _) := h1
  clear hr h1
  go_enter Tryz.func228, Tryz.ntmps228
  go_wp2_with fail
  refine (number_none hs _ HR.out H1.out).mono ?_
  rintro en w1 ⟨rfl, hg1⟩
  exact ⟨rfl, rfl, HG.out.trans hg1⟩
end Go.Proofs.YtbcfiiilikkkeaaGreatDoor
