/- The calls of the program's (*textReader).spot and (*textReader).dir, walked. The call of the program's (*textReader).batch, walked. The call of the specification's BatchOk, walked. -/
import Derived.Test.YtbcfiiilikkkeaaGreatDoorSpecCur
import Derived.Test.YtbcfiiilikkkeaaGreatDoorLSpot
import Derived.Deep.AppendLies
import Derived.Deep.RegionHeld3
import Derived.Deep.RegionLaw
import Derived.Test.YtbcfiiilikkkeaaGreatDoorLChange
namespace Go.Proofs.YtbcfiiilikkkeaaGreatDoor
open Go.RowKit
set_option linter.unusedVariables false

theorem spotAt_new (w : World) (c : SpotL) : SpotAt (w.alloc (Obj.cells #[.string c.key, .int .i64 c.seg, .int .i64 c.pos, .int .i64 c.size] 134)) (some ⟨w.heap.size, 0, none⟩) w.heap.size 0 [c] := by
  have h := heap_alloc_new w (Obj.cells #[.string c.key, .int .i64 c.seg, .int .i64 c.pos, .int .i64 c.size] 134)
  refine ⟨fun _ => rfl, fun j hj => ?_⟩
  obtain rfl : j = 0 := by simpa using hj
  exact ⟨cell_of_row _ _ 0 _ _ _ h, cell_of_row _ _ 1 _ _ _ h, cell_of_row _ _ 2 _ _ _ h, cell_of_row _ _ 3 _ _ _ h⟩
theorem ownSpot_snoc {w : World} {B : Nat} {v : Value} {pre : List SpotL} {c : SpotL} (h : w.ownsRow B 134 4 v (pre.length + 1) (cellsSpot pre ++ [.string c.key, .int .i64 c.seg, .int .i64 c.pos, .int .i64 c.size])) : w.ownsRow B 134 4 v (pre ++ [c]).length (cellsSpot (pre ++ [c])) := by
  rw [cellsSpot_app, List.length_append]
  exact h
/-- What dir holds: the reader, the spots read so far. -/
structure DSt (w : World) (rb : Nat) (t : ByteArray) (a : Nat) (v : Value) (pre : List SpotL) (W : World) : Prop where
  rd : Rd W rb t a
  own : W.ownsRow w.heap.size 134 4 v pre.length (cellsSpot pre)
  grown : w.grownBy W (some rb)
  up : rb < w.heap.size
section
variable {w W W' : World} {rb a a' : Nat} {t : ByteArray} {v : Value} {pre : List SpotL}
theorem DSt.call (h : DSt w rb t a v pre W) (hr : Rd W' rb t a') (hg : W.grownBy W' (some rb)) : DSt w rb t a' v pre W' :=
  ⟨hr, h.own.kept hg (Or.inr (own_not h.own h.rd.1 (by decide))), h.grown.trans hg, h.up⟩
theorem DSt.alloc (h : DSt w rb t a v pre W) (o : Obj) : DSt w rb t a v pre (W.alloc o) :=
  h.call (h.rd.below ((Below.refl _ _).alloc (Nat.le_refl _) _)) (grown_alloc _ _)
theorem DSt.app (h : DSt w rb t a v pre W) {v' : Value} {c : SpotL} (hg : W.grownBy W' v.ownBlock) (hown : W'.ownsRow w.heap.size 134 4 v' (pre.length + 1) (cellsSpot pre ++ [.string c.key, .int .i64 c.seg, .int .i64 c.pos, .int .i64 c.size])) : DSt w rb t a v' (pre ++ [c]) W' := by
  refine ⟨⟨?_, h.rd.2⟩, ownSpot_snoc hown, h.grown.andThen hg (fun r e => Or.inl (h.own.lt r e).1), h.up⟩
  exact (hg.block rb h.rd.lt (fun e => own_not h.own h.rd.1 (by decide) e.symm)).trans h.rd.1
end
end Go.Proofs.YtbcfiiilikkkeaaGreatDoor
namespace Go.Proofs.YtbcfiiilikkkeaaGreatDoor
open Go.RowKit
set_option linter.unusedVariables false

/-- What batch holds: the reader, the variable b, the result's, the changes read so far. -/
structure BSt (w : World) (rb bb : Nat) (t : ByteArray) (st : Int) (a : Nat) (v : Value) (pre : List ChangeL) (W : World) : Prop where
  rd : Rd W rb t a
  blk : W.heap[bb]? = some (.cells #[.int .i64 st, v] 51 (0, 0))
  res : W.heap[w.heap.size]? = some (.cells #[.int .i64 0, .slice none 0 0] 51 (0, 0))
  own : W.ownsRow w.heap.size 149 3 v pre.length (cellsChange pre)
  grown : w.grownBy W (some rb)
  up : rb < w.heap.size ∧ w.heap.size < bb
section
variable {w W W' : World} {rb bb a a' : Nat} {t : ByteArray} {st : Int} {v : Value} {pre : List ChangeL}
theorem BSt.call (h : BSt w rb bb t st a v pre W) (hr : Rd W' rb t a') (hg : W.grownBy W' (some rb)) : BSt w rb bb t st a' v pre W' :=
  have hu := h.up
  ⟨hr, grown_keep h.blk hg (by omega), grown_keep h.res hg (by omega), h.own.kept hg (Or.inr (own_not h.own h.rd.1 (by decide))), h.grown.trans hg, hu⟩
theorem BSt.drew (h : BSt w rb bb t st a v pre W) : BSt w rb bb t st a v pre W.drew := ⟨h.rd, h.blk, h.res, h.own, grown_drew h.grown, h.up⟩
theorem BSt.alloc (h : BSt w rb bb t st a v pre W) (o : Obj) : BSt w rb bb t st a v pre (W.alloc o) :=
  h.call (h.rd.below ((Below.refl _ _).alloc (Nat.le_refl _) _)) (grown_alloc _ _)
theorem BSt.c1 (h : BSt w rb bb t st a v pre W) : W.cell? ⟨bb, 1, none⟩ = some v := cell_of_row _ _ 1 _ _ _ h.blk
theorem BSt.f1 (h : BSt w rb bb t st a v pre W) : W.frozen? ⟨bb, 1, none⟩ = false := frozen_of_row _ _ _ _ _ h.blk
/-- An append to its own row. -/
theorem BSt.app (h : BSt w rb bb t st a v pre W) {v' : Value} {c : ChangeL} (hg : W.grownBy W' v.ownBlock) (hown : W'.ownsRow w.heap.size 149 3 v' (pre.length + 1) (cellsChange pre ++ [.string c.key, .string c.value, .bool c.gone])) :
    BSt w rb bb t st a v' (pre ++ [c]) (W'.setCell ⟨bb, 1, none⟩ v') := by
  have hu := h.up
  have e1 : ∀ {q : Nat} {cs : Array Value} {ty : TypeId}, W.heap[q]? = some (.cells cs ty (0, 0)) → 149 ≠ ty → W'.heap[q]? = some (.cells cs ty (0, 0)) := fun {q cs ty} hq hne =>
    (hg.block q (Array.getElem?_eq_some_iff.1 hq).1 (fun e => own_not h.own hq hne e.symm)).trans hq
  have hb' := e1 h.blk (by decide)
  have hblk : (W'.setCell ⟨bb, 1, none⟩ v').heap[bb]? = some (.cells #[.int .i64 st, v'] 51 (0, 0)) := by
    have := heap_setCell_same W' bb 1 _ 51 v' hb'
    simpa using this
  have hown' : W'.ownsRow w.heap.size 149 3 v' (pre ++ [c]).length (cellsChange (pre ++ [c])) := by
    rw [cellsChange_app, List.length_append]; exact hown
  refine ⟨⟨set_far (e1 h.rd.1 (by decide)) (by omega) _ _, h.rd.2⟩, hblk, set_far (e1 h.res (by decide)) (by omega) _ _, own_set hown' _ _ _ (own_not hown' hb' (by decide)), ?_, hu⟩
  have h1 : w.grownBy W' (some rb) := h.grown.andThen hg (fun r e => Or.inl (h.own.lt r e).1)
  exact grown_new h1 (by omega) _ _
end
theorem change_news (c : ChangeL) : ∀ u ∈ [Value.string c.key, .string c.value, .bool c.gone], u.oneCell' = true := by
  intro u hu
  simp at hu
  rcases hu with rfl | rfl | rfl <;> rfl
theorem rdMany_next {t : ByteArray} {m a e : Nat} {l : List ChangeL} (h : Batches.rdMany t (m + 1) a = some (l, e)) : ∃ c a1 r, Batches.rdOne t a = some (c, a1) ∧ Batches.rdMany t m a1 = some (r, e) ∧ l = c :: r := by
  rw [Batches.rdMany] at h
  split at h
  · cases h
  · rename_i c a1 h1
    split at h
    · cases h
    · rename_i r a2 h2
      simp only [Option.some.injEq, Prod.mk.injEq] at h
      obtain ⟨rfl, rfl⟩ := h
      exact ⟨c, a1, r, h1, h2, rfl⟩
theorem rdMany_torn {t : ByteArray} {m a : Nat} (h : Batches.rdMany t (m + 1) a = none) : Batches.rdOne t a = none ∨ ∃ c a1, Batches.rdOne t a = some (c, a1) ∧ Batches.rdMany t m a1 = none := by
  rw [Batches.rdMany] at h
  split at h
  · rename_i h1; exact Or.inl h1
  · rename_i c a1 h1
    split at h
    · rename_i h2; exact Or.inr ⟨c, a1, h1, h2⟩
    · cases h

set_option maxHeartbeats 1000000 in
set_option maxRecDepth 100000 in
theorem batch_some {rb : Nat} {t : ByteArray} {st a1 n a2 e : Nat} {l : List ChangeL} (hs : t.size ≤ 1048576) (w : World) (hr : Rd w rb t 0)
    (h1 : Words.rd t.data.toList 0 = some (st, a1)) (h2 : Words.rd t.data.toList a1 = some (n, a2)) (hn : n ≤ 60) (h3 : Batches.rdMany t n a2 = some (l, e)) :
    Calls Tryz.prog 228 #[.pointer (some ⟨rb, 0, none⟩)] w fun en w' => ∃ v, en = .returned (.agg #[.int .i64 (st : Int), v]) ∧ w'.ownsRow w.heap.size 149 3 v l.length (cellsChange l) ∧ Rd w' rb t e ∧ w.grownBy w' (some rb) := by
  obtain ⟨i0, hi, hz0, hz1, hz2⟩ := info_parts Tryz.info149
  have hlt := hr.lt
  have HR : Hid (Rd (w.alloc (Obj.cells #[Value.int IntKind.i64 0, Value.slice none 0 0] 51)) rb t 0) := hr.below ((Below.refl _ _).alloc (Nat.le_refl _) _)
  have HZ : Hid ((w.alloc (Obj.cells #[Value.int IntKind.i64 0, Value.slice none 0 0] 51)).heap[w.heap.size]? = some (Obj.cells #[Value.int IntKind.i64 0, Value.slice none 0 0] 51 (0, 0))) := heap_alloc_new w _
  have HG : Hid (w.grownBy (w.alloc (Obj.cells #[Value.int IntKind.i64 0, Value.slice none 0 0] 51)) (some rb)) := grown_alloc _ _
  have H1 : Hid (_ = _) := h1
  have H2 : Hid (_ = _) := h2
  have H3 : Hid (_ = _) := h3
  have HC : Hid (∀ wx : World, (callFunc 281 #[.pointer (some ⟨rb, 0, none⟩)]).run Tryz.prog wx = .ok (.enter 281 #[.pointer (some ⟨rb, 0, none⟩)]) wx) := fun _ => by kernel_rfl
  clear hr h1 h2 h3
  go_enter Tryz.func228, Tryz.ntmps228
  go_wp2_with fail
  refine (number_some hs _ HR.out H1.out).mono ?_
  rintro en w1 ⟨rfl, hr1, hg1⟩
  have hz1 := (HG.out.trans hg1).size
  have hzz : w.heap.size < w1.heap.size := by have := hg1.size; simp at this; omega
  have HS1 : Hid (BSt w rb w1.heap.size t (st : Int) a1 (.slice none 0 0) [] (w1.alloc (Obj.cells #[Value.int IntKind.i64 ↑st, Value.slice none 0 0] 51))) :=
    ⟨hr1.below ((Below.refl _ _).alloc (Nat.le_refl _) _), heap_alloc_new w1 _, ((Below.refl _ _).alloc (Nat.le_refl _) _ : Below w1.heap.size w1 _).block _ hzz |>.trans (grown_keep HZ.out hg1 (by omega)), World.ownsRow_nil _ _ _ _, (HG.out.trans hg1).trans (grown_alloc _ _), hlt, hzz⟩
  obtain ⟨bb, hbb⟩ : ∃ bb, bb = w1.heap.size := ⟨_, rfl⟩
  rw [← hbb] at HS1
  clear hr1 hg1 hz1 HR HZ HG
  go_wp2_with fail
  rw [← hbb]
  refine (count_some hs _ HS1.out.rd H2.out hn).mono ?_
  rintro en w2 ⟨rfl, hr2, hg2⟩
  have HS2 : Hid (BSt w rb bb t (st : Int) a2 (.slice none 0 0) [] w2) := HS1.out.call hr2 hg2
  clear hr2 hg2 HS1 hbb hzz
  go_wp2
  go_loopw [9] (fun i wr => ∃ (k a' : Nat) (v : Value) (pre rest : List ChangeL), k ≤ n ∧ i = .int .i64 (k : Int) ∧ pre.length = k ∧ pre ++ rest = l ∧ Batches.rdMany t (n - k) a' = some (rest, e) ∧ BSt w rb bb t (st : Int) a' v pre wr)
    (fun i _ => n - (intOf i).toNat)
  case atStart => exact ⟨0, a2, _, [], l, Nat.zero_le _, rfl, rfl, rfl, H3.out, HS2.out⟩
  case round =>
    obtain ⟨k, a', v, pre, rest, hk, rfl, hpl0, hpr, hrd, hst⟩ := hrel
    have HS : Hid (BSt w rb bb t (st : Int) a' v pre wr) := hst
    have HP : Hid (pre ++ rest = l) := hpr
    have HM : Hid (Batches.rdMany t (n - k) a' = some (rest, e)) := hrd
    have HPL : Hid (pre.length = k) := hpl0
    clear hst hpr hrd hpl0
    by_cases hlt : k < n
    · obtain ⟨c, a1', r, hone, hmany, hrest⟩ := rdMany_next (m := n - k - 1) (by rw [show n - k - 1 + 1 = n - k by omega]; exact HM.out)
      have HO : Hid (_ = _) := hone
      have HM1 : Hid (Batches.rdMany t (n - (k + 1)) a1' = some (r, e)) := by rw [show n - (k + 1) = n - k - 1 by omega]; exact hmany
      have HP1 : Hid ((pre ++ [c]) ++ r = l) := by show _ = _; rw [← HP.out, hrest]; simp
      clear hone hmany hrest HM HP
      obtain ⟨va, vc, rfl⟩ := own_slice HS.out.own
      have hu := HS.out.up
      have cB := HS.out.c1
      have hnB := own_not HS.out.own HS.out.blk (by decide)
      have hpl : pre.length + 1 ≤ maxLen := by have := HPL.out; unfold maxLen; omega
      have hby : (pre.length + 1) * 40 ≤ 140737488355328 := by have := HPL.out; omega
      have hk1 : (k : Int) < (n : Int) := by omega
      go_wp2_with fail
      go_region_law (first | (refine step_call (by rfl) 281 _ _ (by rfl) (.pointer (some ⟨rb, 0, none⟩)) (by rfl) (changeV c) _ HC.out (change_some hs _ (HS.out.drew.rd) HO.out) ?_; rintro wa ⟨hra, hga⟩; have HSa : Hid (BSt w rb bb t (st : Int) a1' (.slice va pre.length vc) pre wa) := HS.out.drew.call hra hga; have cRa := HSa.out.c1; have cRb := fun o => (HSa.out.alloc o).c1; clear hra hga; unfold changeV) | (refine step_append_lies _ (by rfl) _ _ _ (by rfl) w.heap.size 149 i0 _ 3 40 Tryz.underlying49 hi hz0 hz1 hz2 rfl (Nat.zero_lt_succ _) _ pre.length (cellsChange pre) (by rfl) ((HSa.out.alloc _).own) ⟨wa.heap.size, 0, none⟩ 1 1 [.string c.key, .string c.value, .bool c.gone] (by rfl) (by rfl) (World.news_of_block (cs := #[.string c.key, .string c.value, .bool c.gone]) (t := 149) (fr := (0, 0)) (heap_alloc_new wa _)) (change_news c) (Nat.zero_lt_succ _) hpl hby (by have h2 := HSa.out.grown.size; simp; omega) (wa.heap.size + 1) (Array.size_push ..) ?_; intro g2 cap2 w8 hown8 hgrow hat hlt8; have hB8 := grown_keep' (HSa.out.alloc _).blk hgrow hnB; have cR8 := cell_of_row _ _ 1 _ _ _ hB8; have fR8 := frozen_of_row _ _ 1 _ _ hB8))
      all_goals
        have HS9 : Hid (BSt w rb bb t (st : Int) a1' (.slice (some ⟨g2, 0, none⟩) (pre.length + 1) cap2) (pre ++ [c]) (w8.setCell ⟨bb, 1, none⟩ (.slice (some ⟨g2, 0, none⟩) (pre.length + 1) cap2))) := (HSa.out.alloc _).app hgrow hown8
        clear hown8 hgrow hat hlt8 hB8
        go_wp2
        go_roundw
        case rel => exact ⟨k + 1, a1', _, pre ++ [c], r, by omega, by go_num, by have := HPL.out; simp; omega, HP1.out, HM1.out, HS9.out⟩
        case measure => simp [intOf]; omega
    · have hk1 : ¬ (k : Int) < (n : Int) := by omega
      have HE : Hid (rest = [] ∧ a' = e) := by
        have h := HM.out
        rw [show n - k = 0 by omega, Batches.rdMany] at h
        simp only [Option.some.injEq, Prod.mk.injEq] at h
        exact ⟨h.1.symm, h.2⟩
      obtain ⟨va, vc, rfl⟩ := own_slice HS.out.own
      have hu := HS.out.up
      have b0 := cell_of_row _ _ 0 _ _ _ HS.out.blk
      have b1 := cell_of_row _ _ 1 _ _ _ HS.out.blk
      have r0 := cell_of_row _ _ 0 _ _ _ HS.out.res
      have r1 := cell_of_row _ _ 1 _ _ _ HS.out.res
      have fr0 := frozen_of_row _ _ 0 _ _ HS.out.res
      have fr1 := frozen_of_row _ _ 1 _ _ HS.out.res
      simp at b0 b1 r0 r1
      go_wp2
      obtain ⟨l0, l1⟩ := two_cell HS.out.res (.int .i64 (st : Int)) (.slice va pre.length vc)
      have hpe : pre = l := by rw [← HP.out, HE.out.1]; simp
      refine bodyPost_ret (v := .agg #[.int .i64 (st : Int), .slice va pre.length vc]) (by simp [results, Tryz.results228, go_sem, l0, l1]) rfl ⟨.slice va pre.length vc, rfl, ?_, ?_, ?_⟩
      · rw [← hpe]
        exact own_set (own_set HS.out.own _ _ _ (own_not HS.out.own HS.out.res (by decide))) _ _ _ (own_not HS.out.own HS.out.res (by decide))
      · rw [← HE.out.2]
        exact (HS.out.rd.setNew (k := w.heap.size) (by omega) 0 _).setNew (k := w.heap.size) (by omega) 1 _
      · exact grown_new (grown_new HS.out.grown (k := w.heap.size) (Nat.le_refl _) 0 _) (k := w.heap.size) (Nat.le_refl _) 1 _
set_option maxHeartbeats 1000000 in
set_option maxRecDepth 100000 in
theorem batch_torn {rb : Nat} {t : ByteArray} {st a1 n a2 : Nat} (hs : t.size ≤ 1048576) (w : World) (hr : Rd w rb t 0)
    (h1 : Words.rd t.data.toList 0 = some (st, a1)) (h2 : Words.rd t.data.toList a1 = some (n, a2)) (hn : n ≤ 60) (h3 : Batches.rdMany t n a2 = none) :
    Calls Tryz.prog 228 #[.pointer (some ⟨rb, 0, none⟩)] w fun en w' => en = .panicked thrown ∧ w.grownBy w' (some rb) := by
  obtain ⟨i0, hi, hz0, hz1, hz2⟩ := info_parts Tryz.info149
  have hlt := hr.lt
  have HR : Hid (Rd (w.alloc (Obj.cells #[Value.int IntKind.i64 0, Value.slice none 0 0] 51)) rb t 0) := hr.below ((Below.refl _ _).alloc (Nat.le_refl _) _)
  have HZ : Hid ((w.alloc (Obj.cells #[Value.int IntKind.i64 0, Value.slice none 0 0] 51)).heap[w.heap.size]? = some (Obj.cells #[Value.int IntKind.i64 0, Value.slice none 0 0] 51 (0, 0))) := heap_alloc_new w _
  have HG : Hid (w.grownBy (w.alloc (Obj.cells #[Value.int IntKind.i64 0, Value.slice none 0 0] 51)) (some rb)) := grown_alloc _ _
  have H1 : Hid (_ = _) := h1
  have H2 : Hid (_ = _) := h2
  have H3 : Hid (_ = _) := h3
  have HC : Hid (∀ wx : World, (callFunc 281 #[.pointer (some ⟨rb, 0, none⟩)]).run Tryz.prog wx = .ok (.enter 281 #[.pointer (some ⟨rb, 0, none⟩)]) wx) := fun _ => by kernel_rfl
  clear hr h1 h2 h3
  go_enter Tryz.func228, Tryz.ntmps228
  go_wp2_with fail
  refine (number_some hs _ HR.out H1.out).mono ?_
  rintro en w1 ⟨rfl, hr1, hg1⟩
  have hz1 := (HG.out.trans hg1).size
  have hzz : w.heap.size < w1.heap.size := by have := hg1.size; simp at this; omega
  have HS1 : Hid (BSt w rb w1.heap.size t (st : Int) a1 (.slice none 0 0) [] (w1.alloc (Obj.cells #[Value.int IntKind.i64 ↑st, Value.slice none 0 0] 51))) :=
    ⟨hr1.below ((Below.refl _ _).alloc (Nat.le_refl _) _), heap_alloc_new w1 _, ((Below.refl _ _).alloc (Nat.le_refl _) _ : Below w1.heap.size w1 _).block _ hzz |>.trans (grown_keep HZ.out hg1 (by omega)), World.ownsRow_nil _ _ _ _, (HG.out.trans hg1).trans (grown_alloc _ _), hlt, hzz⟩
  obtain ⟨bb, hbb⟩ : ∃ bb, bb = w1.heap.size := ⟨_, rfl⟩
  rw [← hbb] at HS1
  clear hr1 hg1 hz1 HR HZ HG
  go_wp2_with fail
  rw [← hbb]
  refine (count_some hs _ HS1.out.rd H2.out hn).mono ?_
  rintro en w2 ⟨rfl, hr2, hg2⟩
  have HS2 : Hid (BSt w rb bb t (st : Int) a2 (.slice none 0 0) [] w2) := HS1.out.call hr2 hg2
  clear hr2 hg2 HS1 hbb hzz
  go_wp2
  go_loopw [9] (fun i wr => ∃ (k a' : Nat) (v : Value) (pre : List ChangeL), k ≤ n ∧ i = .int .i64 (k : Int) ∧ pre.length = k ∧ Batches.rdMany t (n - k) a' = none ∧ BSt w rb bb t (st : Int) a' v pre wr)
    (fun i _ => n - (intOf i).toNat)
  case atStart => exact ⟨0, a2, _, [], Nat.zero_le _, rfl, rfl, H3.out, HS2.out⟩
  case round =>
    obtain ⟨k, a', v, pre, hk, rfl, hpl0, hrd, hst⟩ := hrel
    have HS : Hid (BSt w rb bb t (st : Int) a' v pre wr) := hst
    have HM : Hid (Batches.rdMany t (n - k) a' = none) := hrd
    have HPL : Hid (pre.length = k) := hpl0
    clear hst hrd hpl0
    have hlt : k < n := by
      rcases Nat.lt_or_ge k n with h | h
      · exact h
      · have := HM.out
        rw [show n - k = 0 by omega, Batches.rdMany] at this
        cases this
    rcases rdMany_torn (m := n - k - 1) (by rw [show n - k - 1 + 1 = n - k by omega]; exact HM.out) with hone | ⟨c, a1', hone, hmany⟩
    · have HO : Hid (Batches.rdOne t a' = none) := hone
      clear hone
      obtain ⟨va, vc, rfl⟩ := own_slice HS.out.own
      have hk1 : (k : Int) < (n : Int) := by omega
      go_wp2_with fail
      refine wp_region_held_drew (S := fun w' => w'.cell? ⟨bb, 1, none⟩ = some (.slice va pre.length vc)) (by kernel_rfl) HS.out.drew.c1 (fun hSw => ?_)
      refine wpAnyH_take (i := 0) (v := .pointer (some ⟨bb, 1, none⟩)) rfl (by kernel_rfl) (by kernel_rfl) (by kernel_rfl) (fun _ _ _ h => h) (Or.inl ⟨by rfl, fun w hw => by go_simp⟩) hSw ?_
      refine wpAnyH_take (i := 1) (v := .slice va pre.length vc) rfl (by kernel_rfl) (by kernel_rfl) (by kernel_rfl) (fun _ _ _ h => h) (Or.inl ⟨by rfl, fun w hw => by dsimp only at hw; go_simp⟩) hSw ?_
      refine wpAnyH_take (i := 2) (v := .pointer (some ⟨rb, 0, none⟩)) rfl (by kernel_rfl) (by kernel_rfl) (by kernel_rfl) (fun _ _ _ h => h) (Or.inl ⟨by rfl, fun w hw => by go_simp⟩) hSw ?_
      refine wpAnyH_ready (rs := [3]) (by kernel_rfl) (by simp) ?_
      refine AllReadyH.cons rfl (fun K hK => ?_) AllReadyH.nil
      refine step_panic (by rfl) 281 _ _ (by rfl) (.pointer (some ⟨rb, 0, none⟩)) (by rfl) thrown _ HC.out (change_none hs _ HS.out.drew.rd HO.out) ?_
      intro w9 hg9
      exact ⟨rfl, rfl, HS.out.drew.grown.trans hg9⟩
    · have HO : Hid (_ = _) := hone
      have HM1 : Hid (Batches.rdMany t (n - (k + 1)) a1' = none) := by rw [show n - (k + 1) = n - k - 1 by omega]; exact hmany
      clear hone hmany HM
      obtain ⟨va, vc, rfl⟩ := own_slice HS.out.own
      have hu := HS.out.up
      have cB := HS.out.c1
      have hnB := own_not HS.out.own HS.out.blk (by decide)
      have hpl : pre.length + 1 ≤ maxLen := by have := HPL.out; unfold maxLen; omega
      have hby : (pre.length + 1) * 40 ≤ 140737488355328 := by have := HPL.out; omega
      have hk1 : (k : Int) < (n : Int) := by omega
      go_wp2_with fail
      go_region_law (first | (refine step_call (by rfl) 281 _ _ (by rfl) (.pointer (some ⟨rb, 0, none⟩)) (by rfl) (changeV c) _ HC.out (change_some hs _ (HS.out.drew.rd) HO.out) ?_; rintro wa ⟨hra, hga⟩; have HSa : Hid (BSt w rb bb t (st : Int) a1' (.slice va pre.length vc) pre wa) := HS.out.drew.call hra hga; have cRa := HSa.out.c1; have cRb := fun o => (HSa.out.alloc o).c1; clear hra hga; unfold changeV) | (refine step_append_lies _ (by rfl) _ _ _ (by rfl) w.heap.size 149 i0 _ 3 40 Tryz.underlying49 hi hz0 hz1 hz2 rfl (Nat.zero_lt_succ _) _ pre.length (cellsChange pre) (by rfl) ((HSa.out.alloc _).own) ⟨wa.heap.size, 0, none⟩ 1 1 [.string c.key, .string c.value, .bool c.gone] (by rfl) (by rfl) (World.news_of_block (cs := #[.string c.key, .string c.value, .bool c.gone]) (t := 149) (fr := (0, 0)) (heap_alloc_new wa _)) (change_news c) (Nat.zero_lt_succ _) hpl hby (by have h2 := HSa.out.grown.size; simp; omega) (wa.heap.size + 1) (Array.size_push ..) ?_; intro g2 cap2 w8 hown8 hgrow hat hlt8; have hB8 := grown_keep' (HSa.out.alloc _).blk hgrow hnB; have cR8 := cell_of_row _ _ 1 _ _ _ hB8; have fR8 := frozen_of_row _ _ 1 _ _ hB8))
      all_goals
        have HS9 : Hid (BSt w rb bb t (st : Int) a1' (.slice (some ⟨g2, 0, none⟩) (pre.length + 1) cap2) (pre ++ [c]) (w8.setCell ⟨bb, 1, none⟩ (.slice (some ⟨g2, 0, none⟩) (pre.length + 1) cap2))) := (HSa.out.alloc _).app hgrow hown8
        clear hown8 hgrow hat hlt8 hB8
        go_wp2
        go_roundw
        case rel => exact ⟨k + 1, a1', _, pre ++ [c], by omega, by go_num, by have := HPL.out; simp; omega, HM1.out, HS9.out⟩
        case measure => simp [intOf]; omega
set_option maxHeartbeats 1000000 in
theorem batch_over {rb : Nat} {t : ByteArray} {st a1 n a2 : Nat} (hs : t.size ≤ 1048576) (w : World) (hr : Rd w rb t 0) (h1 : Words.rd t.data.toList 0 = some (st, a1)) (h2 : Words.rd t.data.toList a1 = some (n, a2)) (hn : ¬ n ≤ 60) :
    Calls Tryz.prog 228 #[.pointer (some ⟨rb, 0, none⟩)] w fun en w' => en = .panicked thrown ∧ w.grownBy w' (some rb) := by
  have hlt := hr.lt
  have HR : Hid (Rd (w.alloc (Obj.cells #[Value.int IntKind.i64 0, Value.slice none 0 0] 51)) rb t 0) := hr.below ((Below.refl _ _).alloc (Nat.le_refl _) _)
  have HZ : Hid ((w.alloc (Obj.cells #[Value.int IntKind.i64 0, Value.slice none 0 0] 51)).heap[w.heap.size]? = some (Obj.cells #[Value.int IntKind.i64 0, Value.slice none 0 0] 51 (0, 0))) := heap_alloc_new w _
  have HG : Hid (w.grownBy (w.alloc (Obj.cells #[Value.int IntKind.i64 0, Value.slice none 0 0] 51)) (some rb)) := grown_alloc _ _
  have H1 : Hid (_ = _) := h1
  have H2 : Hid (_ = _) := h2
  clear hr h1 h2
  go_enter Tryz.func228, Tryz.ntmps228
  go_wp2_with fail
  refine (number_some hs _ HR.out H1.out).mono ?_
  rintro en w1 ⟨rfl, hr1, hg1⟩
  have hz1 := (HG.out.trans hg1).size
  have hzz : w.heap.size < w1.heap.size := by have := hg1.size; simp at this; omega
  have HS1 : Hid (BSt w rb w1.heap.size t (st : Int) a1 (.slice none 0 0) [] (w1.alloc (Obj.cells #[Value.int IntKind.i64 ↑st, Value.slice none 0 0] 51))) :=
    ⟨hr1.below ((Below.refl _ _).alloc (Nat.le_refl _) _), heap_alloc_new w1 _, ((Below.refl _ _).alloc (Nat.le_refl _) _ : Below w1.heap.size w1 _).block _ hzz |>.trans (grown_keep HZ.out hg1 (by omega)), World.ownsRow_nil _ _ _ _, (HG.out.trans hg1).trans (grown_alloc _ _), hlt, hzz⟩
  obtain ⟨bb, hbb⟩ : ∃ bb, bb = w1.heap.size := ⟨_, rfl⟩
  rw [← hbb] at HS1
  clear hr1 hg1 hz1 HR HZ HG
  go_wp2_with fail
  rw [← hbb]
  refine (count_over hs _ HS1.out.rd H2.out hn).mono ?_
  rintro en w2 ⟨rfl, hg2⟩
  exact ⟨rfl, rfl, HS1.out.grown.trans hg2⟩
set_option maxHeartbeats 1000000 in
theorem batch_nocount {rb : Nat} {t : ByteArray} {st a1 : Nat} (hs : t.size ≤ 1048576) (w : World) (hr : Rd w rb t 0) (h1 : Words.rd t.data.toList 0 = some (st, a1)) (h2 : Words.rd t.data.toList a1 = none) :
    Calls Tryz.prog 228 #[.pointer (some ⟨rb, 0, none⟩)] w fun en w' => en = .panicked thrown ∧ w.grownBy w' (some rb) := by
  have hlt := hr.lt
  have HR : Hid (Rd (w.alloc (Obj.cells #[Value.int IntKind.i64 0, Value.slice none 0 0] 51)) rb t 0) := hr.below ((Below.refl _ _).alloc (Nat.le_refl _) _)
  have HZ : Hid ((w.alloc (Obj.cells #[Value.int IntKind.i64 0, Value.slice none 0 0] 51)).heap[w.heap.size]? = some (Obj.cells #[Value.int IntKind.i64 0, Value.slice none 0 0] 51 (0, 0))) := heap_alloc_new w _
  have HG : Hid (w.grownBy (w.alloc (Obj.cells #[Value.int IntKind.i64 0, Value.slice none 0 0] 51)) (some rb)) := grown_alloc _ _
  have H1 : Hid (_ = _) := h1
  have H2 : Hid (_ = _) := h2
  clear hr h1 h2
  go_enter Tryz.func228, Tryz.ntmps228
  go_wp2_with fail
  refine (number_some hs _ HR.out H1.out).mono ?_
  rintro en w1 ⟨rfl, hr1, hg1⟩
  have hz1 := (HG.out.trans hg1).size
  have hzz : w.heap.size < w1.heap.size := by have := hg1.size; simp at this; omega
  have HS1 : Hid (BSt w rb w1.heap.size t (st : Int) a1 (.slice none 0 0) [] (w1.alloc (Obj.cells #[Value.int IntKind.i64 ↑st, Value.slice none 0 0] 51))) :=
    ⟨hr1.below ((Below.refl _ _).alloc (Nat.le_refl _) _), heap_alloc_new w1 _, ((Below.refl _ _).alloc (Nat.le_refl _) _ : Below w1.heap.size w1 _).block _ hzz |>.trans (grown_keep HZ.out hg1 (by omega)), World.ownsRow_nil _ _ _ _, (HG.out.trans hg1).trans (grown_alloc _ _), hlt, hzz⟩
  obtain ⟨bb, hbb⟩ : ∃ bb, bb = w1.heap.size := ⟨_, rfl⟩
  rw [← hbb] at HS1
  clear hr1 hg1 hz1 HR HZ HG
  go_wp2_with fail
  rw [← hbb]
  refine (count_none hs _ HS1.out.rd H2.out).mono ?_
  rintro en w2 ⟨rfl, hg2⟩
  exact ⟨rfl, rfl, HS1.out.grown.trans hg2⟩
set_option maxHeartbeats 1000000 in
theorem batch_nostamp {rb : Nat} {t : ByteArray} (hs : t.size ≤ 1048576) (w : World) (hr : Rd w rb t 0) (h1 : Words.rd t.data.toList 0 = none) :
    Calls Tryz.prog 228 #[.pointer (some ⟨rb, 0, none⟩)] w fun en w' => en = .panicked thrown ∧ w.grownBy w' (some rb) := by
  have hlt := hr.lt
  have HR : Hid (Rd (w.alloc (Obj.cells #[Value.int IntKind.i64 0, Value.slice none 0 0] 51)) rb t 0) := hr.below ((Below.refl _ _).alloc (Nat.le_refl _) _)
  have HZ : Hid ((w.alloc (Obj.cells #[Value.int IntKind.i64 0, Value.slice none 0 0] 51)).heap[w.heap.size]? = some (Obj.cells #[Value.int IntKind.i64 0, Value.slice none 0 0] 51 (0, 0))) := heap_alloc_new w _
  have HG : Hid (w.grownBy (w.alloc (Obj.cells #[Value.int IntKind.i64 0, Value.slice none 0 0] 51)) (some rb)) := grown_alloc _ _
  have H1 : Hid (_ = _) := h1
  clear hr h1
  go_enter Tryz.func228, Tryz.ntmps228
  go_wp2_with fail
  refine (number_none hs _ HR.out H1.out).mono ?_
  rintro en w1 ⟨rfl, hg1⟩
  exact ⟨rfl, rfl, HG.out.trans hg1⟩
end Go.Proofs.YtbcfiiilikkkeaaGreatDoor
namespace Go.Proofs.YtbcfiiilikkkeaaGreatDoor
open Go.RowKit

set_option maxHeartbeats 400000 in
theorem l05Key_is (k : ByteArray) (hk : k.size ≤ 9223372036854775807) (R : Bool) (hR : R = true ↔ 1 ≤ k.size ∧ k.size ≤ 10) (w : World) :
    Calls Tryz.prog 166 #[.string k] w fun e w' => e = .returned (.bool R) ∧ w' = w := by
  by_cases h : 1 ≤ k.size ∧ k.size ≤ 10
  · have hR' : R = true := hR.2 h
    subst hR'
    clear hR
    go_enter Tryz.func166, Tryz.ntmps166
    go_wp2_with (go_at_call 130; refine (in_yes (k.size : Int) 1 10 (by omega) _).mono ?_; rintro e w1 ⟨rfl, rfl⟩)
    go_ret
    exact ⟨rfl, rfl⟩
  · have hR' : R = false := ans_no hR h
    subst hR'
    clear hR
    go_enter Tryz.func166, Tryz.ntmps166
    go_wp2_with (go_at_call 130; refine (in_no (k.size : Int) 1 10 (by omega) _).mono ?_; rintro e w1 ⟨rfl, rfl⟩)
    go_ret
    exact ⟨rfl, rfl⟩
theorem empty_iff (V : ByteArray) : V.size = 0 ↔ V = ⟨#[]⟩ := by
  constructor
  · intro h
    exact Batches.by_inj (List.eq_nil_iff_length_eq_zero.2 h)
  · rintro rfl; rfl

theorem empty_no {V : ByteArray} (h : ¬ V = ⟨#[]⟩) : (V.toList == []) = false := by
  rw [Batches.toList_by]
  cases e : V.data.toList with
  | nil => exact absurd (Batches.by_inj (a := V) (b := ⟨#[]⟩) e) h
  | cons x r => simp only [Batches.by_, e]; rfl
theorem calls_above_q {P : Program} {f : FuncId} {args : Array Value} {W : World} {v : Value} {x : Abv W} (h : Calls P f args x.w fun e w' => e = .returned v ∧ w' = x.w) :
    Calls P f args x.w fun e w'' => e = .returned v ∧ ∃ y : Abv W, w'' = y.w :=
  h.mono fun _ _ ⟨he, hb⟩ => ⟨he, x, hb⟩
theorem chg_ok {l : List ChangeL} {k : Nat} {hk : k < l.length} {A V : ByteArray} {G : Bool} (hA : A = l[k].key) (hV : V = l[k].value) (hG : G = l[k].gone) (hn : 1 ≤ A.size ∧ A.size ≤ 10) (hv : V.size ≤ 40) (hgv : G = true → V.size = 0) : Batches.changeOk l[k] := by
  subst hA hV hG
  exact ⟨hn.1, hn.2, hv, hgv⟩
set_option maxHeartbeats 4000000 in
set_option maxRecDepth 100000 in
theorem specOk_any (R : Bool) (st : Int) {a : Option Addr} {g off cap : Nat} (l : List ChangeL) (hlen : l.length ≤ 2097152) (w : World) (hf : ChangeAt w a g off l) (hsz : ∀ c ∈ l, smallChange 2097152 c) (hR : R = true ↔ Batches.ok st l) :
    Calls Tryz.prog 101 #[.agg #[.int .i64 st, .slice a l.length cap]] w fun e w' => e = .returned (.bool R) ∧ Below w.heap.size w w' := by
  have HR : Hid (R = true ↔ Batches.ok st l) := hR
  clear hR
  have HF : Hid (ChangeAt w a g off l) := hf
  have HS : Hid (∀ c ∈ l, smallChange 2097152 c) := hsz
  clear hf hsz
  by_cases hst : 0 ≤ st ∧ st ≤ 100000
  · by_cases h60 : 60 < l.length
    · have h1 : (60 : Int) < (l.length : Int) := by omega
      go_enter Tryz.func101, Tryz.ntmps101
      go_wp2_with (go_at_call 130; refine (in_yes st 0 100000 hst _).mono ?_; rintro e w1 ⟨rfl, rfl⟩)
      go_ret
      exact ⟨by rw [ans_no HR.out (fun h => by have := h.2.1; omega)]; rfl, (Below.refl _ _).alloc (Nat.le_refl _) _⟩
    · have h1 : ¬ (60 : Int) < (l.length : Int) := by omega
      go_enter Tryz.func101, Tryz.ntmps101
      go_wp2_with (go_at_call 130; refine (in_yes st 0 100000 hst _).mono ?_; rintro e w1 ⟨rfl, rfl⟩)
      go_loopw [3] (fun i wr => ∃ k : Nat, k ≤ l.length ∧ i = .int .i64 (k : Int) ∧ (∀ j, j < k → Batches.okAt l j) ∧ wr.cell? ⟨w.heap.size, 1, none⟩ = some (.slice a l.length cap) ∧ Below w.heap.size w wr)
        (fun i _ => l.length - (intOf i).toNat)
      case atStart => exact ⟨0, Nat.zero_le _, rfl, fun j hj => absurd hj (Nat.not_lt_zero _), cell_of_row _ _ _ _ _ _ (heap_alloc_new w _), (Below.refl _ _).alloc (Nat.le_refl _) _⟩
      case round =>
        obtain ⟨k, hk, rfl, hall, hd, hbel⟩ := hrel
        have HA : Hid (∀ j, j < k → Batches.okAt l j) := hall
        clear hall
        by_cases hlt : k < l.length
        · obtain ⟨c0, c1, c2⟩ := (HF.out.kept hbel).2 k hlt
          have ea := HF.out.1 (by omega)
          subst ea
          obtain ⟨A, hA⟩ : ∃ A, A = l[k].key := ⟨_, rfl⟩
          obtain ⟨V, hV⟩ : ∃ V, V = l[k].value := ⟨_, rfl⟩
          obtain ⟨G, hG⟩ : ∃ G, G = l[k].gone := ⟨_, rfl⟩
          obtain ⟨s0, s1⟩ := HS.out l[k] (List.getElem_mem _)
          rw [← hA] at c0 s0
          rw [← hV] at c1 s1
          rw [← hG] at c2
          have HAA : Hid (A = l[k].key) := hA
          have HVV : Hid (V = l[k].value) := hV
          have HGG : Hid (G = l[k].gone) := hG
          clear hA hV hG
          have hk0 : (0 : Int) ≤ (k : Int) := by omega
          have hk1 : (k : Int) < (l.length : Int) := by omega
          have hz : w.heap.size < wr.heap.size := World.block_lt_of_cell? wr _ hd
          have hg : g < wr.heap.size := World.block_lt_of_cell? wr _ c0
          by_cases hn : 1 ≤ A.size ∧ A.size ≤ 10
          · rcases Nat.eq_zero_or_pos k with hk00 | hp
            · have hkd : decide (0 < k) = false := decide_eq_false (by omega)
              have HZ : Hid (k = 0) := hk00
              clear hk00
              go_wp2
              obtain ⟨W1, hW1⟩ : ∃ W1, W1 = wr.alloc (Obj.cells #[Value.string A, Value.string V, Value.bool G] 149) := ⟨_, rfl⟩
              rw [← hW1]
              have hB1 : Below wr.heap.size wr W1 := by rw [hW1]; exact (Below.refl _ _).alloc (Nat.le_refl _) _
              have f0 : W1.cell? ⟨wr.heap.size, 0, none⟩ = some (.string A) := by rw [hW1]; exact cell_of_row _ _ 0 _ _ _ (heap_alloc_new wr _)
              have f1 : W1.cell? ⟨wr.heap.size, 1, none⟩ = some (.string V) := by rw [hW1]; exact cell_of_row _ _ 1 _ _ _ (heap_alloc_new wr _)
              have f2 : W1.cell? ⟨wr.heap.size, 2, none⟩ = some (.bool G) := by rw [hW1]; exact cell_of_row _ _ 2 _ _ _ (heap_alloc_new wr _)
              have hz1 : wr.heap.size < W1.heap.size := World.block_lt_of_cell? W1 _ f0
              have hd1 : W1.cell? ⟨w.heap.size, 1, none⟩ = some (.slice (some ⟨g, off, none⟩) l.length cap) := by rw [hB1.cell (p := ⟨w.heap.size, 1, none⟩) hz]; exact hd
              have hw1 : Below w.heap.size w W1 := hbel.trans (hB1.mono hbel.size)
              have hzz : w.heap.size < W1.heap.size := Nat.lt_trans hz hz1
              clear hW1 hd c0 c1 c2
              by_cases hv : V.size ≤ 40
              · have htd : decide ((40 : Int) < (V.size : Int)) = false := decide_eq_false (by omega)
                cases G with
                | false =>
                  have hgv : false = true → V.size = 0 := fun h => by cases h
                  have HN : Hid (Batches.okAt l k) := ⟨hlt, chg_ok HAA.out HVV.out HGG.out hn hv hgv, fun h => absurd h (by have := HZ.out; omega)⟩
                  have NE := Abv.ne W1
                  have F0 := fun x : Abv W1 => x.cell f0
                  have F1 := fun x : Abv W1 => x.cell f1
                  have F2 := fun x : Abv W1 => x.cell f2
                  have FD := fun x : Abv W1 => x.cell hd1
                  refine wp_region_above (by kernel_rfl) (by kernel_rfl) ?_
                  repeat (go_big_quiet_step (first | (go_at_call 166; exact calls_above_q (l05Key_is A (by omega) true (by simp [hn]) _))))
                  refine wpQuiet_nil ?_
                  rintro w1 ⟨⟨_, hb1⟩, rfl⟩
                  clear NE F0 F1 F2 FD
                  go_wp2
                  go_roundw
                  case rel => exact ⟨k + 1, by omega, by go_num, Batches.ok_step HA.out HN.out, (hb1.cell (p := ⟨w.heap.size, 1, none⟩) hzz).trans hd1, hw1.trans (hb1.mono hw1.size)⟩
                  case measure => simp [intOf]; omega
                | true =>
                  by_cases hve : V.size = 0
                  · have hgv : true = true → V.size = 0 := fun _ => hve
                    have hve2 : V = ⟨#[]⟩ := (empty_iff V).1 hve
                    have hve4 : (V.toList == []) = true := by rw [Batches.toList_by, hve2]; rfl
                    clear hve2
                    have HN : Hid (Batches.okAt l k) := ⟨hlt, chg_ok HAA.out HVV.out HGG.out hn hv hgv, fun h => absurd h (by have := HZ.out; omega)⟩
                    have NE := Abv.ne W1
                    have F0 := fun x : Abv W1 => x.cell f0
                    have F1 := fun x : Abv W1 => x.cell f1
                    have F2 := fun x : Abv W1 => x.cell f2
                    have FD := fun x : Abv W1 => x.cell hd1
                    refine wp_region_above (by kernel_rfl) (by kernel_rfl) ?_
                    repeat (go_big_quiet_step (first | (go_at_call 166; exact calls_above_q (l05Key_is A (by omega) true (by simp [hn]) _))))
                    refine wpQuiet_nil ?_
                    rintro w1 ⟨⟨_, hb1⟩, rfl⟩
                    clear NE F0 F1 F2 FD
                    go_wp2
                    go_roundw
                    case rel => exact ⟨k + 1, by omega, by go_num, Batches.ok_step HA.out HN.out, (hb1.cell (p := ⟨w.heap.size, 1, none⟩) hzz).trans hd1, hw1.trans (hb1.mono hw1.size)⟩
                    case measure => simp [intOf]; omega
                  · have hve2 : ¬ V = ⟨#[]⟩ := fun h => hve ((empty_iff V).2 h)
                    have hve4 : (V.toList == []) = false := empty_no hve2
                    clear hve2
                    have HN : Hid (¬ Batches.okAt l k) := by
                      show ¬ _
                      rintro ⟨_, q, _⟩
                      exact hve (by rw [HVV.out]; exact q.2.2.2 HGG.out.symm)
                    have NE := Abv.ne W1
                    have F0 := fun x : Abv W1 => x.cell f0
                    have F1 := fun x : Abv W1 => x.cell f1
                    have F2 := fun x : Abv W1 => x.cell f2
                    have FD := fun x : Abv W1 => x.cell hd1
                    refine wp_region_above (by kernel_rfl) (by kernel_rfl) ?_
                    repeat (go_big_quiet_step (first | (go_at_call 166; exact calls_above_q (l05Key_is A (by omega) true (by simp [hn]) _))))
                    refine wpQuiet_nil ?_
                    rintro w1 ⟨⟨_, hb1⟩, rfl⟩
                    clear NE F0 F1 F2 FD
                    go_wp2
                    go_ret
                    exact ⟨by rw [ans_no HR.out (Batches.not_ok hlt HN.out)]; rfl, hw1.trans (hb1.mono hw1.size)⟩
              · have htd : decide ((40 : Int) < (V.size : Int)) = true := decide_eq_true (by omega)
                have HN : Hid (¬ Batches.okAt l k) := by
                  show ¬ _
                  rintro ⟨_, q, _⟩
                  exact hv (by rw [HVV.out]; exact q.2.2.1)
                have NE := Abv.ne W1
                have F0 := fun x : Abv W1 => x.cell f0
                have F1 := fun x : Abv W1 => x.cell f1
                have F2 := fun x : Abv W1 => x.cell f2
                have FD := fun x : Abv W1 => x.cell hd1
                refine wp_region_above (by kernel_rfl) (by kernel_rfl) ?_
                repeat (go_big_quiet_step (first | (go_at_call 166; exact calls_above_q (l05Key_is A (by omega) true (by simp [hn]) _))))
                refine wpQuiet_nil ?_
                rintro w1 ⟨⟨_, hb1⟩, rfl⟩
                clear NE F0 F1 F2 FD
                go_wp2
                go_ret
                exact ⟨by rw [ans_no HR.out (Batches.not_ok hlt HN.out)]; rfl, hw1.trans (hb1.mono hw1.size)⟩
            · obtain ⟨m, rfl⟩ : ∃ m, k = m + 1 := ⟨k - 1, by omega⟩
              obtain ⟨e0, _⟩ := (HF.out.kept hbel).2 m (by omega)
              obtain ⟨E, hE⟩ : ∃ E, E = l[m].key := ⟨_, rfl⟩
              rw [← hE] at e0
              have HEE : Hid (E = l[m].key) := hE
              clear hE
              have hm1 : IntKind.i64.wrap ((m : Int) + 1 - 1) = (m : Int) := by rw [IntWalk.i64_in _ (by omega)]; omega
              have hm2 : decide ((0 : Int) < (m : Int) + 1) = true := decide_eq_true (by omega)
              have hm3 : (0 : Int) ≤ (m : Int) := by omega
              have hm4 : (m : Int) < (l.length : Int) := by omega
              go_wp2
              obtain ⟨W1, hW1⟩ : ∃ W1, W1 = wr.alloc (Obj.cells #[Value.string A, Value.string V, Value.bool G] 149) := ⟨_, rfl⟩
              rw [← hW1]
              have hB1 : Below wr.heap.size wr W1 := by rw [hW1]; exact (Below.refl _ _).alloc (Nat.le_refl _) _
              have f0 : W1.cell? ⟨wr.heap.size, 0, none⟩ = some (.string A) := by rw [hW1]; exact cell_of_row _ _ 0 _ _ _ (heap_alloc_new wr _)
              have f1 : W1.cell? ⟨wr.heap.size, 1, none⟩ = some (.string V) := by rw [hW1]; exact cell_of_row _ _ 1 _ _ _ (heap_alloc_new wr _)
              have f2 : W1.cell? ⟨wr.heap.size, 2, none⟩ = some (.bool G) := by rw [hW1]; exact cell_of_row _ _ 2 _ _ _ (heap_alloc_new wr _)
              have hz1 : wr.heap.size < W1.heap.size := World.block_lt_of_cell? W1 _ f0
              have hd1 : W1.cell? ⟨w.heap.size, 1, none⟩ = some (.slice (some ⟨g, off, none⟩) l.length cap) := by rw [hB1.cell (p := ⟨w.heap.size, 1, none⟩) hz]; exact hd
              have hw1 : Below w.heap.size w W1 := hbel.trans (hB1.mono hbel.size)
              have hzz : w.heap.size < W1.heap.size := Nat.lt_trans hz hz1
              clear hW1 hd c0 c1 c2
              have e1 : W1.cell? ⟨g, off + m * 3, none⟩ = some (.string E) := by rw [hB1.cell (p := ⟨g, off + m * 3, none⟩) hg]; exact e0
              clear e0
              by_cases hb : Op.bytesLess E.toList A.toList = true
              · skip
                by_cases hv : V.size ≤ 40
                · have htd : decide ((40 : Int) < (V.size : Int)) = false := decide_eq_false (by omega)
                  cases G with
                  | false =>
                    have hgv : false = true → V.size = 0 := fun h => by cases h
                    have HN : Hid (Batches.okAt l (m + 1)) := ⟨hlt, chg_ok HAA.out HVV.out HGG.out hn hv hgv, fun _ => ⟨by omega, by show Op.bytesLess _ _ = true; rw [← HAA.out]; simp only [Nat.add_sub_cancel]; rw [← HEE.out]; exact hb⟩⟩
                    have NE := Abv.ne W1
                    have F0 := fun x : Abv W1 => x.cell f0
                    have F1 := fun x : Abv W1 => x.cell f1
                    have F2 := fun x : Abv W1 => x.cell f2
                    have FD := fun x : Abv W1 => x.cell hd1
                    have FE := fun x : Abv W1 => x.cell e1
                    refine wp_region_above (by kernel_rfl) (by kernel_rfl) ?_
                    repeat (go_big_quiet_step (first | (go_at_call 166; exact calls_above_q (l05Key_is A (by omega) true (by simp [hn]) _))))
                    refine wpQuiet_nil ?_
                    rintro w1 ⟨⟨_, hb1⟩, rfl⟩
                    clear NE F0 F1 F2 FD FE
                    go_wp2
                    go_roundw
                    case rel => exact ⟨(m + 1) + 1, by omega, by go_num, Batches.ok_step HA.out HN.out, (hb1.cell (p := ⟨w.heap.size, 1, none⟩) hzz).trans hd1, hw1.trans (hb1.mono hw1.size)⟩
                    case measure => simp [intOf]; omega
                  | true =>
                    by_cases hve : V.size = 0
                    · have hgv : true = true → V.size = 0 := fun _ => hve
                      have hve2 : V = ⟨#[]⟩ := (empty_iff V).1 hve
                      have hve4 : (V.toList == []) = true := by rw [Batches.toList_by, hve2]; rfl
                      clear hve2
                      have HN : Hid (Batches.okAt l (m + 1)) := ⟨hlt, chg_ok HAA.out HVV.out HGG.out hn hv hgv, fun _ => ⟨by omega, by show Op.bytesLess _ _ = true; rw [← HAA.out]; simp only [Nat.add_sub_cancel]; rw [← HEE.out]; exact hb⟩⟩
                      have NE := Abv.ne W1
                      have F0 := fun x : Abv W1 => x.cell f0
                      have F1 := fun x : Abv W1 => x.cell f1
                      have F2 := fun x : Abv W1 => x.cell f2
                      have FD := fun x : Abv W1 => x.cell hd1
                      have FE := fun x : Abv W1 => x.cell e1
                      refine wp_region_above (by kernel_rfl) (by kernel_rfl) ?_
                      repeat (go_big_quiet_step (first | (go_at_call 166; exact calls_above_q (l05Key_is A (by omega) true (by simp [hn]) _))))
                      refine wpQuiet_nil ?_
                      rintro w1 ⟨⟨_, hb1⟩, rfl⟩
                      clear NE F0 F1 F2 FD FE
                      go_wp2
                      go_roundw
                      case rel => exact ⟨(m + 1) + 1, by omega, by go_num, Batches.ok_step HA.out HN.out, (hb1.cell (p := ⟨w.heap.size, 1, none⟩) hzz).trans hd1, hw1.trans (hb1.mono hw1.size)⟩
                      case measure => simp [intOf]; omega
                    · have hve2 : ¬ V = ⟨#[]⟩ := fun h => hve ((empty_iff V).2 h)
                      have hve4 : (V.toList == []) = false := empty_no hve2
                      clear hve2
                      have HN : Hid (¬ Batches.okAt l (m + 1)) := by
                        show ¬ _
                        rintro ⟨_, q, _⟩
                        exact hve (by rw [HVV.out]; exact q.2.2.2 HGG.out.symm)
                      have NE := Abv.ne W1
                      have F0 := fun x : Abv W1 => x.cell f0
                      have F1 := fun x : Abv W1 => x.cell f1
                      have F2 := fun x : Abv W1 => x.cell f2
                      have FD := fun x : Abv W1 => x.cell hd1
                      have FE := fun x : Abv W1 => x.cell e1
                      refine wp_region_above (by kernel_rfl) (by kernel_rfl) ?_
                      repeat (go_big_quiet_step (first | (go_at_call 166; exact calls_above_q (l05Key_is A (by omega) true (by simp [hn]) _))))
                      refine wpQuiet_nil ?_
                      rintro w1 ⟨⟨_, hb1⟩, rfl⟩
                      clear NE F0 F1 F2 FD FE
                      go_wp2
                      go_ret
                      exact ⟨by rw [ans_no HR.out (Batches.not_ok hlt HN.out)]; rfl, hw1.trans (hb1.mono hw1.size)⟩
                · have htd : decide ((40 : Int) < (V.size : Int)) = true := decide_eq_true (by omega)
                  have HN : Hid (¬ Batches.okAt l (m + 1)) := by
                    show ¬ _
                    rintro ⟨_, q, _⟩
                    exact hv (by rw [HVV.out]; exact q.2.2.1)
                  have NE := Abv.ne W1
                  have F0 := fun x : Abv W1 => x.cell f0
                  have F1 := fun x : Abv W1 => x.cell f1
                  have F2 := fun x : Abv W1 => x.cell f2
                  have FD := fun x : Abv W1 => x.cell hd1
                  have FE := fun x : Abv W1 => x.cell e1
                  refine wp_region_above (by kernel_rfl) (by kernel_rfl) ?_
                  repeat (go_big_quiet_step (first | (go_at_call 166; exact calls_above_q (l05Key_is A (by omega) true (by simp [hn]) _))))
                  refine wpQuiet_nil ?_
                  rintro w1 ⟨⟨_, hb1⟩, rfl⟩
                  clear NE F0 F1 F2 FD FE
                  go_wp2
                  go_ret
                  exact ⟨by rw [ans_no HR.out (Batches.not_ok hlt HN.out)]; rfl, hw1.trans (hb1.mono hw1.size)⟩
              · have hb' : Op.bytesLess E.toList A.toList = false := by simpa using hb
                have HN : Hid (¬ Batches.okAt l (m + 1)) := by
                  show ¬ _
                  rintro ⟨_, _, q⟩
                  obtain ⟨_, q2⟩ := q (by omega)
                  simp only [Nat.add_sub_cancel, Batches.lt] at q2
                  rw [← HAA.out, ← HEE.out] at q2
                  exact hb q2
                have NE := Abv.ne W1
                have F0 := fun x : Abv W1 => x.cell f0
                have F1 := fun x : Abv W1 => x.cell f1
                have F2 := fun x : Abv W1 => x.cell f2
                have FD := fun x : Abv W1 => x.cell hd1
                have FE := fun x : Abv W1 => x.cell e1
                refine wp_region_above (by kernel_rfl) (by kernel_rfl) ?_
                repeat (go_big_quiet_step (first | (go_at_call 166; exact calls_above_q (l05Key_is A (by omega) true (by simp [hn]) _))))
                refine wpQuiet_nil ?_
                rintro w1 ⟨⟨_, hb1⟩, rfl⟩
                clear NE F0 F1 F2 FD FE
                go_wp2
                go_ret
                exact ⟨by rw [ans_no HR.out (Batches.not_ok hlt HN.out)]; rfl, hw1.trans (hb1.mono hw1.size)⟩
          · go_wp2
            obtain ⟨W1, hW1⟩ : ∃ W1, W1 = wr.alloc (Obj.cells #[Value.string A, Value.string V, Value.bool G] 149) := ⟨_, rfl⟩
            rw [← hW1]
            have hB1 : Below wr.heap.size wr W1 := by rw [hW1]; exact (Below.refl _ _).alloc (Nat.le_refl _) _
            have f0 : W1.cell? ⟨wr.heap.size, 0, none⟩ = some (.string A) := by rw [hW1]; exact cell_of_row _ _ 0 _ _ _ (heap_alloc_new wr _)
            have f1 : W1.cell? ⟨wr.heap.size, 1, none⟩ = some (.string V) := by rw [hW1]; exact cell_of_row _ _ 1 _ _ _ (heap_alloc_new wr _)
            have f2 : W1.cell? ⟨wr.heap.size, 2, none⟩ = some (.bool G) := by rw [hW1]; exact cell_of_row _ _ 2 _ _ _ (heap_alloc_new wr _)
            have hz1 : wr.heap.size < W1.heap.size := World.block_lt_of_cell? W1 _ f0
            have hd1 : W1.cell? ⟨w.heap.size, 1, none⟩ = some (.slice (some ⟨g, off, none⟩) l.length cap) := by rw [hB1.cell (p := ⟨w.heap.size, 1, none⟩) hz]; exact hd
            have hw1 : Below w.heap.size w W1 := hbel.trans (hB1.mono hbel.size)
            have hzz : w.heap.size < W1.heap.size := Nat.lt_trans hz hz1
            clear hW1 hd c0 c1 c2
            have HN : Hid (¬ Batches.okAt l k) := by
              show ¬ _
              rintro ⟨_, q, _⟩
              exact hn ⟨by rw [HAA.out]; exact q.1, by rw [HAA.out]; exact q.2.1⟩
            have NE := Abv.ne W1
            have F0 := fun x : Abv W1 => x.cell f0
            have F1 := fun x : Abv W1 => x.cell f1
            have F2 := fun x : Abv W1 => x.cell f2
            have FD := fun x : Abv W1 => x.cell hd1
            refine wp_region_above (by kernel_rfl) (by kernel_rfl) ?_
            repeat (go_big_quiet_step (first | (go_at_call 166; exact calls_above_q (l05Key_is A (by omega) false (by simp [hn]) _))))
            refine wpQuiet_nil ?_
            rintro w1 ⟨⟨_, hb1⟩, rfl⟩
            clear NE F0 F1 F2 FD
            go_wp2
            go_ret
            exact ⟨by rw [ans_no HR.out (Batches.not_ok hlt HN.out)]; rfl, hw1.trans (hb1.mono hw1.size)⟩
        · have hk1 : ¬ (k : Int) < (l.length : Int) := by omega
          go_wp2
          go_ret
          exact ⟨by rw [HR.out.2 ⟨hst, by omega, fun j hj => HA.out j (by omega)⟩]; rfl, hbel⟩
  · go_enter Tryz.func101, Tryz.ntmps101
    go_wp2_with (go_at_call 130; refine (in_no st 0 100000 hst _).mono ?_; rintro e w1 ⟨rfl, rfl⟩)
    go_ret
    exact ⟨by rw [ans_no HR.out (fun h => hst h.1)]; rfl, (Below.refl _ _).alloc (Nat.le_refl _) _⟩
end Go.Proofs.YtbcfiiilikkkeaaGreatDoor
