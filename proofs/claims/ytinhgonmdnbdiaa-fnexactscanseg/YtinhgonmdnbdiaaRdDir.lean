/- The calls of the program's (*textReader).spot and (*textReader).dir, walked. -/
import Derived.Test.YtinhgonmdnbdiaaReader2
import Derived.Test.YtinhgonmdnbdiaaLSpot
namespace Go.Proofs.Ytinhgonmdnbdiaa
open Go.RowKit
set_option linter.unusedVariables false

theorem four_set {W : World} {Z : Nat} {a0 a1 a2 a3 : Value} {t : TypeId} (h : W.heap[Z]? = some (.cells #[a0, a1, a2, a3] t (0, 0))) (v0 v1 v2 v3 : Value) :
    ((((W.setCell ⟨Z, 0, none⟩ v0).setCell ⟨Z, 1, none⟩ v1).setCell ⟨Z, 2, none⟩ v2).setCell ⟨Z, 3, none⟩ v3).heap[Z]? = some (.cells #[v0, v1, v2, v3] t (0, 0)) := by
  have h1 := heap_setCell_same W Z 0 _ t v0 h
  have h2 := heap_setCell_same _ Z 1 _ t v1 h1
  have h3 := heap_setCell_same _ Z 2 _ t v2 h2
  have h4 := heap_setCell_same _ Z 3 _ t v3 h3
  simpa using h4
theorem four_cell {W : World} {Z : Nat} {a0 a1 a2 a3 : Value} {t : TypeId} (h : W.heap[Z]? = some (.cells #[a0, a1, a2, a3] t (0, 0))) (v0 v1 v2 v3 : Value) :
    let L := (((W.setCell ⟨Z, 0, none⟩ v0).setCell ⟨Z, 1, none⟩ v1).setCell ⟨Z, 2, none⟩ v2).setCell ⟨Z, 3, none⟩ v3
    L.cell? ⟨Z, 0, none⟩ = some v0 ∧ L.cell? ⟨Z, 1, none⟩ = some v1 ∧ L.cell? ⟨Z, 2, none⟩ = some v2 ∧ L.cell? ⟨Z, 3, none⟩ = some v3 :=
  have h4 := four_set h v0 v1 v2 v3
  ⟨cell_of_row _ _ 0 _ _ _ h4, cell_of_row _ _ 1 _ _ _ h4, cell_of_row _ _ 2 _ _ _ h4, cell_of_row _ _ 3 _ _ _ h4⟩
theorem spotAt_new (w : World) (c : SpotL) : SpotAt (w.alloc (Obj.cells #[.string c.key, .int .i64 c.seg, .int .i64 c.pos, .int .i64 c.size] 56)) (some ⟨w.heap.size, 0, none⟩) w.heap.size 0 [c] := by
  have h := heap_alloc_new w (Obj.cells #[.string c.key, .int .i64 c.seg, .int .i64 c.pos, .int .i64 c.size] 56)
  refine ⟨fun _ => rfl, fun j hj => ?_⟩
  obtain rfl : j = 0 := by simpa using hj
  exact ⟨cell_of_row _ _ 0 _ _ _ h, cell_of_row _ _ 1 _ _ _ h, cell_of_row _ _ 2 _ _ _ h, cell_of_row _ _ 3 _ _ _ h⟩
set_option maxHeartbeats 1000000 in
set_option maxRecDepth 100000 in
theorem spot_some {rb : Nat} {t : ByteArray} {a b : Nat} {c : SpotL} (hs : t.size ≤ 1048576) (w : World) (hr : Rd w rb t a) (h : Dirs.rdSpot t a = some (c, b)) :
    Calls Try.prog 69 #[.pointer (some ⟨rb, 0, none⟩)] w fun e w' => e = .returned (spotV c) ∧ Rd w' rb t b ∧ w.grownBy w' (some rb) := by
  obtain ⟨a1, a2, a3, g, p, z, h1, h2, h3, h4, e1, e2, e3⟩ := Dirs.rdSpot_parts h
  obtain ⟨A, G, P, S⟩ := c
  unfold spotV
  simp only at h1 h2 h3 h4 e1 e2 e3 ⊢
  subst e1 e2 e3
  have hlt := hr.lt
  have HR : Hid (Rd (w.alloc (Obj.cells #[Value.string ⟨#[]⟩, Value.int IntKind.i64 0, Value.int IntKind.i64 0, Value.int IntKind.i64 0] 56)) rb t a) := hr.below ((Below.refl _ _).alloc (Nat.le_refl _) _)
  have HN : Hid ((w.alloc (Obj.cells #[Value.string ⟨#[]⟩, Value.int IntKind.i64 0, Value.int IntKind.i64 0, Value.int IntKind.i64 0] 56)).heap[w.heap.size]? = some (.cells #[Value.string ⟨#[]⟩, Value.int IntKind.i64 0, Value.int IntKind.i64 0, Value.int IntKind.i64 0] 56 (0, 0))) := heap_alloc_new w _
  have HG : Hid (w.grownBy (w.alloc (Obj.cells #[Value.string ⟨#[]⟩, Value.int IntKind.i64 0, Value.int IntKind.i64 0, Value.int IntKind.i64 0] 56)) (some rb)) := grown_alloc _ _
  have H1 : Hid (_ = _) := h1
  have H2 : Hid (_ = _) := h2
  have H3 : Hid (_ = _) := h3
  have H4 : Hid (_ = _) := h4
  clear hr h h1 h2 h3 h4
  go_enter Try.func69, Try.ntmps69
  go_wp2_with fail
  refine (short_some hs _ HR.out H1.out).mono ?_
  rintro e w1 ⟨rfl, hr1, hg1⟩
  have HR1 : Hid (Rd w1 rb t a1) := hr1
  have HN1 : Hid (_ = _) := grown_keep HN.out hg1 (by omega)
  have HG1 : Hid (w.grownBy w1 (some rb)) := HG.out.trans hg1
  clear hr1 hg1 HR HN HG
  go_wp2_with fail
  refine (number_some hs _ HR1.out H2.out).mono ?_
  rintro e w2 ⟨rfl, hr2, hg2⟩
  have HR2 : Hid (Rd w2 rb t a2) := hr2
  have HN2 : Hid (_ = _) := grown_keep HN1.out hg2 (by omega)
  have HG2 : Hid (w.grownBy w2 (some rb)) := HG1.out.trans hg2
  clear hr2 hg2 HR1 HN1 HG1
  go_wp2_with fail
  refine (number_some hs _ HR2.out H3.out).mono ?_
  rintro e w3 ⟨rfl, hr3, hg3⟩
  have HR3 : Hid (Rd w3 rb t a3) := hr3
  have HN3 : Hid (_ = _) := grown_keep HN2.out hg3 (by omega)
  have HG3 : Hid (w.grownBy w3 (some rb)) := HG2.out.trans hg3
  clear hr3 hg3 HR2 HN2 HG2
  go_wp2_with fail
  refine (number_some hs _ HR3.out H4.out).mono ?_
  rintro e w4 ⟨rfl, hr4, hg4⟩
  have HR4 : Hid (Rd w4 rb t b) := hr4
  have hn4 := grown_keep HN3.out hg4 (by omega)
  have HN4 : Hid (w4.heap[w.heap.size]? = some (.cells #[Value.string ⟨#[]⟩, Value.int IntKind.i64 0, Value.int IntKind.i64 0, Value.int IntKind.i64 0] 56 (0, 0))) := hn4
  have HG4 : Hid (w.grownBy w4 (some rb)) := HG3.out.trans hg4
  clear hr4 hg4 HR3 HN3 HG3
  have c0 := cell_of_row _ _ 0 _ _ _ hn4
  have c1 := cell_of_row _ _ 1 _ _ _ hn4
  have c2 := cell_of_row _ _ 2 _ _ _ hn4
  have c3 := cell_of_row _ _ 3 _ _ _ hn4
  have f0 := frozen_of_row _ _ 0 _ _ hn4
  have f1 := frozen_of_row _ _ 1 _ _ hn4
  have f2 := frozen_of_row _ _ 2 _ _ hn4
  have f3 := frozen_of_row _ _ 3 _ _ hn4
  simp at c0 c1 c2 c3
  clear hn4
  go_wp2
  obtain ⟨l0, l1, l2, l3⟩ := four_cell HN4.out (.string A) (.int .i64 (g : Int)) (.int .i64 (p : Int)) (.int .i64 (z : Int))
  exact bodyPost_ret (v := .agg #[.string A, .int .i64 (g : Int), .int .i64 (p : Int), .int .i64 (z : Int)]) (by simp [results, Try.results69, go_sem, l0, l1, l2, l3]) rfl ⟨rfl, (((HR4.out.setNew (k := w.heap.size) (by omega) 0 _).setNew (k := w.heap.size) (by omega) 1 _).setNew (k := w.heap.size) (by omega) 2 _).setNew (k := w.heap.size) (by omega) 3 _, grown_new (grown_new (grown_new (grown_new HG4.out (k := w.heap.size) (Nat.le_refl _) 0 _) (k := w.heap.size) (Nat.le_refl _) 1 _) (k := w.heap.size) (Nat.le_refl _) 2 _) (k := w.heap.size) (Nat.le_refl _) 3 _⟩
set_option maxHeartbeats 1000000 in
set_option maxRecDepth 100000 in
theorem spot_none {rb : Nat} {t : ByteArray} {a : Nat} (hs : t.size ≤ 1048576) (w : World) (hr : Rd w rb t a) (h : Dirs.rdSpot t a = none) :
    Calls Try.prog 69 #[.pointer (some ⟨rb, 0, none⟩)] w fun e w' => e = .panicked thrown ∧ w.grownBy w' (some rb) := by
  have HR : Hid (Rd (w.alloc (Obj.cells #[Value.string ⟨#[]⟩, Value.int IntKind.i64 0, Value.int IntKind.i64 0, Value.int IntKind.i64 0] 56)) rb t a) := hr.below ((Below.refl _ _).alloc (Nat.le_refl _) _)
  have HG : Hid (w.grownBy (w.alloc (Obj.cells #[Value.string ⟨#[]⟩, Value.int IntKind.i64 0, Value.int IntKind.i64 0, Value.int IntKind.i64 0] 56)) (some rb)) := grown_alloc _ _
  clear hr
  rcases Dirs.rdSpot_not h with h1 | ⟨k, a1, h1, h2 | ⟨g, a2, h2, h3 | ⟨p, a3, h3, h4⟩⟩⟩
  · have H1 : Hid (_ = _) := h1
    clear h h1
    go_enter Try.func69, Try.ntmps69
    go_wp2_with fail
    refine (short_none hs _ HR.out H1.out).mono ?_
    rintro e w1 ⟨rfl, hg1⟩
    exact ⟨rfl, rfl, HG.out.trans hg1⟩
  · have H1 : Hid (_ = _) := h1
    have H2 : Hid (_ = _) := h2
    clear h h1 h2
    go_enter Try.func69, Try.ntmps69
    go_wp2_with fail
    refine (short_some hs _ HR.out H1.out).mono ?_
    rintro e w1 ⟨rfl, hr1, hg1⟩
    have HR1 : Hid (Rd w1 rb t a1) := hr1
    have HG1 : Hid (w.grownBy w1 (some rb)) := HG.out.trans hg1
    clear hr1 hg1
    go_wp2_with fail
    refine (number_none hs _ HR1.out H2.out).mono ?_
    rintro e w2 ⟨rfl, hg2⟩
    exact ⟨rfl, rfl, HG1.out.trans hg2⟩
  · have H1 : Hid (_ = _) := h1
    have H2 : Hid (_ = _) := h2
    have H3 : Hid (_ = _) := h3
    clear h h1 h2 h3
    go_enter Try.func69, Try.ntmps69
    go_wp2_with fail
    refine (short_some hs _ HR.out H1.out).mono ?_
    rintro e w1 ⟨rfl, hr1, hg1⟩
    have HR1 : Hid (Rd w1 rb t a1) := hr1
    have HG1 : Hid (w.grownBy w1 (some rb)) := HG.out.trans hg1
    clear hr1 hg1
    go_wp2_with fail
    refine (number_some hs _ HR1.out H2.out).mono ?_
    rintro e w2 ⟨rfl, hr2, hg2⟩
    have HR2 : Hid (Rd w2 rb t a2) := hr2
    have HG2 : Hid (w.grownBy w2 (some rb)) := HG1.out.trans hg2
    clear hr2 hg2
    go_wp2_with fail
    refine (number_none hs _ HR2.out H3.out).mono ?_
    rintro e w3 ⟨rfl, hg3⟩
    exact ⟨rfl, rfl, HG2.out.trans hg3⟩
  · have H1 : Hid (_ = _) := h1
    have H2 : Hid (_ = _) := h2
    have H3 : Hid (_ = _) := h3
    have H4 : Hid (_ = _) := h4
    clear h h1 h2 h3 h4
    go_enter Try.func69, Try.ntmps69
    go_wp2_with fail
    refine (short_some hs _ HR.out H1.out).mono ?_
    rintro e w1 ⟨rfl, hr1, hg1⟩
    have HR1 : Hid (Rd w1 rb t a1) := hr1
    have HG1 : Hid (w.grownBy w1 (some rb)) := HG.out.trans hg1
    clear hr1 hg1
    go_wp2_with fail
    refine (number_some hs _ HR1.out H2.out).mono ?_
    rintro e w2 ⟨rfl, hr2, hg2⟩
    have HR2 : Hid (Rd w2 rb t a2) := hr2
    have HG2 : Hid (w.grownBy w2 (some rb)) := HG1.out.trans hg2
    clear hr2 hg2
    go_wp2_with fail
    refine (number_some hs _ HR2.out H3.out).mono ?_
    rintro e w3 ⟨rfl, hr3, hg3⟩
    have HR3 : Hid (Rd w3 rb t a3) := hr3
    have HG3 : Hid (w.grownBy w3 (some rb)) := HG2.out.trans hg3
    clear hr3 hg3
    go_wp2_with fail
    refine (number_none hs _ HR3.out H4.out).mono ?_
    rintro e w4 ⟨rfl, hg4⟩
    exact ⟨rfl, rfl, HG3.out.trans hg4⟩
theorem ownSpot_snoc {w : World} {B : Nat} {v : Value} {pre : List SpotL} {c : SpotL} (h : w.ownsRow B 56 4 v (pre.length + 1) (cellsSpot pre ++ [.string c.key, .int .i64 c.seg, .int .i64 c.pos, .int .i64 c.size])) : w.ownsRow B 56 4 v (pre ++ [c]).length (cellsSpot (pre ++ [c])) := by
  rw [cellsSpot_app, List.length_append]
  exact h
/-- How the reading of a directory breaks off. -/
def DTorn (t : ByteArray) (a : Nat) : Prop := Words.rd t.data.toList a = none ∨ (∃ n a0, Words.rd t.data.toList a = some (n, a0) ∧ ¬ n ≤ 60) ∨ (∃ n a0, Words.rd t.data.toList a = some (n, a0) ∧ n ≤ 60 ∧ Dirs.rdMany t n a0 = none)
/-- What dir holds: the reader, the spots read so far. -/
structure DSt (w : World) (rb : Nat) (t : ByteArray) (a : Nat) (v : Value) (pre : List SpotL) (W : World) : Prop where
  rd : Rd W rb t a
  own : W.ownsRow w.heap.size 56 4 v pre.length (cellsSpot pre)
  grown : w.grownBy W (some rb)
  up : rb < w.heap.size
section
variable {w W W' : World} {rb a a' : Nat} {t : ByteArray} {v : Value} {pre : List SpotL}
theorem DSt.call (h : DSt w rb t a v pre W) (hr : Rd W' rb t a') (hg : W.grownBy W' (some rb)) : DSt w rb t a' v pre W' :=
  ⟨hr, h.own.kept hg (Or.inr (own_not h.own h.rd.1 (by decide))), h.grown.trans hg, h.up⟩
theorem DSt.alloc (h : DSt w rb t a v pre W) (o : Obj) : DSt w rb t a v pre (W.alloc o) :=
  h.call (h.rd.below ((Below.refl _ _).alloc (Nat.le_refl _) _)) (grown_alloc _ _)
theorem DSt.app (h : DSt w rb t a v pre W) {v' : Value} {c : SpotL} (hg : W.grownBy W' v.ownBlock) (hown : W'.ownsRow w.heap.size 56 4 v' (pre.length + 1) (cellsSpot pre ++ [.string c.key, .int .i64 c.seg, .int .i64 c.pos, .int .i64 c.size])) : DSt w rb t a v' (pre ++ [c]) W' := by
  refine ⟨⟨?_, h.rd.2⟩, ownSpot_snoc hown, h.grown.andThen hg (fun r e => Or.inl (h.own.lt r e).1), h.up⟩
  exact (hg.block rb h.rd.lt (fun e => own_not h.own h.rd.1 (by decide) e.symm)).trans h.rd.1
end
set_option maxHeartbeats 1000000 in
set_option maxRecDepth 100000 in
theorem dir_some {rb : Nat} {t : ByteArray} {a n a0 e : Nat} {l : List SpotL} (hs : t.size ≤ 1048576) (w : World) (hr : Rd w rb t a)
    (h1 : Words.rd t.data.toList a = some (n, a0)) (hn : n ≤ 60) (h2 : Dirs.rdMany t n a0 = some (l, e)) :
    Calls Try.prog 52 #[.pointer (some ⟨rb, 0, none⟩)] w fun en w' => ∃ v, en = .returned v ∧ w'.ownsRow w.heap.size 56 4 v l.length (cellsSpot l) ∧ Rd w' rb t e ∧ w.grownBy w' (some rb) := by
  have hlt := hr.lt
  have HR : Hid (Rd w rb t a) := hr
  have H1 : Hid (_ = _) := h1
  have H2 : Hid (Dirs.rdMany t n a0 = some (l, e)) := h2
  clear hr h1 h2
  go_enter Try.func52, Try.ntmps52
  go_wp2_with (go_at_call 68; refine (count_some hs _ HR.out H1.out hn).mono ?_; rintro en w1 ⟨rfl, hr1, hg1⟩)
  have HS1 : Hid (DSt w rb t a0 (.slice none 0 0) [] w1) := ⟨hr1, World.ownsRow_nil _ _ _ _, hg1, hlt⟩
  clear hr1 hg1
  go_loopw [3, 6] (fun v i wr => ∃ (k a' : Nat) (pre rest : List SpotL), k ≤ n ∧ i = .int .i64 (k : Int) ∧ pre.length = k ∧ pre ++ rest = l ∧ Dirs.rdMany t (n - k) a' = some (rest, e) ∧ DSt w rb t a' v pre wr)
    (fun _ i _ => n - (intOf i).toNat)
  case atStart => exact ⟨0, a0, [], l, Nat.zero_le _, rfl, rfl, rfl, H2.out, HS1.out⟩
  case round =>
    obtain ⟨k, a', pre, rest, hk, rfl, hpl0, hpr, hrd, hst⟩ := hrel
    have HS : Hid (DSt w rb t a' u3 pre wr) := hst
    have HP : Hid (pre ++ rest = l) := hpr
    have HM : Hid (Dirs.rdMany t (n - k) a' = some (rest, e)) := hrd
    have HPL : Hid (pre.length = k) := hpl0
    clear hst hpr hrd hpl0
    by_cases hlt : k < n
    · obtain ⟨c, a1', r, hone, hmany, hrest⟩ := Dirs.rdMany_next (m := n - k - 1) (by rw [show n - k - 1 + 1 = n - k by omega]; exact HM.out)
      have HO : Hid (_ = _) := hone
      have HM1 : Hid (Dirs.rdMany t (n - (k + 1)) a1' = some (r, e)) := by rw [show n - (k + 1) = n - k - 1 by omega]; exact hmany
      have HP1 : Hid ((pre ++ [c]) ++ r = l) := by show _ = _; rw [← HP.out, hrest]; simp
      clear hone hmany hrest HM HP
      have hk1 : (k : Int) < (n : Int) := by omega
      have hpl : pre.length ≤ 1000 := by have := HPL.out; omega
      go_wp2_with fail
      refine (spot_some hs _ HS.out.rd HO.out).mono ?_
      rintro en w2 ⟨rfl, hr2, hg2⟩
      have hS2 := HS.out.call hr2 hg2
      have HS2 : Hid (DSt w rb t a1' u3 pre w2) := hS2
      have hown := hS2.own
      have hsz := hS2.grown.size
      clear hr2 hg2 hS2
      unfold spotV
      go_wp2_with (at_builtin; refine wpList_appendSpot rfl _ _ rfl w.heap.size _ _ _ rfl (hown.alloc _) (some ⟨w2.heap.size, 0, none⟩) w2.heap.size 0 1 [c] rfl (spotAt_new w2 c) (by simp) (by simp; omega) (by simp; omega) ?_)
      intro v' w4 hown2 hgrow
      have HS4 : Hid (DSt w rb t a1' v' (pre ++ [c]) w4) := (HS2.out.alloc _).app hgrow hown2
      clear hown2 hgrow hown
      go_wp2
      go_roundw
      case rel => exact ⟨k + 1, a1', pre ++ [c], r, by omega, by go_num, by have := HPL.out; simp; omega, HP1.out, HM1.out, HS4.out⟩
      case measure => simp [intOf]; omega
    · have hk1 : ¬ (k : Int) < (n : Int) := by omega
      have HE : Hid (rest = [] ∧ a' = e) := by
        have h := HM.out
        rw [show n - k = 0 by omega, Dirs.rdMany] at h
        simp only [Option.some.injEq, Prod.mk.injEq] at h
        exact ⟨h.1.symm, h.2⟩
      have hpe : pre = l := by rw [← HP.out, HE.out.1]; simp
      have HPE : Hid (pre = l) := hpe
      clear hpe
      go_wp2
      go_ret
      refine ⟨u3, rfl, ?_, ?_, HS.out.grown⟩
      · rw [← HPE.out]; exact HS.out.own
      · rw [← HE.out.2]; exact HS.out.rd
set_option maxHeartbeats 1000000 in
set_option maxRecDepth 100000 in
theorem dir_torn {rb : Nat} {t : ByteArray} {a : Nat} (hs : t.size ≤ 1048576) (w : World) (hr : Rd w rb t a) (h : DTorn t a) :
    Calls Try.prog 52 #[.pointer (some ⟨rb, 0, none⟩)] w fun en w' => en = .panicked thrown ∧ w.grownBy w' (some rb) := by
  have hlt := hr.lt
  have HR : Hid (Rd w rb t a) := hr
  clear hr
  rcases h with h | ⟨n, a0, h1, hn⟩ | ⟨n, a0, h1, hn, h2⟩
  · have H1 : Hid (_ = _) := h
    clear h
    go_enter Try.func52, Try.ntmps52
    go_wp2_with (go_at_call 68; refine (count_none hs _ HR.out H1.out).mono ?_; rintro en w1 ⟨rfl, hg1⟩)
    exact ⟨rfl, rfl, hg1⟩
  · have H1 : Hid (_ = _) := h1
    clear h1
    go_enter Try.func52, Try.ntmps52
    go_wp2_with (go_at_call 68; refine (count_over hs _ HR.out H1.out hn).mono ?_; rintro en w1 ⟨rfl, hg1⟩)
    exact ⟨rfl, rfl, hg1⟩
  · have H1 : Hid (_ = _) := h1
    have H2 : Hid (Dirs.rdMany t n a0 = none) := h2
    clear h1 h2
    go_enter Try.func52, Try.ntmps52
    go_wp2_with (go_at_call 68; refine (count_some hs _ HR.out H1.out hn).mono ?_; rintro en w1 ⟨rfl, hr1, hg1⟩)
    have HS1 : Hid (DSt w rb t a0 (.slice none 0 0) [] w1) := ⟨hr1, World.ownsRow_nil _ _ _ _, hg1, hlt⟩
    clear hr1 hg1
    go_loopw [3, 6] (fun v i wr => ∃ (k a' : Nat) (pre : List SpotL), k ≤ n ∧ i = .int .i64 (k : Int) ∧ pre.length = k ∧ Dirs.rdMany t (n - k) a' = none ∧ DSt w rb t a' v pre wr)
      (fun _ i _ => n - (intOf i).toNat)
    case atStart => exact ⟨0, a0, [], Nat.zero_le _, rfl, rfl, H2.out, HS1.out⟩
    case round =>
      obtain ⟨k, a', pre, hk, rfl, hpl0, hrd, hst⟩ := hrel
      have HS : Hid (DSt w rb t a' u3 pre wr) := hst
      have HM : Hid (Dirs.rdMany t (n - k) a' = none) := hrd
      have HPL : Hid (pre.length = k) := hpl0
      clear hst hrd hpl0
      have hlt : k < n := by
        rcases Nat.lt_or_ge k n with h | h
        · exact h
        · have := HM.out
          rw [show n - k = 0 by omega, Dirs.rdMany] at this
          cases this
      have hk1 : (k : Int) < (n : Int) := by omega
      have hpl : pre.length ≤ 1000 := by have := HPL.out; omega
      rcases Dirs.rdMany_torn (m := n - k - 1) (by rw [show n - k - 1 + 1 = n - k by omega]; exact HM.out) with hone | ⟨c, a1', hone, hmany⟩
      · have HO : Hid (_ = _) := hone
        clear hone
        go_wp2_with fail
        refine (spot_none hs _ HS.out.rd HO.out).mono ?_
        rintro en w2 ⟨rfl, hg2⟩
        exact ⟨rfl, rfl, HS.out.grown.trans hg2⟩
      · have HO : Hid (_ = _) := hone
        have HM1 : Hid (Dirs.rdMany t (n - (k + 1)) a1' = none) := by rw [show n - (k + 1) = n - k - 1 by omega]; exact hmany
        clear hone hmany HM
        go_wp2_with fail
        refine (spot_some hs _ HS.out.rd HO.out).mono ?_
        rintro en w2 ⟨rfl, hr2, hg2⟩
        have hS2 := HS.out.call hr2 hg2
        have HS2 : Hid (DSt w rb t a1' u3 pre w2) := hS2
        have hown := hS2.own
        have hsz := hS2.grown.size
        clear hr2 hg2 hS2
        unfold spotV
        go_wp2_with (at_builtin; refine wpList_appendSpot rfl _ _ rfl w.heap.size _ _ _ rfl (hown.alloc _) (some ⟨w2.heap.size, 0, none⟩) w2.heap.size 0 1 [c] rfl (spotAt_new w2 c) (by simp) (by simp; omega) (by simp; omega) ?_)
        intro v' w4 hown2 hgrow
        have HS4 : Hid (DSt w rb t a1' v' (pre ++ [c]) w4) := (HS2.out.alloc _).app hgrow hown2
        clear hown2 hgrow hown
        go_wp2
        go_roundw
        case rel => exact ⟨k + 1, a1', pre ++ [c], by omega, by go_num, by have := HPL.out; simp; omega, HM1.out, HS4.out⟩
        case measure => simp [intOf]; omega
end Go.Proofs.Ytinhgonmdnbdiaa
