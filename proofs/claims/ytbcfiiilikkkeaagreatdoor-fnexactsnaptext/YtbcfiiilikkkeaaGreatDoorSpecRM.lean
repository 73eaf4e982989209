/- The call of the specification's ReadManifest, walked. -/
import Derived.Test.YtbcfiiilikkkeaaGreatDoorSpecCur
import Derived.Test.YtbcfiiilikkkeaaGreatDoorImplSeal
import Derived.Test.YtbcfiiilikkkeaaGreatDoorRdList
import Derived.Test.YtbcfiiilikkkeaaGreatDoorImplRM
import Derived.Deep.Cut
import Derived.Deep.CutBlock
namespace Go.Proofs.YtbcfiiilikkkeaaGreatDoor
open Go.RowKit
set_option linter.unusedVariables false

theorem l05Var_cv {cb : Nat} {t : ByteArray} (hs : t.size ≤ 1048576) (w : World) {s s' : Nat × Bool} {n : Nat} (hc : C5 w cb t s.1 s.2) (h : Mans.cv t s = (n, s')) :
    Calls Tryz.prog 174 #[.pointer (some ⟨cb, 0, none⟩)] w fun e w' => e = .returned (.int .i64 (n : Int)) ∧ (C5 w' cb t s'.1 s'.2 ∧ w.grownBy w' (some cb)) ∧ n ≤ 1000000000 := by
  obtain ⟨a, bad⟩ := s
  cases bad with
  | true =>
    rw [Mans.cv_bad] at h
    simp only [Prod.mk.injEq] at h
    obtain ⟨rfl, rfl⟩ := h
    exact (l05Var_bad hs w hc).mono fun e w' ⟨h1, h2, h3⟩ => ⟨h1, ⟨h2, h3⟩, by omega⟩
  | false =>
    cases hr : Words.rd t.data.toList a with
    | none =>
      rw [Mans.cv_none hr] at h
      simp only [Prod.mk.injEq] at h
      obtain ⟨rfl, rfl⟩ := h
      exact (l05Var_none hs w hc hr).mono fun e w' ⟨h1, h2, h3⟩ => ⟨h1, ⟨h2, h3⟩, by omega⟩
    | some p =>
      obtain ⟨n', b⟩ := p
      rw [Mans.cv_some hr] at h
      simp only [Prod.mk.injEq] at h
      obtain ⟨rfl, rfl⟩ := h
      exact (l05Var_ok hs w hc hr).mono fun e w' ⟨h1, h2, h3⟩ => ⟨h1, ⟨h2, h3⟩, (Batches.rd_cut hr).2.2.2⟩
/-- What ReadManifest holds: the cursor, the manifest m, the result; the row that is read, the one read ahead of it. -/
structure S5 (w : World) (cb mb : Nat) (u : ByteArray) (s : Nat × Bool) (v0 : Value) (l0 : List Int) (b2 : Nat) (v : Value) (l : List Int) (C : Array Value) (W : World) : Prop where
  cur : C5 W cb u s.1 s.2
  blk : W.heap[mb]? = some (.cells C 37 (0, 0))
  res : W.heap[w.heap.size]? = some (.cells #[.slice none 0 0, .int .i64 0, .int .i64 0, .int .i64 0, .slice none 0 0] 37 (0, 0))
  own0 : W.ownsRow w.heap.size 3 1 v0 l0.length (cellsI l0)
  own : W.ownsRow b2 3 1 v l.length (cellsI l)
  lo : ∀ g, v0.ownBlock = some g → g < b2
  bel : Below w.heap.size w W
  up : w.heap.size < cb ∧ cb < mb ∧ w.heap.size ≤ b2 ∧ b2 ≤ W.heap.size
section
variable {w W W' : World} {cb mb b2 : Nat} {u : ByteArray} {s s' : Nat × Bool} {v0 v : Value} {l0 l : List Int} {C : Array Value}
theorem S5.call (h : S5 w cb mb u s v0 l0 b2 v l C W) (hc : C5 W' cb u s'.1 s'.2) (hg : W.grownBy W' (some cb)) : S5 w cb mb u s' v0 l0 b2 v l C W' :=
  have hu := h.up
  ⟨hc, grown_keep h.blk hg (by omega), grown_keep h.res hg (by omega), h.own0.kept hg (Or.inr (own_not h.own0 h.cur.1 (by decide))), h.own.kept hg (Or.inr (own_not h.own h.cur.1 (by decide))), h.lo, h.bel.grown hg h.bel.size (fun k e => by cases e; omega), hu.1, hu.2.1, hu.2.2.1, Nat.le_trans hu.2.2.2 hg.size⟩
theorem S5.drew (h : S5 w cb mb u s v0 l0 b2 v l C W) : S5 w cb mb u s v0 l0 b2 v l C W.drew := ⟨h.cur, h.blk, h.res, h.own0, h.own, h.lo, h.bel.drew, h.up⟩
theorem S5.alloc (h : S5 w cb mb u s v0 l0 b2 v l C W) (o : Obj) : S5 w cb mb u s v0 l0 b2 v l C (W.alloc o) :=
  h.call (h.cur.below ((Below.refl _ _).alloc (Nat.le_refl _) _)) (grown_alloc _ _)
theorem S5.set (h : S5 w cb mb u s v0 l0 b2 v l C W) (j : Nat) (x : Value) : S5 w cb mb u s v0 l0 b2 v l (C.setIfInBounds j x) (W.setCell ⟨mb, j, none⟩ x) :=
  have hu := h.up
  ⟨h.cur.far (by omega) _ _, heap_setCell_same W mb j _ 37 x h.blk, set_far h.res (by omega) _ _, own_set h.own0 _ _ _ (own_not h.own0 h.blk (by decide)), own_set h.own _ _ _ (own_not h.own h.blk (by decide)), h.lo, h.bel.setCell (by simp; omega) _, hu.1, hu.2.1, hu.2.2.1, Nat.le_trans hu.2.2.2 (by simp [World.setCell])⟩
/-- An append to the row that is read, and its store. -/
theorem S5.app (h : S5 w cb mb u s v0 l0 b2 v l C W) {v' : Value} {c : Int} (hg : W.grownBy W' v.ownBlock) (hown : W'.ownsRow b2 3 1 v' (l.length + 1) (cellsI l ++ [.int .i64 c])) (j : Nat) :
    S5 w cb mb u s v0 l0 b2 v' (l ++ [c]) (C.setIfInBounds j v') (W'.setCell ⟨mb, j, none⟩ v') := by
  have hu := h.up
  have e1 : ∀ {q : Nat} {cs : Array Value} {ty : TypeId}, W.heap[q]? = some (.cells cs ty (0, 0)) → 3 ≠ ty → W'.heap[q]? = some (.cells cs ty (0, 0)) := fun {q cs ty} hq hne =>
    (hg.block q (Array.getElem?_eq_some_iff.1 hq).1 (fun e => own_not h.own hq hne e.symm)).trans hq
  have hk0 : W'.ownsRow w.heap.size 3 1 v0 l0.length (cellsI l0) := h.own0.kept hg (by
    cases e : v0.ownBlock with
    | none => exact Or.inl rfl
    | some r => exact Or.inr (fun e2 => by have := h.lo r e; have := (h.own.lt r e2.symm).1; omega))
  refine S5.set (W := W') ⟨⟨e1 h.cur.1 (by decide), h.cur.2⟩, e1 h.blk (by decide), e1 h.res (by decide), hk0, ownI_snoc hown, h.lo, h.bel.grown hg h.bel.size (fun k e => by have := (h.own.lt k e).1; omega), hu.1, hu.2.1, hu.2.2.1, Nat.le_trans hu.2.2.2 hg.size⟩ j v'
end
theorem S5.shift {w W : World} {cb mb : Nat} {u : ByteArray} {s : Nat × Bool} {v0 v : Value} {l0 l : List Int} {C : Array Value} (h : S5 w cb mb u s v0 l0 w.heap.size v l C W) : S5 w cb mb u s v l W.heap.size (.slice none 0 0) [] C W :=
  have hu := h.up
  ⟨h.cur, h.blk, h.res, h.own, World.ownsRow_nil _ _ _ _, fun g e => (h.own.lt g e).2, h.bel, hu.1, hu.2.1, h.bel.size, Nat.le_refl _⟩
theorem S5.same {w W W' : World} {cb mb b2 : Nat} {u : ByteArray} {s : Nat × Bool} {v0 v : Value} {l0 l : List Int} {C : Array Value} (h : S5 w cb mb u s v0 l0 b2 v l C W) (hb : Below W.heap.size W W') : S5 w cb mb u s v0 l0 b2 v l C W' := h.call (h.cur.below hb) (own_below' hb)
/-- What ReadManifest answers. -/
def RMPost (w : World) (m : ManL) (good : Prop) (en : Ending) (w' : World) : Prop :=
  (good ∧ ∃ v1 v2, en = .returned (.tuple #[.agg #[v1, .int .i64 m.next, .int .i64 m.base, .int .i64 m.term, v2], .bool true]) ∧ w'.ownsRow w.heap.size 3 1 v1 m.segs.length (cellsI m.segs) ∧ w'.ownsRow w.heap.size 3 1 v2 m.conf.length (cellsI m.conf) ∧ Below w.heap.size w w') ∨
  (¬ good ∧ en = .returned (.tuple #[.agg #[.slice none 0 0, .int .i64 0, .int .i64 0, .int .i64 0, .slice none 0 0], .bool false]) ∧ Below w.heap.size w w')
theorem int_news (c : Int) : ∀ u ∈ [Value.int .i64 c], u.oneCell' = true := by
  intro u hu
  simp at hu
  rw [hu]; rfl
set_option maxHeartbeats 8000000 in
set_option maxRecDepth 100000 in
theorem specRM_is {t u : ByteArray} {b0 : Bool} (hs : t.size ≤ 1048576) (hu : u.size ≤ 1048576) (w : World) (hun : ∀ w : World, Calls Tryz.prog 236 #[.string t] w fun e w' => e = .returned (.tuple #[.string u, .bool (!b0)]) ∧ Below w.heap.size w w') {m : ManL} {bad : Bool} (hR : Mans.Read u b0 m bad) (S : ByteArray) (R : Bool) (hT : TextIs m S R) (G : Prop) (hG : G ↔ bad = false ∧ R = true ∧ S = t) :
    Calls Tryz.prog 183 #[.string t] w (RMPost w m G) := by
  have HG : Hid (G ↔ bad = false ∧ R = true ∧ S = t) := hG
  clear hG
  obtain ⟨l, mx, my, mz, l'⟩ := m
  obtain ⟨i0, hi, hz0, hz1, hz2⟩ := info_parts Tryz.info3
  have hlen := Mans.read_len hR
  obtain ⟨n, kn, X, Y, Z, s0, s1, s2, s3, s4, s5, s6, q0, q1, q2, e2, q3, e3, q4, e4, q5, q6, q7⟩ := hR.of
  simp only at q1 e2 e3 e4 q6 hlen
  subst e2 e3 e4
  have Q0 : Hid (_ = _) := q0
  have Q1 : Hid (Mans.cl u n 8 9 0 s0 = (l, s1)) := q1
  have Q2 : Hid (_ = _) := q2
  have Q3 : Hid (_ = _) := q3
  have Q4 : Hid (_ = _) := q4
  have Q5 : Hid (_ = _) := q5
  have Q6 : Hid (Mans.cl u kn 4 5 0 s5 = (l', s6)) := q6
  have Q7 : Hid (s6.2 = bad) := q7
  have HT : Hid (TextIs ⟨l, X, Y, Z, l'⟩ S R) := hT
  have HUN : Hid (∀ w : World, _) := hun
  have HZ : Hid ((w.alloc (.cells #[.slice none 0 0, .int .i64 0, .int .i64 0, .int .i64 0, .slice none 0 0] 37)).heap[w.heap.size]? = some (.cells #[.slice none 0 0, .int .i64 0, .int .i64 0, .int .i64 0, .slice none 0 0] 37 (0, 0))) := heap_alloc_new w _
  have HB0 : Hid (Below w.heap.size w (w.alloc (.cells #[.slice none 0 0, .int .i64 0, .int .i64 0, .int .i64 0, .slice none 0 0] 37))) := (Below.refl _ _).alloc (Nat.le_refl _) _
  clear hun q0 q1 q2 q3 q4 q5 q6 q7 hR hT
  go_enter Tryz.func183, Tryz.ntmps183
  go_wp2_with fail
  refine Calls.mono (HUN.out _) ?_
  rintro en w1 ⟨rfl, hb1⟩
  have hz1' := (hb1.block w.heap.size (by simp)).trans HZ.out
  have hlt1 : w.heap.size < w1.heap.size := (Array.getElem?_eq_some_iff.1 hz1').1
  have hB1 : Below w.heap.size w w1 := HB0.out.trans (hb1.mono HB0.out.size)
  have HS0 : Hid (S5 w w1.heap.size (w1.heap.size + 1) u (0, b0) (.slice none 0 0) [] w.heap.size (.slice none 0 0) [] #[.slice none 0 0, .int .i64 0, .int .i64 0, .int .i64 0, .slice none 0 0] ((w1.alloc (.cells #[.string u, .int .i64 0, .bool b0] 223)).alloc (.cells #[.slice none 0 0, .int .i64 0, .int .i64 0, .int .i64 0, .slice none 0 0] 37))) := by
    refine ⟨⟨?_, Nat.zero_le _⟩, ?_, ?_, World.ownsRow_nil _ _ _ _, World.ownsRow_nil _ _ _ _, fun g e => (by simp [Value.ownBlock] at e), (hB1.alloc hB1.size _).alloc (by simp; omega) _, hlt1, by omega, Nat.le_refl _, by simp; omega⟩
    · rw [Below.heap_alloc _ _ _ (by simp)]; exact heap_alloc_new w1 _
    · have := heap_alloc_new (w1.alloc (.cells #[.string u, .int .i64 0, .bool b0] 223)) (.cells #[.slice none 0 0, .int .i64 0, .int .i64 0, .int .i64 0, .slice none 0 0] 37); simpa using this
    · rw [Below.heap_alloc _ _ _ (by simp; omega), Below.heap_alloc _ _ _ hlt1]; exact hz1'
  go_wp2_with fail
  obtain ⟨W, hW⟩ : ∃ W, W = (w1.alloc (.cells #[.string u, .int .i64 0, .bool b0] 223)).alloc (.cells #[.slice none 0 0, .int .i64 0, .int .i64 0, .int .i64 0, .slice none 0 0] 37) := ⟨_, rfl⟩
  rw [← hW] at HS0 ⊢
  obtain ⟨cb, hcb⟩ : ∃ cb, cb = w1.heap.size := ⟨_, rfl⟩
  obtain ⟨mb, hmb⟩ : ∃ mb, mb = cb + 1 := ⟨_, rfl⟩
  rw [← hcb, ← hmb] at HS0 ⊢
  clear hW hz1' hB1 hb1 hlt1 hcb hmb HZ HB0
  have HCF : Hid (∀ wx : World, (callFunc 174 #[.pointer (some ⟨cb, 0, none⟩)]).run Tryz.prog wx = .ok (.enter 174 #[.pointer (some ⟨cb, 0, none⟩)]) wx) := fun _ => by kernel_rfl
  refine (l05Var_cv hu _ HS0.out.cur Q0.out).mono ?_
  rintro en w2 ⟨rfl, ⟨hc2, hg2⟩, hn⟩
  have HS1 : Hid (S5 w cb mb u s0 (.slice none 0 0) [] w.heap.size (.slice none 0 0) [] #[.slice none 0 0, .int .i64 0, .int .i64 0, .int .i64 0, .slice none 0 0] w2) := HS0.out.call hc2 hg2
  clear hc2 hg2 HS0
  go_upto_block 0 with fail
  go_cut [] (fun wx => ∃ v, S5 w cb mb u s1 (.slice none 0 0) [] w.heap.size v l (#[v, .int .i64 0, .int .i64 0, .int .i64 0, .slice none 0 0]) wx)
  case first => as_aux_lemma =>
    go_wp2_with fail
    go_loopw [9] (fun i wr => ∃ (k : Nat) (s : Nat × Bool) (v : Value) (pre rest : List Int), k ≤ 9 ∧ i = .int .i64 (k : Int) ∧ pre.length = k ∧ pre ++ rest = l ∧ Mans.cl u n 8 (9 - k) k s = (rest, s1) ∧ S5 w cb mb u s (.slice none 0 0) [] w.heap.size v pre (#[v, .int .i64 0, .int .i64 0, .int .i64 0, .slice none 0 0]) wr)
      (fun i _ => 9 - (intOf i).toNat)
    case atStart => exact ⟨0, s0, _, [], l, by omega, rfl, rfl, rfl, Q1.out, HS1.out⟩
    case round =>
      obtain ⟨k, s, v, pre, rest, hk, rfl, hpl0, hpr, hcl, hst⟩ := hrel
      have HS : Hid (S5 w cb mb u s (.slice none 0 0) [] w.heap.size v pre (#[v, .int .i64 0, .int .i64 0, .int .i64 0, .slice none 0 0]) wr) := hst
      have HP : Hid (pre ++ rest = l) := hpr
      have HM : Hid (Mans.cl u n 8 (9 - k) k s = (rest, s1)) := hcl
      have HPL : Hid (pre.length = k) := hpl0
      have bad2 := HS.out.cur.c2
      clear hst hpr hcl hpl0
      have hend : ¬ (k < n ∧ s.2 = false ∧ k ≤ 8) → ∃ v, S5 w cb mb u s1 (.slice none 0 0) [] w.heap.size v l (#[v, .int .i64 0, .int .i64 0, .int .i64 0, .slice none 0 0]) wr := fun hno => by
        have h := HM.out
        rw [show 9 - k = 8 + 1 - k from rfl, Mans.cl_stop hno] at h
        simp only [Prod.mk.injEq] at h
        have e := HP.out
        rw [← h.1, List.append_nil] at e
        rw [← h.2, ← e]
        exact ⟨v, HS.out⟩
      have HEND : Hid (¬ (k < n ∧ s.2 = false ∧ k ≤ 8) → ∃ v, S5 w cb mb u s1 (.slice none 0 0) [] w.heap.size v l (#[v, .int .i64 0, .int .i64 0, .int .i64 0, .slice none 0 0]) wr) := hend
      clear hend
      by_cases h1 : k < n
      · have hk1 : (k : Int) < (n : Int) := by omega
        cases h2 : s.2 with
        | true =>
          have HE : Hid (∃ v, S5 w cb mb u s1 (.slice none 0 0) [] w.heap.size v l (#[v, .int .i64 0, .int .i64 0, .int .i64 0, .slice none 0 0]) wr) := HEND.out (fun h => by rw [h2] at h; cases h.2.1)
          rw [h2] at bad2
          clear HEND
          go_wp2_with fail
          go_meet
          case rel => exact HE.out
        | false =>
          rw [h2] at bad2
          by_cases h3 : k ≤ 8
          · obtain ⟨c, s2, hcv⟩ : ∃ c s2, Mans.cv u s = (c, s2) := ⟨_, _, rfl⟩
            have HCV : Hid (Mans.cv u s = (c, s2)) := hcv
            have hstep : ∃ rest', rest = (c : Int) :: rest' ∧ Mans.cl u n 8 (9 - (k + 1)) (k + 1) s2 = (rest', s1) := by
              have h := HM.out
              rw [show 9 - k = 8 + 1 - k from rfl, Mans.cl_go h1 h2 h3, hcv] at h
              simp only [Prod.mk.injEq] at h
              exact ⟨_, h.1.symm, by rw [show 9 - (k + 1) = 8 + 1 - (k + 1) from rfl, ← h.2]⟩
            obtain ⟨rest', hr1, hr2⟩ := hstep
            have HM1 : Hid (Mans.cl u n 8 (9 - (k + 1)) (k + 1) s2 = (rest', s1)) := hr2
            have HP1 : Hid ((pre ++ [(c : Int)]) ++ rest' = l) := by show _ = _; rw [← HP.out, hr1]; simp
            have hk8 : (k : Int) ≤ 8 := by omega
            have hpl : pre.length + 1 ≤ maxLen := by have := HPL.out; unfold maxLen; omega
            have hby : (pre.length + 1) * 8 ≤ 140737488355328 := by have := HPL.out; omega
            have hnB := own_not HS.out.own HS.out.blk (by decide)
            have cB : wr.cell? ⟨mb, 0, none⟩ = some v := cell_of_row _ _ 0 _ _ _ HS.out.blk
            obtain ⟨va, vc, hva⟩ := own_slice HS.out.own
            subst hva
            clear hcv hr1 hr2 HEND HM HP h2
            go_wp2_with fail
            go_region_law (first | (refine step_call (by rfl) 174 _ _ (by rfl) (.pointer (some ⟨cb, 0, none⟩)) (by rfl) (.int .i64 (c : Int)) _ HCF.out ((l05Var_cv hu _ HS.out.drew.cur HCV.out).mono fun _ _ ⟨q1, q2, _⟩ => ⟨q1, q2⟩) ?_; rintro wa ⟨hra, hga⟩; have HSa : Hid (S5 w cb mb u s2 (.slice none 0 0) [] w.heap.size (.slice va pre.length vc) pre (#[(.slice va pre.length vc), .int .i64 0, .int .i64 0, .int .i64 0, .slice none 0 0]) wa) := HS.out.drew.call hra hga; have cRa : wa.cell? ⟨mb, 0, none⟩ = some (.slice va pre.length vc) := cell_of_row _ _ 0 _ _ _ HSa.out.blk; have cRb : ∀ o, (wa.alloc o).cell? ⟨mb, 0, none⟩ = some (.slice va pre.length vc) := fun o => cell_of_row _ _ 0 _ _ _ (HSa.out.alloc o).blk; clear hra hga) | (refine step_append_lies _ (by rfl) _ _ _ (by rfl) w.heap.size 3 i0 _ 1 8 Tryz.underlying25 hi hz0 hz1 hz2 rfl (Nat.zero_lt_succ _) _ pre.length (cellsI pre) (by rfl) ((HSa.out.alloc _).own) ⟨wa.heap.size, 0, none⟩ 1 1 [.int .i64 (c : Int)] (by rfl) (by rfl) (World.news_of_block (cs := #[.int .i64 (c : Int)]) (t := 3) (fr := (0, 0)) (heap_alloc_new wa _)) (int_news _) (Nat.zero_lt_succ _) hpl hby (by have h2 := HSa.out.up; simp; omega) (wa.heap.size + 1) (Array.size_push ..) ?_; intro g2 cap2 w8 hown8 hgrow hat hlt8; have hB8 := grown_keep' (HSa.out.alloc _).blk hgrow hnB; have cR8 := cell_of_row _ _ 0 _ _ _ hB8; have fR8 := frozen_of_row _ _ 0 _ _ hB8))
            all_goals
              have HS9 := (HSa.out.alloc _).app hgrow hown8 0
              have HS9' : Hid (S5 w cb mb u s2 (.slice none 0 0) [] w.heap.size (.slice (some ⟨g2, 0, none⟩) (pre.length + 1) cap2) (pre ++ [(c : Int)]) (#[(.slice (some ⟨g2, 0, none⟩) (pre.length + 1) cap2), .int .i64 0, .int .i64 0, .int .i64 0, .slice none 0 0]) (w8.setCell ⟨mb, 0, none⟩ (.slice (some ⟨g2, 0, none⟩) (pre.length + 1) cap2))) := HS9
              clear hown8 hgrow hat hlt8 hB8 HS9
              go_wp2
              go_roundw
              case rel => exact ⟨k + 1, s2, _, pre ++ [(c : Int)], rest', by omega, by go_num, by have := HPL.out; simp; omega, HP1.out, HM1.out, HS9'.out⟩
              case measure => simp [intOf]; omega
          · have HE : Hid (∃ v, S5 w cb mb u s1 (.slice none 0 0) [] w.heap.size v l (#[v, .int .i64 0, .int .i64 0, .int .i64 0, .slice none 0 0]) wr) := HEND.out (fun h => h3 h.2.2)
            have hk8 : ¬ (k : Int) ≤ 8 := by omega
            clear HEND
            go_wp2_with fail
            go_meet
            case rel => exact HE.out
      · have hk1 : ¬ (k : Int) < (n : Int) := by omega
        have HE : Hid (∃ v, S5 w cb mb u s1 (.slice none 0 0) [] w.heap.size v l (#[v, .int .i64 0, .int .i64 0, .int .i64 0, .slice none 0 0]) wr) := HEND.out (fun h => h1 h.1)
        clear HEND
        go_wp2_with fail
        go_meet
        case rel => exact HE.out
  case rest =>
    obtain ⟨v1, hS⟩ := hcut
    have HS2 : Hid (S5 w cb mb u s1 (.slice none 0 0) [] w.heap.size v1 l (#[v1, .int .i64 0, .int .i64 0, .int .i64 0, .slice none 0 0]) wc) := hS
    obtain ⟨va1, vc1, hv1⟩ := own_slice hS.own
    subst hv1
    obtain ⟨W2, hW2⟩ : ∃ W2, W2 = wc := ⟨_, rfl⟩
    rw [← hW2] at HS2
    clear hS
    go_wp2_with fail
    rw [← hW2]
    clear hW2
    refine (l05Var_cv hu W2 HS2.out.cur Q2.out).mono ?_
    rintro en w3 ⟨rfl, ⟨hc, hg⟩, hn3⟩
    have hS := HS2.out.call hc hg
    have b3 : w3.cell? ⟨mb, 1, none⟩ = some (.int .i64 0) := cell_of_row _ _ 1 _ _ _ hS.blk
    have f3 : w3.frozen? ⟨mb, 1, none⟩ = false := frozen_of_row _ _ 1 _ _ hS.blk
    have HS3 : Hid (S5 w cb mb u s2 (.slice none 0 0) [] w.heap.size (.slice va1 l.length vc1) l (#[(.slice va1 l.length vc1), .int .i64 (X : Int), .int .i64 0, .int .i64 0, .slice none 0 0]) (w3.setCell ⟨mb, 1, none⟩ (.int .i64 (X : Int)))) := hS.set 1 _
    clear hc hg hS HS2
    go_wp2_with fail
    obtain ⟨W3, hW⟩ : ∃ W3, W3 = w3.setCell ⟨mb, 1, none⟩ (.int .i64 (X : Int)) := ⟨_, rfl⟩
    rw [← hW] at HS3 ⊢
    clear hW b3 f3
    refine (l05Var_cv hu W3 HS3.out.cur Q3.out).mono ?_
    rintro en w4 ⟨rfl, ⟨hc, hg⟩, hn4⟩
    have hS := HS3.out.call hc hg
    have b4 : w4.cell? ⟨mb, 2, none⟩ = some (.int .i64 0) := cell_of_row _ _ 2 _ _ _ hS.blk
    have f4 : w4.frozen? ⟨mb, 2, none⟩ = false := frozen_of_row _ _ 2 _ _ hS.blk
    have HS4 : Hid (S5 w cb mb u s3 (.slice none 0 0) [] w.heap.size (.slice va1 l.length vc1) l (#[(.slice va1 l.length vc1), .int .i64 (X : Int), .int .i64 (Y : Int), .int .i64 0, .slice none 0 0]) (w4.setCell ⟨mb, 2, none⟩ (.int .i64 (Y : Int)))) := hS.set 2 _
    clear hc hg hS HS3
    go_wp2_with fail
    obtain ⟨W4, hW⟩ : ∃ W4, W4 = w4.setCell ⟨mb, 2, none⟩ (.int .i64 (Y : Int)) := ⟨_, rfl⟩
    rw [← hW] at HS4 ⊢
    clear hW b4 f4
    refine (l05Var_cv hu W4 HS4.out.cur Q4.out).mono ?_
    rintro en w5 ⟨rfl, ⟨hc, hg⟩, hn5⟩
    have hS := HS4.out.call hc hg
    have b5 : w5.cell? ⟨mb, 3, none⟩ = some (.int .i64 0) := cell_of_row _ _ 3 _ _ _ hS.blk
    have f5 : w5.frozen? ⟨mb, 3, none⟩ = false := frozen_of_row _ _ 3 _ _ hS.blk
    have HS5 : Hid (S5 w cb mb u s4 (.slice none 0 0) [] w.heap.size (.slice va1 l.length vc1) l (#[(.slice va1 l.length vc1), .int .i64 (X : Int), .int .i64 (Y : Int), .int .i64 (Z : Int), .slice none 0 0]) (w5.setCell ⟨mb, 3, none⟩ (.int .i64 (Z : Int)))) := hS.set 3 _
    clear hc hg hS HS4
    go_wp2_with fail
    obtain ⟨W5, hW⟩ : ∃ W5, W5 = w5.setCell ⟨mb, 3, none⟩ (.int .i64 (Z : Int)) := ⟨_, rfl⟩
    rw [← hW] at HS5 ⊢
    clear hW b5 f5
    refine (l05Var_cv hu W5 HS5.out.cur Q5.out).mono ?_
    rintro en w6 ⟨rfl, ⟨hc, hg⟩, hn6⟩
    have hS := HS5.out.call hc hg
    have HS6 : Hid (S5 w cb mb u s5 (.slice va1 l.length vc1) l w6.heap.size (.slice none 0 0) [] (#[(.slice va1 l.length vc1), .int .i64 (X : Int), .int .i64 (Y : Int), .int .i64 (Z : Int), .slice none 0 0]) w6) := hS.shift
    obtain ⟨b2, hb2⟩ : ∃ b2, b2 = w6.heap.size := ⟨_, rfl⟩
    rw [← hb2] at HS6
    clear hc hg hS HS5 hb2
    go_upto_block 2 with fail
    go_cut [] (fun wx => ∃ v, S5 w cb mb u s6 (.slice va1 l.length vc1) l b2 v l' (#[(.slice va1 l.length vc1), .int .i64 (X : Int), .int .i64 (Y : Int), .int .i64 (Z : Int), v]) wx)
    case first => as_aux_lemma =>
      go_wp2_with fail
      go_loopw [10] (fun i wr => ∃ (k : Nat) (s : Nat × Bool) (v : Value) (pre rest : List Int), k ≤ 5 ∧ i = .int .i64 (k : Int) ∧ pre.length = k ∧ pre ++ rest = l' ∧ Mans.cl u kn 4 (5 - k) k s = (rest, s6) ∧ S5 w cb mb u s (.slice va1 l.length vc1) l b2 v pre (#[(.slice va1 l.length vc1), .int .i64 (X : Int), .int .i64 (Y : Int), .int .i64 (Z : Int), v]) wr)
        (fun i _ => 5 - (intOf i).toNat)
      case atStart => exact ⟨0, s5, _, [], l', by omega, rfl, rfl, rfl, Q6.out, HS6.out⟩
      case round =>
        obtain ⟨k, s, v, pre, rest, hk, rfl, hpl0, hpr, hcl, hst⟩ := hrel
        have HS : Hid (S5 w cb mb u s (.slice va1 l.length vc1) l b2 v pre (#[(.slice va1 l.length vc1), .int .i64 (X : Int), .int .i64 (Y : Int), .int .i64 (Z : Int), v]) wr) := hst
        have HP : Hid (pre ++ rest = l') := hpr
        have HM : Hid (Mans.cl u kn 4 (5 - k) k s = (rest, s6)) := hcl
        have HPL : Hid (pre.length = k) := hpl0
        have bad2 := HS.out.cur.c2
        clear hst hpr hcl hpl0
        have hend : ¬ (k < kn ∧ s.2 = false ∧ k ≤ 4) → ∃ v, S5 w cb mb u s6 (.slice va1 l.length vc1) l b2 v l' (#[(.slice va1 l.length vc1), .int .i64 (X : Int), .int .i64 (Y : Int), .int .i64 (Z : Int), v]) wr := fun hno => by
          have h := HM.out
          rw [show 5 - k = 4 + 1 - k from rfl, Mans.cl_stop hno] at h
          simp only [Prod.mk.injEq] at h
          have e := HP.out
          rw [← h.1, List.append_nil] at e
          rw [← h.2, ← e]
          exact ⟨v, HS.out⟩
        have HEND : Hid (¬ (k < kn ∧ s.2 = false ∧ k ≤ 4) → ∃ v, S5 w cb mb u s6 (.slice va1 l.length vc1) l b2 v l' (#[(.slice va1 l.length vc1), .int .i64 (X : Int), .int .i64 (Y : Int), .int .i64 (Z : Int), v]) wr) := hend
        clear hend
        by_cases h1 : k < kn
        · have hk1 : (k : Int) < (kn : Int) := by omega
          cases h2 : s.2 with
          | true =>
            have HE : Hid (∃ v, S5 w cb mb u s6 (.slice va1 l.length vc1) l b2 v l' (#[(.slice va1 l.length vc1), .int .i64 (X : Int), .int .i64 (Y : Int), .int .i64 (Z : Int), v]) wr) := HEND.out (fun h => by rw [h2] at h; cases h.2.1)
            rw [h2] at bad2
            clear HEND
            go_wp2_with fail
            go_meet
            case rel => exact HE.out
          | false =>
            rw [h2] at bad2
            by_cases h3 : k ≤ 4
            · obtain ⟨c, s2, hcv⟩ : ∃ c s2, Mans.cv u s = (c, s2) := ⟨_, _, rfl⟩
              have HCV : Hid (Mans.cv u s = (c, s2)) := hcv
              have hstep : ∃ rest', rest = (c : Int) :: rest' ∧ Mans.cl u kn 4 (5 - (k + 1)) (k + 1) s2 = (rest', s6) := by
                have h := HM.out
                rw [show 5 - k = 4 + 1 - k from rfl, Mans.cl_go h1 h2 h3, hcv] at h
                simp only [Prod.mk.injEq] at h
                exact ⟨_, h.1.symm, by rw [show 5 - (k + 1) = 4 + 1 - (k + 1) from rfl, ← h.2]⟩
              obtain ⟨rest', hr1, hr2⟩ := hstep
              have HM1 : Hid (Mans.cl u kn 4 (5 - (k + 1)) (k + 1) s2 = (rest', s6)) := hr2
              have HP1 : Hid ((pre ++ [(c : Int)]) ++ rest' = l') := by show _ = _; rw [← HP.out, hr1]; simp
              have hk8 : (k : Int) ≤ 4 := by omega
              have hpl : pre.length + 1 ≤ maxLen := by have := HPL.out; unfold maxLen; omega
              have hby : (pre.length + 1) * 8 ≤ 140737488355328 := by have := HPL.out; omega
              have hnB := own_not HS.out.own HS.out.blk (by decide)
              have cB : wr.cell? ⟨mb, 4, none⟩ = some v := cell_of_row _ _ 4 _ _ _ HS.out.blk
              obtain ⟨va, vc, hva⟩ := own_slice HS.out.own
              subst hva
              clear hcv hr1 hr2 HEND HM HP h2
              go_wp2_with fail
              go_region_law (first | (refine step_call (by rfl) 174 _ _ (by rfl) (.pointer (some ⟨cb, 0, none⟩)) (by rfl) (.int .i64 (c : Int)) _ HCF.out ((l05Var_cv hu _ HS.out.drew.cur HCV.out).mono fun _ _ ⟨q1, q2, _⟩ => ⟨q1, q2⟩) ?_; rintro wa ⟨hra, hga⟩; have HSa : Hid (S5 w cb mb u s2 (.slice va1 l.length vc1) l b2 (.slice va pre.length vc) pre (#[(.slice va1 l.length vc1), .int .i64 (X : Int), .int .i64 (Y : Int), .int .i64 (Z : Int), (.slice va pre.length vc)]) wa) := HS.out.drew.call hra hga; have cRa : wa.cell? ⟨mb, 4, none⟩ = some (.slice va pre.length vc) := cell_of_row _ _ 4 _ _ _ HSa.out.blk; have cRb : ∀ o, (wa.alloc o).cell? ⟨mb, 4, none⟩ = some (.slice va pre.length vc) := fun o => cell_of_row _ _ 4 _ _ _ (HSa.out.alloc o).blk; clear hra hga) | (refine step_append_lies _ (by rfl) _ _ _ (by rfl) b2 3 i0 _ 1 8 Tryz.underlying25 hi hz0 hz1 hz2 rfl (Nat.zero_lt_succ _) _ pre.length (cellsI pre) (by rfl) ((HSa.out.alloc _).own) ⟨wa.heap.size, 0, none⟩ 1 1 [.int .i64 (c : Int)] (by rfl) (by rfl) (World.news_of_block (cs := #[.int .i64 (c : Int)]) (t := 3) (fr := (0, 0)) (heap_alloc_new wa _)) (int_news _) (Nat.zero_lt_succ _) hpl hby (by have h2 := HSa.out.up; simp; omega) (wa.heap.size + 1) (Array.size_push ..) ?_; intro g2 cap2 w8 hown8 hgrow hat hlt8; have hB8 := grown_keep' (HSa.out.alloc _).blk hgrow hnB; have cR8 := cell_of_row _ _ 4 _ _ _ hB8; have fR8 := frozen_of_row _ _ 4 _ _ hB8))
              all_goals
                have HS9 := (HSa.out.alloc _).app hgrow hown8 4
                have HS9' : Hid (S5 w cb mb u s2 (.slice va1 l.length vc1) l b2 (.slice (some ⟨g2, 0, none⟩) (pre.length + 1) cap2) (pre ++ [(c : Int)]) (#[(.slice va1 l.length vc1), .int .i64 (X : Int), .int .i64 (Y : Int), .int .i64 (Z : Int), (.slice (some ⟨g2, 0, none⟩) (pre.length + 1) cap2)]) (w8.setCell ⟨mb, 4, none⟩ (.slice (some ⟨g2, 0, none⟩) (pre.length + 1) cap2))) := HS9
                clear hown8 hgrow hat hlt8 hB8 HS9
                go_wp2
                go_roundw
                case rel => exact ⟨k + 1, s2, _, pre ++ [(c : Int)], rest', by omega, by go_num, by have := HPL.out; simp; omega, HP1.out, HM1.out, HS9'.out⟩
                case measure => simp [intOf]; omega
            · have HE : Hid (∃ v, S5 w cb mb u s6 (.slice va1 l.length vc1) l b2 v l' (#[(.slice va1 l.length vc1), .int .i64 (X : Int), .int .i64 (Y : Int), .int .i64 (Z : Int), v]) wr) := HEND.out (fun h => h3 h.2.2)
              have hk8 : ¬ (k : Int) ≤ 4 := by omega
              clear HEND
              go_wp2_with fail
              go_meet
              case rel => exact HE.out
        · have hk1 : ¬ (k : Int) < (kn : Int) := by omega
          have HE : Hid (∃ v, S5 w cb mb u s6 (.slice va1 l.length vc1) l b2 v l' (#[(.slice va1 l.length vc1), .int .i64 (X : Int), .int .i64 (Y : Int), .int .i64 (Z : Int), v]) wr) := HEND.out (fun h => h1 h.1)
          clear HEND
          go_wp2_with fail
          go_meet
          case rel => exact HE.out
    case rest =>
      obtain ⟨v2, hS⟩ := hcut
      obtain ⟨va2, vc2, hv2⟩ := own_slice hS.own
      subst hv2
      have HS7 : Hid (S5 w cb mb u s6 (.slice va1 l.length vc1) l b2 (.slice va2 l'.length vc2) l' (#[(.slice va1 l.length vc1), .int .i64 (X : Int), .int .i64 (Y : Int), .int .i64 (Z : Int), (.slice va2 l'.length vc2)]) wc) := hS
      obtain ⟨W7, hW7⟩ : ∃ W7, W7 = wc := ⟨_, rfl⟩
      rw [← hW7] at HS7
      have hS7 := HS7.out
      have c0 := cell_of_row _ _ 0 _ _ _ hS7.blk
      have c1 := cell_of_row _ _ 1 _ _ _ hS7.blk
      have c2 := cell_of_row _ _ 2 _ _ _ hS7.blk
      have c3 := cell_of_row _ _ 3 _ _ _ hS7.blk
      have c4 := cell_of_row _ _ 4 _ _ _ hS7.blk
      simp at c0 c1 c2 c3 c4
      obtain ⟨ba1, g1, bc1, e1, at1⟩ := cellsI_slice hS7.own0
      obtain ⟨ba2, g2, bc2, e2, at2⟩ := cellsI_slice hS7.own
      simp only [Value.slice.injEq, true_and] at e1 e2
      obtain ⟨rfl, rfl⟩ := e1
      obtain ⟨rfl, rfl⟩ := e2
      have HA1 : Hid (IntAt W7 va1 g1 0 l) := at1
      have HA2 : Hid (IntAt W7 va2 g2 0 l') := at2
      clear hS hS7 at1 at2
      rw [hW7] at c0 c1 c2 c3 c4
      go_wp2_with fail
      rw [← hW7] at *
      clear hW7
      have hq := specText_is (ca := vc1) (cb := vc2) l l' X Y Z (by omega) (by omega) S R HT.out W7 HA1.out HA2.out
      unfold manV at hq
      refine hq.mono ?_
      rintro en w8 ⟨rfl, hb8⟩
      have hS8 := HS7.out.same hb8
      have HS8 : Hid (S5 w cb mb u s6 (.slice va1 l.length vc1) l b2 (.slice va2 l'.length vc2) l' (#[(.slice va1 l.length vc1), .int .i64 (X : Int), .int .i64 (Y : Int), .int .i64 (Z : Int), (.slice va2 l'.length vc2)]) w8) := hS8
      have bad8 := hS8.cur.c2
      rw [Q7.out] at bad8
      have d0 := cell_of_row _ _ 0 _ _ _ hS8.blk
      have d1 := cell_of_row _ _ 1 _ _ _ hS8.blk
      have d2 := cell_of_row _ _ 2 _ _ _ hS8.blk
      have d3 := cell_of_row _ _ 3 _ _ _ hS8.blk
      have d4 := cell_of_row _ _ 4 _ _ _ hS8.blk
      simp at d0 d1 d2 d3 d4
      have z0 := cell_of_row _ _ 0 _ _ _ hS8.res
      have z1 := cell_of_row _ _ 1 _ _ _ hS8.res
      have z2 := cell_of_row _ _ 2 _ _ _ hS8.res
      have z3 := cell_of_row _ _ 3 _ _ _ hS8.res
      have z4 := cell_of_row _ _ 4 _ _ _ hS8.res
      have zf0 := frozen_of_row _ _ 0 _ _ hS8.res
      have zf1 := frozen_of_row _ _ 1 _ _ hS8.res
      have zf2 := frozen_of_row _ _ 2 _ _ hS8.res
      have zf3 := frozen_of_row _ _ 3 _ _ hS8.res
      have zf4 := frozen_of_row _ _ 4 _ _ hS8.res
      simp at z0 z1 z2 z3 z4
      clear hq hb8 hS8 c0 c1 c2 c3 c4
      cases hbad : bad with
      | true =>
        rw [hbad] at bad8
        go_wp2
        obtain ⟨k0, k1, k2, k3, k4⟩ := five_cell HS8.out.res (.slice none 0 0) (.int .i64 0) (.int .i64 0) (.int .i64 0) (.slice none 0 0)
        refine bodyPost_ret (v := .tuple #[.agg #[.slice none 0 0, .int .i64 0, .int .i64 0, .int .i64 0, .slice none 0 0], .bool false]) (by simp [results, Tryz.results183, go_sem, k0, k1, k2, k3, k4]) rfl (Or.inr ⟨fun h => (by have := (HG.out.1 h).1; rw [hbad] at this; cases this), rfl, ((((HS8.out.bel.setCell (by simp) _).setCell (by simp) _).setCell (by simp) _).setCell (by simp) _).setCell (by simp) _⟩)
      | false =>
        rw [hbad] at bad8
        cases hRR : R with
        | false =>
          go_wp2
          obtain ⟨k0, k1, k2, k3, k4⟩ := five_cell HS8.out.res (.slice none 0 0) (.int .i64 0) (.int .i64 0) (.int .i64 0) (.slice none 0 0)
          refine bodyPost_ret (v := .tuple #[.agg #[.slice none 0 0, .int .i64 0, .int .i64 0, .int .i64 0, .slice none 0 0], .bool false]) (by simp [results, Tryz.results183, go_sem, k0, k1, k2, k3, k4]) rfl (Or.inr ⟨fun h => (by have := (HG.out.1 h).2.1; rw [hRR] at this; cases this), rfl, ((((HS8.out.bel.setCell (by simp) _).setCell (by simp) _).setCell (by simp) _).setCell (by simp) _).setCell (by simp) _⟩)
        | true =>
          by_cases hSt : S = t
          · subst hSt
            have HS9 : Hid (Below w.heap.size w w8) := HS8.out.bel
            go_wp2
            obtain ⟨k0, k1, k2, k3, k4⟩ := five_cell HS8.out.res (.slice va1 l.length vc1) (.int .i64 (X : Int)) (.int .i64 (Y : Int)) (.int .i64 (Z : Int)) (.slice va2 l'.length vc2)
            have n1 := own_not HS8.out.own0 HS8.out.res (by decide)
            have n2 := own_not HS8.out.own HS8.out.res (by decide)
            refine bodyPost_ret (v := .tuple #[.agg #[(.slice va1 l.length vc1), .int .i64 (X : Int), .int .i64 (Y : Int), .int .i64 (Z : Int), (.slice va2 l'.length vc2)], .bool true]) (by simp [results, Tryz.results183, go_sem, k0, k1, k2, k3, k4]) rfl (Or.inl ⟨HG.out.2 ⟨hbad, hRR, (by first | rfl | trivial)⟩, _, _, rfl, ?_, ?_, ((((HS9.out.setCell (by simp) _).setCell (by simp) _).setCell (by simp) _).setCell (by simp) _).setCell (by simp) _⟩)
            · exact own_set (own_set (own_set (own_set (own_set HS8.out.own0 _ _ _ n1) _ _ _ n1) _ _ _ n1) _ _ _ n1) _ _ _ n1
            · exact own_set (own_set (own_set (own_set (own_set (own_mono HS8.out.own HS8.out.up.2.2.1) _ _ _ n2) _ _ _ n2) _ _ _ n2) _ _ _ n2) _ _ _ n2
          · have hst : (S.toList == t.toList) = false := by
              cases hq : (S.toList == t.toList) with
              | false => rfl
              | true =>
                rw [beq_iff_eq, Batches.toList_by, Batches.toList_by] at hq
                exact absurd (Batches.by_inj hq) hSt
            go_wp2
            obtain ⟨k0, k1, k2, k3, k4⟩ := five_cell HS8.out.res (.slice none 0 0) (.int .i64 0) (.int .i64 0) (.int .i64 0) (.slice none 0 0)
            refine bodyPost_ret (v := .tuple #[.agg #[.slice none 0 0, .int .i64 0, .int .i64 0, .int .i64 0, .slice none 0 0], .bool false]) (by simp [results, Tryz.results183, go_sem, k0, k1, k2, k3, k4]) rfl (Or.inr ⟨fun h => hSt (HG.out.1 h).2.2, rfl, ((((HS8.out.bel.setCell (by simp) _).setCell (by simp) _).setCell (by simp) _).setCell (by simp) _).setCell (by simp) _⟩)
theorem read_ex (u : ByteArray) (b0 : Bool) : ∃ m bad, Mans.Read u b0 m bad :=
  ⟨⟨_, _, _, _, _⟩, _, ⟨_, _, _, _, _, _, _, _, _, _, _, _, rfl, rfl, rfl, rfl, rfl, rfl, rfl, rfl, rfl, rfl, rfl⟩⟩
theorem got_sealed {t : ByteArray} {m : ManL} (h : Mans.Got t m) : sealedS m = t := Batches.by_inj h.1.symm
theorem sealed_got {t : ByteArray} {m : ManL} {S : ByteArray} {R : Bool} (h : TextIs m S R) (hR : R = true) (hS : S = t) : Mans.Got t m := by
  rcases h with ⟨ho, h1, _⟩ | ⟨_, _, h2⟩
  · refine ⟨?_, ho⟩
    rw [← hS, h1]
    rfl
  · rw [h2] at hR; cases hR
/-- What both ReadManifest answer to a text. -/
def Ans (t : ByteArray) (m : ManL) (R : Bool) : Prop := (Mans.Got t m ∧ R = true) ∨ ((∀ m', ¬ Mans.Got t m') ∧ m = ⟨[], 0, 0, 0, []⟩ ∧ R = false)
theorem ans_ex (t : ByteArray) : ∃ m R, Ans t m R := by
  by_cases h : ∃ m, Mans.Got t m
  · obtain ⟨m, hm⟩ := h
    exact ⟨m, true, Or.inl ⟨hm, rfl⟩⟩
  · exact ⟨_, false, Or.inr ⟨fun m hm => h ⟨m, hm⟩, rfl, rfl⟩⟩
theorem specRM_ans {t : ByteArray} (hs : t.size ≤ 1048576) {m : ManL} {R : Bool} (h : Ans t m R) (w : World) :
    Calls Tryz.prog 183 #[.string t] w fun en w' => ∃ v1 v2, en = .returned (.tuple #[.agg #[v1, .int .i64 m.next, .int .i64 m.base, .int .i64 m.term, v2], .bool R]) ∧ w'.ownsRow w.heap.size 3 1 v1 m.segs.length (cellsI m.segs) ∧ w'.ownsRow w.heap.size 3 1 v2 m.conf.length (cellsI m.conf) ∧ Below w.heap.size w w' := by
  rcases h with ⟨hg, rfl⟩ | ⟨hn, rfl, rfl⟩
  · have hu := Mans.got_unsealed hg
    obtain ⟨m', bad, hr⟩ := read_ex ⟨(Mans.text m).toArray⟩ false
    obtain ⟨a0, a1, a2, a3, a4, a5, hgets⟩ := Mans.text_gets (u := ⟨(Mans.text m).toArray⟩) (by simp) hg.2
    obtain ⟨rfl, rfl⟩ := Mans.read_gets hgets hr
    refine (specRM_is (b0 := false) hs (un_size hu) w (fun w => specUnsealed_some t _ hu w) hr (sealedS m') true (Or.inl ⟨hg.2, rfl, rfl⟩) True (by simp [got_sealed hg])).mono ?_
    rintro e w' (⟨_, v1, v2, h1, h2, h3, h4⟩ | ⟨h, _⟩)
    · exact ⟨v1, v2, h1, h2, h3, h4⟩
    · exact absurd trivial h
  · have key : ∀ (u : ByteArray) (b0 : Bool), u.size ≤ 1048576 → (∀ w : World, Calls Tryz.prog 236 #[.string t] w fun e w' => e = .returned (.tuple #[.string u, .bool (!b0)]) ∧ Below w.heap.size w w') →
        Calls Tryz.prog 183 #[.string t] w fun en w' => ∃ v1 v2, en = .returned (.tuple #[.agg #[v1, .int .i64 0, .int .i64 0, .int .i64 0, v2], .bool false]) ∧ w'.ownsRow w.heap.size 3 1 v1 0 [] ∧ w'.ownsRow w.heap.size 3 1 v2 0 [] ∧ Below w.heap.size w w' := fun u b0 hu hun => by
      obtain ⟨m', bad, hr⟩ := read_ex u b0
      obtain ⟨S, R, hT⟩ := textIs m'
      refine (specRM_is hs hu w hun hr S R hT False ⟨fun h => h.elim, fun h => hn m' (sealed_got hT h.2.1 h.2.2)⟩).mono ?_
      rintro e w' (⟨h, _⟩ | ⟨_, h1, h2⟩)
      · exact h.elim
      · exact ⟨_, _, h1, World.ownsRow_nil _ _ _ _, World.ownsRow_nil _ _ _ _, h2⟩
    cases hu : Sums.unsealed t.data.toList with
    | none => exact key ⟨#[]⟩ true (by decide) (fun w => specUnsealed_none t hs hu w)
    | some u => exact key ⟨u.toArray⟩ false (un_size hu) (fun w => specUnsealed_some t u hu w)
theorem apart_nil (v : Value) : Apart (.slice none 0 0) v := fun g e => by simp [Value.ownBlock] at e
theorem implRM_ans {t : ByteArray} (hs : t.size ≤ 1048576) {m : ManL} {R : Bool} (h : Ans t m R) (w : World) :
    Calls Tryz.prog 160 #[.string t] w fun en w' => ∃ v1 v2, en = .returned (.tuple #[.agg #[v1, .int .i64 m.next, .int .i64 m.base, .int .i64 m.term, v2], .bool R]) ∧ w'.ownsRow w.heap.size 3 1 v1 m.segs.length (cellsI m.segs) ∧ w'.ownsRow w.heap.size 3 1 v2 m.conf.length (cellsI m.conf) ∧ Apart v1 v2 ∧ Below w.heap.size w w' := by
  rcases h with ⟨hg, rfl⟩ | ⟨hn, rfl, rfl⟩
  · exact implRM_yes hs w hg
  · refine (implRM_no hs w hn).mono ?_
    rintro e w' ⟨h1, h2⟩
    exact ⟨_, _, h1, World.ownsRow_nil _ _ _ _, World.ownsRow_nil _ _ _ _, apart_nil _, h2⟩
end Go.Proofs.YtbcfiiilikkkeaaGreatDoor
