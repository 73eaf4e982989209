/- The specification's ReadEntry, walked. -/
import Derived.Test.YtimacmijinblmaaGreatSpecEntT
import Derived.Test.YtimacmijinblmaaGreatReadLaw
import Derived.Test.YtimacmijinblmaaGreatKit
import Derived.Test.YtimacmijinblmaaGreatCur2
namespace Go.Proofs.YtimacmijinblmaaGreat
open Go.RowKit
open Ents (okB kindB rest ent Gets Torn Got right text textS)
set_option linter.unusedVariables false
set_option linter.unusedSimpArgs false

theorem l05Var_cv {cb : Nat} {t : ByteArray} (hs : t.size ≤ 1048576) (w : World) {s s' : Nat × Bool} {n : Nat} (hc : C5 w cb t s.1 s.2) (h : Mans.cv t s = (n, s')) :
    Calls Tryz.prog 17 #[.pointer (some ⟨cb, 0, none⟩)] w fun e w' => e = .returned (.int .i64 (n : Int)) ∧ (C5 w' cb t s'.1 s'.2 ∧ w.grownBy w' (some cb)) ∧ n ≤ 1000000000 := by
  obtain ⟨a, bad⟩ := s
  cases bad with
  | true =>
    rw [Mans.cv_bad] at h
    simp only [Prod.mk.injEq] at h
    obtain ⟨rfl, rfl⟩ := h
    exact (l05Var_bad hs w hc).mono fun e w' ⟨h1, h2, h3⟩ => ⟨h1, ⟨h2, h3⟩, by omega⟩
  | false =>
    cases hr : Words.rd t.data.toList a with
    | none =>
      rw [Mans.cv_none hr] at h
      simp only [Prod.mk.injEq] at h
      obtain ⟨rfl, rfl⟩ := h
      exact (l05Var_none hs w hc hr).mono fun e w' ⟨h1, h2, h3⟩ => ⟨h1, ⟨h2, h3⟩, by omega⟩
    | some p =>
      obtain ⟨n', b⟩ := p
      rw [Mans.cv_some hr] at h
      simp only [Prod.mk.injEq] at h
      obtain ⟨rfl, rfl⟩ := h
      exact (l05Var_ok hs w hc hr).mono fun e w' ⟨h1, h2, h3⟩ => ⟨h1, ⟨h2, h3⟩, (Batches.rd_cut hr).2.2.2⟩
theorem one_byte (k : UInt8) (h : 0 < (⟨#[k]⟩ : ByteArray).size) : (⟨#[k]⟩ : ByteArray)[0]'h = k := rfl
/-- One byte that is taken. -/
def tk (u : ByteArray) (s : Nat × Bool) : ByteArray × (Nat × Bool) :=
  if s.2 = true then (⟨#[]⟩, (s.1, true)) else match (Batches.by_ u)[s.1]? with
    | none => (⟨#[]⟩, (s.1, true))
    | some k => (⟨#[k]⟩, (s.1 + 1, false))
theorem take_one {u : ByteArray} {a : Nat} {k : UInt8} (h : (Batches.by_ u)[a]? = some k) : u.extract a (a + 1) = ⟨#[k]⟩ := by
  apply Batches.by_inj
  have h1 := (List.getElem?_eq_some_iff.1 h)
  obtain ⟨h2, h3⟩ := h1
  unfold Batches.by_ at *
  rw [Words.extract_list, Nat.add_sub_cancel_left, Words.drop_cons h2, h3]
  rfl
theorem take_tk {cb : Nat} {t : ByteArray} (hs : t.size ≤ 1048576) (w : World) {s s' : Nat × Bool} {x : ByteArray} (hc : C5 w cb t s.1 s.2) (h : tk t s = (x, s')) :
    Calls Tryz.prog 16 #[.pointer (some ⟨cb, 0, none⟩), .int .i64 1] w fun e w' => e = .returned (.string x) ∧ C5 w' cb t s'.1 s'.2 ∧ w.grownBy w' (some cb) := by
  obtain ⟨a, bad⟩ := s
  cases bad with
  | true =>
    simp only [tk, if_true, Prod.mk.injEq] at h
    obtain ⟨rfl, rfl⟩ := h
    exact take_bad hs w true hc (Or.inl rfl) (by omega)
  | false =>
    cases hr : (Batches.by_ t)[a]? with
    | none =>
      simp only [tk, Bool.false_eq_true, if_false, hr, Prod.mk.injEq] at h
      obtain ⟨rfl, rfl⟩ := h
      have := List.getElem?_eq_none_iff.1 hr
      have hl : (Batches.by_ t).length = t.size := rfl
      exact take_bad hs w false hc (Or.inr (by omega)) (by omega)
    | some k =>
      simp only [tk, Bool.false_eq_true, if_false, hr, Prod.mk.injEq] at h
      obtain ⟨rfl, rfl⟩ := h
      have hl : a < t.size := (List.getElem?_eq_some_iff.1 hr).1
      have := take_ok (n := 1) hs w hc (by omega)
      rw [take_one hr] at this
      exact this
/-- What the specification's reader comes to. -/
structure Sees (t : ByteArray) (i j : Nat) (x y : ByteArray) (s1 s2 s3 s4 : Nat × Bool) : Prop where
  q1 : tk t (0, false) = (x, s1)
  q2 : Mans.cv t s1 = (i, s2)
  q3 : Mans.cv t s2 = (j, s3)
  q4 : tk t s3 = (y, s4)
theorem sees_ex (t : ByteArray) : ∃ i j x y s1 s2 s3 s4, Sees t i j x y s1 s2 s3 s4 := ⟨_, _, _, _, _, _, _, _, rfl, rfl, rfl, rfl⟩
theorem tk_good {t x : ByteArray} {s s' : Nat × Bool} (h : tk t s = (x, s')) (hb : s'.2 = false) : s.2 = false ∧ ∃ k, (Batches.by_ t)[s.1]? = some k ∧ x = ⟨#[k]⟩ ∧ s'.1 = s.1 + 1 := by
  unfold tk at h
  split at h
  · rw [← (Prod.mk.inj h).2] at hb; cases hb
  · rename_i hs
    split at h
    · rw [← (Prod.mk.inj h).2] at hb; cases hb
    · rename_i k hk
      obtain ⟨h1, h2⟩ := Prod.mk.inj h
      exact ⟨by simpa using hs, k, hk, h1.symm, by rw [← h2]⟩
theorem cv_good {t : ByteArray} {n : Nat} {s s' : Nat × Bool} (h : Mans.cv t s = (n, s')) (hb : s'.2 = false) : s.2 = false ∧ Words.rd (Batches.by_ t) s.1 = some (n, s'.1) := by
  unfold Mans.cv at h
  split at h
  · rw [← (Prod.mk.inj h).2] at hb; cases hb
  · rename_i hs
    split at h
    · rw [← (Prod.mk.inj h).2] at hb; cases hb
    · rename_i m b hr
      obtain ⟨h1, h2⟩ := Prod.mk.inj h
      refine ⟨by simpa using hs, ?_⟩
      rw [hr, h1, ← h2]
theorem sees_good {t : ByteArray} {i j : Nat} {x y : ByteArray} {s1 s2 s3 s4 : Nat × Bool} (h : Sees t i j x y s1 s2 s3 s4) (hb : s4.2 = false) :
    ∃ c k a b, (Batches.by_ t)[0]? = some c ∧ Words.rd (Batches.by_ t) 1 = some (i, a) ∧ Words.rd (Batches.by_ t) a = some (j, b) ∧ (Batches.by_ t)[b]? = some k ∧ y = ⟨#[k]⟩ ∧ s4.1 = b + 1 := by
  obtain ⟨g3, k, hk, hy, h4⟩ := tk_good h.q4 hb
  obtain ⟨g2, hj⟩ := cv_good h.q3 g3
  obtain ⟨g1, hi⟩ := cv_good h.q2 g2
  obtain ⟨_, c, hc, _, h1⟩ := tk_good h.q1 g1
  rw [h1] at hi
  exact ⟨c, k, _, _, hc, hi, hj, hk, hy, h4⟩
theorem sees_not {t : ByteArray} {i j : Nat} {x y : ByteArray} {s1 s2 s3 s4 : Nat × Bool} (h : Sees t i j x y s1 s2 s3 s4) (hb : s4.2 = true) (i' : Nat) (e : EntL) : ¬ Got t i' e := fun hg => by
  obtain ⟨j', k', a', b', g, _⟩ := Ents.text_gets hg.1 hg.2
  have h1 : tk t (0, false) = (⟨#[69]⟩, (1, false)) := by simp [tk, g.h0]
  rw [h.q1] at h1
  obtain ⟨_, e1⟩ := Prod.mk.inj h1
  have h2 : Mans.cv t s1 = (i', (a', false)) := by rw [e1]; exact Mans.cv_some g.r1
  rw [h.q2] at h2
  obtain ⟨_, e2⟩ := Prod.mk.inj h2
  have h3 : Mans.cv t s2 = (j', (b', false)) := by rw [e2]; exact Mans.cv_some g.r2
  rw [h.q3] at h3
  obtain ⟨_, e3⟩ := Prod.mk.inj h3
  have h4 : tk t s3 = (⟨#[k']⟩, (b' + 1, false)) := by rw [e3]; simp [tk, g.hk]
  rw [h.q4] at h4
  obtain ⟨_, e4⟩ := Prod.mk.inj h4
  rw [e4] at hb
  cases hb
/-- What ReadEntry answers. -/
def REIs (t : ByteArray) (i : Nat) (e : EntL) (R : Bool) : Prop := (Got t i e ∧ R = true) ∨ ((∀ i' e', ¬ Got t i' e') ∧ i = 0 ∧ e = ⟨0, 0, ⟨#[]⟩⟩ ∧ R = false)
theorem re_ex (t : ByteArray) : ∃ i e R, REIs t i e R := by
  by_cases h : ∃ i e, Got t i e
  · obtain ⟨i, e, h⟩ := h
    exact ⟨i, e, true, Or.inl ⟨h, rfl⟩⟩
  · exact ⟨0, _, false, Or.inr ⟨fun i' e' hg => h ⟨i', e', hg⟩, rfl, rfl, rfl⟩⟩
theorem re_uniq {t : ByteArray} {i : Nat} {e : EntL} {R : Bool} (h : REIs t i e R) {i' : Nat} {e' : EntL} (hg : Got t i' e') : i = i' ∧ e = e' ∧ R = true := by
  rcases h with ⟨h, rfl⟩ | ⟨h, _⟩
  · obtain ⟨j, k, a, b, g, he⟩ := Ents.text_gets h.1 h.2
    obtain ⟨h1, h2⟩ := Ents.got_of g hg
    exact ⟨h1.symm, by rw [he, h2], rfl⟩
  · exact absurd hg (h _ _)
theorem re_none {t : ByteArray} {i : Nat} {e : EntL} {R : Bool} (h : REIs t i e R) (hn : ∀ i' e', ¬ Got t i' e') : i = 0 ∧ e = ⟨0, 0, ⟨#[]⟩⟩ ∧ R = false := by
  rcases h with ⟨h, rfl⟩ | ⟨_, h⟩
  · exact absurd h (hn _ _)
  · exact h
set_option maxHeartbeats 4000000 in
set_option maxRecDepth 100000 in
theorem specRE_is {t : ByteArray} {i : Nat} {e : EntL} {R : Bool} (hs : t.size ≤ 1048576) (h : REIs t i e R) (w : World) :
    Calls Tryz.prog 18 #[.string t] w fun en w' => en = .returned (.tuple #[.int .i64 (i : Int), entV e, .bool R]) ∧ Below w.heap.size w w' := by
  obtain ⟨I, J, x, y, s1, s2, s3, s4, hS⟩ := sees_ex t
  have HRE : Hid (REIs t i e R) := h
  have HS : Hid (Sees t I J x y s1 s2 s3 s4) := hS
  have Q1 : Hid (tk t (0, false) = (x, s1)) := hS.q1
  have Q2 : Hid (Mans.cv t s1 = (I, s2)) := hS.q2
  have Q3 : Hid (Mans.cv t s2 = (J, s3)) := hS.q3
  have Q4 : Hid (tk t s3 = (y, s4)) := hS.q4
  clear hS h
  unfold entV
  obtain ⟨W, hW⟩ : ∃ W, W = (w.alloc (Obj.cells #[.int .i64 0, .int .i64 0, .string ⟨#[]⟩] 44)).alloc (Obj.cells #[.string t, .int .i64 0, .bool false] 40) := ⟨_, rfl⟩
  have HZ : Hid (W.heap[w.heap.size]? = some (.cells #[.int .i64 0, .int .i64 0, .string ⟨#[]⟩] 44 (0, 0))) := by
    show _ = _
    rw [hW, Below.heap_alloc _ _ _ (by simp)]
    exact heap_alloc_new w _
  have HC : Hid (C5 W (w.heap.size + 1) t 0 false) := by
    refine ⟨?_, Nat.zero_le _⟩
    rw [hW]
    have := heap_alloc_new (w.alloc (Obj.cells #[.int .i64 0, .int .i64 0, .string ⟨#[]⟩] 44)) (Obj.cells #[.string t, .int .i64 0, .bool false] 40)
    simpa using this
  have HB : Hid (Below w.heap.size w W) := by show Below _ _ _; rw [hW]; exact ((Below.refl _ _).alloc (Nat.le_refl _) _).alloc (by simp) _
  go_enter Tryz.func18, Tryz.ntmps18
  go_wp2_with fail
  rw [← hW]
  clear hW
  refine (take_tk hs W HC.out Q1.out).mono ?_
  rintro en w1 ⟨rfl, hc1, hg1⟩
  have HC1 : Hid (C5 w1 (w.heap.size + 1) t s1.1 s1.2) := hc1
  have HZ1 : Hid (_ = _) := grown_keep HZ.out hg1 (by omega)
  have HB1 : Hid (Below w.heap.size w w1) := HB.out.grown hg1 HB.out.size (fun k e => by cases e; omega)
  clear hc1 hg1 HC HZ HB
  go_wp2_with fail
  refine (l05Var_cv hs w1 HC1.out Q2.out).mono ?_
  rintro en w2 ⟨rfl, ⟨hc2, hg2⟩, hI⟩
  have HZ2 := grown_keep HZ1.out hg2 (by omega)
  obtain ⟨W3, hW3⟩ : ∃ W3, W3 = w2.alloc (Obj.cells #[.int .i64 0, .int .i64 0, .string ⟨#[]⟩] 44) := ⟨_, rfl⟩
  have HB2 : Below w.heap.size w w2 := HB1.out.grown hg2 HB1.out.size (fun k e => by cases e; omega)
  have hb3 : Below w2.heap.size w2 W3 := by rw [hW3]; exact (Below.refl _ _).alloc (Nat.le_refl _) _
  have HC3 : Hid (C5 W3 (w.heap.size + 1) t s2.1 s2.2) := hc2.below hb3
  have HZ3 : Hid (W3.heap[w.heap.size]? = some (.cells #[.int .i64 0, .int .i64 0, .string ⟨#[]⟩] 44 (0, 0))) := (hb3.block _ (Array.getElem?_eq_some_iff.1 HZ2).1).trans HZ2
  have HE3 : Hid (W3.heap[w2.heap.size]? = some (.cells #[.int .i64 0, .int .i64 0, .string ⟨#[]⟩] 44 (0, 0))) := by show _ = _; rw [hW3]; exact heap_alloc_new w2 _
  have HB3 : Hid (Below w.heap.size w W3) := HB2.trans (hb3.mono HB2.size)
  have hzl : w.heap.size < w2.heap.size := (Array.getElem?_eq_some_iff.1 HZ2).1
  have hcl : w.heap.size + 1 < w2.heap.size := hc2.lt
  obtain ⟨eb, heb⟩ : ∃ eb, eb = w2.heap.size := ⟨_, rfl⟩
  rw [← heb] at HE3 hzl hcl
  clear hc2 hg2 HZ2 HB2 hb3 HC1 HZ1 HB1
  go_wp2_with fail
  rw [← hW3, ← heb]
  clear hW3 heb
  refine (l05Var_cv hs W3 HC3.out Q3.out).mono ?_
  rintro en w4 ⟨rfl, ⟨hc4, hg4⟩, hJ⟩
  have hz4 := grown_keep HZ3.out hg4 (by omega)
  have he4 := grown_keep HE3.out hg4 (by omega)
  have HC4 : Hid (C5 w4 (w.heap.size + 1) t s3.1 s3.2) := hc4
  have HZ4 : Hid (w4.heap[w.heap.size]? = some (.cells #[.int .i64 0, .int .i64 0, .string ⟨#[]⟩] 44 (0, 0))) := hz4
  have HE4 : Hid (w4.heap[eb]? = some (.cells #[.int .i64 0, .int .i64 0, .string ⟨#[]⟩] 44 (0, 0))) := he4
  have HB4 : Hid (Below w.heap.size w w4) := HB3.out.grown hg4 HB3.out.size (fun k e => by cases e; omega)
  have x0 := cell_of_row _ _ 0 _ _ _ he4
  have xf0 := frozen_of_row _ _ 0 _ _ he4
  simp at x0
  clear hz4 he4 hc4 hg4 HC3 HZ3 HE3 HB3
  obtain ⟨W5, hW5⟩ : ∃ W5, W5 = w4.setCell ⟨eb, 0, none⟩ (.int .i64 (J : Int)) := ⟨_, rfl⟩
  have HC5 : Hid (C5 W5 (w.heap.size + 1) t s3.1 s3.2) := by rw [hW5]; exact HC4.out.far (by omega) _ _
  have HZ5 : Hid (W5.heap[w.heap.size]? = some (.cells #[.int .i64 0, .int .i64 0, .string ⟨#[]⟩] 44 (0, 0))) := by rw [hW5]; exact set_far HZ4.out (by omega) _ _
  have HE5 : Hid (W5.heap[eb]? = some (.cells #[.int .i64 (J : Int), .int .i64 0, .string ⟨#[]⟩] 44 (0, 0))) := by
    show _ = _
    rw [hW5]
    have := heap_setCell_same w4 eb 0 _ 44 (.int .i64 (J : Int)) HE4.out
    simpa using this
  have HB5 : Hid (Below w.heap.size w W5) := by rw [hW5]; exact HB4.out.setCell (by show w.heap.size ≤ eb; omega) _
  clear HC4 HZ4 HE4 HB4
  go_wp2_with fail
  rw [← hW5]
  clear hW5 x0 xf0
  refine (take_tk hs W5 HC5.out Q4.out).mono ?_
  rintro en w6 ⟨rfl, hc6, hg6⟩
  have hz6 := grown_keep HZ5.out hg6 (by omega)
  have he6 := grown_keep HE5.out hg6 (by omega)
  have HC6 : Hid (C5 w6 (w.heap.size + 1) t s4.1 s4.2) := hc6
  have HZ6 : Hid (w6.heap[w.heap.size]? = some (.cells #[.int .i64 0, .int .i64 0, .string ⟨#[]⟩] 44 (0, 0))) := hz6
  have HE6 : Hid (w6.heap[eb]? = some (.cells #[.int .i64 (J : Int), .int .i64 0, .string ⟨#[]⟩] 44 (0, 0))) := he6
  have HB6 : Hid (Below w.heap.size w w6) := HB5.out.grown hg6 HB5.out.size (fun k e => by cases e; omega)
  have c1 := hc6.c1
  have c2 := hc6.c2
  have z0 := cell_of_row _ _ 0 _ _ _ hz6
  have z1 := cell_of_row _ _ 1 _ _ _ hz6
  have z2 := cell_of_row _ _ 2 _ _ _ hz6
  have zf0 := frozen_of_row _ _ 0 _ _ hz6
  have zf1 := frozen_of_row _ _ 1 _ _ hz6
  have zf2 := frozen_of_row _ _ 2 _ _ hz6
  simp at z0 z1 z2
  clear hz6 hc6 hg6 HC5 HZ5 HE5 HB5 Q1 Q2 Q3 Q4
  obtain ⟨a4, b4⟩ := s4
  simp only at c1 c2 HC6
  cases b4 with
  | true =>
    clear he6
    obtain ⟨rfl, rfl, rfl⟩ := re_none HRE.out (fun i' e' => sees_not HS.out rfl i' e')
    clear c1
    go_wp2
    obtain ⟨k0, k1, k2⟩ := three_cell HZ6.out (.int .i64 0) (.int .i64 0) (.string ⟨#[]⟩)
    exact bodyPost_ret (v := .tuple #[.int .i64 0, .agg #[.int .i64 0, .int .i64 0, .string ⟨#[]⟩], .bool false]) (by simp [results, Tryz.results18, go_sem, k0, k1, k2]) rfl ⟨rfl, ((HB6.out.setCell (by simp) _).setCell (by simp) _).setCell (by simp) _⟩
  | false =>
    obtain ⟨c, k, a, b, g0, g1, g2, g3, gy, g4⟩ := sees_good HS.out rfl
    simp only at g4
    subst gy
    have hbs : b < t.size := (List.getElem?_eq_some_iff.1 g3).1
    have HGE : Hid ((Batches.by_ t)[0]? = some c ∧ Words.rd (Batches.by_ t) 1 = some (I, a) ∧ Words.rd (Batches.by_ t) a = some (J, b) ∧ (Batches.by_ t)[b]? = some k ∧ a4 = b + 1) := ⟨g0, g1, g2, g3, g4⟩
    have x0 := cell_of_row _ _ 0 _ _ _ he6
    have x1 := cell_of_row _ _ 1 _ _ _ he6
    have x2 := cell_of_row _ _ 2 _ _ _ he6
    have xf1 := frozen_of_row _ _ 1 _ _ he6
    have xf2 := frozen_of_row _ _ 2 _ _ he6
    simp at x0 x1 x2
    have y0 : (0 : Int) ≤ (a4 : Int) := by omega
    have y1 : (a4 : Int) ≤ (t.size : Int) := by omega
    have HWR : Hid (wrap64 ((k.toNat : Nat) : Int) = ((k.toNat : Nat) : Int)) := wrap_byte k
    clear g0 g1 g2 g3 g4 he6 hbs HS
    obtain ⟨E, hE⟩ : ∃ E : EntL, E = ent t J k b := ⟨_, rfl⟩
    have HEJ : Hid (E = ⟨(J : Int), (k.toNat : Int), t.extract a4 t.size⟩) := by show _ = _; rw [hE, HGE.out.2.2.2.2]; rfl
    have HEG : Hid (E = ent t J k b) := hE
    obtain ⟨T, O, hTO⟩ : ∃ T O, entTuple (I : Int) E = .tuple #[.string T, .bool O] := by
      unfold entTuple
      split
      · exact ⟨_, _, rfl⟩
      · exact ⟨_, _, rfl⟩
    have HTO : Hid (entTuple (I : Int) E = .tuple #[.string T, .bool O]) := hTO
    have HT : Hid (∀ W7, Calls Tryz.prog 42 #[.int .i64 (I : Int), .agg #[.int .i64 (J : Int), .int .i64 ((k.toNat : Nat) : Int), .string (t.extract a4 t.size)]] W7 fun en w' => en = .returned (.tuple #[.string T, .bool O]) ∧ Below W7.heap.size W7 w') := fun W7 => by
      have q := specEntText_is (I : Int) E (by rw [hE]; have := Ents.rest_size t (b + 1); simp only [ent]; omega) W7
      rw [hTO] at q
      unfold entV at q
      rw [HEJ.out] at q
      exact q
    have HZ7 : Hid (∀ v1 v2 w8, Below ((w6.setCell ⟨eb, 1, none⟩ v1).setCell ⟨eb, 2, none⟩ v2).heap.size ((w6.setCell ⟨eb, 1, none⟩ v1).setCell ⟨eb, 2, none⟩ v2) w8 → w8.heap[w.heap.size]? = some (.cells #[.int .i64 0, .int .i64 0, .string ⟨#[]⟩] 44 (0, 0)) ∧ w8.heap[eb]? = some (.cells #[.int .i64 (J : Int), v1, v2] 44 (0, 0)) ∧ Below w.heap.size w w8) := fun v1 v2 w8 hb => by
      have p1 := set_far (set_far HZ6.out (show w.heap.size ≠ eb by omega) 1 v1) (show w.heap.size ≠ eb by omega) 2 v2
      have p2 := heap_setCell_same _ eb 2 _ 44 v2 (heap_setCell_same w6 eb 1 _ 44 v1 HE6.out)
      have p3 : Below w.heap.size w ((w6.setCell ⟨eb, 1, none⟩ v1).setCell ⟨eb, 2, none⟩ v2) := (HB6.out.setCell (by show w.heap.size ≤ eb; omega) _).setCell (by show w.heap.size ≤ eb; omega) _
      refine ⟨(hb.block _ (Array.getElem?_eq_some_iff.1 p1).1).trans p1, ?_, p3.trans (hb.mono p3.size)⟩
      have := (hb.block _ (Array.getElem?_eq_some_iff.1 p2).1).trans p2
      simpa using this
    clear hTO hE
    go_wp2_with fail
    rw [one_byte, HWR.out]
    refine Calls.mono (HT.out _) ?_
    rintro en w8 ⟨rfl, hb8⟩
    obtain ⟨hz8, he8, hB8⟩ := HZ7.out _ _ _ hb8
    have HZ8 : Hid (w8.heap[w.heap.size]? = some (.cells #[.int .i64 0, .int .i64 0, .string ⟨#[]⟩] 44 (0, 0))) := hz8
    have HB8 : Hid (Below w.heap.size w w8) := hB8
    clear hb8 hB8 x0 x1 x2 xf1 xf2 c1 c2 z0 z1 z2 zf0 zf1 zf2 HZ7 HT HZ6 HE6 HB6 HC6
    have z0 := cell_of_row _ _ 0 _ _ _ hz8
    have z1 := cell_of_row _ _ 1 _ _ _ hz8
    have z2 := cell_of_row _ _ 2 _ _ _ hz8
    have zf0 := frozen_of_row _ _ 0 _ _ hz8
    have zf1 := frozen_of_row _ _ 1 _ _ hz8
    have zf2 := frozen_of_row _ _ 2 _ _ hz8
    have x0 := cell_of_row _ _ 0 _ _ _ he8
    have x1 := cell_of_row _ _ 1 _ _ _ he8
    have x2 := cell_of_row _ _ 2 _ _ _ he8
    simp at z0 z1 z2 x0 x1 x2
    clear hz8 he8
    have HNO : Hid ((∀ (i' : Nat) (e' : EntL), Got t i' e' → i' = I ∧ e' = E)) := fun i' e' hg => by
      obtain ⟨j', k', a', b', g, he⟩ := Ents.text_gets hg.1 hg.2
      obtain ⟨g0, g1, g2, g3, g4⟩ := HGE.out
      have q1 := g.r1.symm.trans g1
      simp only [Option.some.injEq, Prod.mk.injEq] at q1
      obtain ⟨rfl, rfl⟩ := q1
      have q2 := g.r2.symm.trans g2
      simp only [Option.some.injEq, Prod.mk.injEq] at q2
      obtain ⟨rfl, rfl⟩ := q2
      have q3 := g.hk.symm.trans g3
      simp only [Option.some.injEq] at q3
      subst q3
      exact ⟨rfl, by rw [he, HEG.out]⟩
    by_cases hr : right (I : Int) E
    · obtain ⟨rfl, rfl⟩ : T = textS I E ∧ O = true := by
        have q := HTO.out
        unfold entTuple at q
        rw [if_pos ⟨hr.1, hr.2⟩] at q
        simp at q
        exact ⟨q.1.symm, q.2⟩
      by_cases ht : textS I E = t
      · have hg : Got t I E := ⟨by rw [← ht]; rfl, hr⟩
        obtain ⟨h1, h2, h3⟩ := re_uniq HRE.out hg
        subst h1 h2 h3
        rw [ht]
        have hnn : (!(t.toList == t.toList)) = false := by simp
        have HEE : Hid (e = ⟨(J : Int), (k.toNat : Int), t.extract a4 t.size⟩) := HEJ.out
        clear hg hr ht HNO HTO HEJ HEG HGE HRE
        go_wp2_with fail
        go_region
        all_goals (
          go_wp2
          obtain ⟨k0, k1, k2⟩ := three_cell HZ8.out (.int .i64 (J : Int)) (.int .i64 ((k.toNat : Nat) : Int)) (.string (t.extract a4 t.size))
          exact bodyPost_ret (v := .tuple #[.int .i64 (i : Int), .agg #[.int .i64 (J : Int), .int .i64 ((k.toNat : Nat) : Int), .string (t.extract a4 t.size)], .bool true]) (by simp [results, Tryz.results18, go_sem, k0, k1, k2]) rfl ⟨by rw [HEE.out], (((HB8.out.setCell (by simp) _).setCell (by simp) _).setCell (by simp) _).drew⟩)
      · obtain ⟨rfl, rfl, rfl⟩ := re_none HRE.out (fun i' e' hg => by
          obtain ⟨rfl, rfl⟩ := HNO.out _ _ hg
          exact ht (Is.eq (S := t) (l := text i' e') hg.1).symm)
        have hne : ((textS I E).toList == t.toList) = false := by
          rw [beq_eq_false_iff_ne, Batches.toList_by, Batches.toList_by]
          exact fun x => ht (Batches.by_inj x)
        obtain ⟨T, hT⟩ : ∃ T, T = textS I E := ⟨_, rfl⟩
        rw [← hT] at hne ⊢
        clear hr ht HNO HTO HEJ HEG HGE HRE hT x0 x1 x2
        go_wp2
        obtain ⟨k0, k1, k2⟩ := three_cell HZ8.out (.int .i64 0) (.int .i64 0) (.string ⟨#[]⟩)
        exact bodyPost_ret (v := .tuple #[.int .i64 0, .agg #[.int .i64 0, .int .i64 0, .string ⟨#[]⟩], .bool false]) (by simp [results, Tryz.results18, go_sem, k0, k1, k2]) rfl ⟨rfl, ((HB8.out.setCell (by simp) _).setCell (by simp) _).setCell (by simp) _⟩
    · obtain ⟨rfl, rfl⟩ : T = ⟨#[]⟩ ∧ O = false := by
        have q := HTO.out
        unfold entTuple at q
        rw [if_neg (fun x => hr ⟨x.1, x.2⟩)] at q
        simp at q
        exact ⟨q.1.symm, q.2⟩
      obtain ⟨rfl, rfl, rfl⟩ := re_none HRE.out (fun i' e' hg => by
        obtain ⟨rfl, rfl⟩ := HNO.out _ _ hg
        exact hr hg.2)
      clear hr HNO HTO HEJ HEG HGE HRE x0 x1 x2
      go_wp2
      obtain ⟨k0, k1, k2⟩ := three_cell HZ8.out (.int .i64 0) (.int .i64 0) (.string ⟨#[]⟩)
      exact bodyPost_ret (v := .tuple #[.int .i64 0, .agg #[.int .i64 0, .int .i64 0, .string ⟨#[]⟩], .bool false]) (by simp [results, Tryz.results18, go_sem, k0, k1, k2]) rfl ⟨rfl, ((HB8.out.setCell (by simp) _).setCell (by simp) _).setCell (by simp) _⟩
end Go.Proofs.YtimacmijinblmaaGreat
