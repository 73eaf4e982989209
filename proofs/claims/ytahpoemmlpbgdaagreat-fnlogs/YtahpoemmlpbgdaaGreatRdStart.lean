/- The program's reader at a start of a log: logStart, its closure, readWhole over it, readStart, walked. -/
import Derived.Test.YtahpoemmlpbgdaaGreatSpecStart
import Derived.Test.YtahpoemmlpbgdaaGreatRdEntA
import Derived.Test.YtahpoemmlpbgdaaGreatCurA
namespace Go.Proofs.YtahpoemmlpbgdaaGreat
open Go.RowKit
open Batches (by_ by_inj cut cut_app cut_all rd_cut rd_at)
set_option linter.unusedVariables false
set_option linter.unusedSimpArgs false

/-- What is read of a start, by its places; where its reading ends. -/
structure GetsS (u : ByteArray) (i j a b : Nat) : Prop where
  h0 : (by_ u)[0]? = some 83
  r1 : Words.rd (by_ u) 1 = some (i, a)
  r2 : Words.rd (by_ u) a = some (j, b)
def TornS (u : ByteArray) : Prop := (by_ u)[0]? = none ∨ (∃ c, (by_ u)[0]? = some c ∧ c ≠ 83) ∨ ((by_ u)[0]? = some 83 ∧ Words.rd (by_ u) 1 = none) ∨
  (∃ i a, (by_ u)[0]? = some 83 ∧ Words.rd (by_ u) 1 = some (i, a) ∧ Words.rd (by_ u) a = none)
theorem tornS_or (u : ByteArray) : TornS u ∨ ∃ i j a b, GetsS u i j a b := by
  unfold TornS
  cases h0 : (by_ u)[0]? with
  | none => exact Or.inl (Or.inl rfl)
  | some c =>
    by_cases hc : c = 83
    · subst hc
      cases h1 : Words.rd (by_ u) 1 with
      | none => exact Or.inl (Or.inr (Or.inr (Or.inl ⟨rfl, rfl⟩)))
      | some p =>
        obtain ⟨i, a⟩ := p
        cases h2 : Words.rd (by_ u) a with
        | none => exact Or.inl (Or.inr (Or.inr (Or.inr ⟨i, a, rfl, rfl, h2⟩)))
        | some q =>
          obtain ⟨j, b⟩ := q
          exact Or.inr ⟨i, j, a, b, h0, h1, h2⟩
    · exact Or.inl (Or.inr (Or.inl ⟨c, rfl, hc⟩))
theorem getsS_begins {u : ByteArray} {i j a : Nat} (h : GetsS u i j a u.size) : Begins u i j := by
  obtain ⟨z1, z2⟩ := Ents.cut_one h.h0
  obtain ⟨p1, p2, p3, p4⟩ := rd_cut h.r1
  obtain ⟨q1, q2, q3, q4⟩ := rd_cut h.r2
  refine ⟨?_, p4, q4⟩
  rw [← cut_all u, cut_app u (b := 1) (by omega) (by omega), cut_app u (a := 1) (b := a) (by omega) (by omega), z2, p3, q3]
  simp [startAt]
theorem begins_getsS {u : ByteArray} {i j : Nat} (h : Begins u i j) : ∃ a, GetsS u i j a u.size := by
  obtain ⟨e0, hi, hj⟩ := h
  have e1 : by_ u = [83] ++ (Words.var i ++ (Words.var j ++ [])) := by rw [e0]; simp [startAt]
  have e2 : by_ u = ([83] ++ Words.var i) ++ (Words.var j ++ []) := by rw [e0]; simp [startAt]
  have r1 := rd_at hi e1
  have r2 := rd_at hj e2
  have hz : ([83] ++ Words.var i ++ Words.var j).length = u.size := by
    have : (by_ u).length = u.size := rfl
    rw [← this, e0]
    simp [startAt]
  rw [hz] at r2
  exact ⟨_, by rw [e0]; rfl, r1, r2⟩
theorem getsS_uniq {u : ByteArray} {i j a b i' j' a' b' : Nat} (h : GetsS u i j a b) (h' : GetsS u i' j' a' b') : i = i' ∧ j = j' ∧ b = b' := by
  have q1 := h.r1.symm.trans h'.r1
  simp only [Option.some.injEq, Prod.mk.injEq] at q1
  obtain ⟨rfl, rfl⟩ := q1
  have q2 := h.r2.symm.trans h'.r2
  simp only [Option.some.injEq, Prod.mk.injEq] at q2
  exact ⟨rfl, q2.1, q2.2⟩
theorem tornS_not {u : ByteArray} (h : TornS u) (i j : Nat) : ¬ Begins u i j := fun hb => by
  obtain ⟨a, g⟩ := begins_getsS hb
  have g0 := g.h0
  have g1 := g.r1
  have g2 := g.r2
  rcases h with h | ⟨c, h, hc⟩ | ⟨_, h⟩ | ⟨i', a', _, h, h'⟩
  · rw [h] at g0; cases g0
  · rw [h] at g0; cases g0; exact hc rfl
  · rw [h] at g1; cases g1
  · rw [h] at g1; cases g1; rw [h'] at g2; cases g2
set_option maxHeartbeats 2000000 in
set_option maxRecDepth 100000 in
theorem logStart_torn {rb : Nat} {t : ByteArray} (hs : t.size ≤ 1048576) (w : World) (hr : Rd w rb t 0) (h : TornS t) :
    Calls Tryz.prog 61 #[.pointer (some ⟨rb, 0, none⟩)] w fun en w' => en = .panicked thrown ∧ w.grownBy w' (some rb) := by
  have HR : Hid (Rd (w.alloc (Obj.cells #[.int .i64 0, .int .i64 0, .slice none 0 0] 26)) rb t 0) := hr.below ((Below.refl _ _).alloc (Nat.le_refl _) _)
  have HG : Hid (w.grownBy (w.alloc (Obj.cells #[.int .i64 0, .int .i64 0, .slice none 0 0] 26)) (some rb)) := grown_alloc _ _
  clear hr
  rcases h with h | ⟨c, h, hc⟩ | ⟨h0, h1⟩ | ⟨i, a, h0, h1, h2⟩
  · have HN : Hid (¬ 0 < t.size) := at_none h
    clear h
    go_enter Tryz.func61, Tryz.ntmps61
    go_wp2_with (first | (go_at_call 93; refine (one_none hs _ HR.out HN.out).mono ?_; rintro e w1 ⟨rfl, hg1⟩))
    exact ⟨rfl, rfl, HG.out.trans hg1⟩
  · have HH : Hid _ := h
    have hc1 : ((c.toNat : Int) == 83) = false := by
      have : c.toNat ≠ 83 := fun x => hc (UInt8.toNat_inj.1 x)
      simp; omega
    clear h hc
    go_enter Tryz.func61, Tryz.ntmps61
    go_wp2_with (first | (go_at_call 93; refine (one_at hs _ HR.out HH.out).mono ?_; rintro e w1 ⟨rfl, hr1, hg1⟩) | (go_at_call 92; refine (need_no _ _).mono ?_; rintro e w2 ⟨rfl, rfl⟩))
    exact ⟨rfl, rfl, HG.out.trans hg1⟩
  · have HH : Hid ((by_ t)[0]? = some 83) := h0
    have H1 : Hid (Words.rd t.data.toList 1 = none) := h1
    clear h0 h1
    go_enter Tryz.func61, Tryz.ntmps61
    go_wp2_with fail
    refine (one_at hs _ HR.out HH.out).mono ?_
    rintro e w1 ⟨rfl, hr1, hg1⟩
    have HR1 : Hid (Rd w1 rb t 1) := hr1
    have HG1 : Hid (w.grownBy w1 (some rb)) := HG.out.trans hg1
    clear hr1 hg1 HR HG
    have hx : (((83 : UInt8).toNat : Int) == 83) = true := by decide
    go_wp2_with fail
    refine (need_yes _ _).mono ?_
    rintro e w2 ⟨rfl, hw2⟩
    have hw3 := hw2.symm
    clear hw2
    subst hw3
    go_wp2_with fail
    refine (number_none hs _ HR1.out H1.out).mono ?_
    rintro e w3 ⟨rfl, hg3⟩
    exact ⟨rfl, rfl, HG1.out.trans hg3⟩
  · have HH : Hid ((by_ t)[0]? = some 83) := h0
    have H1 : Hid (Words.rd t.data.toList 1 = some (i, a)) := h1
    have H2 : Hid (Words.rd t.data.toList a = none) := h2
    clear h0 h1 h2
    go_enter Tryz.func61, Tryz.ntmps61
    go_wp2_with fail
    refine (one_at hs _ HR.out HH.out).mono ?_
    rintro e w1 ⟨rfl, hr1, hg1⟩
    have HR1 : Hid (Rd w1 rb t 1) := hr1
    have HG1 : Hid (w.grownBy w1 (some rb)) := HG.out.trans hg1
    clear hr1 hg1 HR HG
    have hx : (((83 : UInt8).toNat : Int) == 83) = true := by decide
    go_wp2_with fail
    refine (need_yes _ _).mono ?_
    rintro e w2 ⟨rfl, hw2⟩
    have hw3 := hw2.symm
    clear hw2
    subst hw3
    go_wp2_with fail
    refine (number_some hs _ HR1.out H1.out).mono ?_
    rintro e w3 ⟨rfl, hr3, hg3⟩
    have HR3 : Hid (Rd w3 rb t a) := hr3
    have HG3 : Hid (w.grownBy w3 (some rb)) := HG1.out.trans hg3
    clear hr3 hg3
    go_wp2_with fail
    refine (number_none hs _ HR3.out H2.out).mono ?_
    rintro e w4 ⟨rfl, hg4⟩
    exact ⟨rfl, rfl, HG3.out.trans hg4⟩
set_option maxHeartbeats 4000000 in
set_option maxRecDepth 100000 in
theorem logStart_gets {rb : Nat} {t : ByteArray} {i j a b : Nat} (hs : t.size ≤ 1048576) (w : World) (hr : Rd w rb t 0) (hg : GetsS t i j a b) :
    Calls Tryz.prog 61 #[.pointer (some ⟨rb, 0, none⟩)] w fun en w' => en = .returned (.agg #[.int .i64 (i : Int), .int .i64 (j : Int), .slice none 0 0]) ∧ Rd w' rb t b ∧ w.grownBy w' (some rb) := by
  have hlt := hr.lt
  have HR : Hid (Rd (w.alloc (Obj.cells #[.int .i64 0, .int .i64 0, .slice none 0 0] 26)) rb t 0) := hr.below ((Below.refl _ _).alloc (Nat.le_refl _) _)
  have HN : Hid ((w.alloc (Obj.cells #[.int .i64 0, .int .i64 0, .slice none 0 0] 26)).heap[w.heap.size]? = some (.cells #[.int .i64 0, .int .i64 0, .slice none 0 0] 26 (0, 0))) := heap_alloc_new w _
  have HG : Hid (w.grownBy (w.alloc (Obj.cells #[.int .i64 0, .int .i64 0, .slice none 0 0] 26)) (some rb)) := grown_alloc _ _
  have HH : Hid ((by_ t)[0]? = some 83) := hg.h0
  have H1 : Hid (Words.rd t.data.toList 1 = some (i, a)) := hg.r1
  have H2 : Hid (Words.rd t.data.toList a = some (j, b)) := hg.r2
  clear hr hg
  go_enter Tryz.func61, Tryz.ntmps61
  go_wp2_with fail
  refine (one_at hs _ HR.out HH.out).mono ?_
  rintro e w1 ⟨rfl, hr1, hg1⟩
  have HR1 : Hid (Rd w1 rb t 1) := hr1
  have HG1 : Hid (w.grownBy w1 (some rb)) := HG.out.trans hg1
  have HN1 : Hid (_ = _) := grown_keep HN.out hg1 (by omega)
  clear hr1 hg1 HR HG HN
  have hx : (((83 : UInt8).toNat : Int) == 83) = true := by decide
  go_wp2_with fail
  refine (need_yes _ _).mono ?_
  rintro e w2 ⟨rfl, hw2⟩
  have hw3 := hw2.symm
  clear hw2
  subst hw3
  go_wp2_with fail
  refine (number_some hs _ HR1.out H1.out).mono ?_
  rintro e w3 ⟨rfl, hr3, hg3⟩
  have HR3 : Hid (Rd w3 rb t a) := hr3
  have HG3 : Hid (w.grownBy w3 (some rb)) := HG1.out.trans hg3
  have HN3 : Hid (_ = _) := grown_keep HN1.out hg3 (by omega)
  clear hr3 hg3 HN1 HR1 HG1
  go_wp2_with fail
  refine (number_some hs _ HR3.out H2.out).mono ?_
  rintro e w4 ⟨rfl, hr4, hg4⟩
  have HR4 : Hid (Rd w4 rb t b) := hr4
  have HG4 : Hid (w.grownBy w4 (some rb)) := HG3.out.trans hg4
  have hn4 := grown_keep HN3.out hg4 (by omega)
  have HN4 : Hid (w4.heap[w.heap.size]? = some (.cells #[.int .i64 0, .int .i64 0, .slice none 0 0] 26 (0, 0))) := hn4
  have c0 := cell_of_row _ _ 0 _ _ _ hn4
  have c1 := cell_of_row _ _ 1 _ _ _ hn4
  have c2 := cell_of_row _ _ 2 _ _ _ hn4
  have f0 := frozen_of_row _ _ 0 _ _ hn4
  have f1 := frozen_of_row _ _ 1 _ _ hn4
  have f2 := frozen_of_row _ _ 2 _ _ hn4
  simp at c0 c1 c2
  clear hr4 hg4 HN3 HR3 HG3 hn4
  go_wp2
  obtain ⟨l0, l1, l2⟩ := three_cell HN4.out (.int .i64 (i : Int)) (.int .i64 (j : Int)) (.slice none 0 0)
  exact bodyPost_ret (v := .agg #[.int .i64 (i : Int), .int .i64 (j : Int), .slice none 0 0]) (by simp [results, Tryz.results61, go_sem, l0, l1, l2]) rfl ⟨rfl, ((HR4.out.setNew (k := w.heap.size) (by omega) 0 _).setNew (k := w.heap.size) (by omega) 1 _).setNew (k := w.heap.size) (by omega) 2 _, grown_new (grown_new (grown_new HG4.out (Nat.le_refl _) _ _) (Nat.le_refl _) _ _) (Nat.le_refl _) _ _⟩
set_option maxHeartbeats 400000 in
theorem sl_torn {rb EB : Nat} {t : ByteArray} (hs : t.size ≤ 1048576) (w : World) (hr : Rd w rb t 0) (h : TornS t) :
    Calls Tryz.prog 60 #[.pointer (some ⟨rb, 0, none⟩), .pointer (some ⟨EB, 0, none⟩)] w fun en w' => en = .panicked thrown ∧ w.grownBy w' (some rb) := by
  have HR : Hid (Rd w rb t 0) := hr
  have HF : Hid (TornS t) := h
  clear hr h
  go_enter Tryz.func60, Tryz.ntmps60
  go_wp2_with (go_at_call 61; refine (logStart_torn hs _ HR.out HF.out).mono ?_; rintro e w1 ⟨rfl, hg1⟩)
  exact ⟨rfl, rfl, hg1⟩
/-- What the closure leaves. -/
def SLPost (w : World) (rb EB : Nat) (t : ByteArray) (i j b : Nat) (en : Ending) (w' : World) : Prop :=
  en = .returned (.tuple #[]) ∧ ∃ w1, w.grownBy w1 (some rb) ∧ w1.grownBy w' (some EB) ∧ Rd w' rb t b ∧ w'.heap[EB]? = some (.cells #[.int .i64 (i : Int), .int .i64 (j : Int), .slice none 0 0] 26 (0, 0))
set_option maxHeartbeats 1000000 in
set_option maxRecDepth 100000 in
theorem sl_gets {rb EB : Nat} {t : ByteArray} {i j a b : Nat} (hs : t.size ≤ 1048576) (w : World) (hr : Rd w rb t 0) (hg : GetsS t i j a b)
    (h2 : rb ≠ EB) (hE : w.heap[EB]? = some (.cells #[.int .i64 0, .int .i64 0, .slice none 0 0] 26 (0, 0))) :
    Calls Tryz.prog 60 #[.pointer (some ⟨rb, 0, none⟩), .pointer (some ⟨EB, 0, none⟩)] w (SLPost w rb EB t i j b) := by
  have HE : Hid (w.heap[EB]? = some (.cells #[.int .i64 0, .int .i64 0, .slice none 0 0] 26 (0, 0))) := hE
  have HQ : Hid (Calls Tryz.prog 61 #[.pointer (some ⟨rb, 0, none⟩)] w fun en w' => en = .returned (.agg #[.int .i64 (i : Int), .int .i64 (j : Int), .slice none 0 0]) ∧ Rd w' rb t b ∧ w.grownBy w' (some rb)) := logStart_gets hs w hr hg
  clear hr hg hE
  go_enter Tryz.func60, Tryz.ntmps60
  go_wp2_with fail
  refine Calls.mono HQ.out ?_
  rintro en w1 ⟨rfl, hr1, hg1⟩
  have he1 := grown_keep HE.out hg1 h2.symm
  have HE1 : Hid (w1.heap[EB]? = some (.cells #[.int .i64 0, .int .i64 0, .slice none 0 0] 26 (0, 0))) := he1
  have HR1 : Hid (Rd w1 rb t b) := hr1
  have HG1 : Hid (w.grownBy w1 (some rb)) := hg1
  have d0 := cell_of_row _ _ 0 _ _ _ he1
  have d1 := cell_of_row _ _ 1 _ _ _ he1
  have d2 := cell_of_row _ _ 2 _ _ _ he1
  have df0 := frozen_of_row _ _ 0 _ _ he1
  have df1 := frozen_of_row _ _ 1 _ _ he1
  have df2 := frozen_of_row _ _ 2 _ _ he1
  simp at d0 d1 d2
  clear hr1 hg1 he1 HQ HE
  go_wp2
  go_end0
  exact ⟨rfl, w1, HG1.out, ((grown_set _ EB 0 _).trans (grown_set _ EB 1 _)).trans (grown_set _ EB 2 _), ((HR1.out.setNew h2 0 _).setNew h2 1 _).setNew h2 2 _, three_set HE1.out _ _ _⟩
set_option maxHeartbeats 400000 in
set_option maxRecDepth 100000 in
theorem sw_torn {EB : Nat} {t : ByteArray} (hs : t.size ≤ 1048576) (w : World) (hI : EB < w.heap.size) (h : TornS t) :
    Calls Tryz.prog 59 #[.string t, .func (.func 60) #[] #[.pointer (some ⟨EB, 0, none⟩)]] w fun en w' => en = .returned (.bool false) ∧ w.grownBy w' (some EB) := by
  have hmf : ∀ (fn : Fn) (first cap : Array Value) (w : World), (Instr.makeFunc fn first cap).run Tryz.prog w = .ok (.func fn first cap) w := fun _ _ _ _ => rfl
  have HH : Hid (TornS t) := h
  clear h
  obtain ⟨W, hW, hr, hwh, hg, hz⟩ := whole_start t w EB
  have HR : Hid (Rd W (w.heap.size + 1) t 0) := hr
  have HW : Hid (_ = _) := hwh
  have HG : Hid (w.grownBy W (some EB)) := hg
  clear hr hwh hg
  go_enter_defers Tryz.func59, Tryz.ntmps59
  go_wp2_with fail
  rw [← hW]
  refine (sl_torn hs W HR.out HH.out).mono ?_
  rintro en w1 ⟨rfl, hg1⟩
  have hw1 := grown_keep HW.out hg1 (by omega)
  have hg2 : w.grownBy w1 (some EB) := HG.out.andThen hg1 (fun r e => Or.inl (by cases e; omega))
  have c0 := cell_of_row _ _ 0 _ _ _ hw1
  have f0 := frozen_of_row _ _ 0 _ _ hw1
  simp at c0
  refine leaves_cons (f := 91) (args := #[.pointer (some ⟨w.heap.size, 0, none⟩)]) (by simp) (by simp [go_sem]) ?_
  refine (catch_panicking ⟨w.heap.size, 0, none⟩ false 157 (.agg #[]) [] w1 c0 f0).mono ?_
  rintro e u' w'' ⟨rfl, rfl, rfl⟩
  have c1 : (w1.setCell ⟨w.heap.size, 0, none⟩ (.bool false)).cell? ⟨w.heap.size, 0, none⟩ = some (.bool false) := World.cell?_setCell_same _ _ _ c0
  simp [Leaves, settle, results, Tryz.results59, go_sem, c1]
  exact grown_new hg2 (Nat.le_refl _) _ _
/-- What readWhole leaves where the reading came to an end. -/
def SWPost (w : World) (B EB : Nat) (i j : Nat) (R : Bool) (en : Ending) (w' : World) : Prop :=
  en = .returned (.bool R) ∧ Below B w w' ∧ (∀ q o, w.heap[q]? = some o → q ≠ EB → w'.heap[q]? = some o) ∧ w'.heap[EB]? = some (.cells #[.int .i64 (i : Int), .int .i64 (j : Int), .slice none 0 0] 26 (0, 0))
set_option maxHeartbeats 1000000 in
set_option maxRecDepth 100000 in
theorem sw_gets {B EB : Nat} {t : ByteArray} {i j a b : Nat} (hs : t.size ≤ 1048576) (w : World) (hg : GetsS t i j a b) (R : Bool) (hR : R = ((b : Int) == (t.size : Int)))
    (hB2 : B ≤ EB) (hE : w.heap[EB]? = some (.cells #[.int .i64 0, .int .i64 0, .slice none 0 0] 26 (0, 0))) :
    Calls Tryz.prog 59 #[.string t, .func (.func 60) #[] #[.pointer (some ⟨EB, 0, none⟩)]] w (SWPost w B EB i j R) := by
  have hmf : ∀ (fn : Fn) (first cap : Array Value) (w : World), (Instr.makeFunc fn first cap).run Tryz.prog w = .ok (.func fn first cap) w := fun _ _ _ _ => rfl
  have hEl : EB < w.heap.size := (Array.getElem?_eq_some_iff.1 hE).1
  obtain ⟨W, hW, hr, hwh, hgg, hz⟩ := whole_start t w EB
  have hbW : Below w.heap.size w W := by rw [hW]; exact ((Below.refl _ _).alloc (Nat.le_refl _) _).alloc (by simp) _
  have HBW : Hid (Below w.heap.size w W) := hbW
  have HQ : Hid (Calls Tryz.prog 60 #[.pointer (some ⟨w.heap.size + 1, 0, none⟩), .pointer (some ⟨EB, 0, none⟩)] W (SLPost W (w.heap.size + 1) EB t i j b)) :=
    sl_gets hs W hr hg (by omega) ((hbW.block _ hEl).trans hE)
  have HW : Hid (W.heap[w.heap.size]? = some (.cells #[.bool false] 4 (0, 0))) := hwh
  have hRR : ((b : Int) == (t.size : Int)) = R := hR.symm
  clear hr hwh hgg hg hE hbW hR
  go_enter_defers Tryz.func59, Tryz.ntmps59
  go_wp2_with fail
  rw [← hW]
  refine Calls.mono HQ.out ?_
  rintro en w3 ⟨rfl, w1, hg1, hg3, hr3, he3⟩
  have hw3 := grown_keep (grown_keep HW.out hg1 (by omega)) hg3 (by omega)
  have HW3 : Hid (w3.heap[w.heap.size]? = some (.cells #[.bool false] 4 (0, 0))) := hw3
  have HK3 : Hid (∀ q o, w.heap[q]? = some o → q ≠ EB → w3.heap[q]? = some o) := fun q o hq n2 => by
    have hl : q < w.heap.size := (Array.getElem?_eq_some_iff.1 hq).1
    exact grown_keep (grown_keep ((HBW.out.block _ hl).trans hq) hg1 (by omega)) hg3 n2
  have HB3 : Hid (Below B w w3) := by
    have b0 : Below B w W := HBW.out.mono (by omega)
    have b1 : Below B w w1 := b0.grown hg1 (by omega) (fun k e => by cases e; omega)
    exact b1.grown hg3 (by have := b1.size; omega) (fun k e => by cases e; omega)
  have HE3 : Hid (_ = _) := he3
  have c0 := cell_of_row _ _ 0 _ _ _ hw3
  have f0 := frozen_of_row _ _ 0 _ _ hw3
  have q0 := hr3.c0
  have q1 := hr3.c1
  simp at c0
  clear hw3 hg1 hg3 he3 hr3 hW HW HBW HQ
  go_wp2
  refine leaves_cons (f := 91) (args := #[.pointer (some ⟨w.heap.size, 0, none⟩)]) (by simp) (by simp [go_sem]) ?_
  refine (catch_idle ⟨w.heap.size, 0, none⟩ _).mono ?_
  rintro e u' w'' ⟨rfl, rfl, rfl⟩
  have c1 : (w3.setCell ⟨w.heap.size, 0, none⟩ (.bool R)).cell? ⟨w.heap.size, 0, none⟩ = some (.bool R) := World.cell?_setCell_same _ _ _ c0
  simp [Leaves, settle, results, Tryz.results59, go_sem, c1]
  refine ⟨rfl, HB3.out.setCell (by show B ≤ w.heap.size; omega) _, fun q o hq n2 => set_far (HK3.out q o hq n2) (by have := (Array.getElem?_eq_some_iff.1 hq).1; omega) _ _, set_far HE3.out (by omega) _ _⟩
theorem rs_start (w : World) : ∃ W, W = (w.alloc (Obj.cells #[.int .i64 0, .int .i64 0, .slice none 0 0] 26)).alloc (Obj.cells #[.int .i64 0, .int .i64 0, .slice none 0 0] 26) ∧ Below w.heap.size w W ∧ W.heap[w.heap.size]? = some (.cells #[.int .i64 0, .int .i64 0, .slice none 0 0] 26 (0, 0)) ∧ W.heap[w.heap.size + 1]? = some (.cells #[.int .i64 0, .int .i64 0, .slice none 0 0] 26 (0, 0)) := by
  refine ⟨_, rfl, ((Below.refl _ _).alloc (Nat.le_refl _) _).alloc (by simp) _, ?_, ?_⟩
  · rw [Below.heap_alloc _ _ _ (by simp)]
    exact heap_alloc_new w _
  · have := heap_alloc_new (w.alloc (Obj.cells #[.int .i64 0, .int .i64 0, .slice none 0 0] 26)) (Obj.cells #[.int .i64 0, .int .i64 0, .slice none 0 0] 26)
    simpa using this
theorem result61 {w : World} {g : Nat} {A C : Array Value} {b : Bool} (hg : w.heap[g]? = some (.cells C 26 (0, 0))) (hs : A.size = 3) {tmps : Array Value} (ht : tmps.getD 2 undef = .pointer (some ⟨g, 0, none⟩)) (hb : tmps.getD 3 undef = .bool b) : (results Tryz.f25 tmps).run Tryz.prog (w.setRow g A) = .ok (.tuple #[.agg A, .bool b]) (w.setRow g A) := by
  have h := run_loadVar_agg (P := Tryz.prog) Tryz.isAgg26 Tryz.sizeOf26 (row_size (A := A) hg) hs
  have ht' : tmps[2]?.getD undef = .pointer (some ⟨g, 0, none⟩) := by simpa using ht
  have hb' : tmps[3]?.getD undef = .bool b := by simpa using hb
  simp [results, Tryz.results25, ht', hb', asAddr, h]
set_option maxHeartbeats 2000000 in
set_option maxRecDepth 100000 in
theorem readStart_is {t : ByteArray} {i j : Nat} {R : Bool} (hs : t.size ≤ 1048576) (h : StIs t i j R) (w : World) :
    Calls Tryz.prog 25 #[.string t] w fun en w' => en = .returned (.tuple #[.agg #[.int .i64 (i : Int), .int .i64 (j : Int), .slice none 0 0], .bool R]) ∧ Below w.heap.size w w' := by
  have hmf : ∀ (fn : Fn) (first cap : Array Value) (w : World), (Instr.makeFunc fn first cap).run Tryz.prog w = .ok (.func fn first cap) w := fun _ _ _ _ => rfl
  obtain ⟨W, hW, hb, h0, h1⟩ := rs_start w
  obtain ⟨q, hq⟩ : ∃ q, q = w.heap.size := ⟨_, rfl⟩
  have HQS : Hid (q = w.heap.size) := hq
  have HWR : Hid (∃ (R2 : Bool) (A : Array Value), A.size = 3 ∧ (R2 = true → R = true ∧ A = #[.int .i64 (i : Int), .int .i64 (j : Int), .slice none 0 0]) ∧ (R2 = false → R = false ∧ i = 0 ∧ j = 0) ∧ Calls Tryz.prog 59 #[.string t, .func (.func 60) #[] #[.pointer (some ⟨q + 1, 0, none⟩)]] W fun en w' => en = .returned (.bool R2) ∧ Below w.heap.size w w' ∧ w'.heap[q]? = some (.cells #[.int .i64 0, .int .i64 0, .slice none 0 0] 26 (0, 0)) ∧ (R2 = true → w'.heap[q + 1]? = some (.cells A 26 (0, 0)))) := by
    rw [hq]
    rcases tornS_or t with ht | ⟨i', j', a, b, hg⟩
    · obtain ⟨rfl, rfl, rfl⟩ := st_none h (tornS_not ht)
      refine ⟨false, #[.int .i64 0, .int .i64 0, .slice none 0 0], rfl, fun x => (by cases x), fun _ => ⟨rfl, rfl, rfl⟩, ?_⟩
      refine (sw_torn hs W (Array.getElem?_eq_some_iff.1 h1).1 ht).mono fun en w' ⟨e1, hg⟩ => ⟨e1, hb.grown hg hb.size (fun k e => by cases e; omega), grown_keep h0 hg (by omega), fun x => (by cases x)⟩
    · by_cases hbz : b = t.size
      · subst hbz
        have hbe := getsS_begins hg
        rcases h with ⟨hx, rfl⟩ | ⟨hn, _⟩
        · obtain ⟨a', hg'⟩ := begins_getsS hx
          obtain ⟨rfl, rfl, _⟩ := getsS_uniq hg hg'
          refine ⟨true, #[.int .i64 (i' : Int), .int .i64 (j' : Int), .slice none 0 0], rfl, fun _ => ⟨rfl, rfl⟩, fun x => (by cases x), ?_⟩
          exact (sw_gets (B := w.heap.size) hs W hg true (by simp) (by omega) h1).mono fun en w' ⟨e1, b1, k1, c1⟩ => ⟨e1, hb.trans b1, k1 _ _ h0 (by omega), fun _ => c1⟩
        · exact absurd hbe (hn _ _)
      · have hn : ∀ x y, ¬ Begins t x y := fun x y hb' => by
          obtain ⟨a', hg'⟩ := begins_getsS hb'
          exact hbz (getsS_uniq hg hg').2.2
        obtain ⟨rfl, rfl, rfl⟩ := st_none h hn
        refine ⟨false, #[.int .i64 0, .int .i64 0, .slice none 0 0], rfl, fun x => (by cases x), fun _ => ⟨rfl, rfl, rfl⟩, ?_⟩
        exact (sw_gets (B := w.heap.size) hs W hg false (by simp; omega) (by omega) h1).mono fun en w' ⟨e1, b1, k1, c1⟩ => ⟨e1, hb.trans b1, k1 _ _ h0 (by omega), fun x => (by cases x)⟩
  obtain ⟨R2, A, hA, y1, y2, hc⟩ := HWR.out
  have HC : Hid (Calls Tryz.prog 59 #[.string t, .func (.func 60) #[] #[.pointer (some ⟨q + 1, 0, none⟩)]] W fun en w' => en = .returned (.bool R2) ∧ Below w.heap.size w w' ∧ w'.heap[q]? = some (.cells #[.int .i64 0, .int .i64 0, .slice none 0 0] 26 (0, 0)) ∧ (R2 = true → w'.heap[q + 1]? = some (.cells A 26 (0, 0)))) := hc
  clear hc HWR h hb h0 h1
  go_enter Tryz.func25, Tryz.ntmps25
  go_wp2_with fail
  rw [← hW, ← hq]
  clear hW hq
  refine Calls.mono HC.out ?_
  rintro en w2 ⟨rfl, hb2, z2, a2⟩
  have HB2 : Hid (Below w.heap.size w w2) := hb2
  have HZ2 : Hid (w2.heap[q]? = some (.cells #[.int .i64 0, .int .i64 0, .slice none 0 0] 26 (0, 0))) := z2
  cases R2 with
  | false =>
    obtain ⟨rfl, rfl, rfl⟩ := y2 rfl
    clear a2 y1 y2 hb2 z2 HC
    go_wp2_with (first | (refine wpList_storeA Tryz.sizeOf26 rfl _ _ rfl q #[.int .i64 0, .int .i64 0, .slice none 0 0] #[.int .i64 0, .int .i64 0, .slice none 0 0] 26 rfl rfl HZ2.out rfl rfl (log_one _ _ _ _ _) ?_) | fail)
    exact bodyPost_ret (result61 HZ2.out rfl rfl rfl) rfl ⟨rfl, below_setRow HB2.out (by have := HQS.out; omega) _⟩
  | true =>
    obtain ⟨rfl, rfl⟩ := y1 rfl
    have HA2 : Hid (w2.heap[q + 1]? = some (.cells #[.int .i64 (i : Int), .int .i64 (j : Int), .slice none 0 0] 26 (0, 0))) := a2 rfl
    clear a2 y1 y2 hb2 z2 HC
    go_wp2_with (first | (refine wpList_loadA Tryz.isAgg26 Tryz.sizeOf26 rfl _ rfl (q + 1) #[.int .i64 (i : Int), .int .i64 (j : Int), .slice none 0 0] 26 rfl HA2.out rfl ?_) | (refine wpList_storeA Tryz.sizeOf26 rfl _ _ rfl q #[.int .i64 (i : Int), .int .i64 (j : Int), .slice none 0 0] #[.int .i64 0, .int .i64 0, .slice none 0 0] 26 rfl rfl HZ2.out rfl rfl (log_one _ _ _ _ _) ?_) | fail)
    exact bodyPost_ret (result61 HZ2.out rfl rfl rfl) rfl ⟨rfl, below_setRow HB2.out (by have := HQS.out; omega) _⟩
end Go.Proofs.YtahpoemmlpbgdaaGreat
