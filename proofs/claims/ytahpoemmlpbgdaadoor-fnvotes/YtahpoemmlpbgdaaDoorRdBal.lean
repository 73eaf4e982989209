/- The program's reader at a vote: ballot, its closure, readWhole over it, readBallot, walked. -/
import Derived.Test.YtahpoemmlpbgdaaDoorVoteB
import Derived.Test.YtahpoemmlpbgdaaDoorCurA
import Derived.Test.YtahpoemmlpbgdaaDoorUnA
namespace Go.Proofs.YtahpoemmlpbgdaaDoor
open Go.RowKit
open Batches (by_ by_inj cut cut_app cut_all rd_cut rd_at)
set_option linter.unusedVariables false
set_option linter.unusedSimpArgs false

/-- What is read of two numbers, by its places; where its reading ends. -/
structure GetsV (u : ByteArray) (i j a b : Nat) : Prop where
  r1 : Words.rd (by_ u) 0 = some (i, a)
  r2 : Words.rd (by_ u) a = some (j, b)
def TornV (u : ByteArray) : Prop := Words.rd (by_ u) 0 = none ∨ (∃ i a, Words.rd (by_ u) 0 = some (i, a) ∧ Words.rd (by_ u) a = none)
theorem tornV_or (u : ByteArray) : TornV u ∨ ∃ i j a b, GetsV u i j a b := by
  unfold TornV
  cases h1 : Words.rd (by_ u) 0 with
  | none => exact Or.inl (Or.inl rfl)
  | some p =>
    obtain ⟨i, a⟩ := p
    cases h2 : Words.rd (by_ u) a with
    | none => exact Or.inl (Or.inr ⟨i, a, rfl, h2⟩)
    | some q =>
      obtain ⟨j, b⟩ := q
      exact Or.inr ⟨i, j, a, b, h1, h2⟩
/-- The vote that a record is; -1 and 0 where it is none. -/
def balT (u : ByteArray) : Int := match Words.rd (by_ u) 0 with
  | none => -1
  | some (i, a) => match Words.rd (by_ u) a with
    | none => -1
    | some (j, b) => if b = u.size then btT i j else -1
def balN (u : ByteArray) : Int := match Words.rd (by_ u) 0 with
  | none => 0
  | some (i, a) => match Words.rd (by_ u) a with
    | none => 0
    | some (j, b) => if b = u.size then btN i j else 0
theorem bal_torn {u : ByteArray} (h : TornV u) : balT u = -1 ∧ balN u = 0 := by
  rcases h with h | ⟨i, a, h, h'⟩
  · simp [balT, balN, h]
  · simp [balT, balN, h, h']
theorem bal_gets {u : ByteArray} {i j a b : Nat} (h : GetsV u i j a b) : balT u = (if b = u.size then btT i j else -1) ∧ balN u = (if b = u.size then btN i j else 0) := by
  simp [balT, balN, h.r1, h.r2]
set_option maxHeartbeats 2000000 in
set_option maxRecDepth 100000 in
theorem ballot_torn {rb : Nat} {t : ByteArray} (hs : t.size ≤ 1048576) (w : World) (hr : Rd w rb t 0) (h : TornV t) :
    Calls Tryd.prog 40 #[.pointer (some ⟨rb, 0, none⟩)] w fun en w' => en = .panicked thrown ∧ w.grownBy w' (some rb) := by
  have HR : Hid (Rd (w.alloc (Obj.cells #[.int .i64 0, .int .i64 0] 36)) rb t 0) := hr.below ((Below.refl _ _).alloc (Nat.le_refl _) _)
  have HG : Hid (w.grownBy (w.alloc (Obj.cells #[.int .i64 0, .int .i64 0] 36)) (some rb)) := grown_alloc _ _
  clear hr
  rcases h with h1 | ⟨i, a, h1, h2⟩
  · have H1 : Hid (Words.rd t.data.toList 0 = none) := h1
    clear h1
    go_enter Tryd.func40, Tryd.ntmps40
    go_wp2_with fail
    refine (number_none hs _ HR.out H1.out).mono ?_
    rintro e w1 ⟨rfl, hg1⟩
    exact ⟨rfl, rfl, HG.out.trans hg1⟩
  · have H1 : Hid (Words.rd t.data.toList 0 = some (i, a)) := h1
    have H2 : Hid (Words.rd t.data.toList a = none) := h2
    clear h1 h2
    go_enter Tryd.func40, Tryd.ntmps40
    go_wp2_with fail
    refine (number_some hs _ HR.out H1.out).mono ?_
    rintro e w1 ⟨rfl, hr1, hg1⟩
    have HR1 : Hid (Rd w1 rb t a) := hr1
    have HG1 : Hid (w.grownBy w1 (some rb)) := HG.out.trans hg1
    clear hr1 hg1 HR HG
    go_wp2_with fail
    refine (number_none hs _ HR1.out H2.out).mono ?_
    rintro e w3 ⟨rfl, hg3⟩
    exact ⟨rfl, rfl, HG1.out.trans hg3⟩
set_option maxHeartbeats 4000000 in
set_option maxRecDepth 100000 in
theorem ballot_gets {rb : Nat} {t : ByteArray} {i j a b : Nat} (hs : t.size ≤ 1048576) (w : World) (hr : Rd w rb t 0) (hg : GetsV t i j a b) (hN : NoB w) (hrb : 0 < rb) :
    Calls Tryd.prog 40 #[.pointer (some ⟨rb, 0, none⟩)] w fun en w' => en = .returned (.agg #[.int .i64 (btT i j), .int .i64 (btN i j)]) ∧ Rd w' rb t b ∧ w.grownBy w' (some rb) := by
  have hlt := hr.lt
  have HR : Hid (Rd (w.alloc (Obj.cells #[.int .i64 0, .int .i64 0] 36)) rb t 0) := hr.below ((Below.refl _ _).alloc (Nat.le_refl _) _)
  have HZ : Hid ((w.alloc (Obj.cells #[.int .i64 0, .int .i64 0] 36)).heap[w.heap.size]? = some (.cells #[.int .i64 0, .int .i64 0] 36 (0, 0))) := heap_alloc_new w _
  have HG : Hid (w.grownBy (w.alloc (Obj.cells #[.int .i64 0, .int .i64 0] 36)) (some rb)) := grown_alloc _ _
  have H1 : Hid (Words.rd t.data.toList 0 = some (i, a)) := hg.r1
  have H2 : Hid (Words.rd t.data.toList a = some (j, b)) := hg.r2
  have HN : Hid (NoB w) := hN
  obtain ⟨X, hX⟩ : ∃ X, X = btT i j := ⟨_, rfl⟩
  obtain ⟨Y, hY⟩ : ∃ Y, Y = btN i j := ⟨_, rfl⟩
  have HC : Hid (∀ W, NoB W → Calls Tryd.prog 15 #[.int .i64 (i : Int), .int .i64 (j : Int)] W fun en w' => en = .returned (.agg #[.int .i64 X, .int .i64 Y]) ∧ Below W.heap.size W w') := fun W h => by rw [hX, hY]; exact ballotOf_is i j W h
  rw [← hX, ← hY]
  clear hr hg hN hX hY
  go_enter Tryd.func40, Tryd.ntmps40
  go_wp2_with fail
  refine (number_some hs _ HR.out H1.out).mono ?_
  rintro e w1 ⟨rfl, hr1, hg1⟩
  have HR1 : Hid (Rd w1 rb t a) := hr1
  have HG1 : Hid (w.grownBy w1 (some rb)) := HG.out.trans hg1
  have HZ1 : Hid (_ = _) := grown_keep HZ.out hg1 (by omega)
  clear hr1 hg1 HR HG HZ
  go_wp2_with fail
  refine (number_some hs _ HR1.out H2.out).mono ?_
  rintro e w3 ⟨rfl, hr3, hg3⟩
  have HR3 : Hid (Rd w3 rb t b) := hr3
  have HG3 : Hid (w.grownBy w3 (some rb)) := HG1.out.trans hg3
  have HZ3 : Hid (_ = _) := grown_keep HZ1.out hg3 (by omega)
  clear hr3 hg3 HZ1 HR1 HG1
  go_wp2_with fail
  refine Calls.mono (HC.out w3 (HN.out.grown HG3.out hrb)) ?_
  rintro e w4 ⟨rfl, hb4⟩
  have HR4 : Hid (Rd w4 rb t b) := HR3.out.below hb4
  have HG4 : Hid (w.grownBy w4 (some rb)) := grown_below HG3.out hb4
  have hn4 := blk_kept HZ3.out hb4
  have HZ4 : Hid (w4.heap[w.heap.size]? = some (.cells #[.int .i64 0, .int .i64 0] 36 (0, 0))) := hn4
  have c0 := cell_of_row _ _ 0 _ _ _ hn4
  have c1 := cell_of_row _ _ 1 _ _ _ hn4
  have f0 := frozen_of_row _ _ 0 _ _ hn4
  have f1 := frozen_of_row _ _ 1 _ _ hn4
  simp at c0 c1
  clear hb4 HZ3 HR3 HG3 hn4
  go_wp2
  obtain ⟨l0, l1⟩ := two_cell HZ4.out (.int .i64 X) (.int .i64 Y)
  exact bodyPost_ret (v := .agg #[.int .i64 X, .int .i64 Y]) (by simp [results, Tryd.results40, go_sem, l0, l1]) rfl ⟨rfl, (HR4.out.setNew (k := w.heap.size) (by omega) 0 _).setNew (k := w.heap.size) (by omega) 1 _, grown_new (grown_new HG4.out (Nat.le_refl _) _ _) (Nat.le_refl _) _ _⟩
set_option maxHeartbeats 400000 in
theorem sl_torn {rb EB : Nat} {t : ByteArray} (hs : t.size ≤ 1048576) (w : World) (hr : Rd w rb t 0) (h : TornV t) :
    Calls Tryd.prog 39 #[.pointer (some ⟨rb, 0, none⟩), .pointer (some ⟨EB, 0, none⟩)] w fun en w' => en = .panicked thrown ∧ w.grownBy w' (some rb) := by
  have HR : Hid (Rd w rb t 0) := hr
  have HF : Hid (TornV t) := h
  clear hr h
  go_enter Tryd.func39, Tryd.ntmps39
  go_wp2_with (go_at_call 40; refine (ballot_torn hs _ HR.out HF.out).mono ?_; rintro e w1 ⟨rfl, hg1⟩)
  exact ⟨rfl, rfl, hg1⟩
/-- What the closure leaves. -/
def SLPost (w : World) (rb EB : Nat) (t : ByteArray) (X Y : Int) (b : Nat) (en : Ending) (w' : World) : Prop :=
  en = .returned (.tuple #[]) ∧ ∃ w1, w.grownBy w1 (some rb) ∧ w1.grownBy w' (some EB) ∧ Rd w' rb t b ∧ w'.heap[EB]? = some (.cells #[.int .i64 X, .int .i64 Y] 36 (0, 0))
set_option maxHeartbeats 1000000 in
set_option maxRecDepth 100000 in
theorem sl_gets {rb EB : Nat} {t : ByteArray} {i j a b : Nat} {x y : Int} (hs : t.size ≤ 1048576) (w : World) (hr : Rd w rb t 0) (hg : GetsV t i j a b) (hN : NoB w) (hrb : 0 < rb)
    (h2 : rb ≠ EB) (hE : w.heap[EB]? = some (.cells #[.int .i64 x, .int .i64 y] 36 (0, 0))) :
    Calls Tryd.prog 39 #[.pointer (some ⟨rb, 0, none⟩), .pointer (some ⟨EB, 0, none⟩)] w (SLPost w rb EB t (btT i j) (btN i j) b) := by
  have HE : Hid (w.heap[EB]? = some (.cells #[.int .i64 x, .int .i64 y] 36 (0, 0))) := hE
  obtain ⟨X, hX⟩ : ∃ X, X = btT i j := ⟨_, rfl⟩
  obtain ⟨Y, hY⟩ : ∃ Y, Y = btN i j := ⟨_, rfl⟩
  have HQ : Hid (Calls Tryd.prog 40 #[.pointer (some ⟨rb, 0, none⟩)] w fun en w' => en = .returned (.agg #[.int .i64 X, .int .i64 Y]) ∧ Rd w' rb t b ∧ w.grownBy w' (some rb)) := by rw [hX, hY]; exact ballot_gets hs w hr hg hN hrb
  rw [← hX, ← hY]
  clear hr hg hE hX hY hN
  go_enter Tryd.func39, Tryd.ntmps39
  go_wp2_with fail
  refine Calls.mono HQ.out ?_
  rintro en w1 ⟨rfl, hr1, hg1⟩
  have he1 := grown_keep HE.out hg1 h2.symm
  have HE1 : Hid (w1.heap[EB]? = some (.cells #[.int .i64 x, .int .i64 y] 36 (0, 0))) := he1
  have HR1 : Hid (Rd w1 rb t b) := hr1
  have HG1 : Hid (w.grownBy w1 (some rb)) := hg1
  have d0 := cell_of_row _ _ 0 _ _ _ he1
  have d1 := cell_of_row _ _ 1 _ _ _ he1
  have df0 := frozen_of_row _ _ 0 _ _ he1
  have df1 := frozen_of_row _ _ 1 _ _ he1
  simp at d0 d1
  clear hr1 hg1 he1 HQ HE
  go_wp2
  go_end0
  exact ⟨rfl, w1, HG1.out, (grown_set _ EB 0 _).trans (grown_set _ EB 1 _), (HR1.out.setNew h2 0 _).setNew h2 1 _, two_set HE1.out _ _⟩
set_option maxHeartbeats 400000 in
set_option maxRecDepth 100000 in
theorem sw_torn {EB : Nat} {t : ByteArray} (hs : t.size ≤ 1048576) (w : World) (hI : EB < w.heap.size) (h : TornV t) :
    Calls Tryd.prog 38 #[.string t, .func (.func 39) #[] #[.pointer (some ⟨EB, 0, none⟩)]] w fun en w' => en = .returned (.bool false) ∧ w.grownBy w' (some EB) := by
  have hmf : ∀ (fn : Fn) (first cap : Array Value) (w : World), (Instr.makeFunc fn first cap).run Tryd.prog w = .ok (.func fn first cap) w := fun _ _ _ _ => rfl
  have HH : Hid (TornV t) := h
  clear h
  obtain ⟨W, hW, hr, hwh, hg, hz⟩ := whole_start t w EB
  have HR : Hid (Rd W (w.heap.size + 1) t 0) := hr
  have HW : Hid (_ = _) := hwh
  have HG : Hid (w.grownBy W (some EB)) := hg
  clear hr hwh hg
  go_enter_defers Tryd.func38, Tryd.ntmps38
  go_wp2_with fail
  rw [← hW]
  refine (sl_torn hs W HR.out HH.out).mono ?_
  rintro en w1 ⟨rfl, hg1⟩
  have hw1 := grown_keep HW.out hg1 (by omega)
  have hg2 : w.grownBy w1 (some EB) := HG.out.andThen hg1 (fun r e => Or.inl (by cases e; omega))
  have c0 := cell_of_row _ _ 0 _ _ _ hw1
  have f0 := frozen_of_row _ _ 0 _ _ hw1
  simp at c0
  refine leaves_cons (f := 46) (args := #[.pointer (some ⟨w.heap.size, 0, none⟩)]) (by simp) (by simp [go_sem]) ?_
  refine (catch_panicking ⟨w.heap.size, 0, none⟩ false 85 (.agg #[]) [] w1 c0 f0).mono ?_
  rintro e u' w'' ⟨rfl, rfl, rfl⟩
  have c1 : (w1.setCell ⟨w.heap.size, 0, none⟩ (.bool false)).cell? ⟨w.heap.size, 0, none⟩ = some (.bool false) := World.cell?_setCell_same _ _ _ c0
  simp [Leaves, settle, results, Tryd.results38, go_sem, c1]
  exact grown_new hg2 (Nat.le_refl _) _ _
/-- What readWhole leaves where the reading came to an end. -/
def SWPost (w : World) (B EB : Nat) (X Y : Int) (R : Bool) (en : Ending) (w' : World) : Prop :=
  en = .returned (.bool R) ∧ Below B w w' ∧ (∀ q o, w.heap[q]? = some o → q ≠ EB → w'.heap[q]? = some o) ∧ w'.heap[EB]? = some (.cells #[.int .i64 X, .int .i64 Y] 36 (0, 0))
set_option maxHeartbeats 1000000 in
set_option maxRecDepth 100000 in
theorem sw_gets {B EB : Nat} {t : ByteArray} {i j a b : Nat} {x y : Int} (hs : t.size ≤ 1048576) (w : World) (hg : GetsV t i j a b) (hN : NoB w) (R : Bool) (hR : R = ((b : Int) == (t.size : Int)))
    (hB2 : B ≤ EB) (hE : w.heap[EB]? = some (.cells #[.int .i64 x, .int .i64 y] 36 (0, 0))) :
    Calls Tryd.prog 38 #[.string t, .func (.func 39) #[] #[.pointer (some ⟨EB, 0, none⟩)]] w (SWPost w B EB (btT i j) (btN i j) R) := by
  have hmf : ∀ (fn : Fn) (first cap : Array Value) (w : World), (Instr.makeFunc fn first cap).run Tryd.prog w = .ok (.func fn first cap) w := fun _ _ _ _ => rfl
  have hEl : EB < w.heap.size := (Array.getElem?_eq_some_iff.1 hE).1
  obtain ⟨W, hW, hr, hwh, hgg, hz⟩ := whole_start t w EB
  have hbW : Below w.heap.size w W := by rw [hW]; exact ((Below.refl _ _).alloc (Nat.le_refl _) _).alloc (by simp) _
  have HBW : Hid (Below w.heap.size w W) := hbW
  obtain ⟨X, hX⟩ : ∃ X, X = btT i j := ⟨_, rfl⟩
  obtain ⟨Y, hY⟩ : ∃ Y, Y = btN i j := ⟨_, rfl⟩
  have HQ : Hid (Calls Tryd.prog 39 #[.pointer (some ⟨w.heap.size + 1, 0, none⟩), .pointer (some ⟨EB, 0, none⟩)] W (SLPost W (w.heap.size + 1) EB t X Y b)) := by
    rw [hX, hY]
    exact sl_gets hs W hr hg (hN.up hbW) (by omega) (by omega) ((hbW.block _ hEl).trans hE)
  rw [← hX, ← hY]
  have HW : Hid (W.heap[w.heap.size]? = some (.cells #[.bool false] 4 (0, 0))) := hwh
  have hRR : ((b : Int) == (t.size : Int)) = R := hR.symm
  clear hr hwh hgg hg hE hbW hR hX hY hN
  go_enter_defers Tryd.func38, Tryd.ntmps38
  go_wp2_with fail
  rw [← hW]
  refine Calls.mono HQ.out ?_
  rintro en w3 ⟨rfl, w1, hg1, hg3, hr3, he3⟩
  have hw3 := grown_keep (grown_keep HW.out hg1 (by omega)) hg3 (by omega)
  have HW3 : Hid (w3.heap[w.heap.size]? = some (.cells #[.bool false] 4 (0, 0))) := hw3
  have HK3 : Hid (∀ q o, w.heap[q]? = some o → q ≠ EB → w3.heap[q]? = some o) := fun q o hq n2 => by
    have hl : q < w.heap.size := (Array.getElem?_eq_some_iff.1 hq).1
    exact grown_keep (grown_keep ((HBW.out.block _ hl).trans hq) hg1 (by omega)) hg3 n2
  have HB3 : Hid (Below B w w3) := by
    have b0 : Below B w W := HBW.out.mono (by omega)
    have b1 : Below B w w1 := b0.grown hg1 (by omega) (fun k e => by cases e; omega)
    exact b1.grown hg3 (by have := b1.size; omega) (fun k e => by cases e; omega)
  have HE3 : Hid (_ = _) := he3
  have c0 := cell_of_row _ _ 0 _ _ _ hw3
  have f0 := frozen_of_row _ _ 0 _ _ hw3
  have q0 := hr3.c0
  have q1 := hr3.c1
  simp at c0
  clear hw3 hg1 hg3 he3 hr3 hW HW HBW HQ
  go_wp2
  refine leaves_cons (f := 46) (args := #[.pointer (some ⟨w.heap.size, 0, none⟩)]) (by simp) (by simp [go_sem]) ?_
  refine (catch_idle ⟨w.heap.size, 0, none⟩ _).mono ?_
  rintro e u' w'' ⟨rfl, rfl, rfl⟩
  have c1 : (w3.setCell ⟨w.heap.size, 0, none⟩ (.bool R)).cell? ⟨w.heap.size, 0, none⟩ = some (.bool R) := World.cell?_setCell_same _ _ _ c0
  simp [Leaves, settle, results, Tryd.results38, go_sem, c1]
  refine ⟨rfl, HB3.out.setCell (by show B ≤ w.heap.size; omega) _, fun q o hq n2 => set_far (HK3.out q o hq n2) (by have := (Array.getElem?_eq_some_iff.1 hq).1; omega) _ _, set_far HE3.out (by omega) _ _⟩
theorem rs_start (w : World) : ∃ W, W = (w.alloc (Obj.cells #[.int .i64 0, .int .i64 0] 36)).alloc (Obj.cells #[.int .i64 (-1), .int .i64 0] 36) ∧ Below w.heap.size w W ∧ W.heap[w.heap.size]? = some (.cells #[.int .i64 0, .int .i64 0] 36 (0, 0)) ∧ W.heap[w.heap.size + 1]? = some (.cells #[.int .i64 (-1), .int .i64 0] 36 (0, 0)) := by
  refine ⟨_, rfl, ((Below.refl _ _).alloc (Nat.le_refl _) _).alloc (by simp) _, ?_, ?_⟩
  · rw [Below.heap_alloc _ _ _ (by simp)]
    exact heap_alloc_new w _
  · have := heap_alloc_new (w.alloc (Obj.cells #[.int .i64 0, .int .i64 0] 36)) (Obj.cells #[.int .i64 (-1), .int .i64 0] 36)
    simpa using this
set_option maxHeartbeats 2000000 in
set_option maxRecDepth 100000 in
theorem readBallot_is {t : ByteArray} (hs : t.size ≤ 1048576) (w : World) (hN : NoB w) :
    Calls Tryd.prog 21 #[.string t] w fun en w' => en = .returned (.agg #[.int .i64 (balT t), .int .i64 (balN t)]) ∧ Below w.heap.size w w' := by
  have hmf : ∀ (fn : Fn) (first cap : Array Value) (w : World), (Instr.makeFunc fn first cap).run Tryd.prog w = .ok (.func fn first cap) w := fun _ _ _ _ => rfl
  obtain ⟨W, hW, hb, h0, h1⟩ := rs_start w
  obtain ⟨q, hq⟩ : ∃ q, q = w.heap.size := ⟨_, rfl⟩
  have HQS : Hid (q = w.heap.size) := hq
  obtain ⟨X, hX⟩ : ∃ X, X = balT t := ⟨_, rfl⟩
  obtain ⟨Y, hY⟩ : ∃ Y, Y = balN t := ⟨_, rfl⟩
  have HWR : Hid (∃ (R2 : Bool), (R2 = false → X = -1 ∧ Y = 0) ∧ Calls Tryd.prog 38 #[.string t, .func (.func 39) #[] #[.pointer (some ⟨q + 1, 0, none⟩)]] W fun en w' => en = .returned (.bool R2) ∧ Below w.heap.size w w' ∧ w'.heap[q]? = some (.cells #[.int .i64 0, .int .i64 0] 36 (0, 0)) ∧ (R2 = true → w'.heap[q + 1]? = some (.cells #[.int .i64 X, .int .i64 Y] 36 (0, 0)))) := by
    rw [hq, hX, hY]
    rcases tornV_or t with ht | ⟨i', j', a, b, hg⟩
    · obtain ⟨e1, e2⟩ := bal_torn ht
      refine ⟨false, fun _ => ⟨e1, e2⟩, ?_⟩
      refine (sw_torn hs W (Array.getElem?_eq_some_iff.1 h1).1 ht).mono fun en w' ⟨e1, hg⟩ => ⟨e1, hb.grown hg hb.size (fun k e => by cases e; omega), grown_keep h0 hg (by omega), fun x => (by cases x)⟩
    · obtain ⟨e1, e2⟩ := bal_gets hg
      by_cases hbz : b = t.size
      · rw [if_pos hbz] at e1 e2
        refine ⟨true, fun x => (by cases x), ?_⟩
        rw [e1, e2]
        exact (sw_gets (B := w.heap.size) hs W hg (hN.up hb) true (by simp; omega) (by omega) h1).mono fun en w' ⟨e1, b1, k1, c1⟩ => ⟨e1, hb.trans b1, k1 _ _ h0 (by omega), fun _ => c1⟩
      · rw [if_neg hbz] at e1 e2
        refine ⟨false, fun _ => ⟨e1, e2⟩, ?_⟩
        exact (sw_gets (B := w.heap.size) hs W hg (hN.up hb) false (by simp; omega) (by omega) h1).mono fun en w' ⟨e1, b1, k1, c1⟩ => ⟨e1, hb.trans b1, k1 _ _ h0 (by omega), fun x => (by cases x)⟩
  obtain ⟨R2, y2, hc⟩ := HWR.out
  have HC : Hid (Calls Tryd.prog 38 #[.string t, .func (.func 39) #[] #[.pointer (some ⟨q + 1, 0, none⟩)]] W fun en w' => en = .returned (.bool R2) ∧ Below w.heap.size w w' ∧ w'.heap[q]? = some (.cells #[.int .i64 0, .int .i64 0] 36 (0, 0)) ∧ (R2 = true → w'.heap[q + 1]? = some (.cells #[.int .i64 X, .int .i64 Y] 36 (0, 0)))) := hc
  rw [← hX, ← hY]
  have HN : Hid (NoB w) := hN
  have hz := hN.2.2
  obtain ⟨n0, n1, n2⟩ := hN.alloc (Obj.cells #[.int .i64 0, .int .i64 0] 36)
  clear hc HWR h0 h1 hX hY hN hb
  go_enter Tryd.func21, Tryd.ntmps21
  go_wp2_with fail
  rw [← hW, ← hq]
  clear hW hq n0 n1 n2
  refine Calls.mono HC.out ?_
  rintro en w2 ⟨rfl, hb2, z2, a2⟩
  have HB2 : Hid (Below w.heap.size w w2) := hb2
  have HZ2 : Hid (w2.heap[q]? = some (.cells #[.int .i64 0, .int .i64 0] 36 (0, 0))) := z2
  have HQ0 : Hid (w.heap.size ≤ q) := by show _ ≤ _; rw [HQS.out]; exact Nat.le_refl _
  obtain ⟨p0, p1⟩ := two_at z2
  have pf0 := frozen_of_row _ _ 0 _ _ z2
  have pf1 := frozen_of_row _ _ 1 _ _ z2
  cases R2 with
  | false =>
    obtain ⟨rfl, rfl⟩ := y2 rfl
    obtain ⟨m0, m1, m2⟩ := HN.out.up hb2
    clear a2 y2 hb2 z2 HC
    go_wp2
    obtain ⟨l0, l1⟩ := two_cell HZ2.out (.int .i64 (-1)) (.int .i64 0)
    exact bodyPost_ret (v := .agg #[.int .i64 (-1), .int .i64 0]) (by simp [results, Tryd.results21, go_sem, l0, l1]) rfl ⟨rfl, (HB2.out.setCell (p := ⟨q, 0, none⟩) HQ0.out _).setCell (p := ⟨q, 1, none⟩) HQ0.out _⟩
  | true =>
    obtain ⟨m0, m1⟩ := two_at (a2 rfl)
    clear a2 y2 hb2 z2 HC
    go_wp2
    obtain ⟨l0, l1⟩ := two_cell HZ2.out (.int .i64 X) (.int .i64 Y)
    exact bodyPost_ret (v := .agg #[.int .i64 X, .int .i64 Y]) (by simp [results, Tryd.results21, go_sem, l0, l1]) rfl ⟨rfl, (HB2.out.setCell (p := ⟨q, 0, none⟩) HQ0.out _).setCell (p := ⟨q, 1, none⟩) HQ0.out _⟩
end Go.Proofs.YtahpoemmlpbgdaaDoor
