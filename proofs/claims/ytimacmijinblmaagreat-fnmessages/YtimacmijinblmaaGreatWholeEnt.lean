/- The calls of the closure that reads a manifest and of readWhole, walked: the deferred closure that recovers. The closure that reads an entry and readWhole over it, walked. -/
import Derived.Test.YtimacmijinblmaaGreatRdCont
import Derived.Defers
import Derived.Recover
import Derived.Test.YtimacmijinblmaaGreatRdEnt
namespace Go.Proofs.YtimacmijinblmaaGreat
open Go.RowKit
set_option linter.unusedVariables false

theorem catch_panicking (p : Addr) (x : Bool) (u : TypeId) (pv : Value) (older : List PanicEntry) (w : World) (hc : w.cell? p = some (.bool x)) (hz : w.frozen? p = false) :
    CallsD Tryz.prog 47 #[.pointer (some p)] (.panicking ({ v := .iface u pv, recovered := false } :: older)) w fun e u' w' =>
      e = .returned (.tuple #[]) ∧ u' = .panicking ({ v := .iface u pv, recovered := true } :: older) ∧ w' = w.setCell p (.bool false) := by
  refine callsD_of_wpS Tryz.func47 rfl fun c₀ cs hu => ?_
  apply wpS_seq
  apply wpS_region
  simp [wpOpsS, go_sem, recoverD, hu, Tryz.ntmps47, Exit.thenS]
  refine wpS_cond (t := true) (by simp [Act.eval, Array.replicate]) ?_
  simp only [if_true]
  apply wpS_region
  simp [wpOpsS, go_sem, hc, hz, bodyPostS, results, Tryz.results47]

theorem catch_idle (p : Addr) (w : World) :
    CallsD Tryz.prog 47 #[.pointer (some p)] .returning w fun e u' w' => e = .returned (.tuple #[]) ∧ u' = .returning ∧ w' = w := by
  refine callsD_of_wpS Tryz.func47 rfl fun c₀ cs hu => ?_
  apply wpS_seq
  apply wpS_region
  simp [wpOpsS, go_sem, recoverD, hu, Tryz.ntmps47, Exit.thenS]
  refine wpS_cond (t := false) (by simp [Act.eval, Array.replicate]) ?_
  simp only [Bool.false_eq_true, if_false]
  refine wpS_of_wp (wp_skip ?_)
  cases c₀
  simp_all [bodyPostS, results, Tryz.results47]

/-- What readWhole lays ahead of the reading: the named result, the reader. -/
theorem whole_start (t : ByteArray) (w : World) (B0 : Nat) : ∃ W, W = ((w.alloc (Obj.cells #[Value.bool false] 4)).alloc (Obj.cells #[Value.string t, Value.int IntKind.i64 0] 76)) ∧ Rd W (w.heap.size + 1) t 0 ∧ W.heap[w.heap.size]? = some (.cells #[.bool false] 4 (0, 0)) ∧ w.grownBy W (some B0) ∧ w.heap.size + 2 ≤ W.heap.size := by
  refine ⟨_, rfl, ⟨?_, Nat.zero_le _⟩, ?_, (grown_alloc _ _).trans (grown_alloc _ _), by simp⟩
  · have := heap_alloc_new (w.alloc (Obj.cells #[Value.bool false] 4)) (Obj.cells #[Value.string t, Value.int IntKind.i64 0] 76)
    simpa using this
  · rw [Below.heap_alloc _ _ _ (by simp)]
    exact heap_alloc_new w _
end Go.Proofs.YtimacmijinblmaaGreat
namespace Go.Proofs.YtimacmijinblmaaGreat
open Go.RowKit
open Ents (okB kindB rest ent Gets Torn)
set_option linter.unusedVariables false
set_option linter.unusedSimpArgs false

set_option maxHeartbeats 400000 in
theorem lit_fails {rb IB EB : Nat} {t : ByteArray} (hs : t.size ≤ 1048576) (w : World) (hr : Rd w rb t 0) (h : Fails t) :
    Calls Tryz.prog 120 #[.pointer (some ⟨rb, 0, none⟩), .pointer (some ⟨IB, 0, none⟩), .pointer (some ⟨EB, 0, none⟩)] w fun en w' => en = .panicked thrown ∧ w.grownBy w' (some rb) := by
  have HR : Hid (Rd w rb t 0) := hr
  have HF : Hid (Fails t) := h
  clear hr h
  go_enter Tryz.func120, Tryz.ntmps120
  go_wp2_with (go_at_call 121; refine (entry_fails hs _ HR.out HF.out).mono ?_; rintro e w1 ⟨rfl, hg1⟩)
  exact ⟨rfl, rfl, hg1⟩
/-- What the closure leaves. -/
def LitPost (w : World) (rb IB EB : Nat) (t : ByteArray) (i : Nat) (E : EntL) (en : Ending) (w' : World) : Prop :=
  en = .returned (.tuple #[]) ∧ ∃ w1 w2, w.grownBy w1 (some rb) ∧ w1.grownBy w2 (some IB) ∧ w2.grownBy w' (some EB) ∧ Rd w' rb t t.size ∧
    w'.heap[IB]? = some (.cells #[.int .i64 (i : Int)] 3 (0, 0)) ∧ w'.heap[EB]? = some (.cells #[.int .i64 E.term, .int .i64 E.kind, .string E.data] 44 (0, 0))
set_option maxHeartbeats 1000000 in
set_option maxRecDepth 100000 in
theorem lit_gets {rb IB EB : Nat} {t : ByteArray} {i j : Nat} {k : UInt8} {a b : Nat} (hs : t.size ≤ 1048576) (w : World) (hr : Rd w rb t 0) (hg : Gets t i j k a b) (hk : kindB (ent t j k b) = true)
    (h1 : rb ≠ IB) (h2 : rb ≠ EB) (h3 : IB ≠ EB) (hI : w.heap[IB]? = some (.cells #[.int .i64 0] 3 (0, 0))) (hE : w.heap[EB]? = some (.cells #[.int .i64 0, .int .i64 0, .string ⟨#[]⟩] 44 (0, 0))) :
    Calls Tryz.prog 120 #[.pointer (some ⟨rb, 0, none⟩), .pointer (some ⟨IB, 0, none⟩), .pointer (some ⟨EB, 0, none⟩)] w (LitPost w rb IB EB t i (ent t j k b)) := by
  have HR : Hid (Rd w rb t 0) := hr
  have HGE : Hid (Gets t i j k a b) := hg
  have HK : Hid (kindB (ent t j k b) = true) := hk
  have HI : Hid (w.heap[IB]? = some (.cells #[.int .i64 0] 3 (0, 0))) := hI
  have HE : Hid (w.heap[EB]? = some (.cells #[.int .i64 0, .int .i64 0, .string ⟨#[]⟩] 44 (0, 0))) := hE
  have HQ : Hid (Calls Tryz.prog 121 #[.pointer (some ⟨rb, 0, none⟩)] w fun en w' => en = .returned (.tuple #[.int .i64 (i : Int), entV (ent t j k b)]) ∧ Rd w' rb t t.size ∧ w.grownBy w' (some rb)) := entry_gets hs w hr hg hk
  obtain ⟨E, he⟩ : ∃ E, E = ent t j k b := ⟨_, rfl⟩
  rw [← he] at HQ ⊢
  unfold entV at HQ
  clear hr hg hk hI hE he HGE HK
  go_enter Tryz.func120, Tryz.ntmps120
  go_wp2_with fail
  refine Calls.mono HQ.out ?_
  rintro en w1 ⟨rfl, hr1, hg1⟩
  have hi1 := grown_keep HI.out hg1 h1.symm
  have he1 := grown_keep HE.out hg1 h2.symm
  have HI1 : Hid (w1.heap[IB]? = some (.cells #[.int .i64 0] 3 (0, 0))) := hi1
  have HE1 : Hid (w1.heap[EB]? = some (.cells #[.int .i64 0, .int .i64 0, .string ⟨#[]⟩] 44 (0, 0))) := he1
  have HR1 : Hid (Rd w1 rb t t.size) := hr1
  have HG1 : Hid (w.grownBy w1 (some rb)) := hg1
  have c0 := cell_of_row _ _ 0 _ _ _ hi1
  have cf0 := frozen_of_row _ _ 0 _ _ hi1
  have d0 := cell_of_row _ _ 0 _ _ _ he1
  have d1 := cell_of_row _ _ 1 _ _ _ he1
  have d2 := cell_of_row _ _ 2 _ _ _ he1
  have df0 := frozen_of_row _ _ 0 _ _ he1
  have df1 := frozen_of_row _ _ 1 _ _ he1
  have df2 := frozen_of_row _ _ 2 _ _ he1
  simp at c0 d0 d1 d2
  have h3' : EB ≠ IB := h3.symm
  clear hr1 hg1 hi1 he1 HQ HI HE
  go_wp2
  go_end0
  have hI2 : (w1.setCell ⟨IB, 0, none⟩ (.int .i64 (i : Int))).heap[IB]? = some (.cells #[.int .i64 (i : Int)] 3 (0, 0)) := by
    have := heap_setCell_same w1 IB 0 _ 3 (.int .i64 (i : Int)) HI1.out
    simpa using this
  have hE2 := set_far HE1.out h3' 0 (.int .i64 (i : Int))
  exact ⟨rfl, w1, _, HG1.out, grown_set w1 IB 0 (.int .i64 (i : Int)), ((grown_set _ EB 0 _).trans (grown_set _ EB 1 _)).trans (grown_set _ EB 2 _), (((HR1.out.setNew h1 0 _).setNew h2 0 _).setNew h2 1 _).setNew h2 2 _, set_far (set_far (set_far hI2 h3 _ _) h3 _ _) h3 _ _, three_set hE2 _ _ _⟩
set_option maxHeartbeats 400000 in
set_option maxRecDepth 100000 in
theorem whole_fails {IB EB : Nat} {t : ByteArray} (hs : t.size ≤ 1048576) (w : World) (hI : IB < w.heap.size) (h : Fails t) :
    Calls Tryz.prog 22 #[.string t, .func (.func 120) #[] #[.pointer (some ⟨IB, 0, none⟩), .pointer (some ⟨EB, 0, none⟩)]] w fun en w' => en = .returned (.bool false) ∧ w.grownBy w' (some IB) := by
  have hmf : ∀ (fn : Fn) (first cap : Array Value) (w : World), (Instr.makeFunc fn first cap).run Tryz.prog w = .ok (.func fn first cap) w := fun _ _ _ _ => rfl
  have HH : Hid (Fails t) := h
  clear h
  obtain ⟨W, hW, hr, hwh, hg, hz⟩ := whole_start t w IB
  have HR : Hid (Rd W (w.heap.size + 1) t 0) := hr
  have HW : Hid (_ = _) := hwh
  have HG : Hid (w.grownBy W (some IB)) := hg
  clear hr hwh hg
  go_enter_defers Tryz.func22, Tryz.ntmps22
  go_wp2_with fail
  rw [← hW]
  refine (lit_fails hs W HR.out HH.out).mono ?_
  rintro en w1 ⟨rfl, hg1⟩
  have hw1 := grown_keep HW.out hg1 (by omega)
  have hg2 : w.grownBy w1 (some IB) := HG.out.andThen hg1 (fun r e => Or.inl (by cases e; omega))
  have c0 := cell_of_row _ _ 0 _ _ _ hw1
  have f0 := frozen_of_row _ _ 0 _ _ hw1
  simp at c0
  refine leaves_cons (f := 47) (args := #[.pointer (some ⟨w.heap.size, 0, none⟩)]) (by simp) (by simp [go_sem]) ?_
  refine (catch_panicking ⟨w.heap.size, 0, none⟩ false 112 (.agg #[]) [] w1 c0 f0).mono ?_
  rintro e u' w'' ⟨rfl, rfl, rfl⟩
  have c1 : (w1.setCell ⟨w.heap.size, 0, none⟩ (.bool false)).cell? ⟨w.heap.size, 0, none⟩ = some (.bool false) := World.cell?_setCell_same _ _ _ c0
  simp [Leaves, settle, results, Tryz.results22, go_sem, c1]
  exact grown_new hg2 (Nat.le_refl _) _ _
/-- What readWhole leaves where the reading came to its end. -/
def WholePost (w : World) (B IB EB : Nat) (i : Nat) (E : EntL) (en : Ending) (w' : World) : Prop :=
  en = .returned (.bool true) ∧ Below B w w' ∧ (∀ q o, w.heap[q]? = some o → q ≠ IB → q ≠ EB → w'.heap[q]? = some o) ∧
    w'.heap[IB]? = some (.cells #[.int .i64 (i : Int)] 3 (0, 0)) ∧ w'.heap[EB]? = some (.cells #[.int .i64 E.term, .int .i64 E.kind, .string E.data] 44 (0, 0))
set_option maxHeartbeats 1000000 in
set_option maxRecDepth 100000 in
theorem whole_gets {B IB EB : Nat} {t : ByteArray} {i j : Nat} {k : UInt8} {a b : Nat} (hs : t.size ≤ 1048576) (w : World) (hg : Gets t i j k a b) (hk : kindB (ent t j k b) = true)
    (hB1 : B ≤ IB) (hB2 : B ≤ EB) (h3 : IB ≠ EB) (hI : w.heap[IB]? = some (.cells #[.int .i64 0] 3 (0, 0))) (hE : w.heap[EB]? = some (.cells #[.int .i64 0, .int .i64 0, .string ⟨#[]⟩] 44 (0, 0))) :
    Calls Tryz.prog 22 #[.string t, .func (.func 120) #[] #[.pointer (some ⟨IB, 0, none⟩), .pointer (some ⟨EB, 0, none⟩)]] w (WholePost w B IB EB i (ent t j k b)) := by
  have hmf : ∀ (fn : Fn) (first cap : Array Value) (w : World), (Instr.makeFunc fn first cap).run Tryz.prog w = .ok (.func fn first cap) w := fun _ _ _ _ => rfl
  have hIl : IB < w.heap.size := (Array.getElem?_eq_some_iff.1 hI).1
  have hEl : EB < w.heap.size := (Array.getElem?_eq_some_iff.1 hE).1
  obtain ⟨W, hW, hr, hwh, hgg, hz⟩ := whole_start t w IB
  have hbW : Below w.heap.size w W := by rw [hW]; exact ((Below.refl _ _).alloc (Nat.le_refl _) _).alloc (by simp) _
  have HBW : Hid (Below w.heap.size w W) := hbW
  have HQ : Hid (Calls Tryz.prog 120 #[.pointer (some ⟨w.heap.size + 1, 0, none⟩), .pointer (some ⟨IB, 0, none⟩), .pointer (some ⟨EB, 0, none⟩)] W (LitPost W (w.heap.size + 1) IB EB t i (ent t j k b))) :=
    lit_gets hs W hr hg hk (by omega) (by omega) h3 ((hbW.block _ hIl).trans hI) ((hbW.block _ hEl).trans hE)
  have HW : Hid (W.heap[w.heap.size]? = some (.cells #[.bool false] 4 (0, 0))) := hwh
  obtain ⟨E, he⟩ : ∃ E, E = ent t j k b := ⟨_, rfl⟩
  rw [← he] at HQ ⊢
  clear hr hwh hgg hg hk hI hE he hbW
  go_enter_defers Tryz.func22, Tryz.ntmps22
  go_wp2_with fail
  rw [← hW]
  refine Calls.mono HQ.out ?_
  rintro en w3 ⟨rfl, w1, w2, hg1, hg2, hg3, hr3, hi3, he3⟩
  have hw3 := grown_keep (grown_keep (grown_keep HW.out hg1 (by omega)) hg2 (by omega)) hg3 (by omega)
  have HW3 : Hid (w3.heap[w.heap.size]? = some (.cells #[.bool false] 4 (0, 0))) := hw3
  have HK3 : Hid (∀ q o, w.heap[q]? = some o → q ≠ IB → q ≠ EB → w3.heap[q]? = some o) := fun q o hq n1 n2 => by
    have hl : q < w.heap.size := (Array.getElem?_eq_some_iff.1 hq).1
    exact grown_keep (grown_keep (grown_keep ((HBW.out.block _ hl).trans hq) hg1 (by omega)) hg2 n1) hg3 n2
  have HB3 : Hid (Below B w w3) := by
    have b0 : Below B w W := HBW.out.mono (by omega)
    have b1 : Below B w w1 := b0.grown hg1 (by omega) (fun k e => by cases e; omega)
    have b2 : Below B w w2 := b1.grown hg2 (by have := b1.size; omega) (fun k e => by cases e; omega)
    exact b2.grown hg3 (by have := b2.size; omega) (fun k e => by cases e; omega)
  have HI3 : Hid (_ = _) := hi3
  have HE3 : Hid (_ = _) := he3
  have c0 := cell_of_row _ _ 0 _ _ _ hw3
  have f0 := frozen_of_row _ _ 0 _ _ hw3
  have q0 := hr3.c0
  have q1 := hr3.c1
  simp at c0
  clear hw3 hg1 hg2 hg3 hi3 he3 hr3 hW HW HBW HQ
  go_wp2
  refine leaves_cons (f := 47) (args := #[.pointer (some ⟨w.heap.size, 0, none⟩)]) (by simp) (by simp [go_sem]) ?_
  refine (catch_idle ⟨w.heap.size, 0, none⟩ _).mono ?_
  rintro e u' w'' ⟨rfl, rfl, rfl⟩
  have c1 : (w3.setCell ⟨w.heap.size, 0, none⟩ (.bool true)).cell? ⟨w.heap.size, 0, none⟩ = some (.bool true) := World.cell?_setCell_same _ _ _ c0
  simp [Leaves, settle, results, Tryz.results22, go_sem, c1]
  refine ⟨rfl, HB3.out.setCell (by show B ≤ w.heap.size; omega) _, fun q o hq n1 n2 => set_far (HK3.out q o hq n1 n2) (by have := (Array.getElem?_eq_some_iff.1 hq).1; omega) _ _, set_far HI3.out (by omega) _ _, set_far HE3.out (by omega) _ _⟩
end Go.Proofs.YtimacmijinblmaaGreat
