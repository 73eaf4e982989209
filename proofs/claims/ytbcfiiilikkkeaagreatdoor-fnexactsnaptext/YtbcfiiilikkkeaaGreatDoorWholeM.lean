/- The calls of the program's (*textReader).manifest, of the closure that reads and of readWhole, walked. The calls of the closure that reads a manifest and of readWhole, walked: the deferred closure that recovers. -/
import Derived.Test.YtbcfiiilikkkeaaGreatDoorRdList
import Derived.Test.YtbcfiiilikkkeaaGreatDoorManText
import Derived.Defers
import Derived.Recover
namespace Go.Proofs.YtbcfiiilikkkeaaGreatDoor
open Go.RowKit
set_option linter.unusedVariables false

/-- Two rows that share no block. -/
def Apart (v1 v2 : Value) : Prop := ∀ g, v1.ownBlock = some g → v2.ownBlock ≠ some g
theorem apart_of {w1 w2 w3 : World} {b1 b2 n1 n2 : Nat} {v1 v2 : Value} {xs ys : List Value} (h1 : w1.ownsRow b1 3 1 v1 n1 xs) (h : w1.heap.size ≤ b2) (h2 : w3.ownsRow b2 3 1 v2 n2 ys) : Apart v1 v2 := fun g e1 e2 => by
  have := (h1.lt g e1).2
  have := (h2.lt g e2).1
  omega
/-- What is read, by the places. -/
structure GetsN (u : ByteArray) (l l' : List Int) (X Y Z : Nat) (e : Nat) : Prop where
  of : ∃ a0 a1 a2 a3 a4 a5, Mans.Gets u ⟨l, X, Y, Z, l'⟩ a0 a1 a2 a3 a4 a5 e
theorem getsN {u : ByteArray} {m : ManL} {a0 a1 a2 a3 a4 a5 e : Nat} (h : Mans.Gets u m a0 a1 a2 a3 a4 a5 e) : ∃ X Y Z : Nat, m = ⟨m.segs, X, Y, Z, m.conf⟩ ∧ GetsN u m.segs m.conf X Y Z e := by
  obtain ⟨l, x, y, z, l'⟩ := m
  obtain ⟨X, rfl⟩ := Int.eq_ofNat_of_zero_le h.i2
  obtain ⟨Y, rfl⟩ := Int.eq_ofNat_of_zero_le h.i3
  obtain ⟨Z, rfl⟩ := Int.eq_ofNat_of_zero_le h.i4
  exact ⟨X, Y, Z, rfl, ⟨a0, a1, a2, a3, a4, a5, h⟩⟩
/-- What manifest holds between its calls: the result, the row read first. -/
structure MSt (w : World) (rb : Nat) (t : ByteArray) (a : Nat) (v : Value) (n : Nat) (xs : List Value) (W : World) : Prop where
  rd : Rd W rb t a
  res : W.heap[w.heap.size]? = some (.cells #[.slice none 0 0, .int .i64 0, .int .i64 0, .int .i64 0, .slice none 0 0] 37 (0, 0))
  own : W.ownsRow w.heap.size 3 1 v n xs
  grown : w.grownBy W (some rb)
  up : rb < w.heap.size
section
variable {w W W' : World} {rb a a' n : Nat} {t : ByteArray} {v : Value} {xs : List Value}
theorem MSt.call (h : MSt w rb t a v n xs W) (hr : Rd W' rb t a') (hg : W.grownBy W' (some rb)) : MSt w rb t a' v n xs W' :=
  have hu := h.up
  ⟨hr, grown_keep h.res hg (by omega), h.own.kept hg (Or.inr (own_not h.own h.rd.1 (by decide))), h.grown.trans hg, h.up⟩
end
theorem man_start (w : World) (rb : Nat) (t : ByteArray) (a : Nat) (hr : Rd w rb t a) : MSt w rb t a (.slice none 0 0) 0 [] (w.alloc (.cells #[.slice none 0 0, .int .i64 0, .int .i64 0, .int .i64 0, .slice none 0 0] 37)) :=
  ⟨hr.below ((Below.refl _ _).alloc (Nat.le_refl _) _), heap_alloc_new w _, World.ownsRow_nil _ _ _ _, grown_alloc _ _, hr.lt⟩
set_option maxHeartbeats 2000000 in
set_option maxRecDepth 100000 in
theorem man_gets {rb : Nat} {t : ByteArray} {l l' : List Int} {X Y Z e : Nat} (hs : t.size ≤ 1048576) (w : World) (hr : Rd w rb t 0) (h : GetsN t l l' X Y Z e) :
    Calls Tryz.prog 203 #[.pointer (some ⟨rb, 0, none⟩)] w fun en w' => ∃ v1 v2, en = .returned (.agg #[v1, .int .i64 (X : Int), .int .i64 (Y : Int), .int .i64 (Z : Int), v2]) ∧ w'.ownsRow w.heap.size 3 1 v1 l.length (cellsI l) ∧ w'.ownsRow w.heap.size 3 1 v2 l'.length (cellsI l') ∧ Apart v1 v2 ∧ Rd w' rb t e ∧ w.grownBy w' (some rb) := by
  obtain ⟨a0, a1, a2, a3, a4, a5, hG⟩ := h.of
  have HR : Hid _ := man_start w rb t 0 hr
  have hup := hr.lt
  have G0 := hG.n0
  have G1 : Hid (_ = _) := hG.r0
  have G2 : Hid (_ = _) := hG.r1
  have G3 : Hid (Words.rd t.data.toList a1 = some (X, a2)) := hG.r2
  have G4 : Hid (Words.rd t.data.toList a2 = some (Y, a3)) := hG.r3
  have G5 : Hid (Words.rd t.data.toList a3 = some (Z, a4)) := hG.r4
  have G6 := hG.n5
  have G7 : Hid (_ = _) := hG.r5
  have G8 : Hid (_ = _) := hG.r6
  clear hG h hr
  go_enter Tryz.func203, Tryz.ntmps203
  go_wp2_with fail
  refine (list_some (M := 8) (by omega) hs _ HR.out.rd G1.out G0 G2.out).mono ?_
  rintro en w1 ⟨v1, rfl, ho1, hr1, hg1⟩
  have HS1 : Hid (MSt w rb t a1 v1 l.length (cellsI l) w1) := by
    have h1 := HR.out.call hr1 hg1
    exact ⟨h1.rd, h1.res, own_mono ho1 (by simp), h1.grown, h1.up⟩
  clear ho1 hr1 hg1
  go_wp2_with fail
  refine (number_some hs _ HS1.out.rd G3.out).mono ?_
  rintro en w2 ⟨rfl, hr2, hg2⟩
  have HS2 : Hid (MSt w rb t a2 v1 l.length (cellsI l) w2) := HS1.out.call hr2 hg2
  clear hr2 hg2 HS1
  go_wp2_with fail
  refine (number_some hs _ HS2.out.rd G4.out).mono ?_
  rintro en w3 ⟨rfl, hr3, hg3⟩
  have HS3 : Hid (MSt w rb t a3 v1 l.length (cellsI l) w3) := HS2.out.call hr3 hg3
  clear hr3 hg3 HS2
  go_wp2_with fail
  refine (number_some hs _ HS3.out.rd G5.out).mono ?_
  rintro en w4 ⟨rfl, hr4, hg4⟩
  have HS4 : Hid (MSt w rb t a4 v1 l.length (cellsI l) w4) := HS3.out.call hr4 hg4
  clear hr4 hg4 HS3
  go_wp2_with fail
  refine (list_some (M := 4) (by omega) hs _ HS4.out.rd G7.out G6 G8.out).mono ?_
  rintro en w5 ⟨v2, rfl, ho5, hr5, hg5⟩
  have HS5 : Hid (MSt w rb t e v1 l.length (cellsI l) w5) := HS4.out.call hr5 hg5
  have HO5 : Hid (w5.ownsRow w.heap.size 3 1 v2 l'.length (cellsI l')) := own_mono ho5 HS4.out.grown.size
  have HAP : Hid (Apart v1 v2) := apart_of (w1 := w4) (w2 := w4) HS4.out.own (Nat.le_refl _) ho5
  obtain ⟨va1, vc1, hv1⟩ := own_slice HS5.out.own
  obtain ⟨va2, vc2, hv2⟩ := own_slice HO5.out
  subst hv1 hv2
  clear ho5 hr5 hg5 HS4
  have c0 := cell_of_row _ _ 0 _ _ _ HS5.out.res
  have c1 := cell_of_row _ _ 1 _ _ _ HS5.out.res
  have c2 := cell_of_row _ _ 2 _ _ _ HS5.out.res
  have c3 := cell_of_row _ _ 3 _ _ _ HS5.out.res
  have c4 := cell_of_row _ _ 4 _ _ _ HS5.out.res
  have cf0 := frozen_of_row _ _ 0 _ _ HS5.out.res
  have cf1 := frozen_of_row _ _ 1 _ _ HS5.out.res
  have cf2 := frozen_of_row _ _ 2 _ _ HS5.out.res
  have cf3 := frozen_of_row _ _ 3 _ _ HS5.out.res
  have cf4 := frozen_of_row _ _ 4 _ _ HS5.out.res
  simp at c0 c1 c2 c3 c4
  go_wp2
  obtain ⟨k0, k1, k2, k3, k4⟩ := five_cell HS5.out.res (.slice va1 l.length vc1) (.int .i64 (X : Int)) (.int .i64 (Y : Int)) (.int .i64 (Z : Int)) (.slice va2 l'.length vc2)
  have n1 := own_not HS5.out.own HS5.out.res (by decide)
  have n2 := own_not HO5.out HS5.out.res (by decide)
  refine bodyPost_ret (v := .agg #[.slice va1 l.length vc1, .int .i64 (X : Int), .int .i64 (Y : Int), .int .i64 (Z : Int), .slice va2 l'.length vc2]) (by simp [results, Tryz.results203, go_sem, k0, k1, k2, k3, k4]) rfl ⟨_, _, rfl, ?_, ?_, HAP.out, ?_, ?_⟩
  · exact own_set (own_set (own_set (own_set (own_set HS5.out.own _ _ _ n1) _ _ _ n1) _ _ _ n1) _ _ _ n1) _ _ _ n1
  · exact own_set (own_set (own_set (own_set (own_set HO5.out _ _ _ n2) _ _ _ n2) _ _ _ n2) _ _ _ n2) _ _ _ n2
  · exact ((((HS5.out.rd.setNew (k := w.heap.size) (by omega) 0 _).setNew (k := w.heap.size) (by omega) 1 _).setNew (k := w.heap.size) (by omega) 2 _).setNew (k := w.heap.size) (by omega) 3 _).setNew (k := w.heap.size) (by omega) 4 _
  · exact grown_new (grown_new (grown_new (grown_new (grown_new HS5.out.grown (k := w.heap.size) (Nat.le_refl _) 0 _) (k := w.heap.size) (Nat.le_refl _) 1 _) (k := w.heap.size) (Nat.le_refl _) 2 _) (k := w.heap.size) (Nat.le_refl _) 3 _) (k := w.heap.size) (Nat.le_refl _) 4 _
set_option maxHeartbeats 2000000 in
set_option maxRecDepth 100000 in
theorem man_torn {rb : Nat} {t : ByteArray} (hs : t.size ≤ 1048576) (w : World) (hr : Rd w rb t 0) (h : Mans.Torn t) :
    Calls Tryz.prog 203 #[.pointer (some ⟨rb, 0, none⟩)] w fun en w' => en = .panicked thrown ∧ w.grownBy w' (some rb) := by
  have HR : Hid (Rd (w.alloc (.cells #[.slice none 0 0, .int .i64 0, .int .i64 0, .int .i64 0, .slice none 0 0] 37)) rb t 0) := hr.below ((Below.refl _ _).alloc (Nat.le_refl _) _)
  have HG : Hid (w.grownBy (w.alloc (.cells #[.slice none 0 0, .int .i64 0, .int .i64 0, .int .i64 0, .slice none 0 0] 37)) (some rb)) := grown_alloc _ _
  clear hr
  rcases h with h1 | ⟨n, a0, a1, l, h0, hn, h1, h2⟩
  · have H1 : Hid _ := h1
    clear h1
    go_enter Tryz.func203, Tryz.ntmps203
    go_wp2_with fail
    refine (list_torn (M := 8) (by omega) hs _ HR.out H1.out).mono ?_
    rintro en w1 ⟨rfl, hg1⟩
    exact ⟨rfl, rfl, HG.out.trans hg1⟩
  · have H0 : Hid (_ = _) := h0
    have H1 : Hid (_ = _) := h1
    have H2 : Hid (_ ∨ _) := h2
    clear h0 h1 h2
    go_enter Tryz.func203, Tryz.ntmps203
    go_wp2_with fail
    refine (list_some (M := 8) (by omega) hs _ HR.out H0.out hn H1.out).mono ?_
    rintro en w1 ⟨v1, rfl, _, hr1, hg1⟩
    have HR1 : Hid (Rd w1 rb t a1) := hr1
    have HG1 : Hid (w.grownBy w1 (some rb)) := HG.out.trans hg1
    clear hr1 hg1
    rcases H2.out with h2 | ⟨x, a2, h2, h3⟩
    · have H2' : Hid (_ = _) := h2
      clear h2
      go_wp2_with fail
      refine (number_none hs _ HR1.out H2'.out).mono ?_
      rintro en w2 ⟨rfl, hg2⟩
      exact ⟨rfl, rfl, HG1.out.trans hg2⟩
    · have H2' : Hid (_ = _) := h2
      have H3 : Hid (_ ∨ _) := h3
      clear h2 h3
      go_wp2_with fail
      refine (number_some hs _ HR1.out H2'.out).mono ?_
      rintro en w2 ⟨rfl, hr2, hg2⟩
      have HR2 : Hid (Rd w2 rb t a2) := hr2
      have HG2 : Hid (w.grownBy w2 (some rb)) := HG1.out.trans hg2
      clear hr2 hg2
      rcases H3.out with h3 | ⟨y, a3, h3, h4⟩
      · have H3' : Hid (_ = _) := h3
        clear h3
        go_wp2_with fail
        refine (number_none hs _ HR2.out H3'.out).mono ?_
        rintro en w3 ⟨rfl, hg3⟩
        exact ⟨rfl, rfl, HG2.out.trans hg3⟩
      · have H3' : Hid (_ = _) := h3
        have H4 : Hid (_ ∨ _) := h4
        clear h3 h4
        go_wp2_with fail
        refine (number_some hs _ HR2.out H3'.out).mono ?_
        rintro en w3 ⟨rfl, hr3, hg3⟩
        have HR3 : Hid (Rd w3 rb t a3) := hr3
        have HG3 : Hid (w.grownBy w3 (some rb)) := HG2.out.trans hg3
        clear hr3 hg3
        rcases H4.out with h4 | ⟨z, a4, h4, h5⟩
        · have H4' : Hid (_ = _) := h4
          clear h4
          go_wp2_with fail
          refine (number_none hs _ HR3.out H4'.out).mono ?_
          rintro en w4 ⟨rfl, hg4⟩
          exact ⟨rfl, rfl, HG3.out.trans hg4⟩
        · have H4' : Hid (_ = _) := h4
          have H5 : Hid _ := h5
          clear h4 h5
          go_wp2_with fail
          refine (number_some hs _ HR3.out H4'.out).mono ?_
          rintro en w4 ⟨rfl, hr4, hg4⟩
          have HR4 : Hid (Rd w4 rb t a4) := hr4
          have HG4 : Hid (w.grownBy w4 (some rb)) := HG3.out.trans hg4
          clear hr4 hg4
          go_wp2_with fail
          refine (list_torn (M := 4) (by omega) hs _ HR4.out H5.out).mono ?_
          rintro en w5 ⟨rfl, hg5⟩
          exact ⟨rfl, rfl, HG4.out.trans hg5⟩
end Go.Proofs.YtbcfiiilikkkeaaGreatDoor
namespace Go.Proofs.YtbcfiiilikkkeaaGreatDoor
open Go.RowKit
set_option linter.unusedVariables false

set_option maxHeartbeats 400000 in
theorem lit_torn {rb B0 : Nat} {t : ByteArray} (hs : t.size ≤ 1048576) (w : World) (hr : Rd w rb t 0) (h : Mans.Torn t) :
    Calls Tryz.prog 202 #[.pointer (some ⟨rb, 0, none⟩), .pointer (some ⟨B0, 0, none⟩)] w fun en w' => en = .panicked thrown ∧ w.grownBy w' (some rb) := by
  have HR : Hid (Rd w rb t 0) := hr
  clear hr
  go_enter Tryz.func202, Tryz.ntmps202
  go_wp2_with (go_at_call 203; refine (man_torn hs _ HR.out h).mono ?_; rintro e w1 ⟨rfl, hg1⟩)
  exact ⟨rfl, rfl, hg1⟩
set_option maxHeartbeats 1000000 in
theorem lit_gets_cm {rb B0 : Nat} {t : ByteArray} {l l' : List Int} {X Y Z e : Nat} (hs : t.size ≤ 1048576) (w : World) (hr : Rd w rb t 0) (h : GetsN t l l' X Y Z e) (hne : B0 ≠ rb) (hB : w.heap[B0]? = some (.cells #[.slice none 0 0, .int .i64 0, .int .i64 0, .int .i64 0, .slice none 0 0] 37 (0, 0))) :
    Calls Tryz.prog 202 #[.pointer (some ⟨rb, 0, none⟩), .pointer (some ⟨B0, 0, none⟩)] w fun en w' => en = .returned (.tuple #[]) ∧
      ∃ w1, w.grownBy w1 (some rb) ∧ w1.grownBy w' (some B0) ∧ Rd w' rb t e ∧ ∃ v1 v2, w'.heap[B0]? = some (.cells #[v1, .int .i64 (X : Int), .int .i64 (Y : Int), .int .i64 (Z : Int), v2] 37 (0, 0)) ∧ w'.ownsRow w.heap.size 3 1 v1 l.length (cellsI l) ∧ w'.ownsRow w.heap.size 3 1 v2 l'.length (cellsI l') ∧ Apart v1 v2 := by
  have HR : Hid (Rd w rb t 0) := hr
  have HB : Hid (_ = _) := hB
  clear hr hB
  go_enter Tryz.func202, Tryz.ntmps202
  go_wp2_with fail
  refine (man_gets hs _ HR.out h).mono ?_
  rintro en w1 ⟨v1, v2, rfl, ho1, ho2, hap, hr1, hg1⟩
  obtain ⟨va1, vc1, hv1⟩ := own_slice ho1
  obtain ⟨va2, vc2, hv2⟩ := own_slice ho2
  subst hv1 hv2
  have hb1 := grown_keep HB.out hg1 hne
  have HB1 : Hid (_ = _) := hb1
  have HO1 : Hid (w1.ownsRow w.heap.size 3 1 (.slice va1 l.length vc1) l.length (cellsI l)) := ho1
  have HO2 : Hid (w1.ownsRow w.heap.size 3 1 (.slice va2 l'.length vc2) l'.length (cellsI l')) := ho2
  have HR1 : Hid (Rd w1 rb t e) := hr1
  have HG1 : Hid (w.grownBy w1 (some rb)) := hg1
  have HAP : Hid (Apart (.slice va1 l.length vc1) (.slice va2 l'.length vc2)) := hap
  have c0 := cell_of_row _ _ 0 _ _ _ hb1
  have c1 := cell_of_row _ _ 1 _ _ _ hb1
  have c2 := cell_of_row _ _ 2 _ _ _ hb1
  have c3 := cell_of_row _ _ 3 _ _ _ hb1
  have c4 := cell_of_row _ _ 4 _ _ _ hb1
  have cf0 := frozen_of_row _ _ 0 _ _ hb1
  have cf1 := frozen_of_row _ _ 1 _ _ hb1
  have cf2 := frozen_of_row _ _ 2 _ _ hb1
  have cf3 := frozen_of_row _ _ 3 _ _ hb1
  have cf4 := frozen_of_row _ _ 4 _ _ hb1
  simp at c0 c1 c2 c3 c4
  clear ho1 ho2 hr1 hg1 hb1 hap
  go_wp2
  go_end0
  have n1 := own_not HO1.out HB1.out (by decide)
  have n2 := own_not HO2.out HB1.out (by decide)
  refine ⟨rfl, w1, HG1.out, ((((grown_set _ _ _ _).trans (grown_set _ _ _ _)).trans (grown_set _ _ _ _)).trans (grown_set _ _ _ _)).trans (grown_set _ _ _ _), ((((HR1.out.setNew hne.symm 0 _).setNew hne.symm 1 _).setNew hne.symm 2 _).setNew hne.symm 3 _).setNew hne.symm 4 _, .slice va1 l.length vc1, .slice va2 l'.length vc2, five_set HB1.out _ _ _ _ _, ?_, ?_, HAP.out⟩
  · exact own_set (own_set (own_set (own_set (own_set HO1.out _ _ _ n1) _ _ _ n1) _ _ _ n1) _ _ _ n1) _ _ _ n1
  · exact own_set (own_set (own_set (own_set (own_set HO2.out _ _ _ n2) _ _ _ n2) _ _ _ n2) _ _ _ n2) _ _ _ n2
set_option maxHeartbeats 400000 in
set_option maxRecDepth 100000 in
theorem whole_torn {B0 : Nat} {t : ByteArray} (hs : t.size ≤ 1048576) (w : World) (hB0 : B0 < w.heap.size) (h : Mans.Torn t) :
    Calls Tryz.prog 201 #[.string t, .func (.func 202) #[] #[.pointer (some ⟨B0, 0, none⟩)]] w fun en w' => en = .returned (.bool false) ∧ w.grownBy w' (some B0) := by
  have hmf : ∀ (fn : Fn) (first cap : Array Value) (w : World), (Instr.makeFunc fn first cap).run Tryz.prog w = .ok (.func fn first cap) w := fun _ _ _ _ => rfl
  have HH : Hid (Mans.Torn t) := h
  clear h
  obtain ⟨W, hW, hr, hwh, hg, hz⟩ := whole_start t w B0
  have HR : Hid (Rd W (w.heap.size + 1) t 0) := hr
  have HW : Hid (_ = _) := hwh
  have HG : Hid (w.grownBy W (some B0)) := hg
  clear hr hwh hg
  go_enter_defers Tryz.func201, Tryz.ntmps201
  go_wp2_with fail
  rw [← hW]
  refine (lit_torn hs W HR.out HH.out).mono ?_
  rintro en w1 ⟨rfl, hg1⟩
  have hw1 := grown_keep HW.out hg1 (by omega)
  have hg2 : w.grownBy w1 (some B0) := HG.out.andThen hg1 (fun r e => Or.inl (by cases e; omega))
  have c0 := cell_of_row _ _ 0 _ _ _ hw1
  have f0 := frozen_of_row _ _ 0 _ _ hw1
  simp at c0
  refine leaves_cons (f := 243) (args := #[.pointer (some ⟨w.heap.size, 0, none⟩)]) (by simp) (by simp [go_sem]) ?_
  refine (catch_panicking ⟨w.heap.size, 0, none⟩ false 375 (.agg #[]) [] w1 c0 f0).mono ?_
  rintro e u' w'' ⟨rfl, rfl, rfl⟩
  have c1 : (w1.setCell ⟨w.heap.size, 0, none⟩ (.bool false)).cell? ⟨w.heap.size, 0, none⟩ = some (.bool false) := World.cell?_setCell_same _ _ _ c0
  simp [Leaves, settle, results, Tryz.results201, go_sem, c1]
  exact grown_new hg2 (Nat.le_refl _) _ _
set_option maxHeartbeats 1000000 in
set_option maxRecDepth 100000 in
theorem whole_gets_cm {B0 : Nat} {t : ByteArray} {l l' : List Int} {X Y Z e : Nat} (hs : t.size ≤ 1048576) (w : World) (hB : w.heap[B0]? = some (.cells #[.slice none 0 0, .int .i64 0, .int .i64 0, .int .i64 0, .slice none 0 0] 37 (0, 0))) (h : GetsN t l l' X Y Z e) (R : Bool) (hR : R = ((e : Int) == (t.size : Int))) :
    Calls Tryz.prog 201 #[.string t, .func (.func 202) #[] #[.pointer (some ⟨B0, 0, none⟩)]] w fun en w' => en = .returned (.bool R) ∧ w.grownBy w' (some B0) ∧ ∃ v1 v2, w'.heap[B0]? = some (.cells #[v1, .int .i64 (X : Int), .int .i64 (Y : Int), .int .i64 (Z : Int), v2] 37 (0, 0)) ∧ w'.ownsRow w.heap.size 3 1 v1 l.length (cellsI l) ∧ w'.ownsRow w.heap.size 3 1 v2 l'.length (cellsI l') ∧ Apart v1 v2 := by
  have hmf : ∀ (fn : Fn) (first cap : Array Value) (w : World), (Instr.makeFunc fn first cap).run Tryz.prog w = .ok (.func fn first cap) w := fun _ _ _ _ => rfl
  have hB0 : B0 < w.heap.size := (Array.getElem?_eq_some_iff.1 hB).1
  obtain ⟨W, hW, hr, hwh, hg, hz⟩ := whole_start t w B0
  have HH : Hid (GetsN t l l' X Y Z e) := h
  have HB : Hid (W.heap[B0]? = some (.cells #[.slice none 0 0, .int .i64 0, .int .i64 0, .int .i64 0, .slice none 0 0] 37 (0, 0))) := by
    show _ = _
    rw [hW, Below.heap_alloc _ _ _ (by simp; omega), Below.heap_alloc _ _ _ hB0]; exact hB
  have HR : Hid (Rd W (w.heap.size + 1) t 0) := hr
  have HW : Hid (W.heap[w.heap.size]? = some (.cells #[.bool false] 4 (0, 0))) := hwh
  have HG : Hid (w.grownBy W (some B0)) := hg
  clear hr hwh hg h hB
  go_enter_defers Tryz.func201, Tryz.ntmps201
  go_wp2_with fail
  rw [← hW]
  refine (lit_gets_cm hs W HR.out HH.out (by omega) HB.out).mono ?_
  rintro en w2 ⟨rfl, w1, hg1, hg2, hr2, v1, v2, hb2, ho1, ho2, hap⟩
  have hw2 := grown_keep (grown_keep HW.out hg1 (by omega)) hg2 (by omega)
  have HG2 : Hid (w.grownBy w2 (some B0)) := (HG.out.andThen hg1 (fun r e => Or.inl (by cases e; omega))).trans hg2
  have HB2 : Hid (_ = _) := hb2
  have HO1 : Hid (w2.ownsRow w.heap.size 3 1 v1 l.length (cellsI l)) := own_mono ho1 (by omega)
  have HO2 : Hid (w2.ownsRow w.heap.size 3 1 v2 l'.length (cellsI l')) := own_mono ho2 (by omega)
  have HAP : Hid (Apart v1 v2) := hap
  have HW2 : Hid (w2.heap[w.heap.size]? = some (.cells #[.bool false] 4 (0, 0))) := hw2
  have c0 := cell_of_row _ _ 0 _ _ _ hw2
  have f0 := frozen_of_row _ _ 0 _ _ hw2
  have q0 := hr2.c0
  have q1 := hr2.c1
  simp at c0
  clear hw2 hg1 hg2 hb2 ho1 ho2 hr2 hW hap
  go_wp2
  refine leaves_cons (f := 243) (args := #[.pointer (some ⟨w.heap.size, 0, none⟩)]) (by simp) (by simp [go_sem]) ?_
  refine (catch_idle ⟨w.heap.size, 0, none⟩ _).mono ?_
  rintro e u' w'' ⟨rfl, rfl, rfl⟩
  rw [← hR]
  have c1 : (w2.setCell ⟨w.heap.size, 0, none⟩ (.bool R)).cell? ⟨w.heap.size, 0, none⟩ = some (.bool R) := World.cell?_setCell_same _ _ _ c0
  simp [Leaves, settle, results, Tryz.results201, go_sem, c1]
  exact ⟨grown_new HG2.out (Nat.le_refl _) _ _, v1, v2, set_far HB2.out (by omega) _ _, own_set HO1.out _ _ _ (own_not HO1.out HW2.out (by decide)), own_set HO2.out _ _ _ (own_not HO2.out HW2.out (by decide)), HAP.out⟩
end Go.Proofs.YtbcfiiilikkkeaaGreatDoor
