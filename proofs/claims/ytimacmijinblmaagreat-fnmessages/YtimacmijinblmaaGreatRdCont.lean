/- The calls of the program's reader, walked: need, number, count; each ends with its answer or with the panic that the reader throws. The calls of the program's reader, walked: one. The program's reader at the content of an entry and at an entry, walked. -/
import Derived.Test.YtimacmijinblmaaGreatReadLaw
import Derived.Test.YtimacmijinblmaaGreatMathMan
import Derived.Test.YtimacmijinblmaaGreatKit
import Derived.Deep.QuietTactic
import Derived.StillTailTactics
import Derived.Test.YtimacmijinblmaaGreatImplEnt2
namespace Go.Proofs.YtimacmijinblmaaGreat
open Go.RowKit
set_option linter.unusedVariables false

/-- A reader at rb, that far in its text. -/
def Rd (w : World) (rb : Nat) (t : ByteArray) (a : Nat) : Prop := w.heap[rb]? = some (.cells #[.string t, .int .i64 (a : Int)] 76 (0, 0)) ∧ a ≤ t.size
theorem Rd.c0 {w : World} {rb : Nat} {t : ByteArray} {a : Nat} (h : Rd w rb t a) : w.cell? ⟨rb, 0, none⟩ = some (.string t) := cell_of_row _ _ 0 _ _ _ h.1
theorem Rd.c1 {w : World} {rb : Nat} {t : ByteArray} {a : Nat} (h : Rd w rb t a) : w.cell? ⟨rb, 1, none⟩ = some (.int .i64 (a : Int)) := cell_of_row _ _ 1 _ _ _ h.1
theorem Rd.fz {w : World} {rb : Nat} {t : ByteArray} {a : Nat} (h : Rd w rb t a) (i : Nat) : w.frozen? ⟨rb, i, none⟩ = false := frozen_of_row _ _ _ _ _ h.1
theorem Rd.set {w : World} {rb : Nat} {t : ByteArray} {a : Nat} (h : Rd w rb t a) {b : Nat} (hb : b ≤ t.size) : Rd (w.setCell ⟨rb, 1, none⟩ (.int .i64 (b : Int))) rb t b := by
  refine ⟨?_, hb⟩
  have := heap_setCell_same w rb 1 _ 76 (.int .i64 (b : Int)) h.1
  simpa using this
theorem Rd.lt {w : World} {rb : Nat} {t : ByteArray} {a : Nat} (h : Rd w rb t a) : rb < w.heap.size := (Array.getElem?_eq_some_iff.1 h.1).1
theorem Rd.below {w w' : World} {rb : Nat} {t : ByteArray} {a : Nat} (h : Rd w rb t a) (hb : Below w.heap.size w w') : Rd w' rb t a := ⟨(hb.block _ h.lt).trans h.1, h.2⟩
theorem Rd.setNew {w : World} {rb : Nat} {t : ByteArray} {a : Nat} (h : Rd w rb t a) {k : Nat} (hk : rb ≠ k) (j : Nat) (v : Value) : Rd (w.setCell ⟨k, j, none⟩ v) rb t a := ⟨set_far h.1 hk j v, h.2⟩
theorem Rd.drew {w : World} {rb : Nat} {t : ByteArray} {a : Nat} (h : Rd w rb t a) : Rd w.drew rb t a := h
/-- What the reader throws. -/
def thrown : List PanicEntry := [{ v := .iface 112 (.agg #[]), recovered := false }]

set_option maxHeartbeats 400000 in
theorem need_yes (r : Value) (w : World) : Calls Tryz.prog 97 #[r, .bool true] w fun e w' => e = .returned (.tuple #[]) ∧ w = w' := by
  go_enter Tryz.func97, Tryz.ntmps97
  go_wp2
  go_end0
  exact ⟨rfl, rfl⟩
set_option maxHeartbeats 400000 in
theorem need_no (r : Value) (w : World) : Calls Tryz.prog 97 #[r, .bool false] w fun e w' => e = .panicked thrown ∧ w = w' := by
  go_enter Tryz.func97, Tryz.ntmps97
  go_wp2
  exact ⟨rfl, rfl, rfl⟩

theorem rdZ_at {t : ByteArray} {a : Nat} (h : a ≤ t.size) : rdZ t (a : Int) = Words.rd t.data.toList a := by
  rw [rdZ, if_pos ⟨by omega, by omega⟩, Int.toNat_natCast]

set_option maxHeartbeats 1000000 in
theorem number_some {rb : Nat} {t : ByteArray} {a n b : Nat} (hs : t.size ≤ 1048576) (w : World) (hr : Rd w rb t a) (h : Words.rd t.data.toList a = some (n, b)) :
    Calls Tryz.prog 59 #[.pointer (some ⟨rb, 0, none⟩)] w fun e w' => e = .returned (.int .i64 (n : Int)) ∧ Rd w' rb t b ∧ w.grownBy w' (some rb) := by
  have hb := (Batches.rd_cut h).2.1
  have HR : Hid (Rd w rb t a) := hr
  have HZ : Hid (rdZ t (a : Int) = some (n, b)) := (rdZ_at hr.2).trans h
  have c0 := hr.c0
  have c1 := hr.c1
  have f1 := hr.fz 1
  clear h hr
  go_enter Tryz.func59, Tryz.ntmps59
  go_wp2_with fail
  go_quiet (first | (go_at_call 99; exact Calls.quiet_of_same (implRead_some hs HZ.out _)))
  go_wp2_with (go_at_call 97; refine (need_yes _ _).mono ?_; rintro e w2 ⟨rfl, rfl⟩)
  go_ret
  exact ⟨rfl, Rd.set (w := w.drewN nq) HR.out hb, (grown_drewN (World.grownBy.refl w _) nq).trans (grown_set _ _ _ _)⟩
set_option maxHeartbeats 1000000 in
theorem number_none {rb : Nat} {t : ByteArray} {a : Nat} (hs : t.size ≤ 1048576) (w : World) (hr : Rd w rb t a) (h : Words.rd t.data.toList a = none) :
    Calls Tryz.prog 59 #[.pointer (some ⟨rb, 0, none⟩)] w fun e w' => e = .panicked thrown ∧ w.grownBy w' (some rb) := by
  have HZ : Hid (rdZ t (a : Int) = none) := (rdZ_at hr.2).trans h
  have c0 := hr.c0
  have c1 := hr.c1
  clear h hr
  go_enter Tryz.func59, Tryz.ntmps59
  go_wp2_with fail
  go_quiet (first | (go_at_call 99; exact Calls.quiet_of_same (implRead_none hs HZ.out _)))
  go_wp2_with (go_at_call 97; refine (need_no _ _).mono ?_; rintro e w2 ⟨rfl, rfl⟩)
  exact ⟨rfl, rfl, grown_drewN (World.grownBy.refl w _) nq⟩

end Go.Proofs.YtimacmijinblmaaGreat
namespace Go.Proofs.YtimacmijinblmaaGreat
open Go.RowKit
set_option linter.unusedVariables false

theorem need_yes_q (r : Value) (w : World) : Calls Tryz.prog 97 #[r, .bool true] w fun e w' => e = .returned (.tuple #[]) ∧ w' = w := (need_yes r w).mono fun _ _ ⟨h1, h2⟩ => ⟨h1, h2.symm⟩
set_option maxHeartbeats 400000 in
theorem one_some {rb : Nat} {t : ByteArray} {a : Nat} (hs : t.size ≤ 1048576) (w : World) (hr : Rd w rb t a) (h : a < t.size) :
    Calls Tryz.prog 51 #[.pointer (some ⟨rb, 0, none⟩)] w fun e w' => e = .returned (.int .u8 (t[a].toNat : Int)) ∧ Rd w' rb t (a + 1) ∧ w.grownBy w' (some rb) := by
  have HR : Hid (Rd w rb t a) := hr
  have c0 := hr.c0
  have c1 := hr.c1
  have f1 := hr.fz 1
  have h' : (a : Int) < (t.size : Int) := by omega
  clear hr
  go_enter Tryz.func51, Tryz.ntmps51
  go_wp2_with fail
  go_quiet (first | (go_at_call 97; exact Calls.quiet_of_same (need_yes_q _ _)))
  go_wp2_with fail
  go_quiet (fail)
  go_wp2_with fail
  go_ret
  exact ⟨rfl, Rd.set (w := w.drewN _) (a := a) HR.out (b := a + 1) (by omega), (grown_drewN (World.grownBy.refl w _) _).trans (grown_set _ _ _ _)⟩
set_option maxHeartbeats 400000 in
set_option maxRecDepth 100000 in
theorem one_none {rb : Nat} {t : ByteArray} {a : Nat} (hs : t.size ≤ 1048576) (w : World) (hr : Rd w rb t a) (h : ¬ a < t.size) :
    Calls Tryz.prog 51 #[.pointer (some ⟨rb, 0, none⟩)] w fun e w' => e = .panicked thrown ∧ w.grownBy w' (some rb) := by
  have HR : Hid (Rd w rb t a) := hr
  have c0 := hr.c0
  have c1 := hr.c1
  have h' : decide ((a : Int) < (t.size : Int)) = false := decide_eq_false (by omega)
  have h2 : decide (a < t.size) = false := decide_eq_false h
  clear hr h
  go_enter Tryz.func51, Tryz.ntmps51
  go_wp2_with fail
  go_still_tail 11, (by kernel_rfl)
  go_wp2_with (go_at_call 97; refine (need_no _ _).mono ?_; rintro e w2 ⟨rfl, rfl⟩)
  exact ⟨rfl, rfl, grown_drew (World.grownBy.refl w _)⟩

end Go.Proofs.YtimacmijinblmaaGreat
namespace Go.Proofs.YtimacmijinblmaaGreat
open Go.RowKit
open Ents (okB kindB rest ent)
set_option linter.unusedVariables false
set_option linter.unusedSimpArgs false

theorem at_get {t : ByteArray} {a : Nat} {k : UInt8} (h : (Batches.by_ t)[a]? = some k) : ∃ ha : a < t.size, t[a] = k := by
  obtain ⟨h1, h2⟩ := List.getElem?_eq_some_iff.1 h
  exact ⟨h1, h2⟩
theorem at_none {t : ByteArray} {a : Nat} (h : (Batches.by_ t)[a]? = none) : ¬ a < t.size := fun h1 => by
  have := List.getElem?_eq_none_iff.1 h
  have : (Batches.by_ t).length = t.size := rfl
  omega
theorem one_at {rb : Nat} {t : ByteArray} {a : Nat} {k : UInt8} (hs : t.size ≤ 1048576) (w : World) (hr : Rd w rb t a) (h : (Batches.by_ t)[a]? = some k) :
    Calls Tryz.prog 51 #[.pointer (some ⟨rb, 0, none⟩)] w fun e w' => e = .returned (.int .u8 (k.toNat : Int)) ∧ Rd w' rb t (a + 1) ∧ w.grownBy w' (some rb) := by
  obtain ⟨ha, rfl⟩ := at_get h
  exact one_some hs w hr ha
theorem ContV.set {W : World} {B C : Nat} {e : EntL} {v : Value} (h : ContV W B e v) (hB : C ≤ B) {rb : Nat} {t : ByteArray} {a : Nat} (hr : Rd W rb t a) (x : Value) : ContV (W.setCell ⟨rb, 1, none⟩ x) C e v := by
  rcases h with h | ⟨h1, h2, u, h3, h4⟩ | h
  · exact Or.inl h
  · exact Or.inr (Or.inl ⟨h1, h2, u, h3, own_set (own_mono h4 hB) _ _ _ (own_not h4 hr.1 (by decide))⟩)
  · exact Or.inr (Or.inr h)
theorem wrap_u8 (k : UInt8) : wrap64 ((k.toNat : Nat) : Int) = ((k.toNat : Nat) : Int) := wrap_byte k
set_option maxHeartbeats 2000000 in
set_option maxRecDepth 100000 in
theorem content_torn {rb : Nat} {t : ByteArray} {b : Nat} (hs : t.size ≤ 1048576) (w : World) (hr : Rd w rb t b) (h : (Batches.by_ t)[b]? = none) :
    Calls Tryz.prog 127 #[.pointer (some ⟨rb, 0, none⟩)] w fun en w' => en = .panicked thrown ∧ w.grownBy w' (some rb) := by
  have HR : Hid (Rd w rb t b) := hr
  have HN : Hid (¬ b < t.size) := at_none h
  clear hr h
  go_enter Tryz.func127, Tryz.ntmps127
  go_wp2_with (first | (go_at_call 51; refine (one_none hs _ HR.out HN.out).mono ?_; rintro e w1 ⟨rfl, hg1⟩))
  exact ⟨rfl, rfl, hg1⟩
set_option maxHeartbeats 4000000 in
set_option maxRecDepth 100000 in
theorem content_bad {rb : Nat} {t : ByteArray} {b j : Nat} {k : UInt8} (hs : t.size ≤ 1048576) (w : World) (hr : Rd w rb t b) (h : (Batches.by_ t)[b]? = some k) (hk : kindB (ent t j k b) = false) :
    Calls Tryz.prog 127 #[.pointer (some ⟨rb, 0, none⟩)] w fun en w' => en = .panicked thrown ∧ w.grownBy w' (some rb) := by
  have hb : b < t.size := (List.getElem?_eq_some_iff.1 h).1
  have HR : Hid (Rd w rb t b) := hr
  have HN : Hid (b < t.size) := hb
  have HH : Hid ((Batches.by_ t)[b]? = some k) := h
  have HCO : Hid (∀ W, Calls Tryz.prog 119 #[.int .i64 (k.toNat : Int), .string (t.extract (b + 1) t.size)] W fun en w' => en = .returned .nilIface ∧ Below W.heap.size W w') := fun W => (contentOf_is (ent t j k b) (by have := Ents.rest_size t (b + 1); simp only [ent]; omega) W).mono fun en w' ⟨v, q1, q2, q3⟩ => by
    rcases q2 with ⟨_, q⟩ | ⟨q, _⟩
    · rw [q] at q1; exact ⟨q1, q3⟩
    · rw [hk] at q; cases q
  obtain ⟨c, hc⟩ : ∃ c, c = b + 1 := ⟨_, rfl⟩
  have HC1 : Hid (c = b + 1) := hc
  rw [← hc] at HCO
  clear hc
  have HWR : Hid (wrap64 ((k.toNat : Nat) : Int) = ((k.toNat : Nat) : Int)) := wrap_u8 k
  have q2 := neq_nilnil
  clear hr h hk hb
  go_enter Tryz.func127, Tryz.ntmps127
  go_wp2_with fail
  refine (one_at hs _ HR.out HH.out).mono ?_
  rintro e w1 ⟨rfl, hr1, hg1⟩
  have HG1 : Hid (w.grownBy w1 (some rb)) := hg1
  have HR1 : Hid (Rd w1 rb t c) := by rw [HC1.out]; exact hr1
  clear hr1 hg1
  have x0 : (0 : Int) ≤ (c : Int) := by omega
  have x1 : (c : Int) ≤ (t.size : Int) := by have := HN.out; have := HC1.out; omega
  have c0 := HR1.out.c0
  have c1 := HR1.out.c1
  go_wp2_with fail
  rw [HWR.out]
  go_region_held3 (fun w' => w'.cell? ⟨rb, 0, none⟩ = some (.string t) ∧ w'.cell? ⟨rb, 1, none⟩ = some (.int .i64 (c : Int)))
    (first | assumption | exact ⟨c0, c1⟩ | exact ⟨d0, d1⟩ | fail)
    (first | (go_at_call 119; refine Calls.mono (HCO.out _) ?_; rintro en w5 ⟨rfl, hb5⟩; have hr5 := (Rd.drew HR1.out).below hb5; have d0 := hr5.c0; have d1 := hr5.c1; have HG5 : Hid (w.grownBy w5 (some rb)) := (grown_drew HG1.out).trans (own_below' hb5); clear hb5 hr5) | fail)
  clear c0 c1
  go_wp2_with (go_at_call 97; refine (need_no _ _).mono ?_; rintro e w6 ⟨rfl, hw6⟩; have hw7 := hw6.symm; clear hw6; subst hw7)
  exact ⟨rfl, rfl, HG5.out⟩
set_option maxHeartbeats 4000000 in
set_option maxRecDepth 100000 in
theorem content_some {rb : Nat} {t : ByteArray} {b j : Nat} {k : UInt8} (hs : t.size ≤ 1048576) (w : World) (hr : Rd w rb t b) (h : (Batches.by_ t)[b]? = some k) (hk : kindB (ent t j k b) = true) :
    Calls Tryz.prog 127 #[.pointer (some ⟨rb, 0, none⟩)] w fun en w' => ∃ v, en = .returned v ∧ ContV w' w.heap.size (ent t j k b) v ∧ Rd w' rb t t.size ∧ w.grownBy w' (some rb) := by
  have hb : b < t.size := (List.getElem?_eq_some_iff.1 h).1
  have HR : Hid (Rd w rb t b) := hr
  have HN : Hid (b < t.size) := hb
  have HH : Hid ((Batches.by_ t)[b]? = some k) := h
  have HCO : Hid (∀ W, Calls Tryz.prog 119 #[.int .i64 (k.toNat : Int), .string (t.extract (b + 1) t.size)] W fun en w' => ∃ y x, en = .returned (.iface y x) ∧ ContV w' W.heap.size (ent t j k b) (.iface y x) ∧ Below W.heap.size W w') := fun W => (contentOf_is (ent t j k b) (by have := Ents.rest_size t (b + 1); simp only [ent]; omega) W).mono fun en w' ⟨v, q1, q2, q3⟩ => by
    rcases q2 with ⟨q, _⟩ | ⟨_, q⟩
    · rw [hk] at q; cases q
    · obtain ⟨y, x, rfl⟩ := q.iface
      exact ⟨y, x, q1, q, q3⟩
  obtain ⟨c, hc⟩ : ∃ c, c = b + 1 := ⟨_, rfl⟩
  have HC1 : Hid (c = b + 1) := hc
  rw [← hc] at HCO
  clear hc
  have HWR : Hid (wrap64 ((k.toNat : Nat) : Int) = ((k.toNat : Nat) : Int)) := wrap_u8 k
  have q1 := neq_nil
  obtain ⟨e, he⟩ : ∃ e, e = ent t j k b := ⟨_, rfl⟩
  rw [← he] at HCO ⊢
  clear hr h hk hb he
  go_enter Tryz.func127, Tryz.ntmps127
  go_wp2_with fail
  refine (one_at hs _ HR.out HH.out).mono ?_
  rintro en w1 ⟨rfl, hr1, hg1⟩
  have HG1 : Hid (w.grownBy w1 (some rb)) := hg1
  have HR1 : Hid (Rd w1 rb t c) := by rw [HC1.out]; exact hr1
  clear hr1 hg1
  have x0 : (0 : Int) ≤ (c : Int) := by omega
  have x1 : (c : Int) ≤ (t.size : Int) := by have := HN.out; have := HC1.out; omega
  have c0 := HR1.out.c0
  have c1 := HR1.out.c1
  go_wp2_with fail
  rw [HWR.out]
  go_region_held3 (fun w' => w'.cell? ⟨rb, 0, none⟩ = some (.string t) ∧ w'.cell? ⟨rb, 1, none⟩ = some (.int .i64 (c : Int)))
    (first | assumption | exact ⟨c0, c1⟩ | exact ⟨d0, d1⟩ | fail)
    (first | (go_at_call 119; refine Calls.mono (HCO.out _) ?_; rintro en w5 ⟨y5, x5, rfl, hv5, hb5⟩; have hr5 := (Rd.drew HR1.out).below hb5; have d0 := hr5.c0; have d1 := hr5.c1; have HR5 : Hid (Rd w5 rb t c) := hr5; have HV5 : Hid (ContV w5 w1.heap.size e (.iface y5 x5)) := hv5; have HG5 : Hid (w.grownBy w5 (some rb)) := (grown_drew HG1.out).trans (own_below' hb5); clear hb5 hr5 hv5) | fail)
  clear c0 c1
  have d2 := HR5.out.fz 1
  go_wp2_with (go_at_call 97; refine (need_yes _ _).mono ?_; rintro e w6 ⟨rfl, hw6⟩; have hw7 := hw6.symm; clear hw6; subst hw7)
  go_ret
  refine ⟨_, rfl, ?_, Rd.set (a := c) HR5.out (Nat.le_refl _), HG5.out.trans (grown_set _ _ _ _)⟩
  exact ContV.set HV5.out HG1.out.size HR5.out _
end Go.Proofs.YtimacmijinblmaaGreat
