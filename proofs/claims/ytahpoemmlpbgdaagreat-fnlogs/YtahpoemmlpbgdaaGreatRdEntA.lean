/- The program's reader at the content of an entry and at an entry, walked. The program's reader at an entry, walked. The closure that reads an entry and readWhole over it, walked. The program's ReadEntry, walked. -/
import Derived.Test.YtahpoemmlpbgdaaGreatImplEntA
import Derived.Test.YtahpoemmlpbgdaaGreatMathB
import Derived.Test.YtahpoemmlpbgdaaGreatCurA
namespace Go.Proofs.YtahpoemmlpbgdaaGreat
section
open Go.RowKit
open Ents (okB kindB rest ent)
set_option linter.unusedVariables false
set_option linter.unusedSimpArgs false

theorem at_get {t : ByteArray} {a : Nat} {k : UInt8} (h : (Batches.by_ t)[a]? = some k) : ∃ ha : a < t.size, t[a] = k := by
  obtain ⟨h1, h2⟩ := List.getElem?_eq_some_iff.1 h
  exact ⟨h1, h2⟩
theorem at_none {t : ByteArray} {a : Nat} (h : (Batches.by_ t)[a]? = none) : ¬ a < t.size := fun h1 => by
  have := List.getElem?_eq_none_iff.1 h
  have : (Batches.by_ t).length = t.size := rfl
  omega
theorem one_at {rb : Nat} {t : ByteArray} {a : Nat} {k : UInt8} (hs : t.size ≤ 1048576) (w : World) (hr : Rd w rb t a) (h : (Batches.by_ t)[a]? = some k) :
    Calls Tryz.prog 93 #[.pointer (some ⟨rb, 0, none⟩)] w fun e w' => e = .returned (.int .u8 (k.toNat : Int)) ∧ Rd w' rb t (a + 1) ∧ w.grownBy w' (some rb) := by
  obtain ⟨ha, rfl⟩ := at_get h
  exact one_some hs w hr ha
theorem ContV.set {W : World} {B C : Nat} {e : EntL} {v : Value} (h : ContV W B e v) (hB : C ≤ B) {rb : Nat} {t : ByteArray} {a : Nat} (hr : Rd W rb t a) (x : Value) : ContV (W.setCell ⟨rb, 1, none⟩ x) C e v := by
  rcases h with h | ⟨h1, h2, u, h3, h4⟩ | h
  · exact Or.inl h
  · exact Or.inr (Or.inl ⟨h1, h2, u, h3, own_set (own_mono h4 hB) _ _ _ (own_not h4 hr.1 (by decide))⟩)
  · exact Or.inr (Or.inr h)
theorem wrap_u8 (k : UInt8) : wrap64 ((k.toNat : Nat) : Int) = ((k.toNat : Nat) : Int) := wrap_byte k
set_option maxHeartbeats 2000000 in
set_option maxRecDepth 100000 in
theorem content_torn {rb : Nat} {t : ByteArray} {b : Nat} (hs : t.size ≤ 1048576) (w : World) (hr : Rd w rb t b) (h : (Batches.by_ t)[b]? = none) :
    Calls Tryz.prog 110 #[.pointer (some ⟨rb, 0, none⟩)] w fun en w' => en = .panicked thrown ∧ w.grownBy w' (some rb) := by
  have HR : Hid (Rd w rb t b) := hr
  have HN : Hid (¬ b < t.size) := at_none h
  clear hr h
  go_enter Tryz.func110, Tryz.ntmps110
  go_wp2_with (first | (go_at_call 93; refine (one_none hs _ HR.out HN.out).mono ?_; rintro e w1 ⟨rfl, hg1⟩))
  exact ⟨rfl, rfl, hg1⟩
set_option maxHeartbeats 4000000 in
set_option maxRecDepth 100000 in
theorem content_bad {rb : Nat} {t : ByteArray} {b j : Nat} {k : UInt8} (hs : t.size ≤ 1048576) (w : World) (hr : Rd w rb t b) (h : (Batches.by_ t)[b]? = some k) (hk : kindB (ent t j k b) = false) :
    Calls Tryz.prog 110 #[.pointer (some ⟨rb, 0, none⟩)] w fun en w' => en = .panicked thrown ∧ w.grownBy w' (some rb) := by
  have hb : b < t.size := (List.getElem?_eq_some_iff.1 h).1
  have HR : Hid (Rd w rb t b) := hr
  have HN : Hid (b < t.size) := hb
  have HH : Hid ((Batches.by_ t)[b]? = some k) := h
  have HCO : Hid (∀ W, Calls Tryz.prog 88 #[.int .i64 (k.toNat : Int), .string (t.extract (b + 1) t.size)] W fun en w' => en = .returned .nilIface ∧ Below W.heap.size W w') := fun W => (contentOf_is (ent t j k b) (by have := Ents.rest_size t (b + 1); simp only [ent]; omega) W).mono fun en w' ⟨v, q1, q2, q3⟩ => by
    rcases q2 with ⟨_, q⟩ | ⟨q, _⟩
    · rw [q] at q1; exact ⟨q1, q3⟩
    · rw [hk] at q; cases q
  obtain ⟨c, hc⟩ : ∃ c, c = b + 1 := ⟨_, rfl⟩
  have HC1 : Hid (c = b + 1) := hc
  rw [← hc] at HCO
  clear hc
  have HWR : Hid (wrap64 ((k.toNat : Nat) : Int) = ((k.toNat : Nat) : Int)) := wrap_u8 k
  have q2 := neq_nilnil
  clear hr h hk hb
  go_enter Tryz.func110, Tryz.ntmps110
  go_wp2_with fail
  refine (one_at hs _ HR.out HH.out).mono ?_
  rintro e w1 ⟨rfl, hr1, hg1⟩
  have HG1 : Hid (w.grownBy w1 (some rb)) := hg1
  have HR1 : Hid (Rd w1 rb t c) := by rw [HC1.out]; exact hr1
  clear hr1 hg1
  have x0 : (0 : Int) ≤ (c : Int) := by omega
  have x1 : (c : Int) ≤ (t.size : Int) := by have := HN.out; have := HC1.out; omega
  have c0 := HR1.out.c0
  have c1 := HR1.out.c1
  go_wp2_with fail
  rw [HWR.out]
  go_region_held3 (fun w' => w'.cell? ⟨rb, 0, none⟩ = some (.string t) ∧ w'.cell? ⟨rb, 1, none⟩ = some (.int .i64 (c : Int)))
    (first | assumption | exact ⟨c0, c1⟩ | exact ⟨d0, d1⟩ | fail)
    (first | (go_at_call 88; refine Calls.mono (HCO.out _) ?_; rintro en w5 ⟨rfl, hb5⟩; have hr5 := (Rd.drew HR1.out).below hb5; have d0 := hr5.c0; have d1 := hr5.c1; have HG5 : Hid (w.grownBy w5 (some rb)) := (grown_drew HG1.out).trans (own_below' hb5); clear hb5 hr5) | fail)
  clear c0 c1
  go_wp2_with (go_at_call 92; refine (need_no _ _).mono ?_; rintro e w6 ⟨rfl, hw6⟩; have hw7 := hw6.symm; clear hw6; subst hw7)
  exact ⟨rfl, rfl, HG5.out⟩
set_option maxHeartbeats 4000000 in
set_option maxRecDepth 100000 in
theorem content_some {rb : Nat} {t : ByteArray} {b j : Nat} {k : UInt8} (hs : t.size ≤ 1048576) (w : World) (hr : Rd w rb t b) (h : (Batches.by_ t)[b]? = some k) (hk : kindB (ent t j k b) = true) :
    Calls Tryz.prog 110 #[.pointer (some ⟨rb, 0, none⟩)] w fun en w' => ∃ v, en = .returned v ∧ ContV w' w.heap.size (ent t j k b) v ∧ Rd w' rb t t.size ∧ w.grownBy w' (some rb) := by
  have hb : b < t.size := (List.getElem?_eq_some_iff.1 h).1
  have HR : Hid (Rd w rb t b) := hr
  have HN : Hid (b < t.size) := hb
  have HH : Hid ((Batches.by_ t)[b]? = some k) := h
  have HCO : Hid (∀ W, Calls Tryz.prog 88 #[.int .i64 (k.toNat : Int), .string (t.extract (b + 1) t.size)] W fun en w' => ∃ y x, en = .returned (.iface y x) ∧ ContV w' W.heap.size (ent t j k b) (.iface y x) ∧ Below W.heap.size W w') := fun W => (contentOf_is (ent t j k b) (by have := Ents.rest_size t (b + 1); simp only [ent]; omega) W).mono fun en w' ⟨v, q1, q2, q3⟩ => by
    rcases q2 with ⟨q, _⟩ | ⟨_, q⟩
    · rw [hk] at q; cases q
    · obtain ⟨y, x, rfl⟩ := q.iface
      exact ⟨y, x, q1, q, q3⟩
  obtain ⟨c, hc⟩ : ∃ c, c = b + 1 := ⟨_, rfl⟩
  have HC1 : Hid (c = b + 1) := hc
  rw [← hc] at HCO
  clear hc
  have HWR : Hid (wrap64 ((k.toNat : Nat) : Int) = ((k.toNat : Nat) : Int)) := wrap_u8 k
  have q1 := neq_nil
  obtain ⟨e, he⟩ : ∃ e, e = ent t j k b := ⟨_, rfl⟩
  rw [← he] at HCO ⊢
  clear hr h hk hb he
  go_enter Tryz.func110, Tryz.ntmps110
  go_wp2_with fail
  refine (one_at hs _ HR.out HH.out).mono ?_
  rintro en w1 ⟨rfl, hr1, hg1⟩
  have HG1 : Hid (w.grownBy w1 (some rb)) := hg1
  have HR1 : Hid (Rd w1 rb t c) := by rw [HC1.out]; exact hr1
  clear hr1 hg1
  have x0 : (0 : Int) ≤ (c : Int) := by omega
  have x1 : (c : Int) ≤ (t.size : Int) := by have := HN.out; have := HC1.out; omega
  have c0 := HR1.out.c0
  have c1 := HR1.out.c1
  go_wp2_with fail
  rw [HWR.out]
  go_region_held3 (fun w' => w'.cell? ⟨rb, 0, none⟩ = some (.string t) ∧ w'.cell? ⟨rb, 1, none⟩ = some (.int .i64 (c : Int)))
    (first | assumption | exact ⟨c0, c1⟩ | exact ⟨d0, d1⟩ | fail)
    (first | (go_at_call 88; refine Calls.mono (HCO.out _) ?_; rintro en w5 ⟨y5, x5, rfl, hv5, hb5⟩; have hr5 := (Rd.drew HR1.out).below hb5; have d0 := hr5.c0; have d1 := hr5.c1; have HR5 : Hid (Rd w5 rb t c) := hr5; have HV5 : Hid (ContV w5 w1.heap.size e (.iface y5 x5)) := hv5; have HG5 : Hid (w.grownBy w5 (some rb)) := (grown_drew HG1.out).trans (own_below' hb5); clear hb5 hr5 hv5) | fail)
  clear c0 c1
  have d2 := HR5.out.fz 1
  go_wp2_with (go_at_call 92; refine (need_yes _ _).mono ?_; rintro e w6 ⟨rfl, hw6⟩; have hw7 := hw6.symm; clear hw6; subst hw7)
  go_ret
  refine ⟨_, rfl, ?_, Rd.set (a := c) HR5.out (Nat.le_refl _), HG5.out.trans (grown_set _ _ _ _)⟩
  exact ContV.set HV5.out HG1.out.size HR5.out _
end
section
open Go.RowKit
open Ents (okB kindB rest ent Gets Torn)
set_option linter.unusedVariables false
set_option linter.unusedSimpArgs false

/-- Reading ends ahead of its end, or what is read is no content. -/
def Fails (t : ByteArray) : Prop := Torn t ∨ ∃ i j k a b, Gets t i j k a b ∧ kindB (ent t j k b) = false
set_option maxHeartbeats 2000000 in
set_option maxRecDepth 100000 in
theorem entry_fails {rb : Nat} {t : ByteArray} (hs : t.size ≤ 1048576) (w : World) (hr : Rd w rb t 0) (h : Fails t) :
    Calls Tryz.prog 96 #[.pointer (some ⟨rb, 0, none⟩)] w fun en w' => en = .panicked thrown ∧ w.grownBy w' (some rb) := by
  have HR : Hid (Rd (w.alloc (Obj.cells #[.int .i64 0, .int .i64 0, .string ⟨#[]⟩] 51)) rb t 0) := hr.below ((Below.refl _ _).alloc (Nat.le_refl _) _)
  have HG : Hid (w.grownBy (w.alloc (Obj.cells #[.int .i64 0, .int .i64 0, .string ⟨#[]⟩] 51)) (some rb)) := grown_alloc _ _
  clear hr
  rcases h with (h | ⟨c, h, hc⟩ | ⟨h0, h1⟩ | ⟨i, a, h0, h1, h2⟩ | ⟨i, a, j, b, h0, h1, h2, h3⟩) | ⟨i, j, k, a, b, hg, hk⟩
  · have HN : Hid (¬ 0 < t.size) := at_none h
    clear h
    go_enter Tryz.func96, Tryz.ntmps96
    go_wp2_with (first | (go_at_call 93; refine (one_none hs _ HR.out HN.out).mono ?_; rintro e w1 ⟨rfl, hg1⟩))
    exact ⟨rfl, rfl, HG.out.trans hg1⟩
  · have HH : Hid _ := h
    have hc1 : ((c.toNat : Int) == 69) = false := by
      have : c.toNat ≠ 69 := fun x => hc (UInt8.toNat_inj.1 x)
      simp; omega
    clear h hc
    go_enter Tryz.func96, Tryz.ntmps96
    go_wp2_with (first | (go_at_call 93; refine (one_at hs _ HR.out HH.out).mono ?_; rintro e w1 ⟨rfl, hr1, hg1⟩) | (go_at_call 92; refine (need_no _ _).mono ?_; rintro e w2 ⟨rfl, rfl⟩))
    exact ⟨rfl, rfl, HG.out.trans hg1⟩
  · have HH : Hid ((Batches.by_ t)[0]? = some 69) := h0
    have H1 : Hid (Words.rd t.data.toList 1 = none) := h1
    clear h0 h1
    go_enter Tryz.func96, Tryz.ntmps96
    go_wp2_with fail
    refine (one_at hs _ HR.out HH.out).mono ?_
    rintro e w1 ⟨rfl, hr1, hg1⟩
    have HR1 : Hid (Rd w1 rb t 1) := hr1
    have HG1 : Hid (w.grownBy w1 (some rb)) := HG.out.trans hg1
    clear hr1 hg1 HR HG
    have hx : (((69 : UInt8).toNat : Int) == 69) = true := by decide
    go_wp2_with fail
    refine (need_yes _ _).mono ?_
    rintro e w2 ⟨rfl, hw2⟩
    have hw3 := hw2.symm
    clear hw2
    subst hw3
    go_wp2_with fail
    refine (number_none hs _ HR1.out H1.out).mono ?_
    rintro e w3 ⟨rfl, hg3⟩
    exact ⟨rfl, rfl, HG1.out.trans hg3⟩
  · have HH : Hid ((Batches.by_ t)[0]? = some 69) := h0
    have H1 : Hid (Words.rd t.data.toList 1 = some (i, a)) := h1
    have H2 : Hid (Words.rd t.data.toList a = none) := h2
    clear h0 h1 h2
    go_enter Tryz.func96, Tryz.ntmps96
    go_wp2_with fail
    refine (one_at hs _ HR.out HH.out).mono ?_
    rintro e w1 ⟨rfl, hr1, hg1⟩
    have HR1 : Hid (Rd w1 rb t 1) := hr1
    have HG1 : Hid (w.grownBy w1 (some rb)) := HG.out.trans hg1
    clear hr1 hg1 HR HG
    have hx : (((69 : UInt8).toNat : Int) == 69) = true := by decide
    go_wp2_with fail
    refine (need_yes _ _).mono ?_
    rintro e w2 ⟨rfl, hw2⟩
    have hw3 := hw2.symm
    clear hw2
    subst hw3
    go_wp2_with fail
    refine (number_some hs _ HR1.out H1.out).mono ?_
    rintro e w3 ⟨rfl, hr3, hg3⟩
    have HR3 : Hid (Rd w3 rb t a) := hr3
    have HG3 : Hid (w.grownBy w3 (some rb)) := HG1.out.trans hg3
    clear hr3 hg3
    go_wp2_with fail
    refine (number_none hs _ HR3.out H2.out).mono ?_
    rintro e w4 ⟨rfl, hg4⟩
    exact ⟨rfl, rfl, HG3.out.trans hg4⟩
  · have HH : Hid ((Batches.by_ t)[0]? = some 69) := h0
    have H1 : Hid (Words.rd t.data.toList 1 = some (i, a)) := h1
    have H2 : Hid (Words.rd t.data.toList a = some (j, b)) := h2
    have H3 : Hid ((Batches.by_ t)[b]? = none) := h3
    clear h0 h1 h2 h3
    go_enter Tryz.func96, Tryz.ntmps96
    go_wp2_with fail
    refine (one_at hs _ HR.out HH.out).mono ?_
    rintro e w1 ⟨rfl, hr1, hg1⟩
    have HR1 : Hid (Rd w1 rb t 1) := hr1
    have HG1 : Hid (w.grownBy w1 (some rb)) := HG.out.trans hg1
    clear hr1 hg1 HR HG
    have hx : (((69 : UInt8).toNat : Int) == 69) = true := by decide
    go_wp2_with fail
    refine (need_yes _ _).mono ?_
    rintro e w2 ⟨rfl, hw2⟩
    have hw3 := hw2.symm
    clear hw2
    subst hw3
    go_wp2_with fail
    refine (number_some hs _ HR1.out H1.out).mono ?_
    rintro e w3 ⟨rfl, hr3, hg3⟩
    have HR3 : Hid (Rd w3 rb t a) := hr3
    have HG3 : Hid (w.grownBy w3 (some rb)) := HG1.out.trans hg3
    clear hr3 hg3
    go_wp2_with fail
    refine (number_some hs _ HR3.out H2.out).mono ?_
    rintro e w4 ⟨rfl, hr4, hg4⟩
    have HR4 : Hid (Rd w4 rb t b) := hr4
    have HG4 : Hid (w.grownBy w4 (some rb)) := HG3.out.trans hg4
    clear hr4 hg4
    go_wp2_with fail
    refine (content_torn hs _ HR4.out H3.out).mono ?_
    rintro e w5 ⟨rfl, hg5⟩
    exact ⟨rfl, rfl, HG4.out.trans hg5⟩
  · have HH : Hid ((Batches.by_ t)[0]? = some 69) := hg.h0
    have H1 : Hid (Words.rd t.data.toList 1 = some (i, a)) := hg.r1
    have H2 : Hid (Words.rd t.data.toList a = some (j, b)) := hg.r2
    have H3 : Hid ((Batches.by_ t)[b]? = some k) := hg.hk
    have H4 : Hid (kindB (ent t j k b) = false) := hk
    clear hg hk
    go_enter Tryz.func96, Tryz.ntmps96
    go_wp2_with fail
    refine (one_at hs _ HR.out HH.out).mono ?_
    rintro e w1 ⟨rfl, hr1, hg1⟩
    have HR1 : Hid (Rd w1 rb t 1) := hr1
    have HG1 : Hid (w.grownBy w1 (some rb)) := HG.out.trans hg1
    clear hr1 hg1 HR HG
    have hx : (((69 : UInt8).toNat : Int) == 69) = true := by decide
    go_wp2_with fail
    refine (need_yes _ _).mono ?_
    rintro e w2 ⟨rfl, hw2⟩
    have hw3 := hw2.symm
    clear hw2
    subst hw3
    go_wp2_with fail
    refine (number_some hs _ HR1.out H1.out).mono ?_
    rintro e w3 ⟨rfl, hr3, hg3⟩
    have HR3 : Hid (Rd w3 rb t a) := hr3
    have HG3 : Hid (w.grownBy w3 (some rb)) := HG1.out.trans hg3
    clear hr3 hg3
    go_wp2_with fail
    refine (number_some hs _ HR3.out H2.out).mono ?_
    rintro e w4 ⟨rfl, hr4, hg4⟩
    have HR4 : Hid (Rd w4 rb t b) := hr4
    have HG4 : Hid (w.grownBy w4 (some rb)) := HG3.out.trans hg4
    clear hr4 hg4
    go_wp2_with fail
    refine (content_bad (j := j) hs _ HR4.out H3.out H4.out).mono ?_
    rintro e w5 ⟨rfl, hg5⟩
    exact ⟨rfl, rfl, HG4.out.trans hg5⟩
theorem ent_data {t : ByteArray} {j b : Nat} {k : UInt8} (hk : kindB (ent t j k b) = true) : (ent t j k b).data.size ≤ 120 := (Ents.kind_in hk).2
def DataOf (W : World) (v : Value) (T : ByteArray) : Prop := (v = .iface 151 (.agg #[]) ∧ Calls Tryz.prog 133 #[.agg #[]] W fun en w' => en = .returned (.string T) ∧ Below W.heap.size W w') ∨
  (∃ a n c, v = .iface 153 (.agg #[.slice a n c]) ∧ Calls Tryz.prog 134 #[.agg #[.slice a n c]] W fun en w' => en = .returned (.string T) ∧ Below W.heap.size W w') ∨
  (∃ u, v = .iface 155 (.agg #[.string u]) ∧ Calls Tryz.prog 136 #[.agg #[.string u]] W fun en w' => en = .returned (.string T) ∧ Below W.heap.size W w')
theorem dataOf_is {W : World} {B : Nat} {e : EntL} {v : Value} (hs : e.data.size ≤ 120) (h : ContV W B e v) : DataOf W v e.data := by
  rcases h with ⟨k, hd, rfl⟩ | ⟨k, hc, u, rfl, ho⟩ | ⟨k, rfl⟩
  · left
    refine ⟨rfl, ?_⟩
    rw [hd]
    exact data_none W
  · right; left
    obtain ⟨va, vc, hv⟩ := own_slice ho
    subst hv
    exact ⟨_, _, _, rfl, data_conf e.data (by omega) hc W ho⟩
  · right; right
    exact ⟨_, rfl, data_cmd e.data W⟩
set_option maxHeartbeats 4000000 in
set_option maxRecDepth 100000 in
theorem entry_gets {rb : Nat} {t : ByteArray} {i j : Nat} {k : UInt8} {a b : Nat} (hs : t.size ≤ 1048576) (w : World) (hr : Rd w rb t 0) (hg : Gets t i j k a b) (hk : kindB (ent t j k b) = true) :
    Calls Tryz.prog 96 #[.pointer (some ⟨rb, 0, none⟩)] w fun en w' => en = .returned (.tuple #[.int .i64 (i : Int), entV (ent t j k b)]) ∧ Rd w' rb t t.size ∧ w.grownBy w' (some rb) := by
  have hlt := hr.lt
  have HR : Hid (Rd (w.alloc (Obj.cells #[.int .i64 0, .int .i64 0, .string ⟨#[]⟩] 51)) rb t 0) := hr.below ((Below.refl _ _).alloc (Nat.le_refl _) _)
  have HN : Hid ((w.alloc (Obj.cells #[.int .i64 0, .int .i64 0, .string ⟨#[]⟩] 51)).heap[w.heap.size]? = some (.cells #[.int .i64 0, .int .i64 0, .string ⟨#[]⟩] 51 (0, 0))) := heap_alloc_new w _
  have HG : Hid (w.grownBy (w.alloc (Obj.cells #[.int .i64 0, .int .i64 0, .string ⟨#[]⟩] 51)) (some rb)) := grown_alloc _ _
  have HH : Hid ((Batches.by_ t)[0]? = some 69) := hg.h0
  have H1 : Hid (Words.rd t.data.toList 1 = some (i, a)) := hg.r1
  have H2 : Hid (Words.rd t.data.toList a = some (j, b)) := hg.r2
  have H3 : Hid ((Batches.by_ t)[b]? = some k) := hg.hk
  have H4 : Hid (kindB (ent t j k b) = true) := hk
  have HDS : Hid ((ent t j k b).data.size ≤ 120) := ent_data hk
  have m73 : ∀ W : World, (method 277 151 (.agg #[]) "loop.example/g00103/impl.data").run Tryz.prog W = .ok (133, .agg #[]) W := fun W => met_none W
  have m75 : ∀ (W : World) (x : Option Addr) (y z : Nat), (method 277 153 (.agg #[.slice x y z]) "loop.example/g00103/impl.data").run Tryz.prog W = .ok (134, .agg #[.slice x y z]) W := fun W x y z => met_conf W
  have m78 : ∀ (W : World) (x : ByteArray), (method 277 155 (.agg #[.string x]) "loop.example/g00103/impl.data").run Tryz.prog W = .ok (136, .agg #[.string x]) W := fun W x => met_cmd W
  have HCS : Hid (∀ W : World, Rd W rb t b → Calls Tryz.prog 110 #[.pointer (some ⟨rb, 0, none⟩)] W fun en w' => ∃ v, en = .returned v ∧ ContV w' W.heap.size (ent t j k b) v ∧ Rd w' rb t t.size ∧ W.grownBy w' (some rb)) := fun W q => content_some hs W q H3.out H4.out
  obtain ⟨E, hE⟩ : ∃ E, E = ent t j k b := ⟨_, rfl⟩
  have HET : Hid (E.term = (j : Int)) := by show _ = _; rw [hE]; rfl
  rw [← hE] at HDS HCS ⊢
  unfold entV
  rw [HET.out]
  clear hr hg hk hE H4 H3
  go_enter Tryz.func96, Tryz.ntmps96
  go_wp2_with fail
  refine (one_at hs _ HR.out HH.out).mono ?_
  rintro e w1 ⟨rfl, hr1, hg1⟩
  have HR1 : Hid (Rd w1 rb t 1) := hr1
  have HG1 : Hid (w.grownBy w1 (some rb)) := HG.out.trans hg1
  have HN1 : Hid (_ = _) := grown_keep HN.out hg1 (by omega)
  clear hr1 hg1 HR HG HN
  have hx : (((69 : UInt8).toNat : Int) == 69) = true := by decide
  go_wp2_with fail
  refine (need_yes _ _).mono ?_
  rintro e w2 ⟨rfl, hw2⟩
  have hw3 := hw2.symm
  clear hw2
  subst hw3
  go_wp2_with fail
  refine (number_some hs _ HR1.out H1.out).mono ?_
  rintro e w3 ⟨rfl, hr3, hg3⟩
  have HR3 : Hid (Rd w3 rb t a) := hr3
  have HG3 : Hid (w.grownBy w3 (some rb)) := HG1.out.trans hg3
  have HN3 : Hid (_ = _) := grown_keep HN1.out hg3 (by omega)
  clear hr3 hg3 HN1 HR1 HG1
  go_wp2_with fail
  refine (number_some hs _ HR3.out H2.out).mono ?_
  rintro e w4 ⟨rfl, hr4, hg4⟩
  have HR4 : Hid (Rd w4 rb t b) := hr4
  have HG4 : Hid (w.grownBy w4 (some rb)) := HG3.out.trans hg4
  have HN4 : Hid (_ = _) := grown_keep HN3.out hg4 (by omega)
  clear hr4 hg4 HN3 HR3 HG3
  go_wp2_with fail
  refine Calls.mono (HCS.out _ HR4.out) ?_
  rintro e w5 ⟨v, rfl, hv, hr5, hg5⟩
  have HR5 : Hid (Rd w5 rb t t.size) := hr5
  have HG5 : Hid (w.grownBy w5 (some rb)) := HG4.out.trans hg5
  have HN5 : Hid (w5.heap[w.heap.size]? = some (.cells #[.int .i64 0, .int .i64 0, .string ⟨#[]⟩] 51 (0, 0))) := grown_keep HN4.out hg5 (by omega)
  have HKO : Hid (Calls Tryz.prog 107 #[v] w5 fun en w' => en = .returned (.int .i64 E.kind) ∧ w' = w5) := kindOf_is hv w5
  have hda := dataOf_is HDS.out hv
  clear hr5 hg5 HN4 HR4 HG4 hv HCS
  rcases hda with ⟨rfl, hq⟩ | ⟨x, y, z, rfl, hq⟩ | ⟨u, rfl, hq⟩
  · have HQ : Hid (Calls Tryz.prog _ _ w5 _) := hq
    clear hq
    go_wp2_with fail
    refine Calls.mono HKO.out ?_
    rintro e w6 ⟨rfl, hw6⟩
    have hw7 := hw6.symm
    clear hw6
    subst hw7
    go_wp2_with fail
    refine Calls.mono HQ.out ?_
    rintro e w7 ⟨rfl, hb7⟩
    have hn7 := (hb7.block _ (Array.getElem?_eq_some_iff.1 HN5.out).1).trans HN5.out
    have HN7 : Hid (w7.heap[w.heap.size]? = some (.cells #[.int .i64 0, .int .i64 0, .string ⟨#[]⟩] 51 (0, 0))) := hn7
    have HR7 : Hid (Rd w7 rb t t.size) := HR5.out.below hb7
    have HG7 : Hid (w.grownBy w7 (some rb)) := grown_below HG5.out hb7
    have c0 := cell_of_row _ _ 0 _ _ _ hn7
    have c1 := cell_of_row _ _ 1 _ _ _ hn7
    have c2 := cell_of_row _ _ 2 _ _ _ hn7
    have f0 := frozen_of_row _ _ 0 _ _ hn7
    have f1 := frozen_of_row _ _ 1 _ _ hn7
    have f2 := frozen_of_row _ _ 2 _ _ hn7
    simp at c0 c1 c2
    clear hn7 hb7 HKO HQ HN5 HR5 HG5
    go_wp2
    obtain ⟨l0, l1, l2⟩ := three_cell HN7.out (.int .i64 (j : Int)) (.int .i64 E.kind) (.string E.data)
    exact bodyPost_ret (v := .tuple #[.int .i64 (i : Int), .agg #[.int .i64 (j : Int), .int .i64 E.kind, .string E.data]]) (by simp [results, Tryz.results96, go_sem, l0, l1, l2]) rfl ⟨rfl, ((HR7.out.setNew (k := w.heap.size) (by omega) 0 _).setNew (k := w.heap.size) (by omega) 1 _).setNew (k := w.heap.size) (by omega) 2 _, grown_new (grown_new (grown_new HG7.out (k := w.heap.size) (Nat.le_refl _) 0 _) (k := w.heap.size) (Nat.le_refl _) 1 _) (k := w.heap.size) (Nat.le_refl _) 2 _⟩
  · have HQ : Hid (Calls Tryz.prog _ _ w5 _) := hq
    clear hq
    go_wp2_with fail
    refine Calls.mono HKO.out ?_
    rintro e w6 ⟨rfl, hw6⟩
    have hw7 := hw6.symm
    clear hw6
    subst hw7
    go_wp2_with fail
    refine Calls.mono HQ.out ?_
    rintro e w7 ⟨rfl, hb7⟩
    have hn7 := (hb7.block _ (Array.getElem?_eq_some_iff.1 HN5.out).1).trans HN5.out
    have HN7 : Hid (w7.heap[w.heap.size]? = some (.cells #[.int .i64 0, .int .i64 0, .string ⟨#[]⟩] 51 (0, 0))) := hn7
    have HR7 : Hid (Rd w7 rb t t.size) := HR5.out.below hb7
    have HG7 : Hid (w.grownBy w7 (some rb)) := grown_below HG5.out hb7
    have c0 := cell_of_row _ _ 0 _ _ _ hn7
    have c1 := cell_of_row _ _ 1 _ _ _ hn7
    have c2 := cell_of_row _ _ 2 _ _ _ hn7
    have f0 := frozen_of_row _ _ 0 _ _ hn7
    have f1 := frozen_of_row _ _ 1 _ _ hn7
    have f2 := frozen_of_row _ _ 2 _ _ hn7
    simp at c0 c1 c2
    clear hn7 hb7 HKO HQ HN5 HR5 HG5
    go_wp2
    obtain ⟨l0, l1, l2⟩ := three_cell HN7.out (.int .i64 (j : Int)) (.int .i64 E.kind) (.string E.data)
    exact bodyPost_ret (v := .tuple #[.int .i64 (i : Int), .agg #[.int .i64 (j : Int), .int .i64 E.kind, .string E.data]]) (by simp [results, Tryz.results96, go_sem, l0, l1, l2]) rfl ⟨rfl, ((HR7.out.setNew (k := w.heap.size) (by omega) 0 _).setNew (k := w.heap.size) (by omega) 1 _).setNew (k := w.heap.size) (by omega) 2 _, grown_new (grown_new (grown_new HG7.out (k := w.heap.size) (Nat.le_refl _) 0 _) (k := w.heap.size) (Nat.le_refl _) 1 _) (k := w.heap.size) (Nat.le_refl _) 2 _⟩
  · have HQ : Hid (Calls Tryz.prog _ _ w5 _) := hq
    clear hq
    go_wp2_with fail
    refine Calls.mono HKO.out ?_
    rintro e w6 ⟨rfl, hw6⟩
    have hw7 := hw6.symm
    clear hw6
    subst hw7
    go_wp2_with fail
    refine Calls.mono HQ.out ?_
    rintro e w7 ⟨rfl, hb7⟩
    have hn7 := (hb7.block _ (Array.getElem?_eq_some_iff.1 HN5.out).1).trans HN5.out
    have HN7 : Hid (w7.heap[w.heap.size]? = some (.cells #[.int .i64 0, .int .i64 0, .string ⟨#[]⟩] 51 (0, 0))) := hn7
    have HR7 : Hid (Rd w7 rb t t.size) := HR5.out.below hb7
    have HG7 : Hid (w.grownBy w7 (some rb)) := grown_below HG5.out hb7
    have c0 := cell_of_row _ _ 0 _ _ _ hn7
    have c1 := cell_of_row _ _ 1 _ _ _ hn7
    have c2 := cell_of_row _ _ 2 _ _ _ hn7
    have f0 := frozen_of_row _ _ 0 _ _ hn7
    have f1 := frozen_of_row _ _ 1 _ _ hn7
    have f2 := frozen_of_row _ _ 2 _ _ hn7
    simp at c0 c1 c2
    clear hn7 hb7 HKO HQ HN5 HR5 HG5
    go_wp2
    obtain ⟨l0, l1, l2⟩ := three_cell HN7.out (.int .i64 (j : Int)) (.int .i64 E.kind) (.string E.data)
    exact bodyPost_ret (v := .tuple #[.int .i64 (i : Int), .agg #[.int .i64 (j : Int), .int .i64 E.kind, .string E.data]]) (by simp [results, Tryz.results96, go_sem, l0, l1, l2]) rfl ⟨rfl, ((HR7.out.setNew (k := w.heap.size) (by omega) 0 _).setNew (k := w.heap.size) (by omega) 1 _).setNew (k := w.heap.size) (by omega) 2 _, grown_new (grown_new (grown_new HG7.out (k := w.heap.size) (Nat.le_refl _) 0 _) (k := w.heap.size) (Nat.le_refl _) 1 _) (k := w.heap.size) (Nat.le_refl _) 2 _⟩
end
section
open Go.RowKit
open Ents (okB kindB rest ent Gets Torn)
set_option linter.unusedVariables false
set_option linter.unusedSimpArgs false

set_option maxHeartbeats 400000 in
theorem lit_fails {rb IB EB : Nat} {t : ByteArray} (hs : t.size ≤ 1048576) (w : World) (hr : Rd w rb t 0) (h : Fails t) :
    Calls Tryz.prog 95 #[.pointer (some ⟨rb, 0, none⟩), .pointer (some ⟨IB, 0, none⟩), .pointer (some ⟨EB, 0, none⟩)] w fun en w' => en = .panicked thrown ∧ w.grownBy w' (some rb) := by
  have HR : Hid (Rd w rb t 0) := hr
  have HF : Hid (Fails t) := h
  clear hr h
  go_enter Tryz.func95, Tryz.ntmps95
  go_wp2_with (go_at_call 96; refine (entry_fails hs _ HR.out HF.out).mono ?_; rintro e w1 ⟨rfl, hg1⟩)
  exact ⟨rfl, rfl, hg1⟩
/-- What the closure leaves. -/
def LitPost (w : World) (rb IB EB : Nat) (t : ByteArray) (i : Nat) (E : EntL) (en : Ending) (w' : World) : Prop :=
  en = .returned (.tuple #[]) ∧ ∃ w1 w2, w.grownBy w1 (some rb) ∧ w1.grownBy w2 (some IB) ∧ w2.grownBy w' (some EB) ∧ Rd w' rb t t.size ∧
    w'.heap[IB]? = some (.cells #[.int .i64 (i : Int)] 3 (0, 0)) ∧ w'.heap[EB]? = some (.cells #[.int .i64 E.term, .int .i64 E.kind, .string E.data] 51 (0, 0))
set_option maxHeartbeats 1000000 in
set_option maxRecDepth 100000 in
theorem lit_gets {rb IB EB : Nat} {t : ByteArray} {i j : Nat} {k : UInt8} {a b : Nat} (hs : t.size ≤ 1048576) (w : World) (hr : Rd w rb t 0) (hg : Gets t i j k a b) (hk : kindB (ent t j k b) = true)
    (h1 : rb ≠ IB) (h2 : rb ≠ EB) (h3 : IB ≠ EB) (hI : w.heap[IB]? = some (.cells #[.int .i64 0] 3 (0, 0))) (hE : w.heap[EB]? = some (.cells #[.int .i64 0, .int .i64 0, .string ⟨#[]⟩] 51 (0, 0))) :
    Calls Tryz.prog 95 #[.pointer (some ⟨rb, 0, none⟩), .pointer (some ⟨IB, 0, none⟩), .pointer (some ⟨EB, 0, none⟩)] w (LitPost w rb IB EB t i (ent t j k b)) := by
  have HR : Hid (Rd w rb t 0) := hr
  have HGE : Hid (Gets t i j k a b) := hg
  have HK : Hid (kindB (ent t j k b) = true) := hk
  have HI : Hid (w.heap[IB]? = some (.cells #[.int .i64 0] 3 (0, 0))) := hI
  have HE : Hid (w.heap[EB]? = some (.cells #[.int .i64 0, .int .i64 0, .string ⟨#[]⟩] 51 (0, 0))) := hE
  have HQ : Hid (Calls Tryz.prog 96 #[.pointer (some ⟨rb, 0, none⟩)] w fun en w' => en = .returned (.tuple #[.int .i64 (i : Int), entV (ent t j k b)]) ∧ Rd w' rb t t.size ∧ w.grownBy w' (some rb)) := entry_gets hs w hr hg hk
  obtain ⟨E, he⟩ : ∃ E, E = ent t j k b := ⟨_, rfl⟩
  rw [← he] at HQ ⊢
  unfold entV at HQ
  clear hr hg hk hI hE he HGE HK
  go_enter Tryz.func95, Tryz.ntmps95
  go_wp2_with fail
  refine Calls.mono HQ.out ?_
  rintro en w1 ⟨rfl, hr1, hg1⟩
  have hi1 := grown_keep HI.out hg1 h1.symm
  have he1 := grown_keep HE.out hg1 h2.symm
  have HI1 : Hid (w1.heap[IB]? = some (.cells #[.int .i64 0] 3 (0, 0))) := hi1
  have HE1 : Hid (w1.heap[EB]? = some (.cells #[.int .i64 0, .int .i64 0, .string ⟨#[]⟩] 51 (0, 0))) := he1
  have HR1 : Hid (Rd w1 rb t t.size) := hr1
  have HG1 : Hid (w.grownBy w1 (some rb)) := hg1
  have c0 := cell_of_row _ _ 0 _ _ _ hi1
  have cf0 := frozen_of_row _ _ 0 _ _ hi1
  have d0 := cell_of_row _ _ 0 _ _ _ he1
  have d1 := cell_of_row _ _ 1 _ _ _ he1
  have d2 := cell_of_row _ _ 2 _ _ _ he1
  have df0 := frozen_of_row _ _ 0 _ _ he1
  have df1 := frozen_of_row _ _ 1 _ _ he1
  have df2 := frozen_of_row _ _ 2 _ _ he1
  simp at c0 d0 d1 d2
  have h3' : EB ≠ IB := h3.symm
  clear hr1 hg1 hi1 he1 HQ HI HE
  go_wp2
  go_end0
  have hI2 : (w1.setCell ⟨IB, 0, none⟩ (.int .i64 (i : Int))).heap[IB]? = some (.cells #[.int .i64 (i : Int)] 3 (0, 0)) := by
    have := heap_setCell_same w1 IB 0 _ 3 (.int .i64 (i : Int)) HI1.out
    simpa using this
  have hE2 := set_far HE1.out h3' 0 (.int .i64 (i : Int))
  exact ⟨rfl, w1, _, HG1.out, grown_set w1 IB 0 (.int .i64 (i : Int)), ((grown_set _ EB 0 _).trans (grown_set _ EB 1 _)).trans (grown_set _ EB 2 _), (((HR1.out.setNew h1 0 _).setNew h2 0 _).setNew h2 1 _).setNew h2 2 _, set_far (set_far (set_far hI2 h3 _ _) h3 _ _) h3 _ _, three_set hE2 _ _ _⟩
set_option maxHeartbeats 400000 in
set_option maxRecDepth 100000 in
theorem whole_fails {IB EB : Nat} {t : ByteArray} (hs : t.size ≤ 1048576) (w : World) (hI : IB < w.heap.size) (h : Fails t) :
    Calls Tryz.prog 59 #[.string t, .func (.func 95) #[] #[.pointer (some ⟨IB, 0, none⟩), .pointer (some ⟨EB, 0, none⟩)]] w fun en w' => en = .returned (.bool false) ∧ w.grownBy w' (some IB) := by
  have hmf : ∀ (fn : Fn) (first cap : Array Value) (w : World), (Instr.makeFunc fn first cap).run Tryz.prog w = .ok (.func fn first cap) w := fun _ _ _ _ => rfl
  have HH : Hid (Fails t) := h
  clear h
  obtain ⟨W, hW, hr, hwh, hg, hz⟩ := whole_start t w IB
  have HR : Hid (Rd W (w.heap.size + 1) t 0) := hr
  have HW : Hid (_ = _) := hwh
  have HG : Hid (w.grownBy W (some IB)) := hg
  clear hr hwh hg
  go_enter_defers Tryz.func59, Tryz.ntmps59
  go_wp2_with fail
  rw [← hW]
  refine (lit_fails hs W HR.out HH.out).mono ?_
  rintro en w1 ⟨rfl, hg1⟩
  have hw1 := grown_keep HW.out hg1 (by omega)
  have hg2 : w.grownBy w1 (some IB) := HG.out.andThen hg1 (fun r e => Or.inl (by cases e; omega))
  have c0 := cell_of_row _ _ 0 _ _ _ hw1
  have f0 := frozen_of_row _ _ 0 _ _ hw1
  simp at c0
  refine leaves_cons (f := 91) (args := #[.pointer (some ⟨w.heap.size, 0, none⟩)]) (by simp) (by simp [go_sem]) ?_
  refine (catch_panicking ⟨w.heap.size, 0, none⟩ false 157 (.agg #[]) [] w1 c0 f0).mono ?_
  rintro e u' w'' ⟨rfl, rfl, rfl⟩
  have c1 : (w1.setCell ⟨w.heap.size, 0, none⟩ (.bool false)).cell? ⟨w.heap.size, 0, none⟩ = some (.bool false) := World.cell?_setCell_same _ _ _ c0
  simp [Leaves, settle, results, Tryz.results59, go_sem, c1]
  exact grown_new hg2 (Nat.le_refl _) _ _
/-- What readWhole leaves where the reading came to its end. -/
def WholePost (w : World) (B IB EB : Nat) (i : Nat) (E : EntL) (en : Ending) (w' : World) : Prop :=
  en = .returned (.bool true) ∧ Below B w w' ∧ (∀ q o, w.heap[q]? = some o → q ≠ IB → q ≠ EB → w'.heap[q]? = some o) ∧
    w'.heap[IB]? = some (.cells #[.int .i64 (i : Int)] 3 (0, 0)) ∧ w'.heap[EB]? = some (.cells #[.int .i64 E.term, .int .i64 E.kind, .string E.data] 51 (0, 0))
set_option maxHeartbeats 1000000 in
set_option maxRecDepth 100000 in
theorem whole_gets {B IB EB : Nat} {t : ByteArray} {i j : Nat} {k : UInt8} {a b : Nat} (hs : t.size ≤ 1048576) (w : World) (hg : Gets t i j k a b) (hk : kindB (ent t j k b) = true)
    (hB1 : B ≤ IB) (hB2 : B ≤ EB) (h3 : IB ≠ EB) (hI : w.heap[IB]? = some (.cells #[.int .i64 0] 3 (0, 0))) (hE : w.heap[EB]? = some (.cells #[.int .i64 0, .int .i64 0, .string ⟨#[]⟩] 51 (0, 0))) :
    Calls Tryz.prog 59 #[.string t, .func (.func 95) #[] #[.pointer (some ⟨IB, 0, none⟩), .pointer (some ⟨EB, 0, none⟩)]] w (WholePost w B IB EB i (ent t j k b)) := by
  have hmf : ∀ (fn : Fn) (first cap : Array Value) (w : World), (Instr.makeFunc fn first cap).run Tryz.prog w = .ok (.func fn first cap) w := fun _ _ _ _ => rfl
  have hIl : IB < w.heap.size := (Array.getElem?_eq_some_iff.1 hI).1
  have hEl : EB < w.heap.size := (Array.getElem?_eq_some_iff.1 hE).1
  obtain ⟨W, hW, hr, hwh, hgg, hz⟩ := whole_start t w IB
  have hbW : Below w.heap.size w W := by rw [hW]; exact ((Below.refl _ _).alloc (Nat.le_refl _) _).alloc (by simp) _
  have HBW : Hid (Below w.heap.size w W) := hbW
  have HQ : Hid (Calls Tryz.prog 95 #[.pointer (some ⟨w.heap.size + 1, 0, none⟩), .pointer (some ⟨IB, 0, none⟩), .pointer (some ⟨EB, 0, none⟩)] W (LitPost W (w.heap.size + 1) IB EB t i (ent t j k b))) :=
    lit_gets hs W hr hg hk (by omega) (by omega) h3 ((hbW.block _ hIl).trans hI) ((hbW.block _ hEl).trans hE)
  have HW : Hid (W.heap[w.heap.size]? = some (.cells #[.bool false] 4 (0, 0))) := hwh
  obtain ⟨E, he⟩ : ∃ E, E = ent t j k b := ⟨_, rfl⟩
  rw [← he] at HQ ⊢
  clear hr hwh hgg hg hk hI hE he hbW
  go_enter_defers Tryz.func59, Tryz.ntmps59
  go_wp2_with fail
  rw [← hW]
  refine Calls.mono HQ.out ?_
  rintro en w3 ⟨rfl, w1, w2, hg1, hg2, hg3, hr3, hi3, he3⟩
  have hw3 := grown_keep (grown_keep (grown_keep HW.out hg1 (by omega)) hg2 (by omega)) hg3 (by omega)
  have HW3 : Hid (w3.heap[w.heap.size]? = some (.cells #[.bool false] 4 (0, 0))) := hw3
  have HK3 : Hid (∀ q o, w.heap[q]? = some o → q ≠ IB → q ≠ EB → w3.heap[q]? = some o) := fun q o hq n1 n2 => by
    have hl : q < w.heap.size := (Array.getElem?_eq_some_iff.1 hq).1
    exact grown_keep (grown_keep (grown_keep ((HBW.out.block _ hl).trans hq) hg1 (by omega)) hg2 n1) hg3 n2
  have HB3 : Hid (Below B w w3) := by
    have b0 : Below B w W := HBW.out.mono (by omega)
    have b1 : Below B w w1 := b0.grown hg1 (by omega) (fun k e => by cases e; omega)
    have b2 : Below B w w2 := b1.grown hg2 (by have := b1.size; omega) (fun k e => by cases e; omega)
    exact b2.grown hg3 (by have := b2.size; omega) (fun k e => by cases e; omega)
  have HI3 : Hid (_ = _) := hi3
  have HE3 : Hid (_ = _) := he3
  have c0 := cell_of_row _ _ 0 _ _ _ hw3
  have f0 := frozen_of_row _ _ 0 _ _ hw3
  have q0 := hr3.c0
  have q1 := hr3.c1
  simp at c0
  clear hw3 hg1 hg2 hg3 hi3 he3 hr3 hW HW HBW HQ
  go_wp2
  refine leaves_cons (f := 91) (args := #[.pointer (some ⟨w.heap.size, 0, none⟩)]) (by simp) (by simp [go_sem]) ?_
  refine (catch_idle ⟨w.heap.size, 0, none⟩ _).mono ?_
  rintro e u' w'' ⟨rfl, rfl, rfl⟩
  have c1 : (w3.setCell ⟨w.heap.size, 0, none⟩ (.bool true)).cell? ⟨w.heap.size, 0, none⟩ = some (.bool true) := World.cell?_setCell_same _ _ _ c0
  simp [Leaves, settle, results, Tryz.results59, go_sem, c1]
  refine ⟨rfl, HB3.out.setCell (by show B ≤ w.heap.size; omega) _, fun q o hq n1 n2 => set_far (HK3.out q o hq n1 n2) (by have := (Array.getElem?_eq_some_iff.1 hq).1; omega) _ _, set_far HI3.out (by omega) _ _, set_far HE3.out (by omega) _ _⟩
end
section
open Go.RowKit
open Ents (okB kindB rest ent Gets Torn Got right)
set_option linter.unusedVariables false
set_option linter.unusedSimpArgs false

theorem re_start (w : World) : Below w.heap.size w (((w.alloc (Obj.cells #[.int .i64 0, .int .i64 0, .string ⟨#[]⟩] 51)).alloc (Obj.cells #[.int .i64 0] 3)).alloc (Obj.cells #[.int .i64 0, .int .i64 0, .string ⟨#[]⟩] 51)) ∧
    (((w.alloc (Obj.cells #[.int .i64 0, .int .i64 0, .string ⟨#[]⟩] 51)).alloc (Obj.cells #[.int .i64 0] 3)).alloc (Obj.cells #[.int .i64 0, .int .i64 0, .string ⟨#[]⟩] 51)).heap[w.heap.size]? = some (.cells #[.int .i64 0, .int .i64 0, .string ⟨#[]⟩] 51 (0, 0)) ∧
    (((w.alloc (Obj.cells #[.int .i64 0, .int .i64 0, .string ⟨#[]⟩] 51)).alloc (Obj.cells #[.int .i64 0] 3)).alloc (Obj.cells #[.int .i64 0, .int .i64 0, .string ⟨#[]⟩] 51)).heap[w.heap.size + 1]? = some (.cells #[.int .i64 0] 3 (0, 0)) ∧
    (((w.alloc (Obj.cells #[.int .i64 0, .int .i64 0, .string ⟨#[]⟩] 51)).alloc (Obj.cells #[.int .i64 0] 3)).alloc (Obj.cells #[.int .i64 0, .int .i64 0, .string ⟨#[]⟩] 51)).heap[w.heap.size + 1 + 1]? = some (.cells #[.int .i64 0, .int .i64 0, .string ⟨#[]⟩] 51 (0, 0)) := by
  refine ⟨(((Below.refl _ _).alloc (Nat.le_refl _) _).alloc (by simp) _).alloc (by simp; omega) _, ?_, ?_, ?_⟩
  · rw [Below.heap_alloc _ _ _ (by simp; omega), Below.heap_alloc _ _ _ (by simp)]
    exact heap_alloc_new w _
  · rw [Below.heap_alloc _ _ _ (by simp)]
    have := heap_alloc_new (w.alloc (Obj.cells #[.int .i64 0, .int .i64 0, .string ⟨#[]⟩] 51)) (Obj.cells #[.int .i64 0] 3)
    simpa using this
  · have := heap_alloc_new ((w.alloc (Obj.cells #[.int .i64 0, .int .i64 0, .string ⟨#[]⟩] 51)).alloc (Obj.cells #[.int .i64 0] 3)) (Obj.cells #[.int .i64 0, .int .i64 0, .string ⟨#[]⟩] 51)
    simpa using this
def reNo : Value := .tuple #[.int .i64 0, .agg #[.int .i64 0, .int .i64 0, .string ⟨#[]⟩], .bool false]
set_option maxHeartbeats 2000000 in
set_option maxRecDepth 100000 in
theorem implRE_fails {t : ByteArray} (hs : t.size ≤ 1048576) (w : World) (h : Fails t) :
    Calls Tryz.prog 62 #[.string t] w fun en w' => en = .returned reNo ∧ Below w.heap.size w w' := by
  have HF : Hid (Fails t) := h
  clear h
  unfold reNo
  obtain ⟨W, hW⟩ : ∃ W, W = ((w.alloc (Obj.cells #[.int .i64 0, .int .i64 0, .string ⟨#[]⟩] 51)).alloc (Obj.cells #[.int .i64 0] 3)).alloc (Obj.cells #[.int .i64 0, .int .i64 0, .string ⟨#[]⟩] 51) := ⟨_, rfl⟩
  obtain ⟨hbW, hZ, hI, hE⟩ := re_start w
  rw [← hW] at hbW hZ hI hE
  have HBW : Hid (Below w.heap.size w W) := hbW
  have HZ : Hid (W.heap[w.heap.size]? = some (.cells #[.int .i64 0, .int .i64 0, .string ⟨#[]⟩] 51 (0, 0))) := hZ
  have HI : Hid (W.heap[w.heap.size + 1]? = some (.cells #[.int .i64 0] 3 (0, 0))) := hI
  have HE : Hid (W.heap[w.heap.size + 1 + 1]? = some (.cells #[.int .i64 0, .int .i64 0, .string ⟨#[]⟩] 51 (0, 0))) := hE
  have hmf : ∀ (fn : Fn) (first cap : Array Value) (w : World), (Instr.makeFunc fn first cap).run Tryz.prog w = .ok (.func fn first cap) w := fun _ _ _ _ => rfl
  have HQ : Hid (Calls Tryz.prog 59 #[.string t, .func (.func 95) #[] #[.pointer (some ⟨w.heap.size + 1, 0, none⟩), .pointer (some ⟨w.heap.size + 1 + 1, 0, none⟩)]] W fun en w' => en = .returned (.bool false) ∧ W.grownBy w' (some (w.heap.size + 1))) := whole_fails hs W (Array.getElem?_eq_some_iff.1 hI).1 HF.out
  clear hbW hZ hI hE
  go_enter Tryz.func62, Tryz.ntmps62
  go_wp2_with fail
  rw [← hW]
  clear hW
  refine Calls.mono HQ.out ?_
  rintro en w2 ⟨rfl, hg2⟩
  have hz2 := grown_keep HZ.out hg2 (by omega)
  have HZ2 : Hid (w2.heap[w.heap.size]? = some (.cells #[.int .i64 0, .int .i64 0, .string ⟨#[]⟩] 51 (0, 0))) := hz2
  have HB2 : Hid (Below w.heap.size w w2) := HBW.out.grown hg2 HBW.out.size (fun k e => by cases e; omega)
  have z0 := cell_of_row _ _ 0 _ _ _ hz2
  have z1 := cell_of_row _ _ 1 _ _ _ hz2
  have z2 := cell_of_row _ _ 2 _ _ _ hz2
  have zf0 := frozen_of_row _ _ 0 _ _ hz2
  have zf1 := frozen_of_row _ _ 1 _ _ hz2
  have zf2 := frozen_of_row _ _ 2 _ _ hz2
  simp at z0 z1 z2
  clear hz2 hg2 HQ HZ HI HE HBW
  go_wp2
  obtain ⟨k0, k1, k2⟩ := three_cell HZ2.out (.int .i64 0) (.int .i64 0) (.string ⟨#[]⟩)
  exact bodyPost_ret (v := .tuple #[.int .i64 0, .agg #[.int .i64 0, .int .i64 0, .string ⟨#[]⟩], .bool false]) (by simp [results, Tryz.results62, go_sem, k0, k1, k2]) rfl ⟨rfl, ((HB2.out.setCell (by simp) _).setCell (by simp) _).setCell (by simp) _⟩
set_option maxHeartbeats 2000000 in
set_option maxRecDepth 100000 in
theorem implRE_wrong {t : ByteArray} {i j : Nat} {k : UInt8} {a b : Nat} (hs : t.size ≤ 1048576) (w : World) (hg : Gets t i j k a b) (hk : kindB (ent t j k b) = true) (hr : ¬ right (i : Int) (ent t j k b)) :
    Calls Tryz.prog 62 #[.string t] w fun en w' => en = .returned reNo ∧ Below w.heap.size w w' := by
  unfold reNo
  obtain ⟨R, hR⟩ : ∃ R, R = okB (ent t j k b) := ⟨_, rfl⟩
  have HEO : Hid (∀ W, Calls Tryz.prog 82 #[entV (ent t j k b)] W fun en w' => en = .returned (.bool R) ∧ Below W.heap.size W w') := fun W => by rw [hR]; exact implEntOk_is _ (by have := ent_data hk; omega) W
  obtain ⟨W, hW⟩ : ∃ W, W = ((w.alloc (Obj.cells #[.int .i64 0, .int .i64 0, .string ⟨#[]⟩] 51)).alloc (Obj.cells #[.int .i64 0] 3)).alloc (Obj.cells #[.int .i64 0, .int .i64 0, .string ⟨#[]⟩] 51) := ⟨_, rfl⟩
  obtain ⟨hbW, hZ, hI, hE⟩ := re_start w
  rw [← hW] at hbW hZ hI hE
  have HBW : Hid (Below w.heap.size w W) := hbW
  have HZ : Hid (W.heap[w.heap.size]? = some (.cells #[.int .i64 0, .int .i64 0, .string ⟨#[]⟩] 51 (0, 0))) := hZ
  have HI : Hid (W.heap[w.heap.size + 1]? = some (.cells #[.int .i64 0] 3 (0, 0))) := hI
  have HE : Hid (W.heap[w.heap.size + 1 + 1]? = some (.cells #[.int .i64 0, .int .i64 0, .string ⟨#[]⟩] 51 (0, 0))) := hE
  have hmf : ∀ (fn : Fn) (first cap : Array Value) (w : World), (Instr.makeFunc fn first cap).run Tryz.prog w = .ok (.func fn first cap) w := fun _ _ _ _ => rfl
  have HQ : Hid (Calls Tryz.prog 59 #[.string t, .func (.func 95) #[] #[.pointer (some ⟨w.heap.size + 1, 0, none⟩), .pointer (some ⟨w.heap.size + 1 + 1, 0, none⟩)]] W (WholePost W w.heap.size (w.heap.size + 1) (w.heap.size + 1 + 1) i (ent t j k b))) := whole_gets hs W hg hk (by omega) (by omega) (by omega) hI hE
  have HPL : Hid (R = false ∨ ∀ W, Calls Tryz.prog 86 #[.int .i64 (i : Int)] W fun en w' => en = .returned (.bool false) ∧ w' = W) := by
   cases hRt : R with
   | false => exact Or.inl rfl
   | true => exact Or.inr fun W => placeOk_is _ false (by
    rw [hR] at hRt
    have : ¬ (1 ≤ (i : Int) ∧ (i : Int) ≤ 100000) := fun x => hr ⟨hRt, x⟩
    simp [this]) W
  obtain ⟨E, he⟩ : ∃ E, E = ent t j k b := ⟨_, rfl⟩
  rw [← he] at HQ HEO
  unfold entV at HEO
  clear hbW hZ hI hE hg hk hr hR he
  go_enter Tryz.func62, Tryz.ntmps62
  go_wp2_with fail
  rw [← hW]
  clear hW
  refine Calls.mono HQ.out ?_
  rintro en w2 ⟨rfl, hb2, hk2, hi2, he2⟩
  have hz2 := hk2 _ _ HZ.out (by omega) (by omega)
  have HZ2 : Hid (w2.heap[w.heap.size]? = some (.cells #[.int .i64 0, .int .i64 0, .string ⟨#[]⟩] 51 (0, 0))) := hz2
  have HB2 : Hid (Below w.heap.size w w2) := HBW.out.trans hb2
  have HI2 : Hid (_ = _) := hi2
  have e0 := cell_of_row _ _ 0 _ _ _ he2
  have e1 := cell_of_row _ _ 1 _ _ _ he2
  have e2 := cell_of_row _ _ 2 _ _ _ he2
  simp at e0 e1 e2
  clear hz2 hb2 hk2 hi2 he2 HQ HZ HI HE HBW
  go_wp2_with fail
  refine Calls.mono (HEO.out _) ?_
  rintro en w3 ⟨rfl, hb3⟩
  clear e0 e1 e2
  have hz3 := (hb3.block _ (Array.getElem?_eq_some_iff.1 HZ2.out).1).trans HZ2.out
  have hi3 := (hb3.block _ (Array.getElem?_eq_some_iff.1 HI2.out).1).trans HI2.out
  have HZ3 : Hid (w3.heap[w.heap.size]? = some (.cells #[.int .i64 0, .int .i64 0, .string ⟨#[]⟩] 51 (0, 0))) := hz3
  have HB3 : Hid (Below w.heap.size w w3) := HB2.out.trans (hb3.mono HB2.out.size)
  have z0 := cell_of_row _ _ 0 _ _ _ hz3
  have z1 := cell_of_row _ _ 1 _ _ _ hz3
  have z2 := cell_of_row _ _ 2 _ _ _ hz3
  have zf0 := frozen_of_row _ _ 0 _ _ hz3
  have zf1 := frozen_of_row _ _ 1 _ _ hz3
  have zf2 := frozen_of_row _ _ 2 _ _ hz3
  simp at z0 z1 z2
  have i0 := cell_of_row _ _ 0 _ _ _ hi3
  simp at i0
  clear hz3 hi3 hb3 HZ2 HB2 HI2 HEO
  cases R with
  | false =>
    clear HPL i0
    go_wp2
    obtain ⟨k0, k1, k2⟩ := three_cell HZ3.out (.int .i64 0) (.int .i64 0) (.string ⟨#[]⟩)
    exact bodyPost_ret (v := .tuple #[.int .i64 0, .agg #[.int .i64 0, .int .i64 0, .string ⟨#[]⟩], .bool false]) (by simp [results, Tryz.results62, go_sem, k0, k1, k2]) rfl ⟨rfl, ((HB3.out.setCell (by simp) _).setCell (by simp) _).setCell (by simp) _⟩
  | true =>
    rcases HPL.out with hx | hx
    · cases hx
    have HPM : Hid (∀ W, Calls Tryz.prog 86 #[.int .i64 (i : Int)] W fun en w' => en = .returned (.bool false) ∧ w' = W) := hx
    clear HPL hx
    go_wp2_with fail
    refine Calls.mono (HPM.out _) ?_
    rintro en w4 ⟨rfl, hw4⟩
    have hw5 := hw4.symm
    clear hw4
    subst hw5
    go_wp2
    obtain ⟨k0, k1, k2⟩ := three_cell HZ3.out (.int .i64 0) (.int .i64 0) (.string ⟨#[]⟩)
    exact bodyPost_ret (v := .tuple #[.int .i64 0, .agg #[.int .i64 0, .int .i64 0, .string ⟨#[]⟩], .bool false]) (by simp [results, Tryz.results62, go_sem, k0, k1, k2]) rfl ⟨rfl, ((HB3.out.setCell (by simp) _).setCell (by simp) _).setCell (by simp) _⟩
set_option maxHeartbeats 2000000 in
set_option maxRecDepth 100000 in
theorem implRE_got {t : ByteArray} {i j : Nat} {k : UInt8} {a b : Nat} (hs : t.size ≤ 1048576) (w : World) (hg : Gets t i j k a b) (hr : right (i : Int) (ent t j k b)) :
    Calls Tryz.prog 62 #[.string t] w fun en w' => en = .returned (.tuple #[.int .i64 (i : Int), entV (ent t j k b), .bool true]) ∧ Below w.heap.size w w' := by
  have hk : kindB (ent t j k b) = true := (Ents.okB_iff.1 hr.1).2
  have HEO : Hid (∀ W, Calls Tryz.prog 82 #[entV (ent t j k b)] W fun en w' => en = .returned (.bool true) ∧ Below W.heap.size W w') := fun W => by rw [← hr.1]; exact implEntOk_is _ (by have := ent_data hk; omega) W
  obtain ⟨W, hW⟩ : ∃ W, W = ((w.alloc (Obj.cells #[.int .i64 0, .int .i64 0, .string ⟨#[]⟩] 51)).alloc (Obj.cells #[.int .i64 0] 3)).alloc (Obj.cells #[.int .i64 0, .int .i64 0, .string ⟨#[]⟩] 51) := ⟨_, rfl⟩
  obtain ⟨hbW, hZ, hI, hE⟩ := re_start w
  rw [← hW] at hbW hZ hI hE
  have HBW : Hid (Below w.heap.size w W) := hbW
  have HZ : Hid (W.heap[w.heap.size]? = some (.cells #[.int .i64 0, .int .i64 0, .string ⟨#[]⟩] 51 (0, 0))) := hZ
  have HI : Hid (W.heap[w.heap.size + 1]? = some (.cells #[.int .i64 0] 3 (0, 0))) := hI
  have HE : Hid (W.heap[w.heap.size + 1 + 1]? = some (.cells #[.int .i64 0, .int .i64 0, .string ⟨#[]⟩] 51 (0, 0))) := hE
  have hmf : ∀ (fn : Fn) (first cap : Array Value) (w : World), (Instr.makeFunc fn first cap).run Tryz.prog w = .ok (.func fn first cap) w := fun _ _ _ _ => rfl
  have HQ : Hid (Calls Tryz.prog 59 #[.string t, .func (.func 95) #[] #[.pointer (some ⟨w.heap.size + 1, 0, none⟩), .pointer (some ⟨w.heap.size + 1 + 1, 0, none⟩)]] W (WholePost W w.heap.size (w.heap.size + 1) (w.heap.size + 1 + 1) i (ent t j k b))) := whole_gets hs W hg hk (by omega) (by omega) (by omega) hI hE
  have HPL : Hid (∀ W, Calls Tryz.prog 86 #[.int .i64 (i : Int)] W fun en w' => en = .returned (.bool true) ∧ w' = W) := fun W => placeOk_is _ true (by simp [hr.2]) W
  obtain ⟨E, he⟩ : ∃ E, E = ent t j k b := ⟨_, rfl⟩
  rw [← he] at HQ HEO ⊢
  unfold entV at HEO ⊢
  clear hbW hZ hI hE hg hk hr he
  go_enter Tryz.func62, Tryz.ntmps62
  go_wp2_with fail
  rw [← hW]
  clear hW
  refine Calls.mono HQ.out ?_
  rintro en w2 ⟨rfl, hb2, hk2, hi2, he2⟩
  have hz2 := hk2 _ _ HZ.out (by omega) (by omega)
  have HZ2 : Hid (w2.heap[w.heap.size]? = some (.cells #[.int .i64 0, .int .i64 0, .string ⟨#[]⟩] 51 (0, 0))) := hz2
  have HB2 : Hid (Below w.heap.size w w2) := HBW.out.trans hb2
  have HI2 : Hid (_ = _) := hi2
  have HE2 : Hid (_ = _) := he2
  have e0 := cell_of_row _ _ 0 _ _ _ he2
  have e1 := cell_of_row _ _ 1 _ _ _ he2
  have e2 := cell_of_row _ _ 2 _ _ _ he2
  simp at e0 e1 e2
  clear hz2 hb2 hk2 hi2 he2 HQ HZ HI HE HBW
  go_wp2_with fail
  refine Calls.mono (HEO.out _) ?_
  rintro en w3 ⟨rfl, hb3⟩
  clear e0 e1 e2
  have hz3 := (hb3.block _ (Array.getElem?_eq_some_iff.1 HZ2.out).1).trans HZ2.out
  have hi3 := (hb3.block _ (Array.getElem?_eq_some_iff.1 HI2.out).1).trans HI2.out
  have he3 := (hb3.block _ (Array.getElem?_eq_some_iff.1 HE2.out).1).trans HE2.out
  have HZ3 : Hid (w3.heap[w.heap.size]? = some (.cells #[.int .i64 0, .int .i64 0, .string ⟨#[]⟩] 51 (0, 0))) := hz3
  have HB3 : Hid (Below w.heap.size w w3) := HB2.out.trans (hb3.mono HB2.out.size)
  have z0 := cell_of_row _ _ 0 _ _ _ hz3
  have z1 := cell_of_row _ _ 1 _ _ _ hz3
  have z2 := cell_of_row _ _ 2 _ _ _ hz3
  have zf0 := frozen_of_row _ _ 0 _ _ hz3
  have zf1 := frozen_of_row _ _ 1 _ _ hz3
  have zf2 := frozen_of_row _ _ 2 _ _ hz3
  simp at z0 z1 z2
  have i0 := cell_of_row _ _ 0 _ _ _ hi3
  have e0 := cell_of_row _ _ 0 _ _ _ he3
  have e1 := cell_of_row _ _ 1 _ _ _ he3
  have e2 := cell_of_row _ _ 2 _ _ _ he3
  simp at i0 e0 e1 e2
  clear hz3 hi3 he3 hb3 HZ2 HB2 HI2 HE2 HEO
  go_wp2_with fail
  refine Calls.mono (HPL.out _) ?_
  rintro en w4 ⟨rfl, hw4⟩
  have hw5 := hw4.symm
  clear hw4
  subst hw5
  go_wp2_with fail
  go_region
  all_goals (
    go_wp2
    obtain ⟨k0, k1, k2⟩ := three_cell HZ3.out (.int .i64 E.term) (.int .i64 E.kind) (.string E.data)
    exact bodyPost_ret (v := .tuple #[.int .i64 (i : Int), .agg #[.int .i64 E.term, .int .i64 E.kind, .string E.data], .bool true]) (by simp [results, Tryz.results62, go_sem, k0, k1, k2]) rfl ⟨rfl, (((HB3.out.setCell (by simp) _).setCell (by simp) _).setCell (by simp) _).drew⟩)
end
end Go.Proofs.YtahpoemmlpbgdaaGreat
