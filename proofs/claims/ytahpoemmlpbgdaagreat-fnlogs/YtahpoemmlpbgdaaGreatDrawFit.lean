/- What is drawn of entries, walked: l11Right. What is drawn of entries, walked: l11Index, l11Any, DrawEntryText, DrawConfText. What is drawn of entries is right: a conf, a command's text, an entry. -/
import Derived.Test.YtahpoemmlpbgdaaGreatDrawRight
import Derived.Test.YtahpoemmlpbgdaaGreatCmdText
import Derived.Test.YtahpoemmlpbgdaaGreatConfA
namespace Go.Proofs.YtahpoemmlpbgdaaGreat
open Go.RowKit
set_option linter.unusedVariables false
set_option linter.unusedSimpArgs false

/-- What l11Right and l11Any hold between their calls: the cursor, the entry e, the result. -/
structure ES (B g len cap b off : Nat) (a : Option Addr) (z : Nat → Int) (w : World) (xb : Nat) (C : Array Value) (W : World) : Prop where
  cur : Cur B W g a len cap b off z
  x : W.heap[xb]? = some (.cells C 51 (0, 0))
  zz : W.heap[w.heap.size]? = some (.cells #[.int .i64 0, .int .i64 0, .string ⟨#[]⟩] 51 (0, 0))
  gr : w.grownBy W (some g)
  lt : g < w.heap.size
  up : w.heap.size < xb
section
variable {B g len cap b off : Nat} {a : Option Addr} {z : Nat → Int} {w W W' : World} {xb : Nat} {C : Array Value}
theorem ES.call (h : ES B g len cap b off a z w xb C W) (hc : Cur B W' g a len cap b off z) (hg : W.grownBy W' (some g)) : ES B g len cap b off a z w xb C W' :=
  have hl := h.lt
  have hu := h.up
  ⟨hc, grown_keep h.x hg (by omega), grown_keep h.zz hg (by omega), h.gr.trans hg, hl, hu⟩
theorem Cur.same (hc : Cur B W g a len cap b off z) (hb : Below W.heap.size W W') : Cur B W' g a len cap b off z :=
  hc.kept (own_below' (g := g) hb) (fun r e => Or.inr (by cases e; rfl)) (hb.block g hc.lt)
theorem ES.same (h : ES B g len cap b off a z w xb C W) (hb : Below W.heap.size W W') : ES B g len cap b off a z w xb C W' := h.call (h.cur.same hb) (own_below' hb)
theorem ES.set (h : ES B g len cap b off a z w xb C W) (j : Nat) (v : Value) : ES B g len cap b off a z w xb (C.setIfInBounds j v) (W.setCell ⟨xb, j, none⟩ v) :=
  have hl := h.lt
  have hu := h.up
  ⟨h.cur.far2 (by omega) j v, heap_setCell_same W xb j C 51 v h.x, set_far h.zz (by omega) j v, grown_new h.gr (by omega) j v, hl, hu⟩
theorem ES.done (h : ES B g len cap b off a z w xb C W) (A : Array Value) : Cur B (W.setRow w.heap.size A) g a len cap b off z ∧ w.grownBy (W.setRow w.heap.size A) (some g) :=
  have hl := h.lt
  ⟨h.cur.kept (grown_setRow W w.heap.size A) (fun r e => Or.inl (by have := h.cur.low; cases e; omega)) (setRow_other W w.heap.size g A (by omega)),
    h.gr.andThen (grown_setRow W w.heap.size A) (fun r e => Or.inl (by cases e; exact Nat.le_refl _))⟩
end
theorem three_one (p q : Int) (k : ByteArray) : ∀ x ∈ (#[.int .i64 p, .int .i64 q, .string k] : Array Value).toList, x.oneCell' = true := by
  intro x hx
  simp at hx
  rcases hx with rfl | rfl | rfl <;> rfl
theorem result68 {w : World} {g : Nat} {A C : Array Value} (hg : w.heap[g]? = some (.cells C 51 (0, 0))) (hs : A.size = 3) {tmps : Array Value} (ht : tmps.getD 4 undef = .pointer (some ⟨g, 0, none⟩)) : (results Tryz.f43 tmps).run Tryz.prog (w.setRow g A) = .ok (.agg A) (w.setRow g A) := by
  have h := run_loadVar_agg (P := Tryz.prog) Tryz.isAgg51 Tryz.sizeOf51 (row_size (A := A) hg) hs
  have ht' : tmps[4]?.getD undef = .pointer (some ⟨g, 0, none⟩) := by simpa using ht
  simp [results, Tryz.results43, ht', asAddr, h]
open Go.RowKit
set_option linter.unusedVariables false
set_option linter.unusedSimpArgs false

end Go.Proofs.YtahpoemmlpbgdaaGreat
namespace Go.Proofs.YtahpoemmlpbgdaaGreat
open Go.RowKit
set_option linter.unusedVariables false
set_option linter.unusedSimpArgs false

set_option maxHeartbeats 400000 in
theorem pickP_any {B g len cap b off r n : Nat} {a : Option Addr} {z : Nat → Int} (P : Int → Prop) (w : World) (hc : Cur B w g a len cap b off z) (hn0 : 0 < n) (hn : n ≤ 1000) (hr : r ≠ g)
    (hcell : ∀ j, j < n → ∃ v : Int, w.cell? ⟨r, j, none⟩ = some (.int .i64 v) ∧ P v) :
    Calls Tryz.prog 76 #[.pointer (some ⟨g, 0, none⟩), .slice (some ⟨r, 0, none⟩) n n] w fun e w' => ∃ x : Int, e = .returned (.int .i64 x) ∧ P x ∧ Cur B w' g a len cap b off z ∧ w.grownBy w' (some g) := by
  have HC : Hid (Cur B w g a len cap b off z) := hc
  have HR : Hid (∀ j, j < n → ∃ v : Int, w.cell? ⟨r, j, none⟩ = some (.int .i64 v) ∧ P v) := hcell
  clear hc hcell
  go_enter Tryz.func76, Tryz.ntmps76
  go_wp2_with fail
  refine (below_any (n : Int) (by omega) _ HC.out).mono ?_
  rintro e w1 ⟨x, rfl, hx, hc1, hg1⟩
  obtain ⟨hx0, _, hx2⟩ := hx
  have hx3 := hx2 (by omega)
  obtain ⟨m, rfl⟩ := Int.eq_ofNat_of_zero_le hx0
  obtain ⟨v, hv, hv0⟩ := HR.out m (by omega)
  have hv' : w1.cell? ⟨r, m, none⟩ = some (.int .i64 v) := hg1.cell hv (by intro e; exact hr (Option.some.inj e))
  have HV0 : Hid (P v) := hv0
  clear hx2 hv0
  go_wp2
  go_ret
  exact ⟨v, rfl, HV0.out, hc1, hg1⟩

theorem pickP_new {B g len cap b off : Nat} {a : Option Addr} {z : Nat → Int} (P : Int → Prop) (w1 : World) (hc : Cur B w1 g a len cap b off z) (cs : Array Value) (n : Nat) (hn0 : 0 < n) (hn : n ≤ 1000)
    (hcs : ∀ j, j < n → ∃ v : Int, cs[j]? = some (.int .i64 v) ∧ P v) :
    Calls Tryz.prog 76 #[.pointer (some ⟨g, 0, none⟩), .slice (some ⟨w1.heap.size, 0, none⟩) n n] (w1.alloc (.cells cs 3)) fun e w' => ∃ x : Int, e = .returned (.int .i64 x) ∧ P x ∧ Cur B w' g a len cap b off z ∧ w1.grownBy w' (some g) := by
  have hg := hc.lt
  have hg1 := World.grownBy_alloc w1 (.cells cs 3) (some g)
  refine (pickP_any P _ (hc.alloc _) hn0 hn (by omega) ?_).mono ?_
  · intro j hj
    obtain ⟨v, h1, h2⟩ := hcs j hj
    refine ⟨v, ?_, h2⟩
    rw [cell_of_row _ _ _ cs 3 (0, 0) (heap_alloc_new w1 _)]
    exact h1
  · rintro e w' ⟨x, h1, h2, h4, h5⟩
    exact ⟨x, h1, h2, h4, hg1.trans h5⟩
theorem asc_wide : ∀ (l : List Int) (lo hi hi' : Int), Mans.asc lo hi l = true → hi ≤ hi' → Mans.asc lo hi' l = true
  | [], _, _, _, _, _ => rfl
  | n :: r, lo, hi, hi', h, hl => by
    simp only [Mans.asc, Bool.and_eq_true, decide_eq_true_eq] at h ⊢
    exact ⟨⟨h.1.1, by omega⟩, asc_wide r _ _ _ h.2 hl⟩
theorem asc_snoc : ∀ (l : List Int) (lo hi : Int), Mans.asc lo hi l = true → lo ≤ hi + 1 → Mans.asc lo (hi + 1) (l ++ [hi + 1]) = true
  | [], lo, hi, _, hl => by
    simp only [List.nil_append, Mans.asc, Bool.and_eq_true, decide_eq_true_eq]
    exact ⟨⟨hl, by omega⟩, trivial⟩
  | n :: r, lo, hi, h, hl => by
    simp only [List.cons_append, Mans.asc, Bool.and_eq_true, decide_eq_true_eq] at h ⊢
    exact ⟨⟨h.1.1, by omega⟩, asc_snoc r _ _ h.2 (by omega)⟩
theorem asc_more {k : Nat} {l : List Int} (h : Mans.asc 1 (k : Int) l = true) : Mans.asc 1 ((k + 1 : Nat) : Int) (l ++ [((k + 1 : Nat) : Int)]) = true := by
  have := asc_snoc l 1 k h (by omega)
  rw [show ((k + 1 : Nat) : Int) = (k : Int) + 1 by omega]
  exact this
theorem conf_end {k : Nat} {l : List Int} (hk : k ≤ 4 ∧ l.length ≤ k) (h : Mans.asc 1 (k : Int) l = true) (h0 : l.length ≠ 0) : Mans.confOk l = true :=
  Mans.confOk_iff.2 ⟨⟨by omega, by omega⟩, asc_wide _ _ _ _ h (by omega)⟩
theorem okB_mk {t k : Int} {T : ByteArray} (ht : 0 ≤ t ∧ t ≤ 100000) (h : Ents.kindB ⟨t, k, T⟩ = true) : Ents.okB ⟨t, k, T⟩ = true := by
  simp only [Ents.okB, Bool.and_eq_true, decide_eq_true_eq]
  exact ⟨ht, h⟩
theorem kind_three (t : Int) {T : ByteArray} (h : T.size ≤ 120) : Ents.kindB ⟨t, 3, T⟩ = true := by
  simp [Ents.kindB, h]
theorem conf_tupleR (l : List Int) (h : Mans.confOk l = true) : ∃ T : ByteArray, ∃ R : Bool, confTuple l = .tuple #[.string T, .bool R] ∧ T.size ≤ 120 ∧ ∀ t, Ents.kindB ⟨t, 2, T⟩ = true := by
  refine ⟨Ents.confS l, true, by simp [confTuple, h], ?_, fun t => ?_⟩
  · have := (Mans.confOk_iff.1 h).1.2
    show (Ents.confB l).toArray.size ≤ 120
    simp [Ents.confB]
    omega
  · have := Ents.readC_iff.2 ⟨h, rfl⟩
    unfold Ents.readC at this
    split at this
    · rename_i q
      simp [Ents.kindB, q]
    · cases this
theorem five_kinds : ∀ j, j < 5 → ∃ v : Int, (#[Value.int .i64 1, .int .i64 2, .int .i64 3, .int .i64 3, .int .i64 3] : Array Value)[j]? = some (.int .i64 v) ∧ (v = 1 ∨ v = 2 ∨ v = 3) := by
  intro j hj
  match j, hj with
  | 0, _ => exact ⟨1, rfl, by omega⟩
  | 1, _ => exact ⟨2, rfl, by omega⟩
  | 2, _ => exact ⟨3, rfl, by omega⟩
  | 3, _ => exact ⟨3, rfl, by omega⟩
  | 4, _ => exact ⟨3, rfl, by omega⟩
/-- A right conf; a right entry of this term. -/
def ConfPostR (B g len cap b off : Nat) (a : Option Addr) (z : Nat → Int) (w : World) (e : Ending) (w' : World) : Prop := ∃ v l, e = .returned v ∧ Mans.confOk l = true ∧ DL B g len cap b off a z w v l w'
def EntPostR (B g len cap b off : Nat) (a : Option Addr) (z : Nat → Int) (w : World) (t : Int) (e : Ending) (w' : World) : Prop := ∃ d : EntL, e = .returned (entV d) ∧ d.term = t ∧ Ents.okB d = true ∧ d.data.size ≤ 120 ∧ Cur B w' g a len cap b off z ∧ w.grownBy w' (some g)
theorem asc_up {k : Nat} {l : List Int} (h : Mans.asc 1 (k : Int) l = true) : Mans.asc 1 ((k + 1 : Nat) : Int) l = true := asc_wide _ _ _ _ h (by omega)
set_option maxHeartbeats 2000000 in
set_option maxRecDepth 100000 in
theorem confR_any {B g len cap b off : Nat} {a : Option Addr} {z : Nat → Int} (w : World) (hc : Cur B w g a len cap b off z) :
    Calls Tryz.prog 78 #[.pointer (some ⟨g, 0, none⟩)] w (ConfPostR B g len cap b off a z w) := by
  obtain ⟨i0, hi, hz0, hz1, hz2⟩ := info_parts Tryz.info3
  have HD : Hid (DL B g len cap b off a z w (.slice (some ⟨w.heap.size, 0, none⟩) 0 0) [] (w.alloc (.cells #[] 3))) := DL.start hc
  clear hc
  go_enter Tryz.func78, Tryz.ntmps78
  go_wp2_with fail
  go_loopw [3, 4] (fun v i wr => ∃ (k : Nat) (l : List Int), k ≤ 4 ∧ i = .int .i64 ((k + 1 : Nat) : Int) ∧ l.length ≤ k ∧ Hid (Mans.asc 1 (k : Int) l = true) ∧ DL B g len cap b off a z w v l wr) (fun _ i _ => 5 - (intOf i).toNat)
  case atStart => exact ⟨0, [], by omega, rfl, Nat.le_refl _, rfl, HD.out⟩
  case round =>
    obtain ⟨k, l, hk, rfl, hll, HA, hd⟩ := hrel
    have HL : Hid (DL B g len cap b off a z w u3 l wr) := hd
    clear hd HD
    by_cases hlt : k < 4
    · have hk1 : ((k + 1 : Nat) : Int) ≤ 4 := by omega
      go_wp2_with fail
      refine (once_any 2 (by omega) _ HL.out.cur).mono ?_
      rintro e w1 ⟨x, rfl, hc1, hg1⟩
      have hD1 := HL.out.call hc1 hg1
      have HD1 : Hid (DL B g len cap b off a z w u3 l w1) := hD1
      have hown := hD1.own
      have hsz := hD1.size
      clear hc1 hg1 hD1
      cases hx : (x == 0) with
      | false =>
        go_wp2_with fail
        go_roundw
        case rel => exact ⟨k + 1, l, by omega, by go_num, by omega, asc_up HA.out, HD1.out⟩
        case measure => simp [intOf]; omega
      | true =>
        go_wp2_with (at_builtin; refine wpList_app_int rfl _ _ rfl w.heap.size _ l rfl hown _ rfl (by first | omega | simp) hsz ?_; intro v' w4 hown2 hgrow)
        have hD4 := (HD1.out.alloc _).app hgrow hown2
        have HD4 : Hid (DL B g len cap b off a z w v' (l ++ [_]) w4) := hD4
        clear hD4
        clear hown2 hgrow hown
        go_wp2
        go_roundw
        case rel => exact ⟨k + 1, l ++ [_], by omega, by go_num, by simp; omega, asc_more HA.out, HD4.out⟩
        case measure => simp [intOf]; omega
    · have hk1 : ¬ ((k + 1 : Nat) : Int) ≤ 4 := by omega
      obtain ⟨va, vc, hv⟩ := own_slice HL.out.own
      subst hv
      by_cases hl0 : l.length = 0
      · obtain rfl : l = [] := List.length_eq_zero_iff.1 hl0
        have hown := HL.out.own
        have hsz := HL.out.size
        go_wp2_with (at_builtin; refine wpList_app_int rfl _ _ rfl w.heap.size _ [] rfl hown _ rfl (by first | omega | simp) hsz ?_; intro v' w4 hown2 hgrow)
        have HD4 : Hid (DL B g len cap b off a z w v' ([] ++ [1]) w4) := (HL.out.alloc _).app hgrow hown2
        clear hown2 hgrow hown
        go_wp2
        go_ret
        exact ⟨v', [] ++ [1], rfl, by decide, HD4.out⟩
      · have hl1 : ¬ (l.length : Int) = 0 := by omega
        go_wp2
        go_ret
        exact ⟨_, l, rfl, conf_end (by omega) HA.out (by omega), HL.out⟩
set_option maxHeartbeats 4000000 in
set_option maxRecDepth 100000 in
theorem rightR_any {B g len cap b off : Nat} {a : Option Addr} {z : Nat → Int} (t : Int) (ht0 : 0 ≤ t) (ht1 : t ≤ 100000) (w : World) (hc : Cur B w g a len cap b off z) :
    Calls Tryz.prog 43 #[.pointer (some ⟨g, 0, none⟩), .int .i64 t] w (EntPostR B g len cap b off a z w t) := by
  have hlt := hc.lt
  obtain ⟨W0, hW0⟩ : ∃ W0, W0 = w.alloc (Obj.cells #[.int .i64 0, .int .i64 0, .string ⟨#[]⟩] 51) := ⟨_, rfl⟩
  have HC0 : Hid (Cur B W0 g a len cap b off z) := by rw [hW0]; exact hc.alloc _
  have HZ0 : Hid (W0.heap[w.heap.size]? = some (.cells #[.int .i64 0, .int .i64 0, .string ⟨#[]⟩] 51 (0, 0))) := by show _ = _; rw [hW0]; exact heap_alloc_new w _
  have HG0 : Hid (w.grownBy W0 (some g)) := by rw [hW0]; exact grown_alloc _ _
  have HPK : Hid (Calls Tryz.prog 76 #[.pointer (some ⟨g, 0, none⟩), .slice (some ⟨W0.heap.size, 0, none⟩) 5 5] (W0.alloc (.cells #[.int .i64 1, .int .i64 2, .int .i64 3, .int .i64 3, .int .i64 3] 3)) fun e w' => ∃ x : Int, e = .returned (.int .i64 x) ∧ (x = 1 ∨ x = 2 ∨ x = 3) ∧ Cur B w' g a len cap b off z ∧ W0.grownBy w' (some g)) := pickP_new (fun x => x = 1 ∨ x = 2 ∨ x = 3) W0 HC0.out _ 5 (by omega) (by omega) five_kinds
  have hsz : W0.heap.size = w.heap.size + 1 := by rw [hW0]; simp
  rw [hsz, hW0] at HPK
  clear hc hsz
  go_enter Tryz.func43, Tryz.ntmps43
  go_wp2_with fail
  refine Calls.mono HPK.out ?_
  rintro e w1 ⟨x, rfl, hx0, hc1, hg1⟩
  have HK : Hid (x = 1 ∨ x = 2 ∨ x = 3) := hx0
  have HT : Hid (0 ≤ t ∧ t ≤ 100000) := ⟨ht0, ht1⟩
  rw [← hW0] at hg1
  clear hW0 HPK
  have hz1 := grown_keep HZ0.out hg1 (by omega)
  have hzl : w.heap.size < w1.heap.size := (Array.getElem?_eq_some_iff.1 hz1).1
  obtain ⟨W2, hW2⟩ : ∃ W2, W2 = w1.alloc (Obj.cells #[.int .i64 t, .int .i64 x, .string ⟨#[]⟩] 51) := ⟨_, rfl⟩
  obtain ⟨xb, hxb⟩ : ∃ xb, xb = w1.heap.size := ⟨_, rfl⟩
  have HX2 : Hid (ES B g len cap b off a z w xb #[.int .i64 t, .int .i64 x, .string ⟨#[]⟩] W2) := by
    refine ⟨?_, ?_, ?_, ?_, hlt, by omega⟩
    · rw [hW2]; exact hc1.alloc _
    · rw [hW2, hxb]; exact heap_alloc_new w1 _
    · rw [hW2, Below.heap_alloc _ _ _ hzl]; exact hz1
    · rw [hW2]; exact (HG0.out.trans hg1).trans (grown_alloc _ _)
  clear hc1 hg1 hz1 HZ0 HG0 HC0 hx0 ht0 ht1
  by_cases k2 : x = 2
  · subst k2
    go_wp2_with fail
    rw [← hW2]
    clear hW2
    refine (confR_any W2 HX2.out.cur).mono ?_
    rintro e w3 ⟨v, l, rfl, hl, hd⟩
    obtain ⟨va, gv, vc, hv, hi3⟩ := cellsI_slice hd.own
    subst hv
    have HX3 : Hid (ES B g len cap b off a z w xb #[.int .i64 t, .int .i64 2, .string ⟨#[]⟩] w3) := HX2.out.call hd.cur hd.gr
    obtain ⟨T, R, hTR, hT, hTC⟩ := conf_tupleR l hl
    have hq := specConfText_is (cap := vc) l (by have := (Mans.confOk_iff.1 hl).1.2; omega) w3 hi3
    rw [hTR] at hq
    have HQ : Hid (Calls Tryz.prog 77 #[.slice va l.length vc] w3 fun e w' => e = .returned (.tuple #[.string T, .bool R]) ∧ Below w3.heap.size w3 w') := hq
    have HTS : Hid (Ents.kindB ⟨t, 2, T⟩ = true) := hTC t
    have HTL : Hid (T.size ≤ 120) := hT
    clear hq hTR hd hi3 hT hTC hl HX2
    go_wp2_with fail
    refine Calls.mono HQ.out ?_
    rintro e w4 ⟨rfl, hb4⟩
    have HX4 : Hid (ES B g len cap b off a z w xb #[.int .i64 t, .int .i64 2, .string ⟨#[]⟩] w4) := HX3.out.same hb4
    have HX4b : Hid (ES B g len cap b off a z w xb #[.int .i64 t, .int .i64 2, .string T] (w4.setCell ⟨xb, 2, none⟩ (.string T))) := HX4.out.set 2 _
    have x2 := cell_of_row _ _ 2 _ _ _ HX4.out.x
    have xf2 := frozen_of_row _ _ 2 _ _ HX4.out.x
    simp at x2
    clear hb4 HQ HX3
    rw [← hxb]
    clear hxb
    go_wp2_with (first | (refine wpList_loadA Tryz.isAgg51 Tryz.sizeOf51 rfl _ rfl xb #[.int .i64 t, .int .i64 2, .string T] 51 rfl HX4b.out.x rfl ?_) | (refine wpList_storeA Tryz.sizeOf51 rfl _ _ rfl w.heap.size #[.int .i64 t, .int .i64 2, .string T] #[.int .i64 0, .int .i64 0, .string ⟨#[]⟩] 51 rfl rfl HX4b.out.zz rfl rfl (three_one _ _ _) ?_) | fail)
    obtain ⟨r1, r2⟩ := HX4b.out.done #[.int .i64 t, .int .i64 2, .string T]
    exact bodyPost_ret (result68 HX4b.out.zz rfl rfl) rfl ⟨⟨t, 2, T⟩, rfl, rfl, okB_mk HT.out HTS.out, HTL.out, r1, r2⟩
  · have e2 : (x == 2) = false := by simp [k2]
    by_cases k3 : x = 3
    · subst k3
      clear k2
      go_wp2_with fail
      rw [← hW2]
      clear hW2
      refine (cmd_any W2 HX2.out.cur).mono ?_
      rintro e w3 ⟨c, rfl, hcd, hc3, hg3⟩
      have HX3 : Hid (ES B g len cap b off a z w xb #[.int .i64 t, .int .i64 3, .string ⟨#[]⟩] w3) := HX2.out.call hc3 hg3
      have HQ : Hid (Calls Tryz.prog 79 #[cmdV c] w3 (TextPost w3)) := cmdText_any c hcd w3
      clear hcd hc3 hg3 HX2
      go_wp2_with fail
      refine Calls.mono HQ.out ?_
      rintro e w4 ⟨T, R, rfl, hT, hb4⟩
      have HX4 : Hid (ES B g len cap b off a z w xb #[.int .i64 t, .int .i64 3, .string ⟨#[]⟩] w4) := HX3.out.same hb4
      have HX4b : Hid (ES B g len cap b off a z w xb #[.int .i64 t, .int .i64 3, .string T] (w4.setCell ⟨xb, 2, none⟩ (.string T))) := HX4.out.set 2 _
      have HTS : Hid (T.size ≤ 120) := hT
      have x2 := cell_of_row _ _ 2 _ _ _ HX4.out.x
      have xf2 := frozen_of_row _ _ 2 _ _ HX4.out.x
      simp at x2
      clear hb4 HQ HX3 hT
      rw [← hxb]
      clear hxb
      go_wp2_with (first | (refine wpList_loadA Tryz.isAgg51 Tryz.sizeOf51 rfl _ rfl xb #[.int .i64 t, .int .i64 3, .string T] 51 rfl HX4b.out.x rfl ?_) | (refine wpList_storeA Tryz.sizeOf51 rfl _ _ rfl w.heap.size #[.int .i64 t, .int .i64 3, .string T] #[.int .i64 0, .int .i64 0, .string ⟨#[]⟩] 51 rfl rfl HX4b.out.zz rfl rfl (three_one _ _ _) ?_) | fail)
      obtain ⟨r1, r2⟩ := HX4b.out.done #[.int .i64 t, .int .i64 3, .string T]
      exact bodyPost_ret (result68 HX4b.out.zz rfl rfl) rfl ⟨⟨t, 3, T⟩, rfl, rfl, okB_mk HT.out (kind_three t HTS.out), HTS.out, r1, r2⟩
    · have e3 : (x == 3) = false := by simp [k3]
      have HO : Hid (x = 1) := by have := HK.out; show _ = _; omega
      have HXE : Hid (ES B g len cap b off a z w w1.heap.size #[.int .i64 t, .int .i64 x, .string ⟨#[]⟩] (w1.alloc (Obj.cells #[.int .i64 t, .int .i64 x, .string ⟨#[]⟩] 51))) := by rw [hW2, hxb] at HX2; exact HX2
      clear HX2 hW2 hxb k2 k3
      go_wp2_with (first | (refine wpList_loadA Tryz.isAgg51 Tryz.sizeOf51 rfl _ rfl w1.heap.size #[.int .i64 t, .int .i64 x, .string ⟨#[]⟩] 51 rfl HXE.out.x rfl ?_) | (refine wpList_storeA Tryz.sizeOf51 rfl _ _ rfl w.heap.size #[.int .i64 t, .int .i64 x, .string ⟨#[]⟩] #[.int .i64 0, .int .i64 0, .string ⟨#[]⟩] 51 rfl rfl HXE.out.zz rfl rfl (three_one _ _ _) ?_) | fail)
      obtain ⟨r1, r2⟩ := HXE.out.done #[.int .i64 t, .int .i64 x, .string ⟨#[]⟩]
      exact bodyPost_ret (result68 HXE.out.zz rfl rfl) rfl ⟨⟨t, x, ⟨#[]⟩⟩, rfl, rfl, okB_mk HT.out (by rw [HO.out]; rfl), Nat.zero_le _, r1, r2⟩
end Go.Proofs.YtahpoemmlpbgdaaGreat
