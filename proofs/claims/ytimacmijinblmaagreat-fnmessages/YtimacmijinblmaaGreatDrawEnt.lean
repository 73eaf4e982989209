/- What is drawn of entries, walked: l11Right. What is drawn of entries, walked: l11Index, l11Any, DrawEntryText, DrawConfText. -/
import Derived.Test.YtimacmijinblmaaGreatDrawRight
import Derived.Test.YtimacmijinblmaaGreatCmdText
import Derived.Test.YtimacmijinblmaaGreatSpecConf
namespace Go.Proofs.YtimacmijinblmaaGreat
open Go.RowKit
set_option linter.unusedVariables false
set_option linter.unusedSimpArgs false

/-- What l11Right and l11Any hold between their calls: the cursor, the entry e, the result. -/
structure ES (B g len cap b off : Nat) (a : Option Addr) (z : Nat → Int) (w : World) (xb : Nat) (C : Array Value) (W : World) : Prop where
  cur : Cur B W g a len cap b off z
  x : W.heap[xb]? = some (.cells C 44 (0, 0))
  zz : W.heap[w.heap.size]? = some (.cells #[.int .i64 0, .int .i64 0, .string ⟨#[]⟩] 44 (0, 0))
  gr : w.grownBy W (some g)
  lt : g < w.heap.size
  up : w.heap.size < xb
section
variable {B g len cap b off : Nat} {a : Option Addr} {z : Nat → Int} {w W W' : World} {xb : Nat} {C : Array Value}
theorem ES.call (h : ES B g len cap b off a z w xb C W) (hc : Cur B W' g a len cap b off z) (hg : W.grownBy W' (some g)) : ES B g len cap b off a z w xb C W' :=
  have hl := h.lt
  have hu := h.up
  ⟨hc, grown_keep h.x hg (by omega), grown_keep h.zz hg (by omega), h.gr.trans hg, hl, hu⟩
theorem Cur.same (hc : Cur B W g a len cap b off z) (hb : Below W.heap.size W W') : Cur B W' g a len cap b off z :=
  hc.kept (own_below' (g := g) hb) (fun r e => Or.inr (by cases e; rfl)) (hb.block g hc.lt)
theorem ES.same (h : ES B g len cap b off a z w xb C W) (hb : Below W.heap.size W W') : ES B g len cap b off a z w xb C W' := h.call (h.cur.same hb) (own_below' hb)
theorem ES.set (h : ES B g len cap b off a z w xb C W) (j : Nat) (v : Value) : ES B g len cap b off a z w xb (C.setIfInBounds j v) (W.setCell ⟨xb, j, none⟩ v) :=
  have hl := h.lt
  have hu := h.up
  ⟨h.cur.far2 (by omega) j v, heap_setCell_same W xb j C 44 v h.x, set_far h.zz (by omega) j v, grown_new h.gr (by omega) j v, hl, hu⟩
theorem ES.row (h : ES B g len cap b off a z w xb C W) (A : Array Value) : ES B g len cap b off a z w xb A (W.setRow xb A) :=
  have hl := h.lt
  have hu := h.up
  ⟨h.cur.kept (grown_setRow W xb A) (fun r e => Or.inl (by have := h.cur.low; cases e; omega)) (setRow_other W xb g A (by omega)), row_size h.x, row_far h.zz (by omega) A, h.gr.andThen (grown_setRow W xb A) (fun r e => Or.inl (by cases e; omega)), hl, hu⟩
theorem ES.done (h : ES B g len cap b off a z w xb C W) (A : Array Value) : Cur B (W.setRow w.heap.size A) g a len cap b off z ∧ w.grownBy (W.setRow w.heap.size A) (some g) :=
  have hl := h.lt
  ⟨h.cur.kept (grown_setRow W w.heap.size A) (fun r e => Or.inl (by have := h.cur.low; cases e; omega)) (setRow_other W w.heap.size g A (by omega)),
    h.gr.andThen (grown_setRow W w.heap.size A) (fun r e => Or.inl (by cases e; exact Nat.le_refl _))⟩
end
theorem three_one (p q : Int) (k : ByteArray) : ∀ x ∈ (#[.int .i64 p, .int .i64 q, .string k] : Array Value).toList, x.oneCell' = true := by
  intro x hx
  simp at hx
  rcases hx with rfl | rfl | rfl <;> rfl
/-- What is drawn: some entry. -/
def EntPost (B g len cap b off : Nat) (a : Option Addr) (z : Nat → Int) (w : World) (e : Ending) (w' : World) : Prop := ∃ d : EntL, e = .returned (entV d) ∧ d.data.size ≤ 30000 ∧ Cur B w' g a len cap b off z ∧ w.grownBy w' (some g)
theorem result68 {w : World} {g : Nat} {A C : Array Value} (hg : w.heap[g]? = some (.cells C 44 (0, 0))) (hs : A.size = 3) {tmps : Array Value} (ht : tmps.getD 4 undef = .pointer (some ⟨g, 0, none⟩)) : (results Tryz.f113 tmps).run Tryz.prog (w.setRow g A) = .ok (.agg A) (w.setRow g A) := by
  have h := run_loadVar_agg (P := Tryz.prog) Tryz.isAgg44 Tryz.sizeOf44 (row_size (A := A) hg) hs
  have ht' : tmps[4]?.getD undef = .pointer (some ⟨g, 0, none⟩) := by simpa using ht
  simp [results, Tryz.results113, ht', asAddr, h]
theorem result51 {w : World} {g : Nat} {A C : Array Value} (hg : w.heap[g]? = some (.cells C 44 (0, 0))) (hs : A.size = 3) {tmps : Array Value} (ht : tmps.getD 2 undef = .pointer (some ⟨g, 0, none⟩)) : (results Tryz.f92 tmps).run Tryz.prog (w.setRow g A) = .ok (.agg A) (w.setRow g A) := by
  have h := run_loadVar_agg (P := Tryz.prog) Tryz.isAgg44 Tryz.sizeOf44 (row_size (A := A) hg) hs
  have ht' : tmps[2]?.getD undef = .pointer (some ⟨g, 0, none⟩) := by simpa using ht
  simp [results, Tryz.results92, ht', asAddr, h]
theorem conf_tuple2 (l : List Int) : ∃ T : ByteArray, ∃ R : Bool, confTuple l = .tuple #[.string T, .bool R] ∧ T.size ≤ l.length := by
  unfold confTuple
  split
  · refine ⟨_, _, rfl, ?_⟩
    show (Ents.confB l).toArray.size ≤ l.length
    simp [Ents.confB]
  · exact ⟨_, _, rfl, Nat.zero_le _⟩
theorem five_ints : ∀ j, j < 5 → ∃ v : Int, (#[Value.int .i64 1, .int .i64 2, .int .i64 3, .int .i64 3, .int .i64 3] : Array Value)[j]? = some (.int .i64 v) ∧ -9223372036854775808 ≤ v ∧ v ≤ 9223372036854775807 := by
  intro j hj
  match j, hj with
  | 0, _ => exact ⟨1, rfl, by omega, by omega⟩
  | 1, _ => exact ⟨2, rfl, by omega, by omega⟩
  | 2, _ => exact ⟨3, rfl, by omega, by omega⟩
  | 3, _ => exact ⟨3, rfl, by omega, by omega⟩
  | 4, _ => exact ⟨3, rfl, by omega, by omega⟩
set_option maxHeartbeats 4000000 in
set_option maxRecDepth 100000 in
theorem right_any {B g len cap b off : Nat} {a : Option Addr} {z : Nat → Int} (t : Int) (w : World) (hc : Cur B w g a len cap b off z) :
    Calls Tryz.prog 113 #[.pointer (some ⟨g, 0, none⟩), .int .i64 t] w (EntPost B g len cap b off a z w) := by
  have hlt := hc.lt
  obtain ⟨W0, hW0⟩ : ∃ W0, W0 = w.alloc (Obj.cells #[.int .i64 0, .int .i64 0, .string ⟨#[]⟩] 44) := ⟨_, rfl⟩
  have HC0 : Hid (Cur B W0 g a len cap b off z) := by rw [hW0]; exact hc.alloc _
  have HZ0 : Hid (W0.heap[w.heap.size]? = some (.cells #[.int .i64 0, .int .i64 0, .string ⟨#[]⟩] 44 (0, 0))) := by show _ = _; rw [hW0]; exact heap_alloc_new w _
  have HG0 : Hid (w.grownBy W0 (some g)) := by rw [hW0]; exact grown_alloc _ _
  have HPK : Hid (Calls Tryz.prog 91 #[.pointer (some ⟨g, 0, none⟩), .slice (some ⟨W0.heap.size, 0, none⟩) 5 5] (W0.alloc (.cells #[.int .i64 1, .int .i64 2, .int .i64 3, .int .i64 3, .int .i64 3] 3)) fun e w' => ∃ x : Int, e = .returned (.int .i64 x) ∧ -9223372036854775808 ≤ x ∧ x ≤ 9223372036854775807 ∧ Cur B w' g a len cap b off z ∧ W0.grownBy w' (some g)) := pickInt_new W0 HC0.out _ 5 (by omega) (by omega) five_ints
  have hsz : W0.heap.size = w.heap.size + 1 := by rw [hW0]; simp
  rw [hsz, hW0] at HPK
  clear hc hsz
  go_enter Tryz.func113, Tryz.ntmps113
  go_wp2_with fail
  refine Calls.mono HPK.out ?_
  rintro e w1 ⟨x, rfl, hx0, hx1, hc1, hg1⟩
  rw [← hW0] at hg1
  clear hW0 HPK
  have hz1 := grown_keep HZ0.out hg1 (by omega)
  have hzl : w.heap.size < w1.heap.size := (Array.getElem?_eq_some_iff.1 hz1).1
  obtain ⟨W2, hW2⟩ : ∃ W2, W2 = w1.alloc (Obj.cells #[.int .i64 t, .int .i64 x, .string ⟨#[]⟩] 44) := ⟨_, rfl⟩
  obtain ⟨xb, hxb⟩ : ∃ xb, xb = w1.heap.size := ⟨_, rfl⟩
  have HX2 : Hid (ES B g len cap b off a z w xb #[.int .i64 t, .int .i64 x, .string ⟨#[]⟩] W2) := by
    refine ⟨?_, ?_, ?_, ?_, hlt, by omega⟩
    · rw [hW2]; exact hc1.alloc _
    · rw [hW2, hxb]; exact heap_alloc_new w1 _
    · rw [hW2, Below.heap_alloc _ _ _ hzl]; exact hz1
    · rw [hW2]; exact (HG0.out.trans hg1).trans (grown_alloc _ _)
  clear hc1 hg1 hz1 HZ0 HG0 HC0 hx0 hx1
  by_cases k2 : x = 2
  · subst k2
    go_wp2_with fail
    rw [← hW2]
    clear hW2
    refine (conf_any W2 HX2.out.cur).mono ?_
    rintro e w3 ⟨v, l, rfl, hl, hd⟩
    obtain ⟨va, gv, vc, hv, hi3⟩ := cellsI_slice hd.own
    subst hv
    have HX3 : Hid (ES B g len cap b off a z w xb #[.int .i64 t, .int .i64 2, .string ⟨#[]⟩] w3) := HX2.out.call hd.cur hd.gr
    obtain ⟨T, R, hTR, hT⟩ := conf_tuple2 l
    have hq := specConfText_is (cap := vc) l (by omega) w3 hi3
    rw [hTR] at hq
    have HQ : Hid (Calls Tryz.prog 46 #[.slice va l.length vc] w3 fun e w' => e = .returned (.tuple #[.string T, .bool R]) ∧ Below w3.heap.size w3 w') := hq
    have HTS : Hid (T.size ≤ 5) := by show _ ≤ _; omega
    clear hq hTR hd hi3 hT HX2
    go_wp2_with fail
    refine Calls.mono HQ.out ?_
    rintro e w4 ⟨rfl, hb4⟩
    have HX4 : Hid (ES B g len cap b off a z w xb #[.int .i64 t, .int .i64 2, .string ⟨#[]⟩] w4) := HX3.out.same hb4
    have HX4b : Hid (ES B g len cap b off a z w xb #[.int .i64 t, .int .i64 2, .string T] (w4.setCell ⟨xb, 2, none⟩ (.string T))) := HX4.out.set 2 _
    have x2 := cell_of_row _ _ 2 _ _ _ HX4.out.x
    have xf2 := frozen_of_row _ _ 2 _ _ HX4.out.x
    simp at x2
    clear hb4 HQ HX3
    rw [← hxb]
    clear hxb
    go_wp2_with (first | (refine wpList_loadA Tryz.isAgg44 Tryz.sizeOf44 rfl _ rfl xb #[.int .i64 t, .int .i64 2, .string T] 44 rfl HX4b.out.x rfl ?_) | (refine wpList_storeA Tryz.sizeOf44 rfl _ _ rfl w.heap.size #[.int .i64 t, .int .i64 2, .string T] #[.int .i64 0, .int .i64 0, .string ⟨#[]⟩] 44 rfl rfl HX4b.out.zz rfl rfl (three_one _ _ _) ?_) | fail)
    obtain ⟨r1, r2⟩ := HX4b.out.done #[.int .i64 t, .int .i64 2, .string T]
    exact bodyPost_ret (result68 HX4b.out.zz rfl rfl) rfl ⟨⟨t, 2, T⟩, rfl, by have := HTS.out; simp only; omega, r1, r2⟩
  · have e2 : (x == 2) = false := by simp [k2]
    by_cases k3 : x = 3
    · subst k3
      clear k2
      go_wp2_with fail
      rw [← hW2]
      clear hW2
      refine (cmd_any W2 HX2.out.cur).mono ?_
      rintro e w3 ⟨c, rfl, hcd, hc3, hg3⟩
      have HX3 : Hid (ES B g len cap b off a z w xb #[.int .i64 t, .int .i64 3, .string ⟨#[]⟩] w3) := HX2.out.call hc3 hg3
      have HQ : Hid (Calls Tryz.prog 124 #[cmdV c] w3 (TextPost w3)) := cmdText_any c hcd w3
      clear hcd hc3 hg3 HX2
      go_wp2_with fail
      refine Calls.mono HQ.out ?_
      rintro e w4 ⟨T, R, rfl, hT, hb4⟩
      have HX4 : Hid (ES B g len cap b off a z w xb #[.int .i64 t, .int .i64 3, .string ⟨#[]⟩] w4) := HX3.out.same hb4
      have HX4b : Hid (ES B g len cap b off a z w xb #[.int .i64 t, .int .i64 3, .string T] (w4.setCell ⟨xb, 2, none⟩ (.string T))) := HX4.out.set 2 _
      have HTS : Hid (T.size ≤ 1000) := hT
      have x2 := cell_of_row _ _ 2 _ _ _ HX4.out.x
      have xf2 := frozen_of_row _ _ 2 _ _ HX4.out.x
      simp at x2
      clear hb4 HQ HX3 hT
      rw [← hxb]
      clear hxb
      go_wp2_with (first | (refine wpList_loadA Tryz.isAgg44 Tryz.sizeOf44 rfl _ rfl xb #[.int .i64 t, .int .i64 3, .string T] 44 rfl HX4b.out.x rfl ?_) | (refine wpList_storeA Tryz.sizeOf44 rfl _ _ rfl w.heap.size #[.int .i64 t, .int .i64 3, .string T] #[.int .i64 0, .int .i64 0, .string ⟨#[]⟩] 44 rfl rfl HX4b.out.zz rfl rfl (three_one _ _ _) ?_) | fail)
      obtain ⟨r1, r2⟩ := HX4b.out.done #[.int .i64 t, .int .i64 3, .string T]
      exact bodyPost_ret (result68 HX4b.out.zz rfl rfl) rfl ⟨⟨t, 3, T⟩, rfl, by have := HTS.out; simp only; omega, r1, r2⟩
    · have e3 : (x == 3) = false := by simp [k3]
      have HXE : Hid (ES B g len cap b off a z w w1.heap.size #[.int .i64 t, .int .i64 x, .string ⟨#[]⟩] (w1.alloc (Obj.cells #[.int .i64 t, .int .i64 x, .string ⟨#[]⟩] 44))) := by rw [hW2, hxb] at HX2; exact HX2
      clear HX2 hW2 hxb k2 k3
      go_wp2_with (first | (refine wpList_loadA Tryz.isAgg44 Tryz.sizeOf44 rfl _ rfl w1.heap.size #[.int .i64 t, .int .i64 x, .string ⟨#[]⟩] 44 rfl HXE.out.x rfl ?_) | (refine wpList_storeA Tryz.sizeOf44 rfl _ _ rfl w.heap.size #[.int .i64 t, .int .i64 x, .string ⟨#[]⟩] #[.int .i64 0, .int .i64 0, .string ⟨#[]⟩] 44 rfl rfl HXE.out.zz rfl rfl (three_one _ _ _) ?_) | fail)
      obtain ⟨r1, r2⟩ := HXE.out.done #[.int .i64 t, .int .i64 x, .string ⟨#[]⟩]
      exact bodyPost_ret (result68 HXE.out.zz rfl rfl) rfl ⟨⟨t, x, ⟨#[]⟩⟩, rfl, by show (0 : Nat) ≤ 30000; omega, r1, r2⟩
open Go.RowKit
set_option linter.unusedVariables false
set_option linter.unusedSimpArgs false

set_option maxHeartbeats 4000000 in
set_option maxRecDepth 100000 in
theorem anyEnt_any {B g len cap b off : Nat} {a : Option Addr} {z : Nat → Int} (w : World) (hc : Cur B w g a len cap b off z) :
    Calls Tryz.prog 92 #[.pointer (some ⟨g, 0, none⟩)] w (EntPost B g len cap b off a z w) := by
  have hlt := hc.lt
  obtain ⟨W0, hW0⟩ : ∃ W0, W0 = w.alloc (Obj.cells #[.int .i64 0, .int .i64 0, .string ⟨#[]⟩] 44) := ⟨_, rfl⟩
  have HC0 : Hid (Cur B W0 g a len cap b off z) := by rw [hW0]; exact hc.alloc _
  have HZ0 : Hid (W0.heap[w.heap.size]? = some (.cells #[.int .i64 0, .int .i64 0, .string ⟨#[]⟩] 44 (0, 0))) := by show _ = _; rw [hW0]; exact heap_alloc_new w _
  have HG0 : Hid (w.grownBy W0 (some g)) := by rw [hW0]; exact grown_alloc _ _
  clear hc
  go_enter Tryz.func92, Tryz.ntmps92
  go_wp2_with fail
  rw [← hW0]
  clear hW0
  refine (below_any 9 (by omega) W0 HC0.out).mono ?_
  rintro e w0 ⟨t, rfl, _, hc0, hg0⟩
  have HC1 : Hid (Cur B w0 g a len cap b off z) := hc0
  have HG1 : Hid (W0.grownBy w0 (some g)) := hg0
  clear hc0 hg0
  go_wp2_with fail
  refine (right_any t w0 HC1.out).mono ?_
  rintro e w1 ⟨d, rfl, hd, hc1, hg1'⟩
  have hg1 : W0.grownBy w1 (some g) := HG1.out.trans hg1'
  have HD : Hid (d.data.size ≤ 30000) := hd
  unfold entV
  have hz1 := grown_keep HZ0.out hg1 (by omega)
  have hzl : w.heap.size < w1.heap.size := (Array.getElem?_eq_some_iff.1 hz1).1
  obtain ⟨W2, hW2⟩ : ∃ W2, W2 = w1.alloc (Obj.cells #[.int .i64 d.term, .int .i64 d.kind, .string d.data] 44) := ⟨_, rfl⟩
  obtain ⟨xb, hxb⟩ : ∃ xb, xb = w1.heap.size := ⟨_, rfl⟩
  have HX2 : Hid (ES B g len cap b off a z w xb #[.int .i64 d.term, .int .i64 d.kind, .string d.data] W2) := by
    refine ⟨?_, ?_, ?_, ?_, hlt, by omega⟩
    · rw [hW2]; exact hc1.alloc _
    · rw [hW2, hxb]; exact heap_alloc_new w1 _
    · rw [hW2, Below.heap_alloc _ _ _ hzl]; exact hz1
    · rw [hW2]; exact (HG0.out.trans hg1).trans (grown_alloc _ _)
  clear hc1 hg1 hg1' hz1 HZ0 HG0 HC0 HC1 HG1 hd
  go_wp2_with fail
  rw [← hW2, ← hxb]
  clear hW2 hxb
  refine (below_any 30 (by omega) W2 HX2.out.cur).mono ?_
  rintro e w3 ⟨x, rfl, _, hc3, hg3⟩
  have HX3 : Hid (ES B g len cap b off a z w xb #[.int .i64 d.term, .int .i64 d.kind, .string d.data] w3) := HX2.out.call hc3 hg3
  clear hc3 hg3 HX2
  by_cases k0 : x = 0
  · subst k0
    go_wp2_with fail
    refine (pickInt_new w3 HX3.out.cur #[.int .i64 (-1), .int .i64 100000, .int .i64 100001] 3 (by omega) (by omega) (three_ints (-1) 100000 100001 (by omega) (by omega) (by omega))).mono ?_
    rintro e w4 ⟨y, rfl, _, _, hc4, hg4⟩
    have HX4 : Hid (ES B g len cap b off a z w xb #[.int .i64 d.term, .int .i64 d.kind, .string d.data] w4) := HX3.out.call hc4 hg4
    have HX4b : Hid (ES B g len cap b off a z w xb #[.int .i64 y, .int .i64 d.kind, .string d.data] (w4.setCell ⟨xb, 0, none⟩ (.int .i64 y))) := HX4.out.set 0 _
    have x0 := cell_of_row _ _ 0 _ _ _ HX4.out.x
    have xf0 := frozen_of_row _ _ 0 _ _ HX4.out.x
    simp at x0
    clear hc4 hg4 HX3
    go_wp2_with (first | (refine wpList_loadA Tryz.isAgg44 Tryz.sizeOf44 rfl _ rfl xb #[.int .i64 y, .int .i64 d.kind, .string d.data] 44 rfl HX4b.out.x rfl ?_) | (refine wpList_storeA Tryz.sizeOf44 rfl _ _ rfl w.heap.size #[.int .i64 y, .int .i64 d.kind, .string d.data] #[.int .i64 0, .int .i64 0, .string ⟨#[]⟩] 44 rfl rfl HX4b.out.zz rfl rfl (three_one _ _ _) ?_) | fail)
    obtain ⟨r1, r2⟩ := HX4b.out.done #[.int .i64 y, .int .i64 d.kind, .string d.data]
    exact bodyPost_ret (result51 HX4b.out.zz rfl rfl) rfl ⟨⟨y, d.kind, d.data⟩, rfl, HD.out, r1, r2⟩
  · have e0 : (x == 0) = false := by simp [k0]
    by_cases k1 : x = 1
    · subst k1
      clear k0
      go_wp2_with fail
      refine (pickInt_new w3 HX3.out.cur #[.int .i64 0, .int .i64 4, .int .i64 1, .int .i64 2] 4 (by omega) (by omega) (four_ints 0 4 1 2 (by omega) (by omega) (by omega) (by omega))).mono ?_
      rintro e w4 ⟨y, rfl, _, _, hc4, hg4⟩
      have HX4 : Hid (ES B g len cap b off a z w xb #[.int .i64 d.term, .int .i64 d.kind, .string d.data] w4) := HX3.out.call hc4 hg4
      have HX4b : Hid (ES B g len cap b off a z w xb #[.int .i64 d.term, .int .i64 y, .string d.data] (w4.setCell ⟨xb, 1, none⟩ (.int .i64 y))) := HX4.out.set 1 _
      have x1 := cell_of_row _ _ 1 _ _ _ HX4.out.x
      have xf1 := frozen_of_row _ _ 1 _ _ HX4.out.x
      simp at x1
      clear hc4 hg4 HX3
      go_wp2_with (first | (refine wpList_loadA Tryz.isAgg44 Tryz.sizeOf44 rfl _ rfl xb #[.int .i64 d.term, .int .i64 y, .string d.data] 44 rfl HX4b.out.x rfl ?_) | (refine wpList_storeA Tryz.sizeOf44 rfl _ _ rfl w.heap.size #[.int .i64 d.term, .int .i64 y, .string d.data] #[.int .i64 0, .int .i64 0, .string ⟨#[]⟩] 44 rfl rfl HX4b.out.zz rfl rfl (three_one _ _ _) ?_) | fail)
      obtain ⟨r1, r2⟩ := HX4b.out.done #[.int .i64 d.term, .int .i64 y, .string d.data]
      exact bodyPost_ret (result51 HX4b.out.zz rfl rfl) rfl ⟨⟨d.term, y, d.data⟩, rfl, HD.out, r1, r2⟩
    · have e1 : (x == 1) = false := by simp [k1]
      by_cases k2 : x = 2
      · subst k2
        clear k0 k1
        go_wp2_with fail
        refine (below_any 2 (by omega) w3 HX3.out.cur).mono ?_
        rintro e w4 ⟨y, rfl, hy, hc4, hg4⟩
        obtain ⟨hy0, _, hy2⟩ := hy
        have hy3 := hy2 (by omega)
        have HX4 : Hid (ES B g len cap b off a z w xb #[.int .i64 d.term, .int .i64 d.kind, .string d.data] w4) := HX3.out.call hc4 hg4
        clear hy2 hc4 hg4 HX3
        go_wp2_with fail
        refine (long_int (120 + y) (by omega) (by omega) w4).mono ?_
        rintro e w5 ⟨T, rfl, hT, hb5⟩
        have HX5 : Hid (ES B g len cap b off a z w xb #[.int .i64 d.term, .int .i64 d.kind, .string d.data] w5) := HX4.out.same hb5
        have HX5b : Hid (ES B g len cap b off a z w xb #[.int .i64 0, .int .i64 3, .string T] (w5.setRow xb #[.int .i64 0, .int .i64 3, .string T])) := HX5.out.row _
        have HTS : Hid (T.size ≤ 30000) := hT
        clear hb5 hT HX4
        go_wp2_with (first | (refine wpList_storeA Tryz.sizeOf44 rfl _ _ rfl xb #[.int .i64 0, .int .i64 3, .string T] #[.int .i64 d.term, .int .i64 d.kind, .string d.data] 44 rfl rfl HX5.out.x rfl rfl (three_one _ _ _) ?_) | (refine wpList_loadA Tryz.isAgg44 Tryz.sizeOf44 rfl _ rfl xb #[.int .i64 0, .int .i64 3, .string T] 44 rfl HX5b.out.x rfl ?_) | (refine wpList_storeA Tryz.sizeOf44 rfl _ _ rfl w.heap.size #[.int .i64 0, .int .i64 3, .string T] #[.int .i64 0, .int .i64 0, .string ⟨#[]⟩] 44 rfl rfl HX5b.out.zz rfl rfl (three_one _ _ _) ?_) | fail)
        obtain ⟨r1, r2⟩ := HX5b.out.done #[.int .i64 0, .int .i64 3, .string T]
        exact bodyPost_ret (result51 HX5b.out.zz rfl rfl) rfl ⟨⟨0, 3, T⟩, rfl, HTS.out, r1, r2⟩
      · have e2 : (x == 2) = false := by simp [k2]
        clear k0 k1 k2
        go_wp2_with (first | (refine wpList_loadA Tryz.isAgg44 Tryz.sizeOf44 rfl _ rfl xb #[.int .i64 d.term, .int .i64 d.kind, .string d.data] 44 rfl HX3.out.x rfl ?_) | (refine wpList_storeA Tryz.sizeOf44 rfl _ _ rfl w.heap.size #[.int .i64 d.term, .int .i64 d.kind, .string d.data] #[.int .i64 0, .int .i64 0, .string ⟨#[]⟩] 44 rfl rfl HX3.out.zz rfl rfl (three_one _ _ _) ?_) | fail)
        obtain ⟨r1, r2⟩ := HX3.out.done #[.int .i64 d.term, .int .i64 d.kind, .string d.data]
        exact bodyPost_ret (result51 HX3.out.zz rfl rfl) rfl ⟨d, rfl, HD.out, r1, r2⟩
end Go.Proofs.YtimacmijinblmaaGreat
