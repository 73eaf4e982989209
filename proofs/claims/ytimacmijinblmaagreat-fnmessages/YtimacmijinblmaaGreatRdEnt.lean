/- The program's reader at an entry, walked. -/
import Derived.Test.YtimacmijinblmaaGreatRdCont
namespace Go.Proofs.YtimacmijinblmaaGreat
open Go.RowKit
open Ents (okB kindB rest ent Gets Torn)
set_option linter.unusedVariables false
set_option linter.unusedSimpArgs false

/-- Reading ends ahead of its end, or what is read is no content. -/
def Fails (t : ByteArray) : Prop := Torn t ∨ ∃ i j k a b, Gets t i j k a b ∧ kindB (ent t j k b) = false
set_option maxHeartbeats 2000000 in
set_option maxRecDepth 100000 in
theorem entry_fails {rb : Nat} {t : ByteArray} (hs : t.size ≤ 1048576) (w : World) (hr : Rd w rb t 0) (h : Fails t) :
    Calls Tryz.prog 121 #[.pointer (some ⟨rb, 0, none⟩)] w fun en w' => en = .panicked thrown ∧ w.grownBy w' (some rb) := by
  have HR : Hid (Rd (w.alloc (Obj.cells #[.int .i64 0, .int .i64 0, .string ⟨#[]⟩] 44)) rb t 0) := hr.below ((Below.refl _ _).alloc (Nat.le_refl _) _)
  have HG : Hid (w.grownBy (w.alloc (Obj.cells #[.int .i64 0, .int .i64 0, .string ⟨#[]⟩] 44)) (some rb)) := grown_alloc _ _
  clear hr
  rcases h with (h | ⟨c, h, hc⟩ | ⟨h0, h1⟩ | ⟨i, a, h0, h1, h2⟩ | ⟨i, a, j, b, h0, h1, h2, h3⟩) | ⟨i, j, k, a, b, hg, hk⟩
  · have HN : Hid (¬ 0 < t.size) := at_none h
    clear h
    go_enter Tryz.func121, Tryz.ntmps121
    go_wp2_with (first | (go_at_call 51; refine (one_none hs _ HR.out HN.out).mono ?_; rintro e w1 ⟨rfl, hg1⟩))
    exact ⟨rfl, rfl, HG.out.trans hg1⟩
  · have HH : Hid _ := h
    have hc1 : ((c.toNat : Int) == 69) = false := by
      have : c.toNat ≠ 69 := fun x => hc (UInt8.toNat_inj.1 x)
      simp; omega
    clear h hc
    go_enter Tryz.func121, Tryz.ntmps121
    go_wp2_with (first | (go_at_call 51; refine (one_at hs _ HR.out HH.out).mono ?_; rintro e w1 ⟨rfl, hr1, hg1⟩) | (go_at_call 97; refine (need_no _ _).mono ?_; rintro e w2 ⟨rfl, rfl⟩))
    exact ⟨rfl, rfl, HG.out.trans hg1⟩
  · have HH : Hid ((Batches.by_ t)[0]? = some 69) := h0
    have H1 : Hid (Words.rd t.data.toList 1 = none) := h1
    clear h0 h1
    go_enter Tryz.func121, Tryz.ntmps121
    go_wp2_with fail
    refine (one_at hs _ HR.out HH.out).mono ?_
    rintro e w1 ⟨rfl, hr1, hg1⟩
    have HR1 : Hid (Rd w1 rb t 1) := hr1
    have HG1 : Hid (w.grownBy w1 (some rb)) := HG.out.trans hg1
    clear hr1 hg1 HR HG
    have hx : (((69 : UInt8).toNat : Int) == 69) = true := by decide
    go_wp2_with fail
    refine (need_yes _ _).mono ?_
    rintro e w2 ⟨rfl, hw2⟩
    have hw3 := hw2.symm
    clear hw2
    subst hw3
    go_wp2_with fail
    refine (number_none hs _ HR1.out H1.out).mono ?_
    rintro e w3 ⟨rfl, hg3⟩
    exact ⟨rfl, rfl, HG1.out.trans hg3⟩
  · have HH : Hid ((Batches.by_ t)[0]? = some 69) := h0
    have H1 : Hid (Words.rd t.data.toList 1 = some (i, a)) := h1
    have H2 : Hid (Words.rd t.data.toList a = none) := h2
    clear h0 h1 h2
    go_enter Tryz.func121, Tryz.ntmps121
    go_wp2_with fail
    refine (one_at hs _ HR.out HH.out).mono ?_
    rintro e w1 ⟨rfl, hr1, hg1⟩
    have HR1 : Hid (Rd w1 rb t 1) := hr1
    have HG1 : Hid (w.grownBy w1 (some rb)) := HG.out.trans hg1
    clear hr1 hg1 HR HG
    have hx : (((69 : UInt8).toNat : Int) == 69) = true := by decide
    go_wp2_with fail
    refine (need_yes _ _).mono ?_
    rintro e w2 ⟨rfl, hw2⟩
    have hw3 := hw2.symm
    clear hw2
    subst hw3
    go_wp2_with fail
    refine (number_some hs _ HR1.out H1.out).mono ?_
    rintro e w3 ⟨rfl, hr3, hg3⟩
    have HR3 : Hid (Rd w3 rb t a) := hr3
    have HG3 : Hid (w.grownBy w3 (some rb)) := HG1.out.trans hg3
    clear hr3 hg3
    go_wp2_with fail
    refine (number_none hs _ HR3.out H2.out).mono ?_
    rintro e w4 ⟨rfl, hg4⟩
    exact ⟨rfl, rfl, HG3.out.trans hg4⟩
  · have HH : Hid ((Batches.by_ t)[0]? = some 69) := h0
    have H1 : Hid (Words.rd t.data.toList 1 = some (i, a)) := h1
    have H2 : Hid (Words.rd t.data.toList a = some (j, b)) := h2
    have H3 : Hid ((Batches.by_ t)[b]? = none) := h3
    clear h0 h1 h2 h3
    go_enter Tryz.func121, Tryz.ntmps121
    go_wp2_with fail
    refine (one_at hs _ HR.out HH.out).mono ?_
    rintro e w1 ⟨rfl, hr1, hg1⟩
    have HR1 : Hid (Rd w1 rb t 1) := hr1
    have HG1 : Hid (w.grownBy w1 (some rb)) := HG.out.trans hg1
    clear hr1 hg1 HR HG
    have hx : (((69 : UInt8).toNat : Int) == 69) = true := by decide
    go_wp2_with fail
    refine (need_yes _ _).mono ?_
    rintro e w2 ⟨rfl, hw2⟩
    have hw3 := hw2.symm
    clear hw2
    subst hw3
    go_wp2_with fail
    refine (number_some hs _ HR1.out H1.out).mono ?_
    rintro e w3 ⟨rfl, hr3, hg3⟩
    have HR3 : Hid (Rd w3 rb t a) := hr3
    have HG3 : Hid (w.grownBy w3 (some rb)) := HG1.out.trans hg3
    clear hr3 hg3
    go_wp2_with fail
    refine (number_some hs _ HR3.out H2.out).mono ?_
    rintro e w4 ⟨rfl, hr4, hg4⟩
    have HR4 : Hid (Rd w4 rb t b) := hr4
    have HG4 : Hid (w.grownBy w4 (some rb)) := HG3.out.trans hg4
    clear hr4 hg4
    go_wp2_with fail
    refine (content_torn hs _ HR4.out H3.out).mono ?_
    rintro e w5 ⟨rfl, hg5⟩
    exact ⟨rfl, rfl, HG4.out.trans hg5⟩
  · have HH : Hid ((Batches.by_ t)[0]? = some 69) := hg.h0
    have H1 : Hid (Words.rd t.data.toList 1 = some (i, a)) := hg.r1
    have H2 : Hid (Words.rd t.data.toList a = some (j, b)) := hg.r2
    have H3 : Hid ((Batches.by_ t)[b]? = some k) := hg.hk
    have H4 : Hid (kindB (ent t j k b) = false) := hk
    clear hg hk
    go_enter Tryz.func121, Tryz.ntmps121
    go_wp2_with fail
    refine (one_at hs _ HR.out HH.out).mono ?_
    rintro e w1 ⟨rfl, hr1, hg1⟩
    have HR1 : Hid (Rd w1 rb t 1) := hr1
    have HG1 : Hid (w.grownBy w1 (some rb)) := HG.out.trans hg1
    clear hr1 hg1 HR HG
    have hx : (((69 : UInt8).toNat : Int) == 69) = true := by decide
    go_wp2_with fail
    refine (need_yes _ _).mono ?_
    rintro e w2 ⟨rfl, hw2⟩
    have hw3 := hw2.symm
    clear hw2
    subst hw3
    go_wp2_with fail
    refine (number_some hs _ HR1.out H1.out).mono ?_
    rintro e w3 ⟨rfl, hr3, hg3⟩
    have HR3 : Hid (Rd w3 rb t a) := hr3
    have HG3 : Hid (w.grownBy w3 (some rb)) := HG1.out.trans hg3
    clear hr3 hg3
    go_wp2_with fail
    refine (number_some hs _ HR3.out H2.out).mono ?_
    rintro e w4 ⟨rfl, hr4, hg4⟩
    have HR4 : Hid (Rd w4 rb t b) := hr4
    have HG4 : Hid (w.grownBy w4 (some rb)) := HG3.out.trans hg4
    clear hr4 hg4
    go_wp2_with fail
    refine (content_bad (j := j) hs _ HR4.out H3.out H4.out).mono ?_
    rintro e w5 ⟨rfl, hg5⟩
    exact ⟨rfl, rfl, HG4.out.trans hg5⟩
theorem ent_data {t : ByteArray} {j b : Nat} {k : UInt8} (hk : kindB (ent t j k b) = true) : (ent t j k b).data.size ≤ 120 := (Ents.kind_in hk).2
def DataOf (W : World) (v : Value) (T : ByteArray) : Prop := (v = .iface 125 (.agg #[]) ∧ Calls Tryz.prog 146 #[.agg #[]] W fun en w' => en = .returned (.string T) ∧ Below W.heap.size W w') ∨
  (∃ a n c, v = .iface 127 (.agg #[.slice a n c]) ∧ Calls Tryz.prog 147 #[.agg #[.slice a n c]] W fun en w' => en = .returned (.string T) ∧ Below W.heap.size W w') ∨
  (∃ u, v = .iface 129 (.agg #[.string u]) ∧ Calls Tryz.prog 148 #[.agg #[.string u]] W fun en w' => en = .returned (.string T) ∧ Below W.heap.size W w')
theorem dataOf_is {W : World} {B : Nat} {e : EntL} {v : Value} (hs : e.data.size ≤ 120) (h : ContV W B e v) : DataOf W v e.data := by
  rcases h with ⟨k, hd, rfl⟩ | ⟨k, hc, u, rfl, ho⟩ | ⟨k, rfl⟩
  · left
    refine ⟨rfl, ?_⟩
    rw [hd]
    exact data_none W
  · right; left
    obtain ⟨va, vc, hv⟩ := own_slice ho
    subst hv
    exact ⟨_, _, _, rfl, data_conf e.data (by omega) hc W ho⟩
  · right; right
    exact ⟨_, rfl, data_cmd e.data W⟩
set_option maxHeartbeats 4000000 in
set_option maxRecDepth 100000 in
theorem entry_gets {rb : Nat} {t : ByteArray} {i j : Nat} {k : UInt8} {a b : Nat} (hs : t.size ≤ 1048576) (w : World) (hr : Rd w rb t 0) (hg : Gets t i j k a b) (hk : kindB (ent t j k b) = true) :
    Calls Tryz.prog 121 #[.pointer (some ⟨rb, 0, none⟩)] w fun en w' => en = .returned (.tuple #[.int .i64 (i : Int), entV (ent t j k b)]) ∧ Rd w' rb t t.size ∧ w.grownBy w' (some rb) := by
  have hlt := hr.lt
  have HR : Hid (Rd (w.alloc (Obj.cells #[.int .i64 0, .int .i64 0, .string ⟨#[]⟩] 44)) rb t 0) := hr.below ((Below.refl _ _).alloc (Nat.le_refl _) _)
  have HN : Hid ((w.alloc (Obj.cells #[.int .i64 0, .int .i64 0, .string ⟨#[]⟩] 44)).heap[w.heap.size]? = some (.cells #[.int .i64 0, .int .i64 0, .string ⟨#[]⟩] 44 (0, 0))) := heap_alloc_new w _
  have HG : Hid (w.grownBy (w.alloc (Obj.cells #[.int .i64 0, .int .i64 0, .string ⟨#[]⟩] 44)) (some rb)) := grown_alloc _ _
  have HH : Hid ((Batches.by_ t)[0]? = some 69) := hg.h0
  have H1 : Hid (Words.rd t.data.toList 1 = some (i, a)) := hg.r1
  have H2 : Hid (Words.rd t.data.toList a = some (j, b)) := hg.r2
  have H3 : Hid ((Batches.by_ t)[b]? = some k) := hg.hk
  have H4 : Hid (kindB (ent t j k b) = true) := hk
  have HDS : Hid ((ent t j k b).data.size ≤ 120) := ent_data hk
  have m73 : ∀ W : World, (method 249 125 (.agg #[]) "loop.example/g00103/impl.data").run Tryz.prog W = .ok (146, .agg #[]) W := fun W => met_none W
  have m75 : ∀ (W : World) (x : Option Addr) (y z : Nat), (method 249 127 (.agg #[.slice x y z]) "loop.example/g00103/impl.data").run Tryz.prog W = .ok (147, .agg #[.slice x y z]) W := fun W x y z => met_conf W
  have m78 : ∀ (W : World) (x : ByteArray), (method 249 129 (.agg #[.string x]) "loop.example/g00103/impl.data").run Tryz.prog W = .ok (148, .agg #[.string x]) W := fun W x => met_cmd W
  have HCS : Hid (∀ W : World, Rd W rb t b → Calls Tryz.prog 127 #[.pointer (some ⟨rb, 0, none⟩)] W fun en w' => ∃ v, en = .returned v ∧ ContV w' W.heap.size (ent t j k b) v ∧ Rd w' rb t t.size ∧ W.grownBy w' (some rb)) := fun W q => content_some hs W q H3.out H4.out
  obtain ⟨E, hE⟩ : ∃ E, E = ent t j k b := ⟨_, rfl⟩
  have HET : Hid (E.term = (j : Int)) := by show _ = _; rw [hE]; rfl
  rw [← hE] at HDS HCS ⊢
  unfold entV
  rw [HET.out]
  clear hr hg hk hE H4 H3
  go_enter Tryz.func121, Tryz.ntmps121
  go_wp2_with fail
  refine (one_at hs _ HR.out HH.out).mono ?_
  rintro e w1 ⟨rfl, hr1, hg1⟩
  have HR1 : Hid (Rd w1 rb t 1) := hr1
  have HG1 : Hid (w.grownBy w1 (some rb)) := HG.out.trans hg1
  have HN1 : Hid (_ = _) := grown_keep HN.out hg1 (by omega)
  clear hr1 hg1 HR HG HN
  have hx : (((69 : UInt8).toNat : Int) == 69) = true := by decide
  go_wp2_with fail
  refine (need_yes _ _).mono ?_
  rintro e w2 ⟨rfl, hw2⟩
  have hw3 := hw2.symm
  clear hw2
  subst hw3
  go_wp2_with fail
  refine (number_some hs _ HR1.out H1.out).mono ?_
  rintro e w3 ⟨rfl, hr3, hg3⟩
  have HR3 : Hid (Rd w3 rb t a) := hr3
  have HG3 : Hid (w.grownBy w3 (some rb)) := HG1.out.trans hg3
  have HN3 : Hid (_ = _) := grown_keep HN1.out hg3 (by omega)
  clear hr3 hg3 HN1 HR1 HG1
  go_wp2_with fail
  refine (number_some hs _ HR3.out H2.out).mono ?_
  rintro e w4 ⟨rfl, hr4, hg4⟩
  have HR4 : Hid (Rd w4 rb t b) := hr4
  have HG4 : Hid (w.grownBy w4 (some rb)) := HG3.out.trans hg4
  have HN4 : Hid (_ = _) := grown_keep HN3.out hg4 (by omega)
  clear hr4 hg4 HN3 HR3 HG3
  go_wp2_with fail
  refine Calls.mono (HCS.out _ HR4.out) ?_
  rintro e w5 ⟨v, rfl, hv, hr5, hg5⟩
  have HR5 : Hid (Rd w5 rb t t.size) := hr5
  have HG5 : Hid (w.grownBy w5 (some rb)) := HG4.out.trans hg5
  have HN5 : Hid (w5.heap[w.heap.size]? = some (.cells #[.int .i64 0, .int .i64 0, .string ⟨#[]⟩] 44 (0, 0))) := grown_keep HN4.out hg5 (by omega)
  have HKO : Hid (Calls Tryz.prog 126 #[v] w5 fun en w' => en = .returned (.int .i64 E.kind) ∧ w' = w5) := kindOf_is hv w5
  have hda := dataOf_is HDS.out hv
  clear hr5 hg5 HN4 HR4 HG4 hv HCS
  rcases hda with ⟨rfl, hq⟩ | ⟨x, y, z, rfl, hq⟩ | ⟨u, rfl, hq⟩
  · have HQ : Hid (Calls Tryz.prog _ _ w5 _) := hq
    clear hq
    go_wp2_with fail
    refine Calls.mono HKO.out ?_
    rintro e w6 ⟨rfl, hw6⟩
    have hw7 := hw6.symm
    clear hw6
    subst hw7
    go_wp2_with fail
    refine Calls.mono HQ.out ?_
    rintro e w7 ⟨rfl, hb7⟩
    have hn7 := (hb7.block _ (Array.getElem?_eq_some_iff.1 HN5.out).1).trans HN5.out
    have HN7 : Hid (w7.heap[w.heap.size]? = some (.cells #[.int .i64 0, .int .i64 0, .string ⟨#[]⟩] 44 (0, 0))) := hn7
    have HR7 : Hid (Rd w7 rb t t.size) := HR5.out.below hb7
    have HG7 : Hid (w.grownBy w7 (some rb)) := grown_below HG5.out hb7
    have c0 := cell_of_row _ _ 0 _ _ _ hn7
    have c1 := cell_of_row _ _ 1 _ _ _ hn7
    have c2 := cell_of_row _ _ 2 _ _ _ hn7
    have f0 := frozen_of_row _ _ 0 _ _ hn7
    have f1 := frozen_of_row _ _ 1 _ _ hn7
    have f2 := frozen_of_row _ _ 2 _ _ hn7
    simp at c0 c1 c2
    clear hn7 hb7 HKO HQ HN5 HR5 HG5
    go_wp2
    obtain ⟨l0, l1, l2⟩ := three_cell HN7.out (.int .i64 (j : Int)) (.int .i64 E.kind) (.string E.data)
    exact bodyPost_ret (v := .tuple #[.int .i64 (i : Int), .agg #[.int .i64 (j : Int), .int .i64 E.kind, .string E.data]]) (by simp [results, Tryz.results121, go_sem, l0, l1, l2]) rfl ⟨rfl, ((HR7.out.setNew (k := w.heap.size) (by omega) 0 _).setNew (k := w.heap.size) (by omega) 1 _).setNew (k := w.heap.size) (by omega) 2 _, grown_new (grown_new (grown_new HG7.out (k := w.heap.size) (Nat.le_refl _) 0 _) (k := w.heap.size) (Nat.le_refl _) 1 _) (k := w.heap.size) (Nat.le_refl _) 2 _⟩
  · have HQ : Hid (Calls Tryz.prog _ _ w5 _) := hq
    clear hq
    go_wp2_with fail
    refine Calls.mono HKO.out ?_
    rintro e w6 ⟨rfl, hw6⟩
    have hw7 := hw6.symm
    clear hw6
    subst hw7
    go_wp2_with fail
    refine Calls.mono HQ.out ?_
    rintro e w7 ⟨rfl, hb7⟩
    have hn7 := (hb7.block _ (Array.getElem?_eq_some_iff.1 HN5.out).1).trans HN5.out
    have HN7 : Hid (w7.heap[w.heap.size]? = some (.cells #[.int .i64 0, .int .i64 0, .string ⟨#[]⟩] 44 (0, 0))) := hn7
    have HR7 : Hid (Rd w7 rb t t.size) := HR5.out.below hb7
    have HG7 : Hid (w.grownBy w7 (some rb)) := grown_below HG5.out hb7
    have c0 := cell_of_row _ _ 0 _ _ _ hn7
    have c1 := cell_of_row _ _ 1 _ _ _ hn7
    have c2 := cell_of_row _ _ 2 _ _ _ hn7
    have f0 := frozen_of_row _ _ 0 _ _ hn7
    have f1 := frozen_of_row _ _ 1 _ _ hn7
    have f2 := frozen_of_row _ _ 2 _ _ hn7
    simp at c0 c1 c2
    clear hn7 hb7 HKO HQ HN5 HR5 HG5
    go_wp2
    obtain ⟨l0, l1, l2⟩ := three_cell HN7.out (.int .i64 (j : Int)) (.int .i64 E.kind) (.string E.data)
    exact bodyPost_ret (v := .tuple #[.int .i64 (i : Int), .agg #[.int .i64 (j : Int), .int .i64 E.kind, .string E.data]]) (by simp [results, Tryz.results121, go_sem, l0, l1, l2]) rfl ⟨rfl, ((HR7.out.setNew (k := w.heap.size) (by omega) 0 _).setNew (k := w.heap.size) (by omega) 1 _).setNew (k := w.heap.size) (by omega) 2 _, grown_new (grown_new (grown_new HG7.out (k := w.heap.size) (Nat.le_refl _) 0 _) (k := w.heap.size) (Nat.le_refl _) 1 _) (k := w.heap.size) (Nat.le_refl _) 2 _⟩
  · have HQ : Hid (Calls Tryz.prog _ _ w5 _) := hq
    clear hq
    go_wp2_with fail
    refine Calls.mono HKO.out ?_
    rintro e w6 ⟨rfl, hw6⟩
    have hw7 := hw6.symm
    clear hw6
    subst hw7
    go_wp2_with fail
    refine Calls.mono HQ.out ?_
    rintro e w7 ⟨rfl, hb7⟩
    have hn7 := (hb7.block _ (Array.getElem?_eq_some_iff.1 HN5.out).1).trans HN5.out
    have HN7 : Hid (w7.heap[w.heap.size]? = some (.cells #[.int .i64 0, .int .i64 0, .string ⟨#[]⟩] 44 (0, 0))) := hn7
    have HR7 : Hid (Rd w7 rb t t.size) := HR5.out.below hb7
    have HG7 : Hid (w.grownBy w7 (some rb)) := grown_below HG5.out hb7
    have c0 := cell_of_row _ _ 0 _ _ _ hn7
    have c1 := cell_of_row _ _ 1 _ _ _ hn7
    have c2 := cell_of_row _ _ 2 _ _ _ hn7
    have f0 := frozen_of_row _ _ 0 _ _ hn7
    have f1 := frozen_of_row _ _ 1 _ _ hn7
    have f2 := frozen_of_row _ _ 2 _ _ hn7
    simp at c0 c1 c2
    clear hn7 hb7 HKO HQ HN5 HR5 HG5
    go_wp2
    obtain ⟨l0, l1, l2⟩ := three_cell HN7.out (.int .i64 (j : Int)) (.int .i64 E.kind) (.string E.data)
    exact bodyPost_ret (v := .tuple #[.int .i64 (i : Int), .agg #[.int .i64 (j : Int), .int .i64 E.kind, .string E.data]]) (by simp [results, Tryz.results121, go_sem, l0, l1, l2]) rfl ⟨rfl, ((HR7.out.setNew (k := w.heap.size) (by omega) 0 _).setNew (k := w.heap.size) (by omega) 1 _).setNew (k := w.heap.size) (by omega) 2 _, grown_new (grown_new (grown_new HG7.out (k := w.heap.size) (Nat.le_refl _) 0 _) (k := w.heap.size) (Nat.le_refl _) 1 _) (k := w.heap.size) (Nat.le_refl _) 2 _⟩
end Go.Proofs.YtimacmijinblmaaGreat
