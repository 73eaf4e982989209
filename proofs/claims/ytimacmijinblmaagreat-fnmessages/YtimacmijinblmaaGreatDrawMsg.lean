/- A right message, drawn. -/
import Derived.Test.YtimacmijinblmaaGreatNSt
import Derived.Test.YtimacmijinblmaaGreatRegLast
namespace Go.Proofs.YtimacmijinblmaaGreat
open Go.RowKit
set_option linter.unusedVariables false
set_option linter.unusedSimpArgs false
theorem result89 {w : World} {g : Nat} {A C : Array Value} (hg : w.heap[g]? = some (.cells C 25 (0, 0))) (hs : A.size = 12) {tmps : Array Value} (ht : tmps.getD 2 undef = .pointer (some ⟨g, 0, none⟩)) : (results Tryz.f89 tmps).run Tryz.prog (w.setRow g A) = .ok (.agg A) (w.setRow g A) := by
  have h := run_loadVar_agg (P := Tryz.prog) Tryz.isAgg25 Tryz.sizeOf25 (row_size (A := A) hg) hs
  have ht' : tmps[2]?.getD undef = .pointer (some ⟨g, 0, none⟩) := by simpa using ht
  simp [results, Tryz.results89, ht', asAddr, h]
/-- The cursor and the result's block. -/
structure ZS (B g len cap b off : Nat) (a : Option Addr) (z : Nat → Int) (w X : World) : Prop where
  cur : Cur B X g a len cap b off z
  res : X.heap[w.heap.size]? = some (.cells zeroC 25 (0, 0))
  low : g < w.heap.size
  gr : w.grownBy X (some g)
theorem ZS.call {B g len cap b off : Nat} {a : Option Addr} {z : Nat → Int} {w X X' : World} (h : ZS B g len cap b off a z w X) (hc : Cur B X' g a len cap b off z) (hg : X.grownBy X' (some g)) : ZS B g len cap b off a z w X' :=
  ⟨hc, grown_keep h.res hg (by have := h.low; omega), h.low, h.gr.trans hg⟩
theorem ZS.start {B g len cap b off : Nat} {a : Option Addr} {z : Nat → Int} {w : World} (hc : Cur B w g a len cap b off z) : ZS B g len cap b off a z w (w.alloc (Obj.cells zeroC 25)) :=
  ⟨hc.alloc _, heap_alloc_new w _, hc.lt, grown_alloc _ _⟩
theorem ZS.msg {B g len cap b off : Nat} {a : Option Addr} {z : Nat → Int} {w X : World} (h : ZS B g len cap b off a z w X) (m : MsgL) (he : m.ents = []) (hc : m.conf = []) : NS B g len cap b off a z w X.heap.size m (.slice none 0 0) (.slice none 0 0) (X.alloc (Obj.cells (cellsM m (.slice none 0 0) (.slice none 0 0)) 25)) := by
  have hb : Below X.heap.size X (X.alloc (Obj.cells (cellsM m (.slice none 0 0) (.slice none 0 0)) 25)) := (Below.refl _ _).alloc (Nat.le_refl _) _
  have hl := (Array.getElem?_eq_some_iff.1 h.res).1
  refine ⟨h.cur.alloc _, (hb.block _ hl).trans h.res, heap_alloc_new X _, ⟨h.low, hl⟩, ?_, ?_, h.gr.trans (own_below' hb)⟩
  · rw [he]; exact World.ownsRow_nil _ _ 44 3
  · rw [hc]; exact World.ownsRow_nil _ _ 3 1
set_option maxHeartbeats 8000000 in
set_option maxRecDepth 100000 in
theorem right14_any {B g len cap b off : Nat} {a : Option Addr} {z : Nat → Int} (w : World) (hc : Cur B w g a len cap b off z) :
    Calls Tryz.prog 89 #[.pointer (some ⟨g, 0, none⟩)] w (MPost B g len cap b off a z w 10) := by
  obtain ⟨W0, hW0⟩ : ∃ W0, W0 = w.alloc (Obj.cells zeroC 25) := ⟨_, rfl⟩
  have HWD : Hid (w.alloc (Obj.cells #[.int .i64 0, .int .i64 0, .int .i64 0, .int .i64 0, .int .i64 0, .int .i64 0, .int .i64 0, .bool false, .slice none 0 0, .slice none 0 0, .string ⟨#[]⟩, .bool false] 25) = W0) := hW0.symm
  have H0 : Hid (ZS B g len cap b off a z w W0) := by rw [hW0]; exact ZS.start hc
  clear hc hW0
  go_enter Tryz.func89, Tryz.ntmps89
  go_wp2_with fail
  rw [HWD.out]
  clear HWD
  refine (below_any 6 (by decide) _ H0.out.cur).mono ?_
  rintro e w1 ⟨x1, rfl, hx1, hc1, hg1⟩
  have H1 : Hid (ZS B g len cap b off a z w w1) := H0.out.call hc1 hg1
  have l1 : 0 ≤ x1 ∧ x1 < 6 := ⟨hx1.1, hx1.2.2 (by decide)⟩
  clear hc1 hg1 hx1 H0
  go_wp2_with fail
  refine (below_any 4 (by decide) _ H1.out.cur).mono ?_
  rintro e w2 ⟨x2, rfl, hx2, hc2, hg2⟩
  have H2 : Hid (ZS B g len cap b off a z w w2) := H1.out.call hc2 hg2
  have l2 : 0 ≤ x2 ∧ x2 < 4 := ⟨hx2.1, hx2.2.2 (by decide)⟩
  clear hc2 hg2 hx2 H1
  go_wp2_with fail
  refine (below_any 8 (by decide) _ H2.out.cur).mono ?_
  rintro e w3 ⟨x3, rfl, hx3, hc3, hg3⟩
  have H3 : Hid (ZS B g len cap b off a z w w3) := H2.out.call hc3 hg3
  have l3 : 0 ≤ x3 ∧ x3 < 8 := ⟨hx3.1, hx3.2.2 (by decide)⟩
  clear hc3 hg3 hx3 H2
  go_wp2_with fail
  refine (below_any 12 (by decide) _ H3.out.cur).mono ?_
  rintro e w4 ⟨x4, rfl, hx4, hc4, hg4⟩
  have H4 : Hid (ZS B g len cap b off a z w w4) := H3.out.call hc4 hg4
  have l4 : 0 ≤ x4 ∧ x4 < 12 := ⟨hx4.1, hx4.2.2 (by decide)⟩
  clear hc4 hg4 hx4 H3
  go_wp2_with fail
  refine (below_any 5 (by decide) _ H4.out.cur).mono ?_
  rintro e w5 ⟨x5, rfl, hx5, hc5, hg5⟩
  have H5 : Hid (ZS B g len cap b off a z w w5) := H4.out.call hc5 hg5
  have l5 : 0 ≤ x5 ∧ x5 < 5 := ⟨hx5.1, hx5.2.2 (by decide)⟩
  clear hc5 hg5 hx5 H4
  go_wp2_with fail
  refine (below_any 9 (by decide) _ H5.out.cur).mono ?_
  rintro e w6 ⟨x6, rfl, hx6, hc6, hg6⟩
  have H6 : Hid (ZS B g len cap b off a z w w6) := H5.out.call hc6 hg6
  have l6 : 0 ≤ x6 ∧ x6 < 9 := ⟨hx6.1, hx6.2.2 (by decide)⟩
  clear hc6 hg6 hx6 H5
  go_wp2_with fail
  refine (once_any 2 (by decide) _ H6.out.cur).mono ?_
  rintro e w7 ⟨x7, rfl, hc7, hg7⟩
  have H7 : Hid (ZS B g len cap b off a z w w7) := H6.out.call hc7 hg7
  obtain ⟨b7, hb7⟩ : ∃ b7 : Bool, b7 = (x7 == 0) := ⟨_, rfl⟩
  rw [← hb7]
  clear hc7 hg7 H6 hb7
  go_upto_region 2 with fail
  obtain ⟨W8, hW8⟩ : ∃ W8, W8 = w7.alloc (Obj.cells (cellsM (⟨1 + x1, 1 + x2, 0, x3, x4, x5, x6, b7, [], [], ⟨#[]⟩, false⟩ : MsgL) (.slice none 0 0) (.slice none 0 0)) 25) := ⟨_, rfl⟩
  have HWD8 : Hid (w7.alloc (Obj.cells #[.int .i64 (1 + x1), .int .i64 (1 + x2), .int .i64 0, .int .i64 x3, .int .i64 x4, .int .i64 x5, .int .i64 x6, .bool b7, .slice none 0 0, .slice none 0 0, .string ⟨#[]⟩, .bool false] 25) = W8) := hW8.symm
  have hN8 : NS B g len cap b off a z w w7.heap.size (⟨1 + x1, 1 + x2, 0, x3, x4, x5, x6, b7, [], [], ⟨#[]⟩, false⟩ : MsgL) (.slice none 0 0) (.slice none 0 0) W8 := by rw [hW8]; exact H7.out.msg (⟨1 + x1, 1 + x2, 0, x3, x4, x5, x6, b7, [], [], ⟨#[]⟩, false⟩ : MsgL) rfl rfl
  obtain ⟨mb, hmb⟩ : ∃ mb, mb = w7.heap.size := ⟨_, rfl⟩
  rw [← hmb] at hN8
  rw [HWD8.out, ← hmb]
  have q1 : W8.cell? ⟨mb, 1, none⟩ = some (.int .i64 (1 + x2)) := cell_of_row _ _ 1 _ _ _ hN8.msg
  have q2 : W8.cell? ⟨mb, 2, none⟩ = some (.int .i64 0) := cell_of_row _ _ 2 _ _ _ hN8.msg
  have qf := frozen_of_row _ _ 2 _ _ hN8.msg
  have HN8 : Hid (NS B g len cap b off a z w mb (⟨1 + x1, 1 + x2, 0, x3, x4, x5, x6, b7, [], [], ⟨#[]⟩, false⟩ : MsgL) (.slice none 0 0) (.slice none 0 0) W8) := hN8
  clear hN8 HWD8 hmb hW8 H7
  go_upto_region 3 with fail
  obtain ⟨Y, hY⟩ : ∃ Y, Y = W8.setCell ⟨mb, 2, none⟩ (.int .i64 ((1 + x2) % 4 + 1)) := ⟨_, rfl⟩
  have HN9 : Hid (NS B g len cap b off a z w mb (⟨1 + x1, 1 + x2, (1 + x2) % 4 + 1, x3, x4, x5, x6, b7, [], [], ⟨#[]⟩, false⟩ : MsgL) (.slice none 0 0) (.slice none 0 0) Y) := by rw [hY]; exact HN8.out.set 2 _ rfl rfl rfl
  rw [← hY]
  clear hY q1 q2 qf HN8
  have p0 : Y.cell? ⟨mb, 0, none⟩ = some (.int .i64 (1 + x1)) := cell_of_row _ _ 0 _ _ _ HN9.out.msg
  by_cases k3 : 1 + x1 = 3
  · have p3 : Y.cell? ⟨mb, 3, none⟩ = some (.int .i64 x3) := cell_of_row _ _ 3 _ _ _ HN9.out.msg
    have e3 : ((1 + x1) == 3) = true := beq_iff_eq.2 k3
    go_wp2_with fail
    refine (below_any (x3 + 1) (by omega) _ HN9.out.cur).mono ?_
    rintro e w9 ⟨y, rfl, hy, hc9, hg9⟩
    have hN := HN9.out.call hc9 hg9
    have ly : 0 ≤ y ∧ y ≤ x3 := ⟨hy.1, by have := hy.2.2 (by omega); omega⟩
    have r5 : w9.cell? ⟨mb, 5, none⟩ = some (.int .i64 x5) := cell_of_row _ _ 5 _ _ _ hN.msg
    have rf := frozen_of_row _ _ 5 _ _ hN.msg
    obtain ⟨Z0, hZ0⟩ : ∃ Z0, Z0 = w9.setCell ⟨mb, 5, none⟩ (.int .i64 y) := ⟨_, rfl⟩
    have HN10 : Hid (NS B g len cap b off a z w mb (⟨1 + x1, 1 + x2, (1 + x2) % 4 + 1, x3, x4, y, x6, b7, [], [], ⟨#[]⟩, false⟩ : MsgL) (.slice none 0 0) (.slice none 0 0) Z0) := by rw [hZ0]; exact hN.set 5 _ rfl rfl rfl
    clear hc9 hg9 hy hN p0 p3
    go_upto_region 6 with fail
    rw [← hZ0]
    clear hZ0 r5 rf HN9
    have s5 : Z0.cell? ⟨mb, 5, none⟩ = some (.int .i64 y) := cell_of_row _ _ 5 _ _ _ HN10.out.msg
    go_wp2_with fail
    clear s5
    go_loopw [4, 5] (fun t i wr => ∃ (k : Nat) (es : List EntL) (T : Int) (v8 : Value), k ≤ 4 ∧ i = .int .i64 (k : Int) ∧ t = .int .i64 T ∧ (0 ≤ T ∧ T ≤ x3) ∧ es.length = k ∧ Hid (∀ e ∈ es, e.data.size ≤ 30000) ∧ Hid (NS B g len cap b off a z w mb (⟨1 + x1, 1 + x2, (1 + x2) % 4 + 1, x3, x4, y, x6, b7, es, [], ⟨#[]⟩, false⟩ : MsgL) v8 (.slice none 0 0) wr)) (fun _ i _ => 5 - (intOf i).toNat)
    case atStart => exact ⟨0, [], y, _, by omega, rfl, rfl, ly, rfl, fun e he => (List.not_mem_nil he).elim, HN10⟩
    case round =>
      clear HN10 ly
      obtain ⟨k, es, T, v8, hk, rfl, rfl, lT, hes, HED, HN⟩ := hrel
      go_upto_region 8 with fail
      go_wp2_with fail
      refine (below_any 5 (by decide) _ HN.out.cur).mono ?_
      rintro e w1 ⟨u, rfl, hu, hc1, hg1⟩
      have HN1 : Hid (NS B g len cap b off a z w mb (⟨1 + x1, 1 + x2, (1 + x2) % 4 + 1, x3, x4, y, x6, b7, es, [], ⟨#[]⟩, false⟩ : MsgL) v8 (.slice none 0 0) w1) := HN.out.call hc1 hg1
      have lu : 0 ≤ u ∧ u < 5 := ⟨hu.1, hu.2.2 (by decide)⟩
      clear hc1 hg1 hu HN
      by_cases hku : (k : Int) < u
      · have t3 : w1.cell? ⟨mb, 3, none⟩ = some (.int .i64 x3) := cell_of_row _ _ 3 _ _ _ HN1.out.msg
        go_wp2_with fail
        refine (below_any (x3 - T + 1) (by omega) _ HN1.out.cur).mono ?_
        rintro e w5 ⟨n, rfl, hn, hc5, hg5⟩
        have HN5 : Hid (NS B g len cap b off a z w mb (⟨1 + x1, 1 + x2, (1 + x2) % 4 + 1, x3, x4, y, x6, b7, es, [], ⟨#[]⟩, false⟩ : MsgL) v8 (.slice none 0 0) w5) := HN1.out.call hc5 hg5
        have ln : 0 ≤ n ∧ n < x3 - T + 1 := ⟨hn.1, hn.2.2 (by omega)⟩
        clear hc5 hg5 hn HN1 t3
        go_wp2_with fail
        have hS0 : w5.drew.cell? ⟨mb, 8, none⟩ = some v8 := cell_of_row _ _ 8 _ _ _ HN5.out.drew.msg
        refine wp_region_last (S := fun X => X.cell? ⟨mb, 8, none⟩ = some v8) (by kernel_rfl) (by kernel_rfl) hS0 (fun _ => ?_)
        simp only [List.dropLast, List.length_cons, List.length_nil, Nat.zero_add, Nat.reduceAdd, Nat.add_one_sub_one, Nat.reduceSub]
        refine wpAnyH_take (i := 0) (v := .pointer (some ⟨mb, 8, none⟩)) rfl (by kernel_rfl) (by kernel_rfl) (by kernel_rfl) (fun _ _ _ h => h) (Or.inl ⟨by rfl, fun X hX => by go_simp⟩) hS0 ?_
        try simp only [Act.put, List.setIfInBounds_toArray, List.set_cons_zero, List.set_cons_succ, List.getElem_toArray, List.getElem_cons_zero, List.getElem_cons_succ]
        refine wpAnyH_take (i := 1) (v := v8) rfl (by kernel_rfl) (by kernel_rfl) (by kernel_rfl) (fun _ _ _ h => h) (Or.inl ⟨by rfl, fun X hX => by go_simp⟩) hS0 ?_
        try simp only [Act.put, List.setIfInBounds_toArray, List.set_cons_zero, List.set_cons_succ, List.getElem_toArray, List.getElem_cons_zero, List.getElem_cons_succ]
        refine wpAnyH_take (i := 2) (v := .pointer (some ⟨g, 0, none⟩)) rfl (by kernel_rfl) (by kernel_rfl) (by kernel_rfl) (fun _ _ _ h => h) (Or.inl ⟨by rfl, fun X hX => by go_simp⟩) hS0 ?_
        try simp only [Act.put, List.setIfInBounds_toArray, List.set_cons_zero, List.set_cons_succ, List.getElem_toArray, List.getElem_cons_zero, List.getElem_cons_succ]
        refine wpAnyH_take (i := 3) (v := .int .i64 (T + n)) rfl (by kernel_rfl) (by kernel_rfl) (by kernel_rfl) (fun _ _ _ h => h) (Or.inl ⟨by rfl, fun X hX => by go_simp⟩) hS0 ?_
        try simp only [Act.put, List.setIfInBounds_toArray, List.set_cons_zero, List.set_cons_succ, List.getElem_toArray, List.getElem_cons_zero, List.getElem_cons_succ]
        refine wpAnyH_ready (rs := [4]) (by kernel_rfl) (by simp) ?_
        refine AllReadyH.cons rfl (fun K hK => ?_) AllReadyH.nil
        refine step_call2 (by with_unfolding_all rfl) 113 _ _ 61 3 (by with_unfolding_all rfl) (.pointer (some ⟨g, 0, none⟩)) (.int .i64 (T + n)) (by with_unfolding_all rfl) (by with_unfolding_all rfl) (fun u w' => ∃ d : EntL, u = entV d ∧ d.data.size ≤ 30000 ∧ Cur B w' g a len cap b off z ∧ w5.drew.grownBy w' (some g)) (fun w => by kernel_rfl) ((right_any (T + n) _ HN5.out.drew.cur).mono (fun e w' ⟨d, q1, q2⟩ => ⟨_, q1, d, rfl, q2⟩)) ?_
        rintro u w7 ⟨d, rfl, hd, hc7, hg7⟩
        have HN7 : Hid (NS B g len cap b off a z w mb (⟨1 + x1, 1 + x2, (1 + x2) % 4 + 1, x3, x4, y, x6, b7, es, [], ⟨#[]⟩, false⟩ : MsgL) v8 (.slice none 0 0) w7) := HN5.out.drew.call hc7 hg7
        have HED2 : Hid (∀ e ∈ es ++ [d], e.data.size ≤ 30000) := fun e he => by
          rcases List.mem_append.1 he with he | he
          · exact HED.out e he
          · rw [List.mem_singleton.1 he]; exact hd
        clear hd hc7 hg7 HN5 HED
        unfold entV
        have c7 : w7.cell? ⟨mb, 8, none⟩ = some v8 := cell_of_row _ _ 8 _ _ _ HN7.out.msg
        refine hK.out _ _ c7 (fun _ => ?_)
        clear hK K c7
        try simp only [Act.put, List.setIfInBounds_toArray, List.set_cons_zero, List.set_cons_succ, List.getElem_toArray, List.getElem_cons_zero, List.getElem_cons_succ]
        refine wpAnyH_ready (rs := [5]) (by kernel_rfl) (by simp) ?_
        refine AllReadyH.cons rfl (fun K hK => ?_) AllReadyH.nil
        go_simp
        have HN8 : Hid (NS B g len cap b off a z w mb (⟨1 + x1, 1 + x2, (1 + x2) % 4 + 1, x3, x4, y, x6, b7, es, [], ⟨#[]⟩, false⟩ : MsgL) v8 (.slice none 0 0) (w7.alloc (Obj.cells #[.int .i64 d.term, .int .i64 d.kind, .string d.data] 44))) := HN7.out.same ((Below.refl _ _).alloc (Nat.le_refl _) _)
        have c8 : (w7.alloc (Obj.cells #[.int .i64 d.term, .int .i64 d.kind, .string d.data] 44)).cell? ⟨mb, 8, none⟩ = some v8 := cell_of_row _ _ 8 _ _ _ HN8.out.msg
        refine hK.out _ _ c8 (fun _ => ?_)
        clear hK K c8
        try simp only [Act.put, List.setIfInBounds_toArray, List.set_cons_zero, List.set_cons_succ, List.getElem_toArray, List.getElem_cons_zero, List.getElem_cons_succ]
        have HB7 : Hid ((w7.alloc (Obj.cells #[.int .i64 d.term, .int .i64 d.kind, .string d.data] 44)).heap[w7.heap.size]? = some (.cells #[.int .i64 d.term, .int .i64 d.kind, .string d.data] 44 (0, 0))) := heap_alloc_new w7 _
        clear HN7
        refine wpAnyH_ready (rs := [6]) (by kernel_rfl) (by simp) ?_
        refine AllReadyH.cons rfl (fun K hK => ?_) AllReadyH.nil
        refine step_appV (by with_unfolding_all rfl) _ _ (by with_unfolding_all rfl) w.heap.size v8 w7.heap.size es d (by with_unfolding_all rfl) (by with_unfolding_all rfl) HN8.out.ent HN8.out.gr.size (by omega) HB7.out ?_
        intro v9 w9 hown9 hg9
        obtain ⟨a9, c9, rfl⟩ := own_slice hown9
        have hx9 := HN8.out.grows hg9
        have z2 := cell_of_row _ _ 8 _ _ _ hx9.2.2.1
        have zf := frozen_of_row _ _ 8 _ _ hx9.2.2.1
        simp [cellsM] at z2
        have HN9 : Hid (NS B g len cap b off a z w mb (⟨1 + x1, 1 + x2, (1 + x2) % 4 + 1, x3, x4, y, x6, b7, es ++ [d], [], ⟨#[]⟩, false⟩ : MsgL) (.slice a9 (es ++ [d]).length c9) (.slice none 0 0) (w9.setCell ⟨mb, 8, none⟩ (.slice a9 (es ++ [d]).length c9))) := HN8.out.put hg9 hown9
        clear hown9 hg9 HN8 HB7 hx9
        refine hK.out _ _ z2 (fun _ => ?_)
        clear hK K
        try simp only [Act.put, List.setIfInBounds_toArray, List.set_cons_zero, List.set_cons_succ, List.getElem_toArray, List.getElem_cons_zero, List.getElem_cons_succ]
        refine wpAnyH_take (i := 7) (v := .pointer (some ⟨mb, 8, none⟩)) rfl (by kernel_rfl) (by kernel_rfl) (by kernel_rfl) (fun _ _ _ h => h) (Or.inl ⟨by rfl, fun X hX => by go_simp⟩) z2 ?_
        try simp only [Act.put, List.setIfInBounds_toArray, List.set_cons_zero, List.set_cons_succ, List.getElem_toArray, List.getElem_cons_zero, List.getElem_cons_succ]
        refine wpAnyH_done (by kernel_rfl) ?_ _
        dsimp only [NX]
        refine wpOp_step rfl (fun K hK => ?_)
        go_simp
        refine hK _ _ ?_
        clear hK K z2 zf
        go_wp2
        have hn9 : (es ++ [d]).length = k + 1 := by simp [hes]
        rw [hn9] at HN9
        go_roundw
        case rel => exact ⟨k + 1, es ++ [d], _, _, by omega, by go_num, rfl, ⟨by omega, by omega⟩, hn9, HED2, HN9⟩
        case measure => simp [intOf]; omega
      · have HF := HN1
        have HSM : Hid (Small 10 (⟨1 + x1, 1 + x2, (1 + x2) % 4 + 1, x3, x4, y, x6, b7, es, [], ⟨#[]⟩, false⟩ : MsgL)) := ⟨by show es.length ≤ 10; omega, HED.out, Nat.zero_le _, Nat.zero_le _, by show -9223372036854775808 ≤ (1 + x2) % 4 + 1 ∧ (1 + x2) % 4 + 1 ≤ 9223372036854775807; omega⟩
        clear HED HN1
        obtain ⟨MF, hMF⟩ : ∃ MF : MsgL, MF = (⟨1 + x1, 1 + x2, (1 + x2) % 4 + 1, x3, x4, y, x6, b7, es, [], ⟨#[]⟩, false⟩ : MsgL) := ⟨_, rfl⟩
        have HFX : Hid (∃ va vc wa wc, NS B g len cap b off a z w mb MF (.slice va MF.ents.length vc) (.slice wa MF.conf.length wc) w1) := by
          rw [hMF]
          obtain ⟨ua, uc, u1⟩ := own_slice HF.out.ent
          obtain ⟨ta, tc, t1⟩ := own_slice HF.out.cnf
          exact ⟨ua, uc, ta, tc, by rw [← u1, ← t1]; exact HF.out⟩
        obtain ⟨ea, ec, fa, fc, hF2⟩ := HFX.out
        have HF2 : Hid (NS B g len cap b off a z w mb MF (.slice ea MF.ents.length ec) (.slice fa MF.conf.length fc) w1) := hF2
        have HSM2 : Hid (Small 10 MF) := by rw [hMF]; exact HSM.out
        clear hF2 HFX
        clear HF HSM hMF
        have HONE : Hid (∀ v ∈ (msgC MF ea ec fa fc).toList, v.oneCell' = true) := msg_one MF ea ec fa fc
        go_wp2_with (first | (refine wpList_loadA Tryz.isAgg25 Tryz.sizeOf25 rfl _ rfl mb (msgC MF ea ec fa fc) 25 rfl HF2.out.msg rfl ?_) | (refine wpList_storeA Tryz.sizeOf25 rfl _ _ rfl w.heap.size (msgC MF ea ec fa fc) zeroC 25 rfl rfl HF2.out.res rfl rfl HONE.out ?_) | fail)
        obtain ⟨r1, r2, r3, r4⟩ := HF2.out.done (msgC MF ea ec fa fc)
        exact bodyPost_ret (result89 HF2.out.res rfl rfl) rfl ⟨MF, ea, ec, fa, fc, rfl, HSM2.out, r3, r4, r1, r2⟩
  have e3 : ((1 + x1) == 3) = false := beq_eq_false_iff_ne.2 k3
  by_cases k5 : 1 + x1 = 5
  · have e5 : ((1 + x1) == 5) = true := beq_iff_eq.2 k5
    clear k3 k5
    go_wp2_with fail
    refine (conf_any _ HN9.out.cur).mono ?_
    rintro e w9 ⟨vq, c, rfl, hcl, hDL⟩
    have hN := HN9.out.call hDL.cur hDL.gr
    have ho : w9.ownsRow w.heap.size 3 1 vq c.length (cellsI c) := own_mono hDL.own HN9.out.gr.size
    have r9 : w9.cell? ⟨mb, 9, none⟩ = some (.slice none 0 0) := cell_of_row _ _ 9 _ _ _ hN.msg
    have rf := frozen_of_row _ _ 9 _ _ hN.msg
    obtain ⟨va, vc, hva⟩ := own_slice ho
    subst hva
    obtain ⟨Z0, hZ0⟩ : ∃ Z0, Z0 = w9.setCell ⟨mb, 9, none⟩ (.slice va c.length vc) := ⟨_, rfl⟩
    have HN10 : Hid (NS B g len cap b off a z w mb (⟨1 + x1, 1 + x2, (1 + x2) % 4 + 1, x3, x4, x5, x6, b7, [], c, ⟨#[]⟩, false⟩ : MsgL) (.slice none 0 0) (.slice va c.length vc) Z0) := by rw [hZ0]; exact hN.setC ho
    clear hDL hN ho p0
    go_wp2_with fail
    rw [← hZ0]
    clear hZ0 r9 rf HN9
    refine (below_any 9 (by decide) _ HN10.out.cur).mono ?_
    rintro e w2 ⟨y, rfl, hy, hc2, hg2⟩
    obtain ⟨n, rfl⟩ := Int.eq_ofNat_of_zero_le hy.1
    have ln : n < 9 := by have := hy.2.2 (by decide); omega
    have HN11 : Hid (NS B g len cap b off a z w mb (⟨1 + x1, 1 + x2, (1 + x2) % 4 + 1, x3, x4, x5, x6, b7, [], c, ⟨#[]⟩, false⟩ : MsgL) (.slice none 0 0) (.slice va c.length vc) w2) := HN10.out.call hc2 hg2
    clear hc2 hg2 hy HN10
    go_wp2_with fail
    refine (text_any n (by omega) _ HN11.out.cur).mono ?_
    rintro e w3 ⟨S, rfl, hS, hc3, hg3⟩
    have hN := HN11.out.call hc3 hg3
    have r10 : w3.cell? ⟨mb, 10, none⟩ = some (.string ⟨#[]⟩) := cell_of_row _ _ 10 _ _ _ hN.msg
    have rf := frozen_of_row _ _ 10 _ _ hN.msg
    obtain ⟨Z1, hZ1⟩ : ∃ Z1, Z1 = w3.setCell ⟨mb, 10, none⟩ (.string S) := ⟨_, rfl⟩
    have HN12 : Hid (NS B g len cap b off a z w mb (⟨1 + x1, 1 + x2, (1 + x2) % 4 + 1, x3, x4, x5, x6, b7, [], c, S, false⟩ : MsgL) (.slice none 0 0) (.slice va c.length vc) Z1) := by rw [hZ1]; exact hN.set 10 _ rfl rfl rfl
    clear hc3 hg3 hN HN11
    go_wp2_with fail
    rw [← hZ1]
    clear hZ1 r10 rf
    refine (once_any 2 (by decide) _ HN12.out.cur).mono ?_
    rintro e w4 ⟨x8, rfl, hc4, hg4⟩
    obtain ⟨b8, hb8⟩ : ∃ b8 : Bool, b8 = (x8 == 0) := ⟨_, rfl⟩
    rw [← hb8]
    have hN := HN12.out.call hc4 hg4
    have r11 : w4.cell? ⟨mb, 11, none⟩ = some (.bool false) := cell_of_row _ _ 11 _ _ _ hN.msg
    have rf := frozen_of_row _ _ 11 _ _ hN.msg
    obtain ⟨Z2, hZ2⟩ : ∃ Z2, Z2 = w4.setCell ⟨mb, 11, none⟩ (.bool b8) := ⟨_, rfl⟩
    have HF : Hid (NS B g len cap b off a z w mb (⟨1 + x1, 1 + x2, (1 + x2) % 4 + 1, x3, x4, x5, x6, b7, [], c, S, b8⟩ : MsgL) (.slice none 0 0) (.slice va c.length vc) Z2) := by rw [hZ2]; exact hN.set 11 _ rfl rfl rfl
    have HSM : Hid (Small 10 (⟨1 + x1, 1 + x2, (1 + x2) % 4 + 1, x3, x4, x5, x6, b7, [], c, S, b8⟩ : MsgL)) := ⟨Nat.zero_le _, fun e he => (List.not_mem_nil he).elim, by show c.length ≤ 10; omega, by show S.size ≤ 30000; omega, by show -9223372036854775808 ≤ (1 + x2) % 4 + 1 ∧ (1 + x2) % 4 + 1 ≤ 9223372036854775807; omega⟩
    clear hc4 hg4 hN HN12 hb8
    go_upto_region 16 with fail
    rw [← hZ2]
    clear hZ2 r11 rf
    obtain ⟨MF, hMF⟩ : ∃ MF : MsgL, MF = (⟨1 + x1, 1 + x2, (1 + x2) % 4 + 1, x3, x4, x5, x6, b7, [], c, S, b8⟩ : MsgL) := ⟨_, rfl⟩
    have HFX : Hid (∃ va vc wa wc, NS B g len cap b off a z w mb MF (.slice va MF.ents.length vc) (.slice wa MF.conf.length wc) Z2) := by
      rw [hMF]
      obtain ⟨ua, uc, u1⟩ := own_slice HF.out.ent
      obtain ⟨ta, tc, t1⟩ := own_slice HF.out.cnf
      exact ⟨ua, uc, ta, tc, by rw [← u1, ← t1]; exact HF.out⟩
    obtain ⟨ea, ec, fa, fc, hF2⟩ := HFX.out
    have HF2 : Hid (NS B g len cap b off a z w mb MF (.slice ea MF.ents.length ec) (.slice fa MF.conf.length fc) Z2) := hF2
    have HSM2 : Hid (Small 10 MF) := by rw [hMF]; exact HSM.out
    clear hF2 HFX
    clear HF HSM hMF
    have HONE : Hid (∀ v ∈ (msgC MF ea ec fa fc).toList, v.oneCell' = true) := msg_one MF ea ec fa fc
    go_wp2_with (first | (refine wpList_loadA Tryz.isAgg25 Tryz.sizeOf25 rfl _ rfl mb (msgC MF ea ec fa fc) 25 rfl HF2.out.msg rfl ?_) | (refine wpList_storeA Tryz.sizeOf25 rfl _ _ rfl w.heap.size (msgC MF ea ec fa fc) zeroC 25 rfl rfl HF2.out.res rfl rfl HONE.out ?_) | fail)
    obtain ⟨r1, r2, r3, r4⟩ := HF2.out.done (msgC MF ea ec fa fc)
    exact bodyPost_ret (result89 HF2.out.res rfl rfl) rfl ⟨MF, ea, ec, fa, fc, rfl, HSM2.out, r3, r4, r1, r2⟩
  · have e5 : ((1 + x1) == 5) = false := beq_eq_false_iff_ne.2 k5
    have HF := HN9
    have HSM : Hid (Small 10 (⟨1 + x1, 1 + x2, (1 + x2) % 4 + 1, x3, x4, x5, x6, b7, [], [], ⟨#[]⟩, false⟩ : MsgL)) := ⟨Nat.zero_le _, fun e he => (List.not_mem_nil he).elim, Nat.zero_le _, Nat.zero_le _, by show -9223372036854775808 ≤ (1 + x2) % 4 + 1 ∧ (1 + x2) % 4 + 1 ≤ 9223372036854775807; omega⟩
    clear k3 k5 HN9
    go_upto_region 16 with fail
    clear p0
    obtain ⟨MF, hMF⟩ : ∃ MF : MsgL, MF = (⟨1 + x1, 1 + x2, (1 + x2) % 4 + 1, x3, x4, x5, x6, b7, [], [], ⟨#[]⟩, false⟩ : MsgL) := ⟨_, rfl⟩
    have HFX : Hid (∃ va vc wa wc, NS B g len cap b off a z w mb MF (.slice va MF.ents.length vc) (.slice wa MF.conf.length wc) Y) := by
      rw [hMF]
      obtain ⟨ua, uc, u1⟩ := own_slice HF.out.ent
      obtain ⟨ta, tc, t1⟩ := own_slice HF.out.cnf
      exact ⟨ua, uc, ta, tc, by rw [← u1, ← t1]; exact HF.out⟩
    obtain ⟨ea, ec, fa, fc, hF2⟩ := HFX.out
    have HF2 : Hid (NS B g len cap b off a z w mb MF (.slice ea MF.ents.length ec) (.slice fa MF.conf.length fc) Y) := hF2
    have HSM2 : Hid (Small 10 MF) := by rw [hMF]; exact HSM.out
    clear hF2 HFX
    clear HF HSM hMF
    have HONE : Hid (∀ v ∈ (msgC MF ea ec fa fc).toList, v.oneCell' = true) := msg_one MF ea ec fa fc
    go_wp2_with (first | (refine wpList_loadA Tryz.isAgg25 Tryz.sizeOf25 rfl _ rfl mb (msgC MF ea ec fa fc) 25 rfl HF2.out.msg rfl ?_) | (refine wpList_storeA Tryz.sizeOf25 rfl _ _ rfl w.heap.size (msgC MF ea ec fa fc) zeroC 25 rfl rfl HF2.out.res rfl rfl HONE.out ?_) | fail)
    obtain ⟨r1, r2, r3, r4⟩ := HF2.out.done (msgC MF ea ec fa fc)
    exact bodyPost_ret (result89 HF2.out.res rfl rfl) rfl ⟨MF, ea, ec, fa, fc, rfl, HSM2.out, r3, r4, r1, r2⟩
end Go.Proofs.YtimacmijinblmaaGreat
