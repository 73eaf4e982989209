/- Any message, drawn. -/
import Derived.Test.YtimacmijinblmaaGreatDrawMsg
namespace Go.Proofs.YtimacmijinblmaaGreat
open Go.RowKit
set_option linter.unusedVariables false
set_option linter.unusedSimpArgs false
theorem result33 {w : World} {g : Nat} {A C : Array Value} (hg : w.heap[g]? = some (.cells C 25 (0, 0))) (hs : A.size = 12) {tmps : Array Value} (ht : tmps.getD 2 undef = .pointer (some ⟨g, 0, none⟩)) : (results Tryz.f33 tmps).run Tryz.prog (w.setRow g A) = .ok (.agg A) (w.setRow g A) := by
  have h := run_loadVar_agg (P := Tryz.prog) Tryz.isAgg25 Tryz.sizeOf25 (row_size (A := A) hg) hs
  have ht' : tmps[2]?.getD undef = .pointer (some ⟨g, 0, none⟩) := by simpa using ht
  simp [results, Tryz.results33, ht', asAddr, h]
theorem ZS.of {B g len cap b off : Nat} {a : Option Addr} {z : Nat → Int} {w W0 X : World} (h : ZS B g len cap b off a z w W0) {m : MsgL} {v8 v9 : Value} (hc : Cur B X g a len cap b off z) (hg : W0.grownBy X (some g)) (h1 : X.ownsRow W0.heap.size 44 3 v8 m.ents.length (cellsEn m.ents)) (h2 : X.ownsRow W0.heap.size 3 1 v9 m.conf.length (cellsI m.conf)) : NS B g len cap b off a z w X.heap.size m v8 v9 (X.alloc (Obj.cells (cellsM m v8 v9) 25)) := by
  have hb : Below X.heap.size X (X.alloc (Obj.cells (cellsM m v8 v9) 25)) := (Below.refl _ _).alloc (Nat.le_refl _) _
  have hx := h.call hc hg
  have hl := (Array.getElem?_eq_some_iff.1 hx.res).1
  have hw : w.heap.size ≤ W0.heap.size := h.gr.size
  exact ⟨hc.alloc _, (hb.block _ hl).trans hx.res, heap_alloc_new X _, ⟨h.low, hl⟩, own_mono (own_kept h1 hb) hw, own_mono (own_kept h2 hb) hw, hx.gr.trans (own_below' hb)⟩
set_option maxHeartbeats 8000000 in
set_option maxRecDepth 100000 in
theorem any14_any {B g len cap b off : Nat} {a : Option Addr} {z : Nat → Int} (w : World) (hc : Cur B w g a len cap b off z) :
    Calls Tryz.prog 33 #[.pointer (some ⟨g, 0, none⟩)] w (MPost B g len cap b off a z w 11) := by
  obtain ⟨W0, hW0⟩ : ∃ W0, W0 = w.alloc (Obj.cells zeroC 25) := ⟨_, rfl⟩
  have HWD : Hid (w.alloc (Obj.cells #[.int .i64 0, .int .i64 0, .int .i64 0, .int .i64 0, .int .i64 0, .int .i64 0, .int .i64 0, .bool false, .slice none 0 0, .slice none 0 0, .string ⟨#[]⟩, .bool false] 25) = W0) := hW0.symm
  have H0 : Hid (ZS B g len cap b off a z w W0) := by rw [hW0]; exact ZS.start hc
  clear hc hW0
  go_enter Tryz.func33, Tryz.ntmps33
  go_wp2_with fail
  rw [HWD.out]
  clear HWD
  refine (right14_any _ H0.out.cur).mono ?_
  rintro e w1 ⟨m, p, c, q, d, rfl, hsm, o1, o2, hc1, hg1⟩
  obtain ⟨W1, hW1⟩ : ∃ W1, W1 = w1.alloc (Obj.cells (cellsM m (.slice p m.ents.length c) (.slice q m.conf.length d)) 25) := ⟨_, rfl⟩
  have HWD1 : Hid (w1.alloc (Obj.cells #[.int .i64 m.kind, .int .i64 m.frm, .int .i64 m.dst, .int .i64 m.term, .int .i64 m.index, .int .i64 m.lterm, .int .i64 m.commit, .bool m.ok, .slice p m.ents.length c, .slice q m.conf.length d, .string m.data, .bool m.last] 25) = W1) := hW1.symm
  have hN1 : NS B g len cap b off a z w w1.heap.size m (.slice p m.ents.length c) (.slice q m.conf.length d) W1 := by rw [hW1]; exact H0.out.of hc1 hg1 o1 o2
  obtain ⟨mb, hmb⟩ : ∃ mb, mb = w1.heap.size := ⟨_, rfl⟩
  rw [← hmb] at hN1
  have HN1 : Hid (NS B g len cap b off a z w mb m (.slice p m.ents.length c) (.slice q m.conf.length d) W1) := hN1
  have HS : Hid (Small 10 m) := hsm
  unfold msgV
  clear hN1 hsm o1 o2 hc1 hg1 hW1 H0
  go_wp2_with fail
  rw [HWD1.out, ← hmb]
  clear HWD1 hmb
  refine (below_any 40 (by decide) _ HN1.out.cur).mono ?_
  rintro e w2 ⟨x, rfl, hx, hc2, hg2⟩
  have HN : Hid (NS B g len cap b off a z w mb m (.slice p m.ents.length c) (.slice q m.conf.length d) w2) := HN1.out.call hc2 hg2
  clear hc2 hg2 hx HN1
  by_cases k0 : x = 0
  · subst k0
    go_wp2_with fail
    refine (pickInt_new w2 HN.out.cur #[.int .i64 0, .int .i64 7, .int .i64 1, .int .i64 5] 4 (by decide) (by decide) (four_ints _ _ _ _ (by decide) (by decide) (by decide) (by decide))).mono ?_
    rintro e w3 ⟨v, rfl, _, _, hc3, hg3⟩
    have hN := HN.out.call hc3 hg3
    clear hc3 hg3 HN
    have r : w3.cell? ⟨mb, 0, none⟩ = some (.int .i64 m.kind) := cell_of_row _ _ 0 _ _ _ hN.msg
    have rf := frozen_of_row _ _ 0 _ _ hN.msg
    obtain ⟨Z0, hZ0⟩ : ∃ Z0, Z0 = w3.setCell ⟨mb, 0, none⟩ (.int .i64 v) := ⟨_, rfl⟩
    have HF : Hid (NS B g len cap b off a z w mb ({ m with kind := v } : MsgL) (.slice p m.ents.length c) (.slice q m.conf.length d) Z0) := by rw [hZ0]; exact hN.set 0 _ rfl rfl rfl
    have HSM : Hid (Small 11 ({ m with kind := v } : MsgL)) := ⟨Nat.le_succ_of_le HS.out.len, HS.out.ents, HS.out.conf, HS.out.data, HS.out.dst⟩
    clear hN
    go_upto_region 19 with fail
    rw [← hZ0]
    clear hZ0 r rf
    obtain ⟨MF, hMF⟩ : ∃ MF : MsgL, MF = ({ m with kind := v } : MsgL) := ⟨_, rfl⟩
    have HFX : Hid (∃ va vc wa wc, NS B g len cap b off a z w mb MF (.slice va MF.ents.length vc) (.slice wa MF.conf.length wc) Z0) := by
      rw [hMF]
      obtain ⟨ua, uc, u1⟩ := own_slice HF.out.ent
      obtain ⟨ta, tc, t1⟩ := own_slice HF.out.cnf
      exact ⟨ua, uc, ta, tc, by rw [← u1, ← t1]; exact HF.out⟩
    obtain ⟨ea, ec, fa, fc, hF2⟩ := HFX.out
    have HF2 : Hid (NS B g len cap b off a z w mb MF (.slice ea MF.ents.length ec) (.slice fa MF.conf.length fc) Z0) := hF2
    have HSM2 : Hid (Small 11 MF) := by rw [hMF]; exact HSM.out
    clear hF2 HFX
    clear HF HSM hMF
    have HONE : Hid (∀ v ∈ (msgC MF ea ec fa fc).toList, v.oneCell' = true) := msg_one MF ea ec fa fc
    go_wp2_with (first | (refine wpList_loadA Tryz.isAgg25 Tryz.sizeOf25 rfl _ rfl mb (msgC MF ea ec fa fc) 25 rfl HF2.out.msg rfl ?_) | (refine wpList_storeA Tryz.sizeOf25 rfl _ _ rfl w.heap.size (msgC MF ea ec fa fc) zeroC 25 rfl rfl HF2.out.res rfl rfl HONE.out ?_) | fail)
    obtain ⟨r1, r2, r3, r4⟩ := HF2.out.done (msgC MF ea ec fa fc)
    exact bodyPost_ret (result33 HF2.out.res rfl rfl) rfl ⟨MF, ea, ec, fa, fc, rfl, HSM2.out, r3, r4, r1, r2⟩
  have f0 : (x == 0) = false := beq_eq_false_iff_ne.2 k0
  clear k0
  have t2 : w2.cell? ⟨mb, 2, none⟩ = some (.int .i64 m.dst) := cell_of_row _ _ 2 _ _ _ HN.out.msg
  by_cases k1 : x = 1
  · subst k1
    go_wp2_with fail
    refine (pickInt_new w2 HN.out.cur #[.int .i64 0, .int .i64 5, .int .i64 m.dst] 3 (by decide) (by decide) (three_ints _ _ _ (by decide) (by decide) HS.out.dst)).mono ?_
    rintro e w3 ⟨v, rfl, _, _, hc3, hg3⟩
    have hN := HN.out.call hc3 hg3
    clear hc3 hg3 HN t2
    have r : w3.cell? ⟨mb, 1, none⟩ = some (.int .i64 m.frm) := cell_of_row _ _ 1 _ _ _ hN.msg
    have rf := frozen_of_row _ _ 1 _ _ hN.msg
    obtain ⟨Z0, hZ0⟩ : ∃ Z0, Z0 = w3.setCell ⟨mb, 1, none⟩ (.int .i64 v) := ⟨_, rfl⟩
    have HF : Hid (NS B g len cap b off a z w mb ({ m with frm := v } : MsgL) (.slice p m.ents.length c) (.slice q m.conf.length d) Z0) := by rw [hZ0]; exact hN.set 1 _ rfl rfl rfl
    have HSM : Hid (Small 11 ({ m with frm := v } : MsgL)) := ⟨Nat.le_succ_of_le HS.out.len, HS.out.ents, HS.out.conf, HS.out.data, HS.out.dst⟩
    clear hN
    go_upto_region 19 with fail
    rw [← hZ0]
    clear hZ0 r rf
    obtain ⟨MF, hMF⟩ : ∃ MF : MsgL, MF = ({ m with frm := v } : MsgL) := ⟨_, rfl⟩
    have HFX : Hid (∃ va vc wa wc, NS B g len cap b off a z w mb MF (.slice va MF.ents.length vc) (.slice wa MF.conf.length wc) Z0) := by
      rw [hMF]
      obtain ⟨ua, uc, u1⟩ := own_slice HF.out.ent
      obtain ⟨ta, tc, t1⟩ := own_slice HF.out.cnf
      exact ⟨ua, uc, ta, tc, by rw [← u1, ← t1]; exact HF.out⟩
    obtain ⟨ea, ec, fa, fc, hF2⟩ := HFX.out
    have HF2 : Hid (NS B g len cap b off a z w mb MF (.slice ea MF.ents.length ec) (.slice fa MF.conf.length fc) Z0) := hF2
    have HSM2 : Hid (Small 11 MF) := by rw [hMF]; exact HSM.out
    clear hF2 HFX
    clear HF HSM hMF
    have HONE : Hid (∀ v ∈ (msgC MF ea ec fa fc).toList, v.oneCell' = true) := msg_one MF ea ec fa fc
    go_wp2_with (first | (refine wpList_loadA Tryz.isAgg25 Tryz.sizeOf25 rfl _ rfl mb (msgC MF ea ec fa fc) 25 rfl HF2.out.msg rfl ?_) | (refine wpList_storeA Tryz.sizeOf25 rfl _ _ rfl w.heap.size (msgC MF ea ec fa fc) zeroC 25 rfl rfl HF2.out.res rfl rfl HONE.out ?_) | fail)
    obtain ⟨r1, r2, r3, r4⟩ := HF2.out.done (msgC MF ea ec fa fc)
    exact bodyPost_ret (result33 HF2.out.res rfl rfl) rfl ⟨MF, ea, ec, fa, fc, rfl, HSM2.out, r3, r4, r1, r2⟩
  have f1 : (x == 1) = false := beq_eq_false_iff_ne.2 k1
  clear k1
  clear t2
  by_cases k2 : x = 2
  · subst k2
    go_wp2_with fail
    refine (pickInt_new w2 HN.out.cur #[.int .i64 (-1), .int .i64 100000, .int .i64 100001] 3 (by decide) (by decide) (three_ints _ _ _ (by decide) (by decide) (by decide))).mono ?_
    rintro e w3 ⟨v, rfl, _, _, hc3, hg3⟩
    have hN := HN.out.call hc3 hg3
    clear hc3 hg3 HN
    have r : w3.cell? ⟨mb, 3, none⟩ = some (.int .i64 m.term) := cell_of_row _ _ 3 _ _ _ hN.msg
    have rf := frozen_of_row _ _ 3 _ _ hN.msg
    obtain ⟨Z0, hZ0⟩ : ∃ Z0, Z0 = w3.setCell ⟨mb, 3, none⟩ (.int .i64 v) := ⟨_, rfl⟩
    have HF : Hid (NS B g len cap b off a z w mb ({ m with term := v } : MsgL) (.slice p m.ents.length c) (.slice q m.conf.length d) Z0) := by rw [hZ0]; exact hN.set 3 _ rfl rfl rfl
    have HSM : Hid (Small 11 ({ m with term := v } : MsgL)) := ⟨Nat.le_succ_of_le HS.out.len, HS.out.ents, HS.out.conf, HS.out.data, HS.out.dst⟩
    clear hN
    go_upto_region 19 with fail
    rw [← hZ0]
    clear hZ0 r rf
    obtain ⟨MF, hMF⟩ : ∃ MF : MsgL, MF = ({ m with term := v } : MsgL) := ⟨_, rfl⟩
    have HFX : Hid (∃ va vc wa wc, NS B g len cap b off a z w mb MF (.slice va MF.ents.length vc) (.slice wa MF.conf.length wc) Z0) := by
      rw [hMF]
      obtain ⟨ua, uc, u1⟩ := own_slice HF.out.ent
      obtain ⟨ta, tc, t1⟩ := own_slice HF.out.cnf
      exact ⟨ua, uc, ta, tc, by rw [← u1, ← t1]; exact HF.out⟩
    obtain ⟨ea, ec, fa, fc, hF2⟩ := HFX.out
    have HF2 : Hid (NS B g len cap b off a z w mb MF (.slice ea MF.ents.length ec) (.slice fa MF.conf.length fc) Z0) := hF2
    have HSM2 : Hid (Small 11 MF) := by rw [hMF]; exact HSM.out
    clear hF2 HFX
    clear HF HSM hMF
    have HONE : Hid (∀ v ∈ (msgC MF ea ec fa fc).toList, v.oneCell' = true) := msg_one MF ea ec fa fc
    go_wp2_with (first | (refine wpList_loadA Tryz.isAgg25 Tryz.sizeOf25 rfl _ rfl mb (msgC MF ea ec fa fc) 25 rfl HF2.out.msg rfl ?_) | (refine wpList_storeA Tryz.sizeOf25 rfl _ _ rfl w.heap.size (msgC MF ea ec fa fc) zeroC 25 rfl rfl HF2.out.res rfl rfl HONE.out ?_) | fail)
    obtain ⟨r1, r2, r3, r4⟩ := HF2.out.done (msgC MF ea ec fa fc)
    exact bodyPost_ret (result33 HF2.out.res rfl rfl) rfl ⟨MF, ea, ec, fa, fc, rfl, HSM2.out, r3, r4, r1, r2⟩
  have f2 : (x == 2) = false := beq_eq_false_iff_ne.2 k2
  clear k2
  by_cases k3 : x = 3
  · subst k3
    go_wp2_with fail
    refine (pickInt_new w2 HN.out.cur #[.int .i64 (-1), .int .i64 100000, .int .i64 100001] 3 (by decide) (by decide) (three_ints _ _ _ (by decide) (by decide) (by decide))).mono ?_
    rintro e w3 ⟨v, rfl, _, _, hc3, hg3⟩
    have hN := HN.out.call hc3 hg3
    clear hc3 hg3 HN
    have r : w3.cell? ⟨mb, 4, none⟩ = some (.int .i64 m.index) := cell_of_row _ _ 4 _ _ _ hN.msg
    have rf := frozen_of_row _ _ 4 _ _ hN.msg
    obtain ⟨Z0, hZ0⟩ : ∃ Z0, Z0 = w3.setCell ⟨mb, 4, none⟩ (.int .i64 v) := ⟨_, rfl⟩
    have HF : Hid (NS B g len cap b off a z w mb ({ m with index := v } : MsgL) (.slice p m.ents.length c) (.slice q m.conf.length d) Z0) := by rw [hZ0]; exact hN.set 4 _ rfl rfl rfl
    have HSM : Hid (Small 11 ({ m with index := v } : MsgL)) := ⟨Nat.le_succ_of_le HS.out.len, HS.out.ents, HS.out.conf, HS.out.data, HS.out.dst⟩
    clear hN
    go_upto_region 19 with fail
    rw [← hZ0]
    clear hZ0 r rf
    obtain ⟨MF, hMF⟩ : ∃ MF : MsgL, MF = ({ m with index := v } : MsgL) := ⟨_, rfl⟩
    have HFX : Hid (∃ va vc wa wc, NS B g len cap b off a z w mb MF (.slice va MF.ents.length vc) (.slice wa MF.conf.length wc) Z0) := by
      rw [hMF]
      obtain ⟨ua, uc, u1⟩ := own_slice HF.out.ent
      obtain ⟨ta, tc, t1⟩ := own_slice HF.out.cnf
      exact ⟨ua, uc, ta, tc, by rw [← u1, ← t1]; exact HF.out⟩
    obtain ⟨ea, ec, fa, fc, hF2⟩ := HFX.out
    have HF2 : Hid (NS B g len cap b off a z w mb MF (.slice ea MF.ents.length ec) (.slice fa MF.conf.length fc) Z0) := hF2
    have HSM2 : Hid (Small 11 MF) := by rw [hMF]; exact HSM.out
    clear hF2 HFX
    clear HF HSM hMF
    have HONE : Hid (∀ v ∈ (msgC MF ea ec fa fc).toList, v.oneCell' = true) := msg_one MF ea ec fa fc
    go_wp2_with (first | (refine wpList_loadA Tryz.isAgg25 Tryz.sizeOf25 rfl _ rfl mb (msgC MF ea ec fa fc) 25 rfl HF2.out.msg rfl ?_) | (refine wpList_storeA Tryz.sizeOf25 rfl _ _ rfl w.heap.size (msgC MF ea ec fa fc) zeroC 25 rfl rfl HF2.out.res rfl rfl HONE.out ?_) | fail)
    obtain ⟨r1, r2, r3, r4⟩ := HF2.out.done (msgC MF ea ec fa fc)
    exact bodyPost_ret (result33 HF2.out.res rfl rfl) rfl ⟨MF, ea, ec, fa, fc, rfl, HSM2.out, r3, r4, r1, r2⟩
  have f3 : (x == 3) = false := beq_eq_false_iff_ne.2 k3
  clear k3
  by_cases k4 : x = 4
  · subst k4
    go_wp2_with fail
    have hS0 : w2.drew.cell? ⟨mb, 8, none⟩ = some (.slice p m.ents.length c) := cell_of_row _ _ 8 _ _ _ HN.out.drew.msg
    refine wp_region_last (S := fun X => X.cell? ⟨mb, 8, none⟩ = some (.slice p m.ents.length c)) (by kernel_rfl) (by kernel_rfl) hS0 (fun _ => ?_)
    simp only [List.dropLast, List.length_cons, List.length_nil, Nat.zero_add, Nat.reduceAdd, Nat.add_one_sub_one, Nat.reduceSub]
    refine wpAnyH_take (i := 0) (v := .pointer (some ⟨mb, 8, none⟩)) rfl (by kernel_rfl) (by kernel_rfl) (by kernel_rfl) (fun _ _ _ h => h) (Or.inl ⟨by rfl, fun X hX => by go_simp⟩) hS0 ?_
    try simp only [Act.put, List.setIfInBounds_toArray, List.set_cons_zero, List.set_cons_succ, List.getElem_toArray, List.getElem_cons_zero, List.getElem_cons_succ]
    refine wpAnyH_take (i := 1) (v := (.slice p m.ents.length c)) rfl (by kernel_rfl) (by kernel_rfl) (by kernel_rfl) (fun _ _ _ h => h) (Or.inl ⟨by rfl, fun X hX => by go_simp⟩) hS0 ?_
    try simp only [Act.put, List.setIfInBounds_toArray, List.set_cons_zero, List.set_cons_succ, List.getElem_toArray, List.getElem_cons_zero, List.getElem_cons_succ]
    refine wpAnyH_take (i := 2) (v := .pointer (some ⟨g, 0, none⟩)) rfl (by kernel_rfl) (by kernel_rfl) (by kernel_rfl) (fun _ _ _ h => h) (Or.inl ⟨by rfl, fun X hX => by go_simp⟩) hS0 ?_
    try simp only [Act.put, List.setIfInBounds_toArray, List.set_cons_zero, List.set_cons_succ, List.getElem_toArray, List.getElem_cons_zero, List.getElem_cons_succ]
    refine wpAnyH_ready (rs := [3]) (by kernel_rfl) (by simp) ?_
    refine AllReadyH.cons rfl (fun K hK => ?_) AllReadyH.nil
    refine step_call1 (by with_unfolding_all rfl) 92 _ 61 (by with_unfolding_all rfl) (.pointer (some ⟨g, 0, none⟩)) (by with_unfolding_all rfl) (fun u w' => ∃ d : EntL, u = entV d ∧ d.data.size ≤ 30000 ∧ Cur B w' g a len cap b off z ∧ w2.drew.grownBy w' (some g)) (fun w => by kernel_rfl) ((anyEnt_any _ HN.out.drew.cur).mono (fun e w' ⟨d, q1, q2⟩ => ⟨_, q1, d, rfl, q2⟩)) ?_
    rintro u w7 ⟨dd, rfl, hd, hc7, hg7⟩
    have HN7 : Hid (NS B g len cap b off a z w mb m (.slice p m.ents.length c) (.slice q m.conf.length d) w7) := HN.out.drew.call hc7 hg7
    have HED2 : Hid (∀ e ∈ m.ents ++ [dd], e.data.size ≤ 30000) := fun e he => by
      rcases List.mem_append.1 he with he | he
      · exact HS.out.ents e he
      · rw [List.mem_singleton.1 he]; exact hd
    clear hd hc7 hg7 HN
    unfold entV
    have c7 : w7.cell? ⟨mb, 8, none⟩ = some (.slice p m.ents.length c) := cell_of_row _ _ 8 _ _ _ HN7.out.msg
    refine hK.out _ _ c7 (fun _ => ?_)
    clear hK K c7
    try simp only [Act.put, List.setIfInBounds_toArray, List.set_cons_zero, List.set_cons_succ, List.getElem_toArray, List.getElem_cons_zero, List.getElem_cons_succ]
    refine wpAnyH_ready (rs := [4]) (by kernel_rfl) (by simp) ?_
    refine AllReadyH.cons rfl (fun K hK => ?_) AllReadyH.nil
    go_simp
    have HN8 : Hid (NS B g len cap b off a z w mb m (.slice p m.ents.length c) (.slice q m.conf.length d) (w7.alloc (Obj.cells #[.int .i64 dd.term, .int .i64 dd.kind, .string dd.data] 44))) := HN7.out.same ((Below.refl _ _).alloc (Nat.le_refl _) _)
    have c8 : (w7.alloc (Obj.cells #[.int .i64 dd.term, .int .i64 dd.kind, .string dd.data] 44)).cell? ⟨mb, 8, none⟩ = some (.slice p m.ents.length c) := cell_of_row _ _ 8 _ _ _ HN8.out.msg
    refine hK.out _ _ c8 (fun _ => ?_)
    clear hK K c8
    try simp only [Act.put, List.setIfInBounds_toArray, List.set_cons_zero, List.set_cons_succ, List.getElem_toArray, List.getElem_cons_zero, List.getElem_cons_succ]
    have HB7 : Hid ((w7.alloc (Obj.cells #[.int .i64 dd.term, .int .i64 dd.kind, .string dd.data] 44)).heap[w7.heap.size]? = some (.cells #[.int .i64 dd.term, .int .i64 dd.kind, .string dd.data] 44 (0, 0))) := heap_alloc_new w7 _
    clear HN7
    refine wpAnyH_ready (rs := [5]) (by kernel_rfl) (by simp) ?_
    refine AllReadyH.cons rfl (fun K hK => ?_) AllReadyH.nil
    refine step_appV (by with_unfolding_all rfl) _ _ (by with_unfolding_all rfl) w.heap.size (.slice p m.ents.length c) w7.heap.size m.ents dd (by with_unfolding_all rfl) (by with_unfolding_all rfl) HN8.out.ent HN8.out.gr.size (by have := HS.out.len; omega) HB7.out ?_
    intro v9 w9 hown9 hg9
    obtain ⟨a9, c9, rfl⟩ := own_slice hown9
    have hx9 := HN8.out.grows hg9
    have z2 := cell_of_row _ _ 8 _ _ _ hx9.2.2.1
    have zf := frozen_of_row _ _ 8 _ _ hx9.2.2.1
    simp [cellsM] at z2
    have HF : Hid (NS B g len cap b off a z w mb ({ m with ents := m.ents ++ [dd] } : MsgL) (.slice a9 (m.ents ++ [dd]).length c9) (.slice q m.conf.length d) (w9.setCell ⟨mb, 8, none⟩ (.slice a9 (m.ents ++ [dd]).length c9))) := HN8.out.put hg9 hown9
    have HSM : Hid (Small 11 ({ m with ents := m.ents ++ [dd] } : MsgL)) := ⟨by have := HS.out.len; show (m.ents ++ [dd]).length ≤ 11; rw [List.length_append, List.length_singleton]; omega, HED2.out, HS.out.conf, HS.out.data, HS.out.dst⟩
    clear hown9 hg9 HN8 HB7 hx9
    refine hK.out _ _ z2 (fun _ => ?_)
    clear hK K
    try simp only [Act.put, List.setIfInBounds_toArray, List.set_cons_zero, List.set_cons_succ, List.getElem_toArray, List.getElem_cons_zero, List.getElem_cons_succ]
    refine wpAnyH_take (i := 6) (v := .pointer (some ⟨mb, 8, none⟩)) rfl (by kernel_rfl) (by kernel_rfl) (by kernel_rfl) (fun _ _ _ h => h) (Or.inl ⟨by rfl, fun X hX => by go_simp⟩) z2 ?_
    try simp only [Act.put, List.setIfInBounds_toArray, List.set_cons_zero, List.set_cons_succ, List.getElem_toArray, List.getElem_cons_zero, List.getElem_cons_succ]
    refine wpAnyH_done (by kernel_rfl) ?_ _
    dsimp only [NX]
    refine wpOp_step rfl (fun K hK => ?_)
    go_simp
    refine hK _ _ ?_
    clear hK K z2 zf
    go_upto_region 19 with fail
    have hn9 : (m.ents ++ [dd]).length = m.ents.length + 1 := by rw [List.length_append, List.length_singleton]
    try rw [hn9] at HF
    obtain ⟨MF, hMF⟩ : ∃ MF : MsgL, MF = ({ m with ents := m.ents ++ [dd] } : MsgL) := ⟨_, rfl⟩
    have HFX : Hid (∃ va vc wa wc, NS B g len cap b off a z w mb MF (.slice va MF.ents.length vc) (.slice wa MF.conf.length wc) (w9.setCell ⟨mb, 8, none⟩ (.slice a9 (m.ents.length + 1) c9))) := by
      rw [hMF]
      obtain ⟨ua, uc, u1⟩ := own_slice HF.out.ent
      obtain ⟨ta, tc, t1⟩ := own_slice HF.out.cnf
      exact ⟨ua, uc, ta, tc, by rw [← u1, ← t1]; exact HF.out⟩
    obtain ⟨ea, ec, fa, fc, hF2⟩ := HFX.out
    have HF2 : Hid (NS B g len cap b off a z w mb MF (.slice ea MF.ents.length ec) (.slice fa MF.conf.length fc) (w9.setCell ⟨mb, 8, none⟩ (.slice a9 (m.ents.length + 1) c9))) := hF2
    have HSM2 : Hid (Small 11 MF) := by rw [hMF]; exact HSM.out
    clear hF2 HFX
    clear HF HSM hMF
    have HONE : Hid (∀ v ∈ (msgC MF ea ec fa fc).toList, v.oneCell' = true) := msg_one MF ea ec fa fc
    go_wp2_with (first | (refine wpList_loadA Tryz.isAgg25 Tryz.sizeOf25 rfl _ rfl mb (msgC MF ea ec fa fc) 25 rfl HF2.out.msg rfl ?_) | (refine wpList_storeA Tryz.sizeOf25 rfl _ _ rfl w.heap.size (msgC MF ea ec fa fc) zeroC 25 rfl rfl HF2.out.res rfl rfl HONE.out ?_) | fail)
    obtain ⟨r1, r2, r3, r4⟩ := HF2.out.done (msgC MF ea ec fa fc)
    exact bodyPost_ret (result33 HF2.out.res rfl rfl) rfl ⟨MF, ea, ec, fa, fc, rfl, HSM2.out, r3, r4, r1, r2⟩

  have f4 : (x == 4) = false := beq_eq_false_iff_ne.2 k4
  clear k4
  by_cases k5 : x = 5
  · subst k5
    go_wp2_with fail
    refine (below_any 2 (by decide) _ HN.out.cur).mono ?_
    rintro e w3 ⟨y, rfl, hy, hc3, hg3⟩
    obtain ⟨n, rfl⟩ := Int.eq_ofNat_of_zero_le hy.1
    have ln : n < 2 := by have := hy.2.2 (by decide); omega
    have HN3 : Hid (NS B g len cap b off a z w mb m (.slice p m.ents.length c) (.slice q m.conf.length d) w3) := HN.out.call hc3 hg3
    clear hc3 hg3 hy HN
    go_wp2_with fail
    refine (long_int (60 + (n : Int)) (by omega) (by omega) _).mono ?_
    rintro e w4 ⟨S, rfl, hS, hb4⟩
    have hN := HN3.out.same hb4
    clear hb4 HN3
    have r : w4.cell? ⟨mb, 10, none⟩ = some (.string m.data) := cell_of_row _ _ 10 _ _ _ hN.msg
    have rf := frozen_of_row _ _ 10 _ _ hN.msg
    obtain ⟨Z0, hZ0⟩ : ∃ Z0, Z0 = w4.setCell ⟨mb, 10, none⟩ (.string S) := ⟨_, rfl⟩
    have HF : Hid (NS B g len cap b off a z w mb ({ m with data := S } : MsgL) (.slice p m.ents.length c) (.slice q m.conf.length d) Z0) := by rw [hZ0]; exact hN.set 10 _ rfl rfl rfl
    have HSM : Hid (Small 11 ({ m with data := S } : MsgL)) := ⟨Nat.le_succ_of_le HS.out.len, HS.out.ents, HS.out.conf, hS, HS.out.dst⟩
    clear hN
    go_upto_region 19 with fail
    rw [← hZ0]
    clear hZ0 r rf
    obtain ⟨MF, hMF⟩ : ∃ MF : MsgL, MF = ({ m with data := S } : MsgL) := ⟨_, rfl⟩
    have HFX : Hid (∃ va vc wa wc, NS B g len cap b off a z w mb MF (.slice va MF.ents.length vc) (.slice wa MF.conf.length wc) Z0) := by
      rw [hMF]
      obtain ⟨ua, uc, u1⟩ := own_slice HF.out.ent
      obtain ⟨ta, tc, t1⟩ := own_slice HF.out.cnf
      exact ⟨ua, uc, ta, tc, by rw [← u1, ← t1]; exact HF.out⟩
    obtain ⟨ea, ec, fa, fc, hF2⟩ := HFX.out
    have HF2 : Hid (NS B g len cap b off a z w mb MF (.slice ea MF.ents.length ec) (.slice fa MF.conf.length fc) Z0) := hF2
    have HSM2 : Hid (Small 11 MF) := by rw [hMF]; exact HSM.out
    clear hF2 HFX
    clear HF HSM hMF
    have HONE : Hid (∀ v ∈ (msgC MF ea ec fa fc).toList, v.oneCell' = true) := msg_one MF ea ec fa fc
    go_wp2_with (first | (refine wpList_loadA Tryz.isAgg25 Tryz.sizeOf25 rfl _ rfl mb (msgC MF ea ec fa fc) 25 rfl HF2.out.msg rfl ?_) | (refine wpList_storeA Tryz.sizeOf25 rfl _ _ rfl w.heap.size (msgC MF ea ec fa fc) zeroC 25 rfl rfl HF2.out.res rfl rfl HONE.out ?_) | fail)
    obtain ⟨r1, r2, r3, r4⟩ := HF2.out.done (msgC MF ea ec fa fc)
    exact bodyPost_ret (result33 HF2.out.res rfl rfl) rfl ⟨MF, ea, ec, fa, fc, rfl, HSM2.out, r3, r4, r1, r2⟩
  have f5 : (x == 5) = false := beq_eq_false_iff_ne.2 k5
  clear k5
  by_cases k6 : x = 6
  · subst k6
    go_wp2_with fail
    refine (anyConf_any _ HN.out.cur).mono ?_
    rintro e w9 ⟨vq, cc, rfl, hcl, hDL⟩
    have hN := HN.out.call hDL.cur hDL.gr
    have ho : w9.ownsRow w.heap.size 3 1 vq cc.length (cellsI cc) := own_mono hDL.own HN.out.gr.size
    have r : w9.cell? ⟨mb, 9, none⟩ = some (.slice q m.conf.length d) := cell_of_row _ _ 9 _ _ _ hN.msg
    have rf := frozen_of_row _ _ 9 _ _ hN.msg
    obtain ⟨va, vc, hva⟩ := own_slice ho
    subst hva
    obtain ⟨Z0, hZ0⟩ : ∃ Z0, Z0 = w9.setCell ⟨mb, 9, none⟩ (.slice va cc.length vc) := ⟨_, rfl⟩
    have HF : Hid (NS B g len cap b off a z w mb ({ m with conf := cc } : MsgL) (.slice p m.ents.length c) (.slice va cc.length vc) Z0) := by rw [hZ0]; exact hN.setC ho
    have HSM : Hid (Small 11 ({ m with conf := cc } : MsgL)) := ⟨Nat.le_succ_of_le HS.out.len, HS.out.ents, by show cc.length ≤ 10; omega, HS.out.data, HS.out.dst⟩
    clear hDL hN ho HN
    go_upto_region 19 with fail
    rw [← hZ0]
    clear hZ0 r rf
    obtain ⟨MF, hMF⟩ : ∃ MF : MsgL, MF = ({ m with conf := cc } : MsgL) := ⟨_, rfl⟩
    have HFX : Hid (∃ va vc wa wc, NS B g len cap b off a z w mb MF (.slice va MF.ents.length vc) (.slice wa MF.conf.length wc) Z0) := by
      rw [hMF]
      obtain ⟨ua, uc, u1⟩ := own_slice HF.out.ent
      obtain ⟨ta, tc, t1⟩ := own_slice HF.out.cnf
      exact ⟨ua, uc, ta, tc, by rw [← u1, ← t1]; exact HF.out⟩
    obtain ⟨ea, ec, fa, fc, hF2⟩ := HFX.out
    have HF2 : Hid (NS B g len cap b off a z w mb MF (.slice ea MF.ents.length ec) (.slice fa MF.conf.length fc) Z0) := hF2
    have HSM2 : Hid (Small 11 MF) := by rw [hMF]; exact HSM.out
    clear hF2 HFX
    clear HF HSM hMF
    have HONE : Hid (∀ v ∈ (msgC MF ea ec fa fc).toList, v.oneCell' = true) := msg_one MF ea ec fa fc
    go_wp2_with (first | (refine wpList_loadA Tryz.isAgg25 Tryz.sizeOf25 rfl _ rfl mb (msgC MF ea ec fa fc) 25 rfl HF2.out.msg rfl ?_) | (refine wpList_storeA Tryz.sizeOf25 rfl _ _ rfl w.heap.size (msgC MF ea ec fa fc) zeroC 25 rfl rfl HF2.out.res rfl rfl HONE.out ?_) | fail)
    obtain ⟨r1, r2, r3, r4⟩ := HF2.out.done (msgC MF ea ec fa fc)
    exact bodyPost_ret (result33 HF2.out.res rfl rfl) rfl ⟨MF, ea, ec, fa, fc, rfl, HSM2.out, r3, r4, r1, r2⟩
  have f6 : (x == 6) = false := beq_eq_false_iff_ne.2 k6
  clear k6
  by_cases k7 : x = 7
  · subst k7
    have hN := HN.out
    have r : w2.cell? ⟨mb, 11, none⟩ = some (.bool m.last) := cell_of_row _ _ 11 _ _ _ hN.msg
    have rf := frozen_of_row _ _ 11 _ _ hN.msg
    obtain ⟨Z0, hZ0⟩ : ∃ Z0, Z0 = w2.setCell ⟨mb, 11, none⟩ (.bool true) := ⟨_, rfl⟩
    have HF : Hid (NS B g len cap b off a z w mb ({ m with last := true } : MsgL) (.slice p m.ents.length c) (.slice q m.conf.length d) Z0) := by rw [hZ0]; exact hN.set 11 _ rfl rfl rfl
    have HSM : Hid (Small 11 ({ m with last := true } : MsgL)) := ⟨Nat.le_succ_of_le HS.out.len, HS.out.ents, HS.out.conf, HS.out.data, HS.out.dst⟩
    clear hN HN
    go_upto_region 19 with fail
    rw [← hZ0]
    clear hZ0 r rf
    obtain ⟨MF, hMF⟩ : ∃ MF : MsgL, MF = ({ m with last := true } : MsgL) := ⟨_, rfl⟩
    have HFX : Hid (∃ va vc wa wc, NS B g len cap b off a z w mb MF (.slice va MF.ents.length vc) (.slice wa MF.conf.length wc) Z0) := by
      rw [hMF]
      obtain ⟨ua, uc, u1⟩ := own_slice HF.out.ent
      obtain ⟨ta, tc, t1⟩ := own_slice HF.out.cnf
      exact ⟨ua, uc, ta, tc, by rw [← u1, ← t1]; exact HF.out⟩
    obtain ⟨ea, ec, fa, fc, hF2⟩ := HFX.out
    have HF2 : Hid (NS B g len cap b off a z w mb MF (.slice ea MF.ents.length ec) (.slice fa MF.conf.length fc) Z0) := hF2
    have HSM2 : Hid (Small 11 MF) := by rw [hMF]; exact HSM.out
    clear hF2 HFX
    clear HF HSM hMF
    have HONE : Hid (∀ v ∈ (msgC MF ea ec fa fc).toList, v.oneCell' = true) := msg_one MF ea ec fa fc
    go_wp2_with (first | (refine wpList_loadA Tryz.isAgg25 Tryz.sizeOf25 rfl _ rfl mb (msgC MF ea ec fa fc) 25 rfl HF2.out.msg rfl ?_) | (refine wpList_storeA Tryz.sizeOf25 rfl _ _ rfl w.heap.size (msgC MF ea ec fa fc) zeroC 25 rfl rfl HF2.out.res rfl rfl HONE.out ?_) | fail)
    obtain ⟨r1, r2, r3, r4⟩ := HF2.out.done (msgC MF ea ec fa fc)
    exact bodyPost_ret (result33 HF2.out.res rfl rfl) rfl ⟨MF, ea, ec, fa, fc, rfl, HSM2.out, r3, r4, r1, r2⟩
  have f7 : (x == 7) = false := beq_eq_false_iff_ne.2 k7
  clear k7
  have HF := HN
  have HSM : Hid (Small 11 m) := ⟨Nat.le_succ_of_le HS.out.len, HS.out.ents, HS.out.conf, HS.out.data, HS.out.dst⟩
  clear HN
  go_upto_region 19 with fail
  obtain ⟨MF, hMF⟩ : ∃ MF : MsgL, MF = m := ⟨_, rfl⟩
  have HFX : Hid (∃ va vc wa wc, NS B g len cap b off a z w mb MF (.slice va MF.ents.length vc) (.slice wa MF.conf.length wc) w2) := by
    rw [hMF]
    obtain ⟨ua, uc, u1⟩ := own_slice HF.out.ent
    obtain ⟨ta, tc, t1⟩ := own_slice HF.out.cnf
    exact ⟨ua, uc, ta, tc, by rw [← u1, ← t1]; exact HF.out⟩
  obtain ⟨ea, ec, fa, fc, hF2⟩ := HFX.out
  have HF2 : Hid (NS B g len cap b off a z w mb MF (.slice ea MF.ents.length ec) (.slice fa MF.conf.length fc) w2) := hF2
  have HSM2 : Hid (Small 11 MF) := by rw [hMF]; exact HSM.out
  clear hF2 HFX
  clear HF HSM hMF
  have HONE : Hid (∀ v ∈ (msgC MF ea ec fa fc).toList, v.oneCell' = true) := msg_one MF ea ec fa fc
  go_wp2_with (first | (refine wpList_loadA Tryz.isAgg25 Tryz.sizeOf25 rfl _ rfl mb (msgC MF ea ec fa fc) 25 rfl HF2.out.msg rfl ?_) | (refine wpList_storeA Tryz.sizeOf25 rfl _ _ rfl w.heap.size (msgC MF ea ec fa fc) zeroC 25 rfl rfl HF2.out.res rfl rfl HONE.out ?_) | fail)
  obtain ⟨r1, r2, r3, r4⟩ := HF2.out.done (msgC MF ea ec fa fc)
  exact bodyPost_ret (result33 HF2.out.res rfl rfl) rfl ⟨MF, ea, ec, fa, fc, rfl, HSM2.out, r3, r4, r1, r2⟩
end Go.Proofs.YtimacmijinblmaaGreat
