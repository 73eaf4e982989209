/- The call of the specification's ReadBatch at a text that is none of a right batch, walked. -/
import Derived.Test.YtbcfiiilikkkeaaGreatDoorSpecRead
namespace Go.Proofs.YtbcfiiilikkkeaaGreatDoor
open Go.RowKit
set_option linter.unusedVariables false

set_option maxHeartbeats 1000000 in
set_option maxRecDepth 100000 in
theorem specReadB_none {t : ByteArray} (hs : t.size ≤ 1048576) (w : World) (h : ∀ st l, ¬ Batches.Got t st l) :
    Calls Tryz.prog 115 #[.string t] w fun en w' => en = .returned (.tuple #[.agg #[.int .i64 0, .slice none 0 0], .bool false]) ∧ Below w.heap.size w w' := by
  have HH : Hid (∀ st l, ¬ Batches.Got t st l) := h
  clear h
  obtain ⟨i0, hi, hz0, hz1, hz2⟩ := info_parts Tryz.info149
  obtain ⟨W, hW, hS⟩ := read5_start t w
  have HS : Hid (SSt w (w.heap.size + 1) (w.heap.size + 1 + 1) t 0 0 false (.slice none 0 0) [] W) := hS
  clear hS
  go_enter Tryz.func115, Tryz.ntmps115
  go_wp2_with fail
  rw [← hW]
  clear hW
  obtain ⟨cb, hcb⟩ : ∃ cb, cb = w.heap.size + 1 := ⟨_, rfl⟩
  obtain ⟨bb, hbb⟩ : ∃ bb, bb = cb + 1 := ⟨_, rfl⟩
  rw [← hcb, ← hbb] at HS ⊢
  clear hcb hbb
  refine (l05Var_any hs _ false HS.out.cur).mono ?_
  rintro en w1 ⟨st, rfl, hst, p1, bad1, hc1, _, _, hg1⟩
  have HS1 : Hid (SSt w cb bb t 0 p1 bad1 (.slice none 0 0) [] w1) := HS.out.call hc1 hg1
  have HT1 : Hid (SSt w cb bb t (st : Int) p1 bad1 (.slice none 0 0) [] (w1.setCell ⟨bb, 0, none⟩ (.int .i64 (st : Int)))) := HS1.out.stamp _
  clear hc1 hg1 HS
  have b0 := HS1.out.c0
  have fb0 := HS1.out.f 0
  go_wp2_with fail
  obtain ⟨W2, hW2⟩ : ∃ W2, W2 = w1.setCell ⟨bb, 0, none⟩ (.int .i64 (st : Int)) := ⟨_, rfl⟩
  rw [← hW2] at HT1 ⊢
  clear hW2 b0 fb0 HS1
  refine (l05Var_any hs _ bad1 HT1.out.cur).mono ?_
  rintro en w2 ⟨n, rfl, hn, p2, bad2, hc2, _, _, hg2⟩
  have HS2 : Hid (SSt w cb bb t (st : Int) p2 bad2 (.slice none 0 0) [] w2) := HT1.out.call hc2 hg2
  clear hc2 hg2 HT1
  go_wp2
  go_loopw [7] (fun i wr => ∃ (k a' : Nat) (bad : Bool) (v : Value) (pre : List ChangeL), i = .int .i64 (k : Int) ∧ pre.length = k ∧ (bad = false → k ≤ a') ∧ k ≤ a' + 1 ∧ k ≤ n ∧ (∀ c ∈ pre, smallChange 2097152 c) ∧ SSt w cb bb t (st : Int) a' bad v pre wr)
    (fun i _ => t.size + 3 - (intOf i).toNat)
  case atStart => exact ⟨0, p2, bad2, _, [], rfl, rfl, fun _ => Nat.zero_le _, by omega, Nat.zero_le _, fun c hc => (List.not_mem_nil hc).elim, HS2.out⟩
  case round =>
    obtain ⟨k, a', bad, v, pre, rfl, hpl0, hka, hka1, hkn, hsm, hst5⟩ := hrel
    have HS : Hid (SSt w cb bb t (st : Int) a' bad v pre wr) := hst5
    have HM : Hid (∀ c ∈ pre, smallChange 2097152 c) := hsm
    have HPL : Hid (pre.length = k) := hpl0
    have hat := HS.out.cur.2
    have bad2' := HS.out.cur.c2
    clear hst5 hsm hpl0
    by_cases hgo : k < n ∧ bad = false
    · obtain ⟨hlt, rfl⟩ := hgo
      have hka := hka rfl
      have hk1 : (k : Int) < (n : Int) := by omega
      obtain ⟨va, vc, rfl⟩ := own_slice HS.out.own
      have hu := HS.out.up
      have hbbz := HS.out.bz
      have hnew := HS.out.new
      obtain ⟨q, hq⟩ : ∃ q, q = wr.heap.size := ⟨_, rfl⟩
      obtain ⟨W3, hW3⟩ : ∃ W3, W3 = wr.alloc (Obj.cells #[Value.string ⟨#[]⟩, Value.string ⟨#[]⟩, Value.bool false] 149) := ⟨_, rfl⟩
      have HS3 : Hid (SSt w cb bb t (st : Int) a' false (.slice va pre.length vc) pre W3) := by rw [hW3]; exact HS.out.alloc _
      have HX3 : Hid (W3.heap[q]? = some (.cells #[Value.string ⟨#[]⟩, Value.string ⟨#[]⟩, Value.bool false] 149 (0, 0))) := by rw [hW3, hq]; exact heap_alloc_new wr _
      rw [← hq] at hnew hbbz
      go_wp2_with fail
      rw [← hW3, ← hq]
      clear hW3 hq HS
      refine (short5_any hs _ false HS3.out.cur).mono ?_
      rintro en w4 ⟨A, rfl, hA, q1, bad4, hc4, hq4, hb4, hg4⟩
      have HB4 : Hid (bad4 = true ∨ a' < q1) := hb4
      have hs4 := HS3.out.call hc4 hg4
      clear hb4
      have hx4 := grown_keep HX3.out hg4 (by omega)
      have HS4 : Hid (SSt w cb bb t (st : Int) q1 bad4 (.slice va pre.length vc) pre (w4.setCell ⟨q, 0, none⟩ (.string A))) := hs4.far hbbz hnew _ _
      have HX4 : Hid ((w4.setCell ⟨q, 0, none⟩ (.string A)).heap[q]? = some (.cells #[Value.string A, Value.string ⟨#[]⟩, Value.bool false] 149 (0, 0))) := by
        have := heap_setCell_same w4 q 0 _ 149 (.string A) hx4
        show _ = _
        simpa using this
      have x0 := cell_of_row _ _ 0 _ _ _ hx4
      have xf0 := frozen_of_row _ _ 0 _ _ hx4
      simp at x0
      clear hc4 hg4 hs4 hx4 HS3 HX3
      go_wp2_with fail
      obtain ⟨W4, hW4⟩ : ∃ W4, W4 = w4.setCell ⟨q, 0, none⟩ (.string A) := ⟨_, rfl⟩
      rw [← hW4] at HS4 HX4 ⊢
      clear hW4 x0 xf0
      refine (take_any (n := 1) hs _ bad4 HS4.out.cur (by omega)).mono ?_
      rintro en w5 ⟨X, rfl, _, q2, bad5, hc5, hq5, hb5, hg5⟩
      have HB5 : Hid (bad4 = true → bad5 = true) := hb5
      have hs5 := HS4.out.call hc5 hg5
      obtain ⟨G, hXg⟩ : ∃ G, (X.toList == [1]) = G := ⟨_, rfl⟩
      clear hb5
      have hx5 := grown_keep HX4.out hg5 (by omega)
      have HS5 : Hid (SSt w cb bb t (st : Int) q2 bad5 (.slice va pre.length vc) pre (w5.setCell ⟨q, 2, none⟩ (.bool G))) := hs5.far hbbz hnew _ _
      have HX5 : Hid ((w5.setCell ⟨q, 2, none⟩ (.bool G)).heap[q]? = some (.cells #[Value.string A, Value.string ⟨#[]⟩, Value.bool G] 149 (0, 0))) := by
        have := heap_setCell_same w5 q 2 _ 149 (.bool G) hx5
        show _ = _
        simpa using this
      have x2 := cell_of_row _ _ 2 _ _ _ hx5
      have xf2 := frozen_of_row _ _ 2 _ _ hx5
      simp at x2
      clear hc5 hg5 hs5 hx5 HS4 HX4
      go_wp2_with fail
      obtain ⟨W5, hW5⟩ : ∃ W5, W5 = w5.setCell ⟨q, 2, none⟩ (.bool G) := ⟨_, rfl⟩
      rw [← hW5] at HS5 HX5 ⊢
      clear hW5 x2 xf2 hXg
      refine (short5_any hs _ bad5 HS5.out.cur).mono ?_
      rintro en w6 ⟨V, rfl, hV, a1', bad6, hc6, hq6, hb6, hg6⟩
      have HB6 : Hid (bad6 = true ∨ q2 < a1') := hb6
      have hs6 := HS5.out.call hc6 hg6
      clear hb6
      have hx6 := grown_keep HX5.out hg6 (by omega)
      have HS6 : Hid (SSt w cb bb t (st : Int) a1' bad6 (.slice va pre.length vc) pre (w6.setCell ⟨q, 1, none⟩ (.string V))) := hs6.far hbbz hnew _ _
      have hx7 : (w6.setCell ⟨q, 1, none⟩ (.string V)).heap[q]? = some (.cells #[Value.string A, Value.string V, Value.bool G] 149 (0, 0)) := by
        have := heap_setCell_same w6 q 1 _ 149 (.string V) hx6
        simpa using this
      have x1 := cell_of_row _ _ 1 _ _ _ hx6
      have xf1 := frozen_of_row _ _ 1 _ _ hx6
      have y0 := cell_of_row _ _ 0 _ _ _ hx7
      have y1 := cell_of_row _ _ 1 _ _ _ hx7
      have y2 := cell_of_row _ _ 2 _ _ _ hx7
      have yb := HS6.out.c1
      simp at x1 y0 y1 y2
      have hpl : pre.length + 1 ≤ maxLen := by have := HPL.out; unfold maxLen; omega
      have hby : (pre.length + 1) * 40 ≤ 140737488355328 := by have := HPL.out; omega
      have hbz : w.heap.size ≤ ((w6.setCell ⟨q, 1, none⟩ (.string V)).alloc (Obj.cells #[Value.string A, Value.string V, Value.bool G] 149)).heap.size := (HS6.out.alloc _).below.size
      clear hc6 hg6 hs6 hx6 hx7 HS5 HX5
      go_wp2_with (at_builtin; refine wpList_append_lies _ rfl _ _ 49 rfl w.heap.size 149 i0 (.agg #[.string ByteArray.empty, .string ByteArray.empty, .bool false]) 3 40 Tryz.underlying49 hi hz0 hz1 hz2 rfl (Nat.zero_lt_succ _) _ pre.length (cellsChange pre) rfl ((HS6.out.alloc _).own) ⟨w6.heap.size, 0, none⟩ 1 1 [.string A, .string V, .bool G] rfl rfl (news6 w6 q A V G) (change_news ⟨A, V, G⟩) (Nat.zero_lt_succ _) hpl hby hbz (w6.heap.size + 1) (size6 w6 q A V G) ?_)
      intro g2 cap2 w8 hown8 hgrow hat8 hlt8
      have hb8 := grown_keep' (HS6.out.alloc _).blk hgrow (own_not HS6.out.own HS6.out.blk (by decide))
      have HS9 : Hid (SSt w cb bb t (st : Int) a1' bad6 (.slice (some ⟨g2, 0, none⟩) (pre.length + 1) cap2) (pre ++ [⟨A, V, G⟩]) (w8.setCell ⟨bb, 1, none⟩ (.slice (some ⟨g2, 0, none⟩) (pre.length + 1) cap2))) := (HS6.out.alloc _).app hgrow hown8
      have z1 := cell_of_row _ _ 1 _ _ _ hb8
      have zf1 := frozen_of_row _ _ 1 _ _ hb8
      simp at z1
      clear hown8 hgrow hat8 hlt8 hb8 x1 xf1 y0 y1 y2 yb HS6
      go_wp2
      go_roundw
      case rel =>
        refine ⟨k + 1, a1', bad6, _, pre ++ [⟨A, V, G⟩], by go_num, by have := HPL.out; simp; omega, fun h6 => ?_, by omega, by omega, fun c hc => ?_, HS9.out⟩
        · rcases HB6.out with h | h
          · rw [h6] at h; cases h
          · omega
        · rcases List.mem_append.1 hc with hc | hc
          · exact HM.out c hc
          · obtain rfl := List.mem_singleton.1 hc
            exact ⟨Nat.le_trans hA (by omega), Nat.le_trans hV (by omega)⟩
      case measure => simp [intOf]; omega
    · have hk1 : k < n → bad = true := fun h => by
        cases hb : bad with
        | true => rfl
        | false => exact absurd ⟨h, hb⟩ hgo
      clear hgo
      by_cases hlt : k < n
      · obtain rfl := hk1 hlt
        have hk2 : (k : Int) < (n : Int) := by omega
        clear hk1
        obtain ⟨va, gg, vc, rfl, hat5⟩ := cellsChange_slice HS.out.own
        have HA : Hid (ChangeAt wr va gg 0 pre) := hat5
        obtain ⟨S, R, hT⟩ := txt_ex (st : Int) pre
        have HTX : Hid (Txt (st : Int) pre S R) := hT
        have HNE : Hid (R = true → ¬ S = t) := fun hR hS => by
          rcases hT with ⟨h1, h2, _⟩ | ⟨_, _, h3⟩
          · refine HH.out st pre ⟨?_, h1⟩
            rw [← hS, h2, Int.toNat_natCast]
          · rw [h3] at hR; cases hR
        have hu := HS.out.up
        have b0 := HS.out.c0
        have b1 := HS.out.c1
        have hpn : pre.length ≤ 2097152 := by have := HPL.out; omega
        clear hat5 hT
        go_wp2_with fail
        refine (specText_any HTX.out hpn wr HA.out HM.out).mono ?_
        rintro en w3 ⟨rfl, hb3⟩
        have hs3 := HS.out.same hb3
        have HS3 : Hid (SSt w cb bb t (st : Int) a' true (.slice va pre.length vc) pre w3) := hs3
        have c2 := hs3.cur.c2
        have r0 := cell_of_row _ _ 0 _ _ _ hs3.res
        have r1 := cell_of_row _ _ 1 _ _ _ hs3.res
        have rf0 := frozen_of_row _ _ 0 _ _ hs3.res
        have rf1 := frozen_of_row _ _ 1 _ _ hs3.res
        simp at r0 r1
        clear hs3 hb3 b0 b1
        go_wp2
        obtain ⟨l0, l1⟩ := two_cell HS3.out.res (.int .i64 0) (.slice none 0 0)
        exact bodyPost_ret (v := .tuple #[.agg #[.int .i64 0, .slice none 0 0], .bool false]) (by simp [results, Tryz.results115, go_sem, l0, l1]) rfl ⟨rfl, (HS3.out.below.setCell (by simp) _).setCell (by simp) _⟩
      · have hk2 : ¬ (k : Int) < (n : Int) := by omega
        clear hk1
        obtain ⟨va, gg, vc, rfl, hat5⟩ := cellsChange_slice HS.out.own
        have HA : Hid (ChangeAt wr va gg 0 pre) := hat5
        obtain ⟨S, R, hT⟩ := txt_ex (st : Int) pre
        have HTX : Hid (Txt (st : Int) pre S R) := hT
        have HNE : Hid (R = true → ¬ S = t) := fun hR hS => by
          rcases hT with ⟨h1, h2, _⟩ | ⟨_, _, h3⟩
          · refine HH.out st pre ⟨?_, h1⟩
            rw [← hS, h2, Int.toNat_natCast]
          · rw [h3] at hR; cases hR
        have hu := HS.out.up
        have b0 := HS.out.c0
        have b1 := HS.out.c1
        have hpn : pre.length ≤ 2097152 := by have := HPL.out; omega
        clear hat5 hT
        go_wp2_with fail
        refine (specText_any HTX.out hpn wr HA.out HM.out).mono ?_
        rintro en w3 ⟨rfl, hb3⟩
        have hs3 := HS.out.same hb3
        have HS3 : Hid (SSt w cb bb t (st : Int) a' bad (.slice va pre.length vc) pre w3) := hs3
        have c2 := hs3.cur.c2
        have r0 := cell_of_row _ _ 0 _ _ _ hs3.res
        have r1 := cell_of_row _ _ 1 _ _ _ hs3.res
        have rf0 := frozen_of_row _ _ 0 _ _ hs3.res
        have rf1 := frozen_of_row _ _ 1 _ _ hs3.res
        simp at r0 r1
        clear hs3 hb3 b0 b1
        cases bad with
        | true =>
          go_wp2
          obtain ⟨l0, l1⟩ := two_cell HS3.out.res (.int .i64 0) (.slice none 0 0)
          exact bodyPost_ret (v := .tuple #[.agg #[.int .i64 0, .slice none 0 0], .bool false]) (by simp [results, Tryz.results115, go_sem, l0, l1]) rfl ⟨rfl, (HS3.out.below.setCell (by simp) _).setCell (by simp) _⟩
        | false =>
          cases R with
          | false =>
            go_wp2
            obtain ⟨l0, l1⟩ := two_cell HS3.out.res (.int .i64 0) (.slice none 0 0)
            exact bodyPost_ret (v := .tuple #[.agg #[.int .i64 0, .slice none 0 0], .bool false]) (by simp [results, Tryz.results115, go_sem, l0, l1]) rfl ⟨rfl, (HS3.out.below.setCell (by simp) _).setCell (by simp) _⟩
          | true =>
            have hne := neq_list (HNE.out rfl)
            go_wp2
            obtain ⟨l0, l1⟩ := two_cell HS3.out.res (.int .i64 0) (.slice none 0 0)
            exact bodyPost_ret (v := .tuple #[.agg #[.int .i64 0, .slice none 0 0], .bool false]) (by simp [results, Tryz.results115, go_sem, l0, l1]) rfl ⟨rfl, (HS3.out.below.setCell (by simp) _).setCell (by simp) _⟩
end Go.Proofs.YtbcfiiilikkkeaaGreatDoor
