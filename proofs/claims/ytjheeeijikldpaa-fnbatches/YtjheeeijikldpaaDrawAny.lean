/- Batches are drawn, walked: l05Any, DrawBatchText: what comes is within its bounds. -/
import Derived.Test.YtjheeeijikldpaaDrawRight
import Derived.Test.YtjheeeijikldpaaDec
import Derived.Test.YtjheeeijikldpaaImplText
namespace Go.Proofs.Ytjheeeijikldpaa
open Go.RowKit
set_option linter.unusedVariables false

/-- A call of two arguments whose answer is one of some, as one step of a region that draws its order. -/
theorem step_call2 {P : Program} {ops : Array Oper} {o : Oper} {a : Act} {w : World} {K : Act → World → Prop} {Q : Exit → Act → World → Prop} {E : Prop} (hgd : o.guard = none) (f : Nat) (x y : Operand) (t s : TypeId)
    (ho : o.op = .call { callee := .value (.func f), args := #[x, y], argTypes := #[t, s] }) (v u : Value) (hx : a.eval x = v) (hy : a.eval y = u) {α : Type} (ans : α → Value) (R : α → World → Prop) (hcf : ∀ w, (callFunc f #[v, u]).run P w = .ok (.enter f #[v, u]) w)
    (hc : Calls P f #[v, u] w fun e w' => ∃ r, e = .returned (ans r) ∧ R r w') (h : ∀ r w', R r w' → K (a.put o.dst (ans r)) w') : if Region.wanted o (yielded ops a.tmps) = true then Oper.wp P o a w K Q else E := by
  have hw : Region.wanted o (yielded ops a.tmps) = true := by simp [Region.wanted, hgd]
  rw [if_pos hw]
  unfold Oper.wp
  have hf : a.eval (.func f) = .func (.func f) #[] #[] := rfl
  simp [execOp, ho, resolve, invoke, hf, hx, hy, hcf, Deferred.ofValue, Oper.upon]
  refine hc.mono ?_
  rintro e w' ⟨r, rfl, hr⟩
  exact h r w' hr

def ints3 : Array Value := #[.int .i64 (-1), .int .i64 100000, .int .i64 100001]
theorem ints3_ok : ∀ j, j < 3 → ∃ v : Int, ints3[j]? = some (.int .i64 v) ∧ -9223372036854775808 ≤ v ∧ v ≤ 9223372036854775807 := by
  intro j hj
  have hc : j = 0 ∨ j = 1 ∨ j = 2 := by omega
  rcases hc with rfl | rfl | rfl <;> exact ⟨_, rfl, by omega, by omega⟩
theorem wrap40 {x : Int} (h0 : 0 ≤ x) (h1 : x < 2) : IntKind.i64.wrap (40 + x) = 40 + x := by rw [IntWalk.i64_in _ (by omega)]
def keys5 : Array Value := #[.string ⟨#[]⟩, .string ⟨#[97]⟩, .string ⟨#[122, 122]⟩, .string ⟨#[122, 122, 122, 122, 122, 122, 122, 122, 122, 122]⟩, .string ⟨#[122, 122, 122, 122, 122, 122, 122, 122, 122, 122, 122]⟩]
theorem keys5_ok : ∀ j, j < 5 → ∃ S : ByteArray, keys5[j]? = some (.string S) ∧ S.size ≤ 11 := by
  intro j hj
  have hc : j = 0 ∨ j = 1 ∨ j = 2 ∨ j = 3 ∨ j = 4 := by omega
  rcases hc with rfl | rfl | rfl | rfl | rfl <;> exact ⟨_, rfl, by simp [ByteArray.size]⟩
set_option maxHeartbeats 2000000 in
set_option maxRecDepth 100000 in
theorem any_any {B g len cap b off : Nat} {a : Option Addr} {z : Nat → Int} (w : World) (hc : Cur B w g a len cap b off z) :
    Calls Try.prog 21 #[.pointer (some ⟨g, 0, none⟩)] w fun e w' => ∃ (st : Int) (v : Value) (l : List ChangeL), e = .returned (.agg #[.int .i64 st, v]) ∧ w'.ownsRow w.heap.size 47 3 v l.length (cellsChange l) ∧ l.length ≤ 100 ∧ (∀ c ∈ l, smallChange 2097152 c) ∧ w.grownBy w' (some g) := by
  obtain ⟨i0, hi, hz0, hz1, hz2⟩ := info_parts Try.info47
  have hgl := hc.lt
  have HC : Hid (Cur B (w.alloc (Obj.cells #[Value.int IntKind.i64 0, Value.slice none 0 0] 26)) g a len cap b off z) := hc.alloc _
  have HZ : Hid ((w.alloc (Obj.cells #[Value.int IntKind.i64 0, Value.slice none 0 0] 26)).heap[w.heap.size]? = some (.cells #[.int .i64 0, .slice none 0 0] 26 (0, 0))) := heap_alloc_new w _
  have HG : Hid (w.grownBy (w.alloc (Obj.cells #[Value.int IntKind.i64 0, Value.slice none 0 0] 26)) (some g)) := grown_alloc _ _
  clear hc
  go_enter Try.func21, Try.ntmps21
  go_wp2_with fail
  refine (below_any 300 (by omega) _ HC.out).mono ?_
  rintro e w1 ⟨y0, rfl, _, hc1, hg1⟩
  have HC1 : Hid (Cur B w1 g a len cap b off z) := hc1
  have HZ1 : Hid (w1.heap[w.heap.size]? = some (.cells #[.int .i64 0, .slice none 0 0] 26 (0, 0))) := grown_keep HZ.out hg1 (by omega)
  have HG1 : Hid (w.grownBy w1 (some g)) := HG.out.trans hg1
  clear hc1 hg1 HC HZ HG
  go_wp2_with fail
  refine (right_any y0 _ HC1.out).mono ?_
  rintro e w2 ⟨v, pre, rfl, hown, hpl, hlite, hc2, hg2⟩
  have hz1w := (Array.getElem?_eq_some_iff.1 HZ1.out).1
  obtain ⟨va, vc, rfl⟩ := own_slice hown
  obtain ⟨bb, hbb⟩ : ∃ bb, bb = w2.heap.size := ⟨_, rfl⟩
  obtain ⟨W2, hW2⟩ : ∃ W2, W2 = w2.alloc (Obj.cells #[Value.int IntKind.i64 y0, Value.slice va pre.length vc] 26) := ⟨_, rfl⟩
  have hs2 := hg2.size
  have HS : Hid (DSt B g len cap b off a z w bb y0 (.slice va pre.length vc) pre W2) := by
    have hb : Below w2.heap.size w2 W2 := by rw [hW2]; exact (Below.refl _ _).alloc (Nat.le_refl _) _
    refine ⟨by rw [hW2]; exact hc2.alloc _, by rw [hW2, hbb]; exact heap_alloc_new w2 _, (hb.block _ (by omega)).trans (grown_keep HZ1.out hg2 (by omega)), own_kept (own_mono hown (by omega)) hb, (HG1.out.trans hg2).trans (own_below' hb), ⟨hgl, by omega⟩, hlite⟩
  clear hown hlite hc2 hg2 HC1 HZ1 HG1 hs2
  go_wp2_with fail
  rw [← hW2, ← hbb]
  clear hW2 hbb
  refine (below_any 30 (by omega) _ HS.out.cur).mono ?_
  rintro e w3 ⟨y, rfl, hy, hc3, hg3⟩
  have HS3 : Hid (DSt B g len cap b off a z w bb y0 (.slice va pre.length vc) pre w3) := HS.out.call hc3 hg3
  clear hc3 hg3 HS
  have hnB := own_not HS3.out.own HS3.out.blk (by decide)
  have hpl : pre.length + 1 ≤ maxLen := by unfold maxLen; omega
  have hby : (pre.length + 1) * 40 ≤ 140737488355328 := by omega
  have HCD : Hid (DSt B g len cap b off a z w bb y0 (.slice va pre.length vc) pre w3.drew) := HS3.out.drew
  have d1 := HS3.out.c1
  have d1a := fun o => (HS3.out.alloc o).c1
  by_cases y0' : y = 0
  · have e0 : (y == 0) = true := by rw [y0']; rfl
    clear y0'
    go_wp2_with fail
    refine (pickInt_new w3 HS3.out.cur ints3 3 (by omega) (by omega) ints3_ok).mono ?_
    rintro e w4 ⟨x, rfl, _, _, hc4, hg4⟩
    have hs4 := HS3.out.call hc4 hg4
    have HS4 : Hid (DSt B g len cap b off a z w bb x (.slice va pre.length vc) pre (w4.setCell ⟨bb, 0, none⟩ (.int .i64 x))) := hs4.set0 x
    have f0 := hs4.fz 0
    have z0 := hs4.c0
    have t0 := HS4.out.c0
    have t1 := HS4.out.c1
    have r0 := cell_of_row _ _ 0 _ _ _ HS4.out.res
    have r1 := cell_of_row _ _ 1 _ _ _ HS4.out.res
    have rf0 := frozen_of_row _ _ 0 _ _ HS4.out.res
    have rf1 := frozen_of_row _ _ 1 _ _ HS4.out.res
    simp at r0 r1
    have hu := HS4.out.up
    clear hc4 hg4 hs4
    go_wp2
    obtain ⟨l0, l1⟩ := two_cell HS4.out.res (.int .i64 x) (.slice va pre.length vc)
    exact bodyPost_ret (v := .agg #[.int .i64 x, .slice va pre.length vc]) (by simp [results, Try.results21, go_sem, l0, l1]) rfl ⟨x, .slice va pre.length vc, pre, rfl, own_set (own_set HS4.out.own _ _ _ (own_not HS4.out.own HS4.out.res (by decide))) _ _ _ (own_not HS4.out.own HS4.out.res (by decide)), by omega, HS4.out.lite, grown_new (grown_new HS4.out.grown (k := w.heap.size) (Nat.le_refl _) 0 _) (k := w.heap.size) (Nat.le_refl _) 1 _⟩
  · have e0 : (y == 0) = false := by simpa using y0'
    by_cases y1' : y = 1
    · have e1 : (y == 1) = true := by rw [y1']; rfl
      have HCF : Hid (∀ wx : World, (callFunc 46 #[.pointer (some ⟨g, 0, none⟩), .slice (some ⟨w3.heap.size, 0, none⟩) 5 5]).run Try.prog wx = .ok (.enter 46 #[.pointer (some ⟨g, 0, none⟩), .slice (some ⟨w3.heap.size, 0, none⟩) 5 5]) wx) := fun _ => by kernel_rfl
      have HPK : Hid (Calls Try.prog 46 #[.pointer (some ⟨g, 0, none⟩), .slice (some ⟨w3.heap.size, 0, none⟩) 5 5] (w3.alloc (.cells keys5 9)).drew fun e w' => ∃ S : ByteArray, e = .returned (.string S) ∧ S.size ≤ 11 ∧ Cur B w' g a len cap b off z ∧ w3.drew.grownBy w' (some g)) := pick_new (fun S => S.size ≤ 11) w3.drew HCD.out.cur keys5 5 (by omega) (by omega) keys5_ok
      clear y1' y0'
      go_wp2_with fail
      go_region_law (first | (refine step_call2 (by rfl) 46 _ _ _ _ (by rfl) (.pointer (some ⟨g, 0, none⟩)) (.slice (some ⟨w3.heap.size, 0, none⟩) 5 5) (by rfl) (by rfl) (fun S : ByteArray => .string S) _ HCF.out HPK.out ?_; rintro S wa ⟨hS, hca, hga⟩; have HSa : Hid (DSt B g len cap b off a z w bb y0 (.slice va pre.length vc) pre wa) := HCD.out.call hca hga; have cRa := HSa.out.c1; have cRb := fun o => (HSa.out.alloc o).c1; clear hca hga) | (refine step_append_lies _ (by rfl) _ _ _ (by rfl) w.heap.size 47 i0 _ 3 40 Try.underlying24 hi hz0 hz1 hz2 rfl (Nat.zero_lt_succ _) _ pre.length (cellsChange pre) (by rfl) ((HSa.out.alloc _).own) ⟨wa.heap.size, 0, none⟩ 1 1 [.string S, .string ⟨#[]⟩, .bool false] (by rfl) (by rfl) (World.news_of_block (cs := #[.string S, .string ⟨#[]⟩, .bool false]) (t := 47) (fr := (0, 0)) (heap_alloc_new wa _)) (change_news ⟨S, ⟨#[]⟩, false⟩) (Nat.zero_lt_succ _) hpl hby (by have h2 := HSa.out.grown.size; simp; omega) (wa.heap.size + 1) (Array.size_push ..) ?_; intro g2 cap2 w8 hown8 hgrow hat hlt8; have hB8 := grown_keep' (HSa.out.alloc _).blk hgrow hnB; have cR8 := cell_of_row _ _ 1 _ _ _ hB8; have fR8 := frozen_of_row _ _ 1 _ _ hB8))
      all_goals
        have HS9 : Hid (DSt B g len cap b off a z w bb y0 (.slice (some ⟨g2, 0, none⟩) (pre.length + 1) cap2) (pre ++ [⟨S, ⟨#[]⟩, false⟩]) (w8.setCell ⟨bb, 1, none⟩ (.slice (some ⟨g2, 0, none⟩) (pre.length + 1) cap2))) := (HSa.out.alloc _).app hgrow hown8 ⟨Nat.le_trans hS (by omega), Nat.zero_le _⟩
        clear hown8 hgrow hat hlt8 hB8
        obtain ⟨W9, hW9⟩ : ∃ W9, W9 = w8.setCell ⟨bb, 1, none⟩ (.slice (some ⟨g2, 0, none⟩) (pre.length + 1) cap2) := ⟨_, rfl⟩
        rw [← hW9] at HS9 ⊢
        clear hW9
        have hu := HS9.out.up
        have b0 := HS9.out.c0
        have b1 := HS9.out.c1
        have r0 := cell_of_row _ _ 0 _ _ _ HS9.out.res
        have r1 := cell_of_row _ _ 1 _ _ _ HS9.out.res
        have rf0 := frozen_of_row _ _ 0 _ _ HS9.out.res
        have rf1 := frozen_of_row _ _ 1 _ _ HS9.out.res
        simp at r0 r1
        go_wp2
        obtain ⟨l0, l1⟩ := two_cell HS9.out.res (.int .i64 y0) (.slice (some ⟨g2, 0, none⟩) (pre.length + 1) cap2)
        exact bodyPost_ret (v := .agg #[.int .i64 y0, .slice (some ⟨g2, 0, none⟩) (pre.length + 1) cap2]) (by simp [results, Try.results21, go_sem, l0, l1]) rfl ⟨y0, .slice (some ⟨g2, 0, none⟩) (pre.length + 1) cap2, pre ++ [⟨S, ⟨#[]⟩, false⟩], rfl, own_set (own_set HS9.out.own _ _ _ (own_not HS9.out.own HS9.out.res (by decide))) _ _ _ (own_not HS9.out.own HS9.out.res (by decide)), by simp; omega, HS9.out.lite, grown_new (grown_new HS9.out.grown (k := w.heap.size) (Nat.le_refl _) 0 _) (k := w.heap.size) (Nat.le_refl _) 1 _⟩
    · have e1 : (y == 1) = false := by simpa using y1'
      by_cases y2' : y = 2
      · have e2 : (y == 2) = true := by rw [y2']; rfl
        have HCF : Hid (∀ wx : World, (callFunc 44 #[.pointer (some ⟨g, 0, none⟩), .int .i64 2]).run Try.prog wx = .ok (.enter 44 #[.pointer (some ⟨g, 0, none⟩), .int .i64 2]) wx) := fun _ => by kernel_rfl
        have HCL : Hid (∀ (x : Int) (wx : World), (callFunc 47 #[.int .i64 x, .int .u8 65]).run Try.prog wx = .ok (.enter 47 #[.int .i64 x, .int .u8 65]) wx) := fun _ _ => by kernel_rfl
        clear y1' y0' y2'
        go_wp2_with fail
        go_region_law (first | (refine step_call2 (by rfl) 44 _ _ _ _ (by rfl) (.pointer (some ⟨g, 0, none⟩)) (.int .i64 2) (by rfl) (by rfl) (fun x : Int => .int .i64 x) _ HCF.out (below_any 2 (by omega) w3.drew HCD.out.cur) ?_; rintro x wc ⟨hx, hcc, hgc⟩; have HSc : Hid (DSt B g len cap b off a z w bb y0 (.slice va pre.length vc) pre wc) := HCD.out.call hcc hgc; have cRc := HSc.out.c1; have hx0 := hx.1; have hx1 := hx.2.2 (by omega); have hxw : IntKind.i64.wrap (40 + x) = 40 + x := (wrap40 hx0 hx1); have hx2 : 40 + x ≤ 30000 := (by omega); have hx3 : 0 ≤ 40 + x := (by omega); clear hcc hgc hx) | (refine step_call2 (by rfl) 47 _ _ _ _ (by rfl) (.int .i64 (40 + x)) (.int .u8 65) (by rfl) (by rfl) (fun S : ByteArray => .string S) _ (HCL.out _) (long_int (40 + x) hx3 hx2 wc) ?_; rintro S wa ⟨hS, hba⟩; have HSa : Hid (DSt B g len cap b off a z w bb y0 (.slice va pre.length vc) pre wa) := HSc.out.same hba; have cRa := HSa.out.c1; have cRb := fun o => (HSa.out.alloc o).c1; clear hba) | (refine step_append_lies _ (by rfl) _ _ _ (by rfl) w.heap.size 47 i0 _ 3 40 Try.underlying24 hi hz0 hz1 hz2 rfl (Nat.zero_lt_succ _) _ pre.length (cellsChange pre) (by rfl) ((HSa.out.alloc _).own) ⟨wa.heap.size, 0, none⟩ 1 1 [.string ⟨#[122, 122]⟩, .string S, .bool false] (by rfl) (by rfl) (World.news_of_block (cs := #[.string ⟨#[122, 122]⟩, .string S, .bool false]) (t := 47) (fr := (0, 0)) (heap_alloc_new wa _)) (change_news ⟨⟨#[122, 122]⟩, S, false⟩) (Nat.zero_lt_succ _) hpl hby (by have h2 := HSa.out.grown.size; simp; omega) (wa.heap.size + 1) (Array.size_push ..) ?_; intro g2 cap2 w8 hown8 hgrow hat hlt8; have hB8 := grown_keep' (HSa.out.alloc _).blk hgrow hnB; have cR8 := cell_of_row _ _ 1 _ _ _ hB8; have fR8 := frozen_of_row _ _ 1 _ _ hB8))
        all_goals
          have HS9 : Hid (DSt B g len cap b off a z w bb y0 (.slice (some ⟨g2, 0, none⟩) (pre.length + 1) cap2) (pre ++ [⟨⟨#[122, 122]⟩, S, false⟩]) (w8.setCell ⟨bb, 1, none⟩ (.slice (some ⟨g2, 0, none⟩) (pre.length + 1) cap2))) := (HSa.out.alloc _).app hgrow hown8 ⟨by simp [ByteArray.size], Nat.le_trans hS (by omega)⟩
          clear hown8 hgrow hat hlt8 hB8
          obtain ⟨W9, hW9⟩ : ∃ W9, W9 = w8.setCell ⟨bb, 1, none⟩ (.slice (some ⟨g2, 0, none⟩) (pre.length + 1) cap2) := ⟨_, rfl⟩
          rw [← hW9] at HS9 ⊢
          clear hW9
          have hu := HS9.out.up
          have b0 := HS9.out.c0
          have b1 := HS9.out.c1
          have r0 := cell_of_row _ _ 0 _ _ _ HS9.out.res
          have r1 := cell_of_row _ _ 1 _ _ _ HS9.out.res
          have rf0 := frozen_of_row _ _ 0 _ _ HS9.out.res
          have rf1 := frozen_of_row _ _ 1 _ _ HS9.out.res
          simp at r0 r1
          go_wp2
          obtain ⟨l0, l1⟩ := two_cell HS9.out.res (.int .i64 y0) (.slice (some ⟨g2, 0, none⟩) (pre.length + 1) cap2)
          exact bodyPost_ret (v := .agg #[.int .i64 y0, .slice (some ⟨g2, 0, none⟩) (pre.length + 1) cap2]) (by simp [results, Try.results21, go_sem, l0, l1]) rfl ⟨y0, .slice (some ⟨g2, 0, none⟩) (pre.length + 1) cap2, pre ++ [⟨⟨#[122, 122]⟩, S, false⟩], rfl, own_set (own_set HS9.out.own _ _ _ (own_not HS9.out.own HS9.out.res (by decide))) _ _ _ (own_not HS9.out.own HS9.out.res (by decide)), by simp; omega, HS9.out.lite, grown_new (grown_new HS9.out.grown (k := w.heap.size) (Nat.le_refl _) 0 _) (k := w.heap.size) (Nat.le_refl _) 1 _⟩
      · have e2 : (y == 2) = false := by simpa using y2'
        by_cases y3' : y = 3
        · have e3 : (y == 3) = true := by rw [y3']; rfl
          have hbz : w.heap.size ≤ (w3.alloc (Obj.cells #[Value.string ⟨#[122, 122]⟩, Value.string ⟨#[120]⟩, Value.bool true] 47)).heap.size := by have := HS3.out.grown.size; simp; omega
          clear y1' y0' y2' y3'
          go_wp2_with (at_builtin; refine wpList_append_lies _ rfl _ _ 24 rfl w.heap.size 47 i0 (.agg #[.string ByteArray.empty, .string ByteArray.empty, .bool false]) 3 40 Try.underlying24 hi hz0 hz1 hz2 rfl (Nat.zero_lt_succ _) _ pre.length (cellsChange pre) rfl ((HS3.out.alloc _).own) ⟨w3.heap.size, 0, none⟩ 1 1 [.string ⟨#[122, 122]⟩, .string ⟨#[120]⟩, .bool true] rfl rfl (World.news_of_block (cs := #[.string ⟨#[122, 122]⟩, .string ⟨#[120]⟩, .bool true]) (t := 47) (fr := (0, 0)) (heap_alloc_new w3 _)) (change_news ⟨⟨#[122, 122]⟩, ⟨#[120]⟩, true⟩) (Nat.zero_lt_succ _) hpl hby hbz (w3.heap.size + 1) (Array.size_push ..) ?_)
          intro g2 cap2 w8 hown8 hgrow hat hlt8
          have hB8 := grown_keep' (HS3.out.alloc _).blk hgrow hnB
          have cR8 := cell_of_row _ _ 1 _ _ _ hB8
          have fR8 := frozen_of_row _ _ 1 _ _ hB8
          have HS9 : Hid (DSt B g len cap b off a z w bb y0 (.slice (some ⟨g2, 0, none⟩) (pre.length + 1) cap2) (pre ++ [⟨⟨#[122, 122]⟩, ⟨#[120]⟩, true⟩]) (w8.setCell ⟨bb, 1, none⟩ (.slice (some ⟨g2, 0, none⟩) (pre.length + 1) cap2))) := (HS3.out.alloc _).app hgrow hown8 ⟨by simp [ByteArray.size], by simp [ByteArray.size]⟩
          clear hown8 hgrow hat hlt8 hB8
          have hu := HS9.out.up
          have b0 := HS9.out.c0
          have b1 := HS9.out.c1
          have r0 := cell_of_row _ _ 0 _ _ _ HS9.out.res
          have r1 := cell_of_row _ _ 1 _ _ _ HS9.out.res
          have rf0 := frozen_of_row _ _ 0 _ _ HS9.out.res
          have rf1 := frozen_of_row _ _ 1 _ _ HS9.out.res
          simp at r0 r1
          go_wp2
          obtain ⟨l0, l1⟩ := two_cell HS9.out.res (.int .i64 y0) (.slice (some ⟨g2, 0, none⟩) (pre.length + 1) cap2)
          exact bodyPost_ret (v := .agg #[.int .i64 y0, .slice (some ⟨g2, 0, none⟩) (pre.length + 1) cap2]) (by simp [results, Try.results21, go_sem, l0, l1]) rfl ⟨y0, .slice (some ⟨g2, 0, none⟩) (pre.length + 1) cap2, pre ++ [⟨⟨#[122, 122]⟩, ⟨#[120]⟩, true⟩], rfl, own_set (own_set HS9.out.own _ _ _ (own_not HS9.out.own HS9.out.res (by decide))) _ _ _ (own_not HS9.out.own HS9.out.res (by decide)), by simp; omega, HS9.out.lite, grown_new (grown_new HS9.out.grown (k := w.heap.size) (Nat.le_refl _) 0 _) (k := w.heap.size) (Nat.le_refl _) 1 _⟩
        · have e3 : (y == 3) = false := by simpa using y3'
          by_cases y4' : y = 4
          · have e4 : (y == 4) = true := by rw [y4']; rfl
            have f1 := fun o => (HS3.out.alloc o).fz 1
            clear y1' y0' y2' y3' y4'
            go_wp2_with fail
            obtain ⟨W4, hW4⟩ : ∃ W4, W4 = (w3.alloc (Obj.cells #[] 47)).setCell ⟨bb, 1, none⟩ (.slice (some ⟨w3.heap.size, 0, none⟩) 0 0) := ⟨_, rfl⟩
            have HS4 : Hid (DSt B g len cap b off a z w bb y0 (.slice (some ⟨w3.heap.size, 0, none⟩) 0 0) [] W4) := by rw [hW4]; exact (HS3.out.alloc _).set1 (own_empty (heap_alloc_new w3 _) (by have := HS3.out.grown.size; omega)) (fun c hc => (List.not_mem_nil hc).elim)
            rw [← hW4]
            clear hW4 HCD d1 d1a hnB hpl hby
            go_loopw [4] (fun i wr => ∃ (k : Nat) (v : Value) (L : List ChangeL), i = .int .i64 (k : Int) ∧ k ≤ 61 ∧ L.length = k ∧ DSt B g len cap b off a z w bb y0 v L wr)
              (fun i _ => 62 - (intOf i).toNat)
            case atStart => exact ⟨0, _, [], rfl, by omega, rfl, HS4.out⟩
            case round =>
              obtain ⟨k, v, L, rfl, hk, hLk, hst⟩ := hrel
              have HS5 : Hid (DSt B g len cap b off a z w bb y0 v L wr) := hst
              have HLK : Hid (L.length = k) := hLk
              clear hst hLk
              go_wp2_with fail
              refine (below_any 2 (by omega) _ HS5.out.cur).mono ?_
              rintro e w5 ⟨x, rfl, hx, hc5, hg5⟩
              have HS6 : Hid (DSt B g len cap b off a z w bb y0 v L w5) := HS5.out.call hc5 hg5
              have hx0 := hx.1
              have hx1 := hx.2.2 (by omega)
              clear hc5 hg5 HS5 hx
              obtain ⟨na, nc, rfl⟩ := own_slice HS6.out.own
              by_cases hlt : (k : Int) < 40 + 20 + x
              · have hlt' : (k : Int) < 60 + x := by omega
                obtain ⟨M, hM⟩ : ∃ M : Nat, M = 100 + k := ⟨_, rfl⟩
                have hMw : IntKind.i64.wrap (100 + (k : Int)) = (M : Int) := by rw [IntWalk.i64_in _ (by omega)]; omega
                have hMb : M ≤ 1000000000 := by omega
                obtain ⟨S, hS⟩ : ∃ S : ByteArray, S = ⟨(Words.dec M).toArray⟩ := ⟨_, rfl⟩
                have hSz : S.size ≤ 10 := by rw [hS]; have := Words.dec_len M hMb; simpa [ByteArray.size] using this
                have HD : Hid (∀ wx : World, Calls Try.prog 48 #[.int .i64 (M : Int)] wx fun e w' => e = .returned (.string S) ∧ Below wx.heap.size wx w') := fun wx => by rw [hS]; exact dec_nat M hMb wx
                have HCF : Hid (∀ wx : World, (callFunc 48 #[.int .i64 (M : Int)]).run Try.prog wx = .ok (.enter 48 #[.int .i64 (M : Int)]) wx) := fun _ => by kernel_rfl
                obtain ⟨T, hT⟩ : ∃ T : ByteArray, T = ⟨#[107]⟩ ++ S := ⟨_, rfl⟩
                have hTz : T.size ≤ 11 := by rw [hT, ByteArray.size_append]; have : (⟨#[107]⟩ : ByteArray).size = 1 := rfl; omega
                have hnj : ¬ 9223372036854775807 < 1 + S.size := by omega
                have hnB := own_not HS6.out.own HS6.out.blk (by decide)
                have hpl : L.length + 1 ≤ maxLen := by have := HLK.out; unfold maxLen; omega
                have hby : (L.length + 1) * 40 ≤ 140737488355328 := by have := HLK.out; omega
                have HCD : Hid (DSt B g len cap b off a z w bb y0 (.slice na L.length nc) L w5.drew) := HS6.out.drew
                have d1 := HS6.out.c1
                clear hS hT hTz hM
                go_wp2_with fail
                go_region_law (first | (refine step_call (by rfl) 48 _ _ (by rfl) (.int .i64 (M : Int)) (by rfl) (.string S) _ HCF.out (HD.out _) ?_; rintro wa hba; have HSa : Hid (DSt B g len cap b off a z w bb y0 (.slice na L.length nc) L wa) := HCD.out.same hba; have cRa := HSa.out.c1; have cRb := fun o => (HSa.out.alloc o).c1; clear hba) | (refine step_append_lies _ (by rfl) _ _ _ (by rfl) w.heap.size 47 i0 _ 3 40 Try.underlying24 hi hz0 hz1 hz2 rfl (Nat.zero_lt_succ _) _ L.length (cellsChange L) (by rfl) ((HSa.out.alloc _).own) ⟨wa.heap.size, 0, none⟩ 1 1 [.string (⟨#[107]⟩ ++ S), .string ⟨#[]⟩, .bool false] (by rfl) (by rfl) (World.news_of_block (cs := #[.string (⟨#[107]⟩ ++ S), .string ⟨#[]⟩, .bool false]) (t := 47) (fr := (0, 0)) (heap_alloc_new wa _)) (change_news ⟨(⟨#[107]⟩ ++ S), ⟨#[]⟩, false⟩) (Nat.zero_lt_succ _) hpl hby (by have h2 := HSa.out.grown.size; simp; omega) (wa.heap.size + 1) (Array.size_push ..) ?_; intro g2 cap2 w8 hown8 hgrow hat hlt8; have hB8 := grown_keep' (HSa.out.alloc _).blk hgrow hnB; have cR8 := cell_of_row _ _ 1 _ _ _ hB8; have fR8 := frozen_of_row _ _ 1 _ _ hB8))
                all_goals
                  have HS9 : Hid (DSt B g len cap b off a z w bb y0 (.slice (some ⟨g2, 0, none⟩) (L.length + 1) cap2) (L ++ [⟨(⟨#[107]⟩ ++ S), ⟨#[]⟩, false⟩]) (w8.setCell ⟨bb, 1, none⟩ (.slice (some ⟨g2, 0, none⟩) (L.length + 1) cap2))) := (HSa.out.alloc _).app hgrow hown8 ⟨by show (⟨#[107]⟩ ++ S : ByteArray).size ≤ _; rw [ByteArray.size_append]; have : (⟨#[107]⟩ : ByteArray).size = 1 := rfl; omega, Nat.zero_le _⟩
                  clear hown8 hgrow hat hlt8 hB8
                  obtain ⟨W9, hW9⟩ : ∃ W9, W9 = w8.setCell ⟨bb, 1, none⟩ (.slice (some ⟨g2, 0, none⟩) (L.length + 1) cap2) := ⟨_, rfl⟩
                  rw [← hW9] at HS9 ⊢
                  clear hW9
                  clear hMw
                  go_wp2
                  go_roundw
                  case rel => exact ⟨k + 1, _, L ++ [⟨(⟨#[107]⟩ ++ S), ⟨#[]⟩, false⟩], by go_num, by omega, by have := HLK.out; simp; omega, HS9.out⟩
                  case measure => simp [intOf]; omega
              · have hlt' : ¬ (k : Int) < 60 + x := by omega
                have hu := HS6.out.up
                have b0 := HS6.out.c0
                have b1 := HS6.out.c1
                have r0 := cell_of_row _ _ 0 _ _ _ HS6.out.res
                have r1 := cell_of_row _ _ 1 _ _ _ HS6.out.res
                have rf0 := frozen_of_row _ _ 0 _ _ HS6.out.res
                have rf1 := frozen_of_row _ _ 1 _ _ HS6.out.res
                simp at r0 r1
                go_wp2
                obtain ⟨l0, l1⟩ := two_cell HS6.out.res (.int .i64 y0) (.slice na L.length nc)
                exact bodyPost_ret (v := .agg #[.int .i64 y0, .slice na L.length nc]) (by simp [results, Try.results21, go_sem, l0, l1]) rfl ⟨y0, .slice na L.length nc, L, rfl, own_set (own_set HS6.out.own _ _ _ (own_not HS6.out.own HS6.out.res (by decide))) _ _ _ (own_not HS6.out.own HS6.out.res (by decide)), by have := HLK.out; omega, HS6.out.lite, grown_new (grown_new HS6.out.grown (k := w.heap.size) (Nat.le_refl _) 0 _) (k := w.heap.size) (Nat.le_refl _) 1 _⟩
          · have e4 : (y == 4) = false := by simpa using y4'
            clear y1' y0' y2' y3' y4'
            have hu := HS3.out.up
            have b0 := HS3.out.c0
            have b1 := HS3.out.c1
            have r0 := cell_of_row _ _ 0 _ _ _ HS3.out.res
            have r1 := cell_of_row _ _ 1 _ _ _ HS3.out.res
            have rf0 := frozen_of_row _ _ 0 _ _ HS3.out.res
            have rf1 := frozen_of_row _ _ 1 _ _ HS3.out.res
            simp at r0 r1
            go_wp2
            obtain ⟨l0, l1⟩ := two_cell HS3.out.res (.int .i64 y0) (.slice va pre.length vc)
            exact bodyPost_ret (v := .agg #[.int .i64 y0, .slice va pre.length vc]) (by simp [results, Try.results21, go_sem, l0, l1]) rfl ⟨y0, .slice va pre.length vc, pre, rfl, own_set (own_set HS3.out.own _ _ _ (own_not HS3.out.own HS3.out.res (by decide))) _ _ _ (own_not HS3.out.own HS3.out.res (by decide)), by omega, HS3.out.lite, grown_new (grown_new HS3.out.grown (k := w.heap.size) (Nat.le_refl _) 0 _) (k := w.heap.size) (Nat.le_refl _) 1 _⟩
end Go.Proofs.Ytjheeeijikldpaa
