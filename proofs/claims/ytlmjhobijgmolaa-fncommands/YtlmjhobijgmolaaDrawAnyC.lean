/- Drawn commands, right or not, walked: l15Any, DrawCommandText. -/
import Derived.Test.YtlmjhobijgmolaaDrawC
namespace Go.Proofs.Ytlmjhobijgmolaa
open Go.RowKit
open Cmds (okC)
set_option linter.unusedVariables false
set_option linter.unusedSimpArgs false

def Small (c : CmdL) : Prop := c.key.size ≤ 30000 ∧ c.val.size ≤ 30000 ∧ c.old.size ≤ 30000
def AnyCmd (B g len cap b off : Nat) (a : Option Addr) (z : Nat → Int) (w : World) (e : Ending) (w' : World) : Prop := ∃ c : CmdL, e = .returned (cmdV c) ∧ Small c ∧ Cur B w' g a len cap b off z ∧ w.grownBy w' (some g)
def opI : Array Value := #[.int .i64 0, .int .i64 6, .int .i64 1, .int .i64 2]
def sesI : Array Value := #[.int .i64 (-1), .int .i64 0, .int .i64 100000, .int .i64 100001]
def keyS : Array Value := #[.string ⟨#[]⟩, .string ⟨#[49, 50, 51, 52, 53, 54, 55, 56, 57]⟩, .string ⟨#[49, 50, 51, 52, 53, 54, 55, 56, 57, 48]⟩]
theorem opI_ok : ∀ j, j < 4 → ∃ v : Int, opI[j]? = some (.int .i64 v) ∧ -9223372036854775808 ≤ v ∧ v ≤ 9223372036854775807 := by
  intro j hj
  match j, hj with
  | 0, _ | 1, _ | 2, _ | 3, _ => exact ⟨_, rfl, by omega, by omega⟩
theorem sesI_ok : ∀ j, j < 4 → ∃ v : Int, sesI[j]? = some (.int .i64 v) ∧ -9223372036854775808 ≤ v ∧ v ≤ 9223372036854775807 := by
  intro j hj
  match j, hj with
  | 0, _ | 1, _ | 2, _ | 3, _ => exact ⟨_, rfl, by omega, by omega⟩
theorem keyS_ok : ∀ j, j < 3 → ∃ T : ByteArray, keyS[j]? = some (.string T) ∧ T.size ≤ 10 := by
  intro j hj
  match j, hj with
  | 0, _ | 1, _ | 2, _ => exact ⟨_, rfl, by decide⟩
theorem result32 {w : World} {g : Nat} {A C : Array Value} (hg : w.heap[g]? = some (.cells C 26 (0, 0))) (hs : A.size = 6) {tmps : Array Value} (ht : tmps.getD 2 undef = .pointer (some ⟨g, 0, none⟩)) : (results Try.f32 tmps).run Try.prog (w.setRow g A) = .ok (.agg A) (w.setRow g A) := by
  have h := run_loadVar_agg (P := Try.prog) Try.isAgg26' Try.sizeOf26' (row_size (A := A) hg) hs
  have ht' : tmps[2]?.getD undef = .pointer (some ⟨g, 0, none⟩) := by simpa using ht
  simp [results, Try.results32, ht', asAddr, h]
set_option maxHeartbeats 8000000 in
set_option maxRecDepth 100000 in
theorem any_any {B g len cap b off : Nat} {a : Option Addr} {z : Nat → Int} (w : World) (hc : Cur B w g a len cap b off z) :
    Calls Try.prog 32 #[.pointer (some ⟨g, 0, none⟩)] w (AnyCmd B g len cap b off a z w) := by
  have hlt := hc.lt
  obtain ⟨W0, hW0⟩ : ∃ W0, W0 = w.alloc (Obj.cells #[.int .i64 0, .int .i64 0, .int .i64 0, .string ⟨#[]⟩, .string ⟨#[]⟩, .string ⟨#[]⟩] 26) := ⟨_, rfl⟩
  have HC0 : Hid (Cur B W0 g a len cap b off z) := by rw [hW0]; exact hc.alloc _
  have HZ0 : Hid (W0.heap[w.heap.size]? = some (.cells #[.int .i64 0, .int .i64 0, .int .i64 0, .string ⟨#[]⟩, .string ⟨#[]⟩, .string ⟨#[]⟩] 26 (0, 0))) := by show _ = _; rw [hW0]; exact heap_alloc_new w _
  have HG0 : Hid (w.grownBy W0 (some g)) := by rw [hW0]; exact grown_alloc _ _
  clear hc
  go_enter Try.func32, Try.ntmps32
  go_wp2_with fail
  rw [← hW0]
  clear hW0
  refine (cmd_any W0 HC0.out).mono ?_
  rintro e w1 ⟨c, rfl, hD, hc1, hg1⟩
  have HS : Hid (c.key.size ≤ 1 ∧ c.val.size ≤ 5 ∧ c.old.size ≤ 5) := ⟨hD.key, hD.val, hD.old⟩
  clear hD
  have hz1 := grown_keep HZ0.out hg1 (by omega)
  have hzl : w.heap.size < w1.heap.size := (Array.getElem?_eq_some_iff.1 hz1).1
  obtain ⟨W2, hW2⟩ : ∃ W2, W2 = w1.alloc (Obj.cells #[.int .i64 c.op, .int .i64 c.ses, .int .i64 c.seq, .string c.key, .string c.val, .string c.old] 26) := ⟨_, rfl⟩
  obtain ⟨xb, hxb⟩ : ∃ xb, xb = w1.heap.size := ⟨_, rfl⟩
  have HX2 : Hid (DX B g len cap b off a z w xb #[.int .i64 c.op, .int .i64 c.ses, .int .i64 c.seq, .string c.key, .string c.val, .string c.old] W2) := by
    refine ⟨?_, ?_, ?_, ?_, hlt, by omega⟩
    · rw [hW2]; exact hc1.alloc _
    · rw [hW2, hxb]; exact heap_alloc_new w1 _
    · rw [hW2, Below.heap_alloc _ _ _ hzl]; exact hz1
    · rw [hW2]; exact (HG0.out.trans hg1).trans (grown_alloc _ _)
  clear hc1 hg1 hz1 HZ0 HG0 HC0 hzl
  unfold cmdV
  go_wp2_with fail
  rw [← hW2, ← hxb]
  clear hW2 hxb
  refine (below_any 30 (by omega) W2 HX2.out.cur).mono ?_
  rintro e w3 ⟨y, rfl, hy, hc3, hg3⟩
  obtain ⟨hy0, _, hy2⟩ := hy
  have hy3 := hy2 (by omega)
  clear hy2
  have HX3 : Hid (DX B g len cap b off a z w xb #[.int .i64 c.op, .int .i64 c.ses, .int .i64 c.seq, .string c.key, .string c.val, .string c.old] w3) := HX2.out.call hc3 hg3
  have HONE : Hid (∀ (p q r : Int) (k v o : ByteArray), ∀ x ∈ (#[.int .i64 p, .int .i64 q, .int .i64 r, .string k, .string v, .string o] : Array Value).toList, x.oneCell' = true) := six_one
  clear hc3 hg3 HX2
  by_cases y0 : y = 0
  · subst y0
    have HPK : Hid (Calls Try.prog 43 #[.pointer (some ⟨g, 0, none⟩), .slice (some ⟨w3.heap.size, 0, none⟩) 4 4] (w3.alloc (.cells opI 3)) fun e w' => ∃ x : Int, e = .returned (.int .i64 x) ∧ -9223372036854775808 ≤ x ∧ x ≤ 9223372036854775807 ∧ Cur B w' g a len cap b off z ∧ w3.grownBy w' (some g)) := pickInt_new w3 HX3.out.cur opI 4 (by omega) (by omega) opI_ok
    unfold opI at HPK
    go_wp2_with fail
    refine Calls.mono HPK.out ?_
    rintro e w4 ⟨v, rfl, _, _, hc4, hg4⟩
    have HX4 : Hid (DX B g len cap b off a z w xb #[.int .i64 c.op, .int .i64 c.ses, .int .i64 c.seq, .string c.key, .string c.val, .string c.old] w4) := HX3.out.call hc4 hg4
    have HX4b : Hid (DX B g len cap b off a z w xb #[.int .i64 v, .int .i64 c.ses, .int .i64 c.seq, .string c.key, .string c.val, .string c.old] (w4.setCell ⟨xb, 0, none⟩ (.int .i64 v))) := HX4.out.set 0 _
    clear hc4 hg4
    have x0 := cell_of_row _ _ 0 _ _ _ HX4.out.x
    have xf0 := frozen_of_row _ _ 0 _ _ HX4.out.x
    have x1 := cell_of_row _ _ 1 _ _ _ HX4.out.x
    have xf1 := frozen_of_row _ _ 1 _ _ HX4.out.x
    have x2 := cell_of_row _ _ 2 _ _ _ HX4.out.x
    have xf2 := frozen_of_row _ _ 2 _ _ HX4.out.x
    have x3 := cell_of_row _ _ 3 _ _ _ HX4.out.x
    have xf3 := frozen_of_row _ _ 3 _ _ HX4.out.x
    have x4 := cell_of_row _ _ 4 _ _ _ HX4.out.x
    have xf4 := frozen_of_row _ _ 4 _ _ HX4.out.x
    have x5 := cell_of_row _ _ 5 _ _ _ HX4.out.x
    have xf5 := frozen_of_row _ _ 5 _ _ HX4.out.x
    simp at x0 x1 x2 x3 x4 x5
    go_wp2_with (first | (refine wpList_loadA Try.isAgg26' Try.sizeOf26' rfl _ rfl xb #[.int .i64 v, .int .i64 c.ses, .int .i64 c.seq, .string c.key, .string c.val, .string c.old] 26 rfl HX4b.out.x rfl ?_) | (refine wpList_storeA Try.sizeOf26' rfl _ _ rfl w.heap.size #[.int .i64 v, .int .i64 c.ses, .int .i64 c.seq, .string c.key, .string c.val, .string c.old] #[.int .i64 0, .int .i64 0, .int .i64 0, .string ⟨#[]⟩, .string ⟨#[]⟩, .string ⟨#[]⟩] 26 rfl rfl HX4b.out.zz rfl rfl (HONE.out (v) (c.ses) (c.seq) (c.key) (c.val) (c.old)) ?_) | fail)
    obtain ⟨r1, r2⟩ := HX4b.out.done #[.int .i64 v, .int .i64 c.ses, .int .i64 c.seq, .string c.key, .string c.val, .string c.old]
    exact bodyPost_ret (result32 HX4b.out.zz rfl rfl) rfl ⟨⟨v, c.ses, c.seq, c.key, c.val, c.old⟩, rfl, ⟨by have := HS.out; simp only; omega, by have := HS.out; simp only; omega, by have := HS.out; simp only; omega⟩, r1, r2⟩
  by_cases y1 : y = 1
  · subst y1
    have HPK : Hid (Calls Try.prog 43 #[.pointer (some ⟨g, 0, none⟩), .slice (some ⟨w3.heap.size, 0, none⟩) 4 4] (w3.alloc (.cells sesI 3)) fun e w' => ∃ x : Int, e = .returned (.int .i64 x) ∧ -9223372036854775808 ≤ x ∧ x ≤ 9223372036854775807 ∧ Cur B w' g a len cap b off z ∧ w3.grownBy w' (some g)) := pickInt_new w3 HX3.out.cur sesI 4 (by omega) (by omega) sesI_ok
    unfold sesI at HPK
    go_wp2_with fail
    refine Calls.mono HPK.out ?_
    rintro e w4 ⟨v, rfl, _, _, hc4, hg4⟩
    have HX4 : Hid (DX B g len cap b off a z w xb #[.int .i64 c.op, .int .i64 c.ses, .int .i64 c.seq, .string c.key, .string c.val, .string c.old] w4) := HX3.out.call hc4 hg4
    have HX4b : Hid (DX B g len cap b off a z w xb #[.int .i64 c.op, .int .i64 v, .int .i64 c.seq, .string c.key, .string c.val, .string c.old] (w4.setCell ⟨xb, 1, none⟩ (.int .i64 v))) := HX4.out.set 1 _
    clear hc4 hg4
    have x0 := cell_of_row _ _ 0 _ _ _ HX4.out.x
    have xf0 := frozen_of_row _ _ 0 _ _ HX4.out.x
    have x1 := cell_of_row _ _ 1 _ _ _ HX4.out.x
    have xf1 := frozen_of_row _ _ 1 _ _ HX4.out.x
    have x2 := cell_of_row _ _ 2 _ _ _ HX4.out.x
    have xf2 := frozen_of_row _ _ 2 _ _ HX4.out.x
    have x3 := cell_of_row _ _ 3 _ _ _ HX4.out.x
    have xf3 := frozen_of_row _ _ 3 _ _ HX4.out.x
    have x4 := cell_of_row _ _ 4 _ _ _ HX4.out.x
    have xf4 := frozen_of_row _ _ 4 _ _ HX4.out.x
    have x5 := cell_of_row _ _ 5 _ _ _ HX4.out.x
    have xf5 := frozen_of_row _ _ 5 _ _ HX4.out.x
    simp at x0 x1 x2 x3 x4 x5
    go_wp2_with (first | (refine wpList_loadA Try.isAgg26' Try.sizeOf26' rfl _ rfl xb #[.int .i64 c.op, .int .i64 v, .int .i64 c.seq, .string c.key, .string c.val, .string c.old] 26 rfl HX4b.out.x rfl ?_) | (refine wpList_storeA Try.sizeOf26' rfl _ _ rfl w.heap.size #[.int .i64 c.op, .int .i64 v, .int .i64 c.seq, .string c.key, .string c.val, .string c.old] #[.int .i64 0, .int .i64 0, .int .i64 0, .string ⟨#[]⟩, .string ⟨#[]⟩, .string ⟨#[]⟩] 26 rfl rfl HX4b.out.zz rfl rfl (HONE.out (c.op) (v) (c.seq) (c.key) (c.val) (c.old)) ?_) | fail)
    obtain ⟨r1, r2⟩ := HX4b.out.done #[.int .i64 c.op, .int .i64 v, .int .i64 c.seq, .string c.key, .string c.val, .string c.old]
    exact bodyPost_ret (result32 HX4b.out.zz rfl rfl) rfl ⟨⟨c.op, v, c.seq, c.key, c.val, c.old⟩, rfl, ⟨by have := HS.out; simp only; omega, by have := HS.out; simp only; omega, by have := HS.out; simp only; omega⟩, r1, r2⟩
  by_cases y2 : y = 2
  · subst y2
    have HPK : Hid (Calls Try.prog 44 #[.pointer (some ⟨g, 0, none⟩), .slice (some ⟨w3.heap.size, 0, none⟩) 3 3] (w3.alloc (.cells keyS 9)) fun e w' => ∃ T : ByteArray, e = .returned (.string T) ∧ T.size ≤ 10 ∧ Cur B w' g a len cap b off z ∧ w3.grownBy w' (some g)) := pick_new (fun T => T.size ≤ 10) w3 HX3.out.cur keyS 3 (by omega) (by omega) keyS_ok
    unfold keyS at HPK
    go_wp2_with fail
    refine Calls.mono HPK.out ?_
    rintro e w4 ⟨v, rfl, hv, hc4, hg4⟩
    have HX4 : Hid (DX B g len cap b off a z w xb #[.int .i64 c.op, .int .i64 c.ses, .int .i64 c.seq, .string c.key, .string c.val, .string c.old] w4) := HX3.out.call hc4 hg4
    have HX4b : Hid (DX B g len cap b off a z w xb #[.int .i64 c.op, .int .i64 c.ses, .int .i64 c.seq, .string v, .string c.val, .string c.old] (w4.setCell ⟨xb, 3, none⟩ (.string v))) := HX4.out.set 3 _
    clear hc4 hg4
    have x0 := cell_of_row _ _ 0 _ _ _ HX4.out.x
    have xf0 := frozen_of_row _ _ 0 _ _ HX4.out.x
    have x1 := cell_of_row _ _ 1 _ _ _ HX4.out.x
    have xf1 := frozen_of_row _ _ 1 _ _ HX4.out.x
    have x2 := cell_of_row _ _ 2 _ _ _ HX4.out.x
    have xf2 := frozen_of_row _ _ 2 _ _ HX4.out.x
    have x3 := cell_of_row _ _ 3 _ _ _ HX4.out.x
    have xf3 := frozen_of_row _ _ 3 _ _ HX4.out.x
    have x4 := cell_of_row _ _ 4 _ _ _ HX4.out.x
    have xf4 := frozen_of_row _ _ 4 _ _ HX4.out.x
    have x5 := cell_of_row _ _ 5 _ _ _ HX4.out.x
    have xf5 := frozen_of_row _ _ 5 _ _ HX4.out.x
    simp at x0 x1 x2 x3 x4 x5
    go_wp2_with (first | (refine wpList_loadA Try.isAgg26' Try.sizeOf26' rfl _ rfl xb #[.int .i64 c.op, .int .i64 c.ses, .int .i64 c.seq, .string v, .string c.val, .string c.old] 26 rfl HX4b.out.x rfl ?_) | (refine wpList_storeA Try.sizeOf26' rfl _ _ rfl w.heap.size #[.int .i64 c.op, .int .i64 c.ses, .int .i64 c.seq, .string v, .string c.val, .string c.old] #[.int .i64 0, .int .i64 0, .int .i64 0, .string ⟨#[]⟩, .string ⟨#[]⟩, .string ⟨#[]⟩] 26 rfl rfl HX4b.out.zz rfl rfl (HONE.out (c.op) (c.ses) (c.seq) (v) (c.val) (c.old)) ?_) | fail)
    obtain ⟨r1, r2⟩ := HX4b.out.done #[.int .i64 c.op, .int .i64 c.ses, .int .i64 c.seq, .string v, .string c.val, .string c.old]
    exact bodyPost_ret (result32 HX4b.out.zz rfl rfl) rfl ⟨⟨c.op, c.ses, c.seq, v, c.val, c.old⟩, rfl, ⟨by have := HS.out; simp only; omega, by have := HS.out; simp only; omega, by have := HS.out; simp only; omega⟩, r1, r2⟩
  by_cases y3 : y = 3
  · subst y3
    go_wp2_with fail
    refine (below_any 2 (by omega) w3 HX3.out.cur).mono ?_
    rintro e w5 ⟨u, rfl, hu, hc5, hg5⟩
    obtain ⟨hu0, _, hu2⟩ := hu
    have hu3 := hu2 (by omega)
    clear hu2
    have HX5 : Hid (DX B g len cap b off a z w xb #[.int .i64 c.op, .int .i64 c.ses, .int .i64 c.seq, .string c.key, .string c.val, .string c.old] w5) := HX3.out.call hc5 hg5
    clear hc5 hg5
    go_wp2_with fail
    refine (long_int (12 + u) (by omega) (by omega) w5).mono ?_
    rintro e w4 ⟨v, rfl, hv, hb4⟩
    have hg4 : w5.grownBy w4 (some g) := own_below' hb4
    have hc4 : Cur B w4 g a len cap b off z := HX5.out.cur.kept hg4 (fun r e => Or.inr (by cases e; rfl)) (hb4.block _ HX5.out.cur.lt)
    have HX4 : Hid (DX B g len cap b off a z w xb #[.int .i64 c.op, .int .i64 c.ses, .int .i64 c.seq, .string c.key, .string c.val, .string c.old] w4) := HX5.out.call hc4 hg4
    have HX4b : Hid (DX B g len cap b off a z w xb #[.int .i64 c.op, .int .i64 c.ses, .int .i64 c.seq, .string c.key, .string v, .string c.old] (w4.setCell ⟨xb, 4, none⟩ (.string v))) := HX4.out.set 4 _
    clear hc4 hg4
    have x0 := cell_of_row _ _ 0 _ _ _ HX4.out.x
    have xf0 := frozen_of_row _ _ 0 _ _ HX4.out.x
    have x1 := cell_of_row _ _ 1 _ _ _ HX4.out.x
    have xf1 := frozen_of_row _ _ 1 _ _ HX4.out.x
    have x2 := cell_of_row _ _ 2 _ _ _ HX4.out.x
    have xf2 := frozen_of_row _ _ 2 _ _ HX4.out.x
    have x3 := cell_of_row _ _ 3 _ _ _ HX4.out.x
    have xf3 := frozen_of_row _ _ 3 _ _ HX4.out.x
    have x4 := cell_of_row _ _ 4 _ _ _ HX4.out.x
    have xf4 := frozen_of_row _ _ 4 _ _ HX4.out.x
    have x5 := cell_of_row _ _ 5 _ _ _ HX4.out.x
    have xf5 := frozen_of_row _ _ 5 _ _ HX4.out.x
    simp at x0 x1 x2 x3 x4 x5
    go_wp2_with (first | (refine wpList_loadA Try.isAgg26' Try.sizeOf26' rfl _ rfl xb #[.int .i64 c.op, .int .i64 c.ses, .int .i64 c.seq, .string c.key, .string v, .string c.old] 26 rfl HX4b.out.x rfl ?_) | (refine wpList_storeA Try.sizeOf26' rfl _ _ rfl w.heap.size #[.int .i64 c.op, .int .i64 c.ses, .int .i64 c.seq, .string c.key, .string v, .string c.old] #[.int .i64 0, .int .i64 0, .int .i64 0, .string ⟨#[]⟩, .string ⟨#[]⟩, .string ⟨#[]⟩] 26 rfl rfl HX4b.out.zz rfl rfl (HONE.out (c.op) (c.ses) (c.seq) (c.key) (v) (c.old)) ?_) | fail)
    obtain ⟨r1, r2⟩ := HX4b.out.done #[.int .i64 c.op, .int .i64 c.ses, .int .i64 c.seq, .string c.key, .string v, .string c.old]
    exact bodyPost_ret (result32 HX4b.out.zz rfl rfl) rfl ⟨⟨c.op, c.ses, c.seq, c.key, v, c.old⟩, rfl, ⟨by have := HS.out; simp only; omega, by have := HS.out; simp only; omega, by have := HS.out; simp only; omega⟩, r1, r2⟩
  by_cases y4 : y = 4
  · subst y4
    have HX4b : Hid (DX B g len cap b off a z w xb #[.int .i64 c.op, .int .i64 c.ses, .int .i64 c.seq, .string c.key, .string c.val, .string ⟨#[120]⟩] (w3.setCell ⟨xb, 5, none⟩ (.string ⟨#[120]⟩))) := HX3.out.set 5 _
    have x0 := cell_of_row _ _ 0 _ _ _ HX3.out.x
    have xf0 := frozen_of_row _ _ 0 _ _ HX3.out.x
    have x1 := cell_of_row _ _ 1 _ _ _ HX3.out.x
    have xf1 := frozen_of_row _ _ 1 _ _ HX3.out.x
    have x2 := cell_of_row _ _ 2 _ _ _ HX3.out.x
    have xf2 := frozen_of_row _ _ 2 _ _ HX3.out.x
    have x3 := cell_of_row _ _ 3 _ _ _ HX3.out.x
    have xf3 := frozen_of_row _ _ 3 _ _ HX3.out.x
    have x4 := cell_of_row _ _ 4 _ _ _ HX3.out.x
    have xf4 := frozen_of_row _ _ 4 _ _ HX3.out.x
    have x5 := cell_of_row _ _ 5 _ _ _ HX3.out.x
    have xf5 := frozen_of_row _ _ 5 _ _ HX3.out.x
    simp at x0 x1 x2 x3 x4 x5
    go_wp2_with (first | (refine wpList_loadA Try.isAgg26' Try.sizeOf26' rfl _ rfl xb #[.int .i64 c.op, .int .i64 c.ses, .int .i64 c.seq, .string c.key, .string c.val, .string ⟨#[120]⟩] 26 rfl HX4b.out.x rfl ?_) | (refine wpList_storeA Try.sizeOf26' rfl _ _ rfl w.heap.size #[.int .i64 c.op, .int .i64 c.ses, .int .i64 c.seq, .string c.key, .string c.val, .string ⟨#[120]⟩] #[.int .i64 0, .int .i64 0, .int .i64 0, .string ⟨#[]⟩, .string ⟨#[]⟩, .string ⟨#[]⟩] 26 rfl rfl HX4b.out.zz rfl rfl (HONE.out (c.op) (c.ses) (c.seq) (c.key) (c.val) (⟨#[120]⟩)) ?_) | fail)
    obtain ⟨r1, r2⟩ := HX4b.out.done #[.int .i64 c.op, .int .i64 c.ses, .int .i64 c.seq, .string c.key, .string c.val, .string ⟨#[120]⟩]
    exact bodyPost_ret (result32 HX4b.out.zz rfl rfl) rfl ⟨⟨c.op, c.ses, c.seq, c.key, c.val, ⟨#[120]⟩⟩, rfl, ⟨by have := HS.out; simp only; omega, by have := HS.out; simp only; omega, by show (1 : Nat) ≤ 30000; omega⟩, r1, r2⟩
  have e0 : (y == 0) = false := by simp [y0]
  have e1 : (y == 1) = false := by simp [y1]
  have e2 : (y == 2) = false := by simp [y2]
  have e3 : (y == 3) = false := by simp [y3]
  have e4 : (y == 4) = false := by simp [y4]
  clear y0 y1 y2 y3 y4
  go_wp2_with (first | (refine wpList_loadA Try.isAgg26' Try.sizeOf26' rfl _ rfl xb #[.int .i64 c.op, .int .i64 c.ses, .int .i64 c.seq, .string c.key, .string c.val, .string c.old] 26 rfl HX3.out.x rfl ?_) | (refine wpList_storeA Try.sizeOf26' rfl _ _ rfl w.heap.size #[.int .i64 c.op, .int .i64 c.ses, .int .i64 c.seq, .string c.key, .string c.val, .string c.old] #[.int .i64 0, .int .i64 0, .int .i64 0, .string ⟨#[]⟩, .string ⟨#[]⟩, .string ⟨#[]⟩] 26 rfl rfl HX3.out.zz rfl rfl (HONE.out (c.op) (c.ses) (c.seq) (c.key) (c.val) (c.old)) ?_) | fail)
  obtain ⟨r1, r2⟩ := HX3.out.done #[.int .i64 c.op, .int .i64 c.ses, .int .i64 c.seq, .string c.key, .string c.val, .string c.old]
  exact bodyPost_ret (result32 HX3.out.zz rfl rfl) rfl ⟨⟨c.op, c.ses, c.seq, c.key, c.val, c.old⟩, rfl, ⟨by have := HS.out; simp only; omega, by have := HS.out; simp only; omega, by have := HS.out; simp only; omega⟩, r1, r2⟩
theorem result17 {w : World} {g : Nat} {A C : Array Value} (hg : w.heap[g]? = some (.cells C 26 (0, 0))) (hs : A.size = 6) {tmps : Array Value} (ht : tmps.getD 2 undef = .pointer (some ⟨g, 0, none⟩)) : (results Try.f17 tmps).run Try.prog (w.setRow g A) = .ok (.agg A) (w.setRow g A) := by
  have h := run_loadVar_agg (P := Try.prog) Try.isAgg26' Try.sizeOf26' (row_size (A := A) hg) hs
  have ht' : tmps[2]?.getD undef = .pointer (some ⟨g, 0, none⟩) := by simpa using ht
  simp [results, Try.results17, ht', asAddr, h]
set_option maxHeartbeats 2000000 in
set_option maxRecDepth 100000 in
theorem drawCmd_any {len cap b off : Nat} {a : Option Addr} {z : Nat → Int} (w : World) (hc : Code w.heap.size w a len b off z) :
    Calls Try.prog 17 #[.slice a len cap] w fun e w' => ∃ c : CmdL, e = .returned (cmdV c) ∧ Small c ∧ Below w.heap.size w w' := by
  obtain ⟨W0, hW0⟩ : ∃ W0, W0 = w.alloc (Obj.cells #[.int .i64 0, .int .i64 0, .int .i64 0, .string ⟨#[]⟩, .string ⟨#[]⟩, .string ⟨#[]⟩] 26) := ⟨_, rfl⟩
  have hb : Below w.heap.size w W0 := by rw [hW0]; exact (Below.refl _ _).alloc (Nat.le_refl _) _
  have HC0 : Hid (Code w.heap.size W0 a len b off z) := hc.below hb
  have HZ0 : Hid (W0.heap[w.heap.size]? = some (.cells #[.int .i64 0, .int .i64 0, .int .i64 0, .string ⟨#[]⟩, .string ⟨#[]⟩, .string ⟨#[]⟩] 26 (0, 0))) := by rw [hW0]; exact heap_alloc_new w _
  have HB0 : Hid (Below w.heap.size w W0) := hb
  clear hc hb
  go_enter Try.func17, Try.ntmps17
  go_wp2_with fail
  rw [← hW0]
  clear hW0
  refine (new_any _ HB0.out.size HC0.out).mono ?_
  rintro e w1 ⟨rfl, hc1, hb1⟩
  have HZ1 : Hid (w1.heap[w.heap.size]? = some (.cells #[.int .i64 0, .int .i64 0, .int .i64 0, .string ⟨#[]⟩, .string ⟨#[]⟩, .string ⟨#[]⟩] 26 (0, 0))) := (hb1.block _ (Array.getElem?_eq_some_iff.1 HZ0.out).1).trans HZ0.out
  have HB1 : Hid (Below w.heap.size w w1) := HB0.out.trans (hb1.mono HB0.out.size)
  have HC1 : Hid (Cur w.heap.size w1 W0.heap.size a len cap b off z) := hc1
  have hz0 : w.heap.size < W0.heap.size := (Array.getElem?_eq_some_iff.1 HZ0.out).1
  obtain ⟨g, hg⟩ : ∃ g, g = W0.heap.size := ⟨_, rfl⟩
  rw [← hg] at HC1 hz0
  rw [← hg]
  clear hc1 hb1 HC0 HZ0 HB0 hg
  go_wp2_with fail
  refine (any_any _ HC1.out).mono ?_
  rintro e w2 ⟨c, rfl, hsm, hc2, hg2⟩
  have HZ2 : Hid (w2.heap[w.heap.size]? = some (.cells #[.int .i64 0, .int .i64 0, .int .i64 0, .string ⟨#[]⟩, .string ⟨#[]⟩, .string ⟨#[]⟩] 26 (0, 0))) := grown_keep HZ1.out hg2 (by omega)
  have HB2 : Hid (Below w.heap.size w w2) := HB1.out.grown hg2 HB1.out.size (fun k e => by cases e; omega)
  have HONE : Hid (∀ v ∈ (#[.int .i64 c.op, .int .i64 c.ses, .int .i64 c.seq, .string c.key, .string c.val, .string c.old] : Array Value).toList, v.oneCell' = true) := six_one _ _ _ _ _ _
  have HSM : Hid (Small c) := hsm
  clear hsm hc2 hg2 HZ1 HB1 HC1
  unfold cmdV
  go_wp2_with (first | (refine wpList_storeA Try.sizeOf26' rfl _ _ rfl w.heap.size #[.int .i64 c.op, .int .i64 c.ses, .int .i64 c.seq, .string c.key, .string c.val, .string c.old] #[.int .i64 0, .int .i64 0, .int .i64 0, .string ⟨#[]⟩, .string ⟨#[]⟩, .string ⟨#[]⟩] 26 rfl rfl HZ2.out rfl rfl HONE.out ?_) | fail)
  exact bodyPost_ret (result17 HZ2.out rfl rfl) rfl ⟨c, rfl, HSM.out, HB2.out.grown (grown_setRow w2 w.heap.size #[.int .i64 c.op, .int .i64 c.ses, .int .i64 c.seq, .string c.key, .string c.val, .string c.old]) HB2.out.size (fun k e => by cases e; exact Nat.le_refl _)⟩
end Go.Proofs.Ytlmjhobijgmolaa
