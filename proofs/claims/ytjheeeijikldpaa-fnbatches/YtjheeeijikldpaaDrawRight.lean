/- Batches are drawn, walked: l05KeyOf, l05Right: what comes is within its bounds. -/
import Derived.Test.YtjheeeijikldpaaDrawMore
import Derived.Test.YtjheeeijikldpaaReadBatch
import Derived.Test.YtjheeeijikldpaaSpecRead
namespace Go.Proofs.Ytjheeeijikldpaa
open Go.RowKit
set_option linter.unusedVariables false

def keys7 : Array Value := #[.string ⟨#[107, 97]⟩, .string ⟨#[107, 98]⟩, .string ⟨#[107, 99]⟩, .string ⟨#[110]⟩, .string ⟨#[115, 49]⟩, .string ⟨#[115, 50]⟩, .string ⟨#[107, 100]⟩]
theorem keys7_ok : ∀ j, j < 7 → ∃ S : ByteArray, keys7[j]? = some (.string S) ∧ S.size ≤ 2 := by
  intro j hj
  have hc : j = 0 ∨ j = 1 ∨ j = 2 ∨ j = 3 ∨ j = 4 ∨ j = 5 ∨ j = 6 := by omega
  rcases hc with rfl | rfl | rfl | rfl | rfl | rfl | rfl <;> exact ⟨_, rfl, by simp [ByteArray.size]⟩
set_option maxHeartbeats 1000000 in
set_option maxRecDepth 100000 in
theorem keyOf_any {B g len cap b off : Nat} {a : Option Addr} {z : Nat → Int} (w : World) (hc : Cur B w g a len cap b off z) :
    Calls Try.prog 62 #[.pointer (some ⟨g, 0, none⟩)] w fun e w' => ∃ S : ByteArray, e = .returned (.string S) ∧ S.size ≤ 2 ∧ Cur B w' g a len cap b off z ∧ w.grownBy w' (some g) := by
  have HC : Hid (Cur B w g a len cap b off z) := hc
  clear hc
  go_enter Try.func62, Try.ntmps62
  go_wp2_with fail
  refine (pick_new _ w HC.out keys7 7 (by omega) (by omega) keys7_ok).mono ?_
  rintro e w2 ⟨S, rfl, hs, hc2, hg2⟩
  have HS : Hid (_ ≤ _) := hs
  clear hs
  go_wp2
  go_ret
  exact ⟨S, rfl, HS.out, hc2, hg2⟩

/-- What a drawing of a batch holds: the cursor, the variable b, the result's, the changes so far. -/
structure DSt (B g len cap b off : Nat) (a : Option Addr) (z : Nat → Int) (w : World) (bb : Nat) (st : Int) (v : Value) (pre : List ChangeL) (W : World) : Prop where
  cur : Cur B W g a len cap b off z
  blk : W.heap[bb]? = some (.cells #[.int .i64 st, v] 26 (0, 0))
  res : W.heap[w.heap.size]? = some (.cells #[.int .i64 0, .slice none 0 0] 26 (0, 0))
  own : W.ownsRow w.heap.size 47 3 v pre.length (cellsChange pre)
  grown : w.grownBy W (some g)
  up : g < w.heap.size ∧ w.heap.size < bb
  lite : ∀ c ∈ pre, smallChange 2097152 c
section
variable {B g len cap b off bb : Nat} {a : Option Addr} {z : Nat → Int} {w W W' : World} {st : Int} {v : Value} {pre : List ChangeL}
theorem Cur.blk {B g len cap b off : Nat} {a : Option Addr} {z : Nat → Int} {W : World} (h : Cur B W g a len cap b off z) : ∃ cs, W.heap[g]? = some (.cells cs 75 (0, 0)) := by
  obtain ⟨_, _, _, _, i, hh, _, hb⟩ := h
  exact ⟨_, hb⟩
theorem DSt.call (h : DSt B g len cap b off a z w bb st v pre W) (hc : Cur B W' g a len cap b off z) (hg : W.grownBy W' (some g)) : DSt B g len cap b off a z w bb st v pre W' := by
  have hu := h.up
  obtain ⟨cs, hcs⟩ := h.cur.blk
  exact ⟨hc, grown_keep h.blk hg (by omega), grown_keep h.res hg (by omega), h.own.kept hg (Or.inr (own_not h.own hcs (by decide))), h.grown.trans hg, hu, h.lite⟩
theorem DSt.same (h : DSt B g len cap b off a z w bb st v pre W) (hb : Below W.heap.size W W') : DSt B g len cap b off a z w bb st v pre W' := by
  have hu := h.up
  have hl := h.cur.lt
  refine h.call ?_ (own_below' hb)
  have hc := h.cur
  obtain ⟨h1, h2, h3, h4, i, hh, h5, h6⟩ := hc
  exact Cur.step h1 h2 h3 h4 (own_below' hb) h5 ((hb.block g hl).trans h6)
theorem DSt.alloc (h : DSt B g len cap b off a z w bb st v pre W) (o : Obj) : DSt B g len cap b off a z w bb st v pre (W.alloc o) := h.same ((Below.refl _ _).alloc (Nat.le_refl _) _)
theorem Cur.far {B g len cap b off : Nat} {a : Option Addr} {z : Nat → Int} {W : World} (hc : Cur B W g a len cap b off z) {k : Nat} (hk : g < k) (j : Nat) (v : Value) : Cur B (W.setCell ⟨k, j, none⟩ v) g a len cap b off z :=
  hc.kept (grown_set W k j v) (fun r e => Or.inl (by cases e; have := hc.1; omega)) (Below.heap_setCell W ⟨k, j, none⟩ v g (by simp; omega))
theorem DSt.far (h : DSt B g len cap b off a z w bb st v pre W) {q : Nat} (hq : bb < q) (hne : v.ownBlock ≠ some q) (j : Nat) (u : Value) : DSt B g len cap b off a z w bb st v pre (W.setCell ⟨q, j, none⟩ u) := by
  have hu := h.up
  exact ⟨h.cur.far (by omega) _ _, set_far h.blk (by omega) _ _, set_far h.res (by omega) _ _, own_set h.own _ _ _ hne, grown_new h.grown (by omega) _ _, hu, h.lite⟩
theorem DSt.set1 (h : DSt B g len cap b off a z w bb st v pre W) {v' : Value} {l : List ChangeL} (hown : W.ownsRow w.heap.size 47 3 v' l.length (cellsChange l)) (hl : ∀ c ∈ l, smallChange 2097152 c) : DSt B g len cap b off a z w bb st v' l (W.setCell ⟨bb, 1, none⟩ v') := by
  have hu := h.up
  have hblk : (W.setCell ⟨bb, 1, none⟩ v').heap[bb]? = some (.cells #[.int .i64 st, v'] 26 (0, 0)) := by
    have := heap_setCell_same W bb 1 _ 26 v' h.blk
    simpa using this
  exact ⟨h.cur.far (by omega) _ _, hblk, set_far h.res (by omega) _ _, own_set hown _ _ _ (own_not hown h.blk (by decide)), grown_new h.grown (by omega) _ _, hu, hl⟩
theorem DSt.set0 (h : DSt B g len cap b off a z w bb st v pre W) (st' : Int) : DSt B g len cap b off a z w bb st' v pre (W.setCell ⟨bb, 0, none⟩ (.int .i64 st')) := by
  have hu := h.up
  have hblk : (W.setCell ⟨bb, 0, none⟩ (.int .i64 st')).heap[bb]? = some (.cells #[.int .i64 st', v] 26 (0, 0)) := by
    have := heap_setCell_same W bb 0 _ 26 (.int .i64 st') h.blk
    simpa using this
  exact ⟨h.cur.far (by omega) _ _, hblk, set_far h.res (by omega) _ _, own_set h.own _ _ _ (own_not h.own h.blk (by decide)), grown_new h.grown (by omega) _ _, hu, h.lite⟩
theorem DSt.app (h : DSt B g len cap b off a z w bb st v pre W) {v' : Value} {c : ChangeL} (hg : W.grownBy W' v.ownBlock) (hown : W'.ownsRow w.heap.size 47 3 v' (pre.length + 1) (cellsChange pre ++ [.string c.key, .string c.value, .bool c.gone])) (hc : smallChange 2097152 c) :
    DSt B g len cap b off a z w bb st v' (pre ++ [c]) (W'.setCell ⟨bb, 1, none⟩ v') := by
  have hu := h.up
  have e1 : ∀ {q : Nat} {cs : Array Value} {ty : TypeId}, W.heap[q]? = some (.cells cs ty (0, 0)) → 47 ≠ ty → W'.heap[q]? = some (.cells cs ty (0, 0)) := fun {q cs ty} hq hne =>
    (hg.block q (Array.getElem?_eq_some_iff.1 hq).1 (fun e => own_not h.own hq hne e.symm)).trans hq
  have hown' : W'.ownsRow w.heap.size 47 3 v' (pre ++ [c]).length (cellsChange (pre ++ [c])) := by
    rw [cellsChange_app, List.length_append]; exact hown
  obtain ⟨h1, h2, h3, h4, i, hh, h5, h6⟩ := h.cur
  have hc' : Cur B W' g a len cap b off z := h.cur.kept hg (fun r e => Or.inl (by have := (h.own.lt r e).1; omega)) (((e1 h6 (by decide))).trans h6.symm)
  have base : DSt B g len cap b off a z w bb st v' (pre ++ [c]) (W'.setCell ⟨bb, 1, none⟩ v') := by
    have hb' := e1 h.blk (by decide)
    have hblk : (W'.setCell ⟨bb, 1, none⟩ v').heap[bb]? = some (.cells #[.int .i64 st, v'] 26 (0, 0)) := by
      have := heap_setCell_same W' bb 1 _ 26 v' hb'
      simpa using this
    have h1 : w.grownBy W' (some g) := h.grown.andThen hg (fun r e => Or.inl (h.own.lt r e).1)
    refine ⟨hc'.far (by omega) _ _, hblk, set_far (e1 h.res (by decide)) (by omega) _ _, own_set hown' _ _ _ (own_not hown' hb' (by decide)), grown_new h1 (by omega) _ _, hu, fun x hx => ?_⟩
    rcases List.mem_append.1 hx with hx | hx
    · exact h.lite x hx
    · obtain rfl := List.mem_singleton.1 hx; exact hc
  exact base
theorem DSt.c1 (h : DSt B g len cap b off a z w bb st v pre W) : W.cell? ⟨bb, 1, none⟩ = some v := cell_of_row _ _ 1 _ _ _ h.blk
theorem DSt.c0 (h : DSt B g len cap b off a z w bb st v pre W) : W.cell? ⟨bb, 0, none⟩ = some (.int .i64 st) := cell_of_row _ _ 0 _ _ _ h.blk
theorem DSt.fz (h : DSt B g len cap b off a z w bb st v pre W) (i : Nat) : W.frozen? ⟨bb, i, none⟩ = false := frozen_of_row _ _ _ _ _ h.blk
theorem DSt.bz (h : DSt B g len cap b off a z w bb st v pre W) : bb < W.heap.size := (Array.getElem?_eq_some_iff.1 h.blk).1
theorem DSt.new (h : DSt B g len cap b off a z w bb st v pre W) : v.ownBlock ≠ some W.heap.size := fun e => by have := (h.own.lt _ e).2; omega
theorem DSt.drew (h : DSt B g len cap b off a z w bb st v pre W) : DSt B g len cap b off a z w bb st v pre W.drew := h.same (Below.refl _ _).drew
end
theorem notFalse {b : Bool} (h : ¬ b = false) : b = true := by cases b with
  | true => rfl
  | false => exact absurd rfl h
theorem own_empty {W : World} {base g : Nat} (h : W.heap[g]? = some (.cells #[] 47 (0, 0))) (hb : base ≤ g) : W.ownsRow base 47 3 (.slice (some ⟨g, 0, none⟩) 0 0) 0 (cellsChange []) := by
  refine ⟨rfl, Or.inr ⟨g, 0, #[], rfl, hb, h, Nat.le_refl _, Nat.zero_le _, rfl, rfl⟩⟩
theorem right_start {B g len cap b off : Nat} {a : Option Addr} {z : Nat → Int} (st : Int) (w : World) (hc : Cur B w g a len cap b off z) : ∃ W, W = ((w.alloc (Obj.cells #[Value.int IntKind.i64 0, Value.slice none 0 0] 26)).alloc (Obj.cells #[Value.int IntKind.i64 st, Value.slice none 0 0] 26)) ∧ DSt B g len cap b off a z w (w.heap.size + 1) st (.slice none 0 0) [] W := by
  have hl := hc.lt
  refine ⟨_, rfl, (hc.alloc _).alloc _, ?_, ?_, World.ownsRow_nil _ _ _ _, (grown_alloc _ _).trans (grown_alloc _ _), ⟨hl, by omega⟩, fun c hc => (List.not_mem_nil hc).elim⟩
  · have := heap_alloc_new (w.alloc (Obj.cells #[Value.int IntKind.i64 0, Value.slice none 0 0] 26)) (Obj.cells #[Value.int IntKind.i64 st, Value.slice none 0 0] 26)
    simpa using this
  · rw [Below.heap_alloc _ _ _ (by simp)]
    exact heap_alloc_new w _
/-- How many changes there may be behind so many rounds. -/
def Lens (k n : Nat) : Prop := (k = 0 ∧ n ≤ 0) ∨ (k = 1 ∧ n ≤ 1) ∨ (k = 2 ∧ n ≤ 3) ∨ (k = 3 ∧ n ≤ 7)
theorem Lens.next {k n m : Nat} (h : Lens k n) (hk : k < 3) (hm : m ≤ n + 1 + n) : Lens (k + 1) m := by unfold Lens at *; omega
theorem Lens.le {k n : Nat} (h : Lens k n) : n ≤ 7 ∧ k ≤ 3 := by unfold Lens at h; omega
set_option maxHeartbeats 4000000 in
set_option maxRecDepth 100000 in
theorem right_any {B g len cap b off : Nat} {a : Option Addr} {z : Nat → Int} (st : Int) (w : World) (hc : Cur B w g a len cap b off z) :
    Calls Try.prog 43 #[.pointer (some ⟨g, 0, none⟩), .int .i64 st] w fun e w' => ∃ (v : Value) (l : List ChangeL), e = .returned (.agg #[.int .i64 st, v]) ∧ w'.ownsRow w.heap.size 47 3 v l.length (cellsChange l) ∧ l.length ≤ 7 ∧ (∀ c ∈ l, smallChange 2097152 c) ∧ Cur B w' g a len cap b off z ∧ w.grownBy w' (some g) := by
  obtain ⟨i0, hi, hz0, hz1, hz2⟩ := info_parts Try.info47
  obtain ⟨W, hW, hS⟩ := right_start st w hc
  have HS0 : Hid (DSt B g len cap b off a z w (w.heap.size + 1) st (.slice none 0 0) [] W) := hS
  clear hc hS
  go_enter Try.func43, Try.ntmps43
  go_wp2
  rw [← hW]
  obtain ⟨bb, hbb⟩ : ∃ bb, bb = w.heap.size + 1 := ⟨_, rfl⟩
  rw [← hbb] at HS0 ⊢
  clear hW hbb
  go_loopw [6] (fun i wr => ∃ (k : Nat) (v : Value) (pre : List ChangeL), i = .int .i64 (k : Int) ∧ Lens k pre.length ∧ DSt B g len cap b off a z w bb st v pre wr)
    (fun i _ => 4 - (intOf i).toNat)
  case atStart => exact ⟨0, _, [], rfl, Or.inl ⟨rfl, Nat.zero_le _⟩, HS0.out⟩
  case round =>
    obtain ⟨k, v, pre, rfl, hlens, hst⟩ := hrel
    have HS : Hid (DSt B g len cap b off a z w bb st v pre wr) := hst
    have HL : Hid (Lens k pre.length) := hlens
    have hle := hlens.le
    clear hst hlens
    go_wp2_with fail
    refine (below_any 4 (by omega) _ HS.out.cur).mono ?_
    rintro e w1 ⟨y, rfl, hy, hc1, hg1⟩
    have HS1 : Hid (DSt B g len cap b off a z w bb st v pre w1) := HS.out.call hc1 hg1
    have hy3 := hy.2.2 (by omega)
    have hy0 := hy.1
    clear hc1 hg1 HS hy
    by_cases hlt : (k : Int) < y
    · go_wp2_with fail
      refine (keyOf_any _ HS1.out.cur).mono ?_
      rintro e w2 ⟨A, rfl, hA, hc2, hg2⟩
      have HS2 : Hid (DSt B g len cap b off a z w bb st v pre w2) := HS1.out.call hc2 hg2
      clear hc2 hg2 HS1
      go_wp2_with fail
      refine (below_any 6 (by omega) _ HS2.out.cur).mono ?_
      rintro e w3 ⟨y2, rfl, hy2, hc3, hg3⟩
      have HS3 : Hid (DSt B g len cap b off a z w bb st v pre w3) := HS2.out.call hc3 hg3
      have hy6 := hy2.2.2 (by omega)
      obtain ⟨m, rfl⟩ := Int.eq_ofNat_of_zero_le hy2.1
      have hm5 : m ≤ 5 := by omega
      clear hc3 hg3 HS2 hy2 hy6
      go_wp2_with fail
      refine (text_any m (by omega) _ HS3.out.cur).mono ?_
      rintro e w4 ⟨V, rfl, hV, hc4, hg4⟩
      have HS4 : Hid (DSt B g len cap b off a z w bb st v pre w4) := HS3.out.call hc4 hg4
      have hV5 : V.size ≤ 5 := by omega
      clear hc4 hg4 HS3 hV hm5
      obtain ⟨va, vc, rfl⟩ := own_slice HS4.out.own
      have hu := HS4.out.up
      have hbbz := HS4.out.bz
      have hnew := HS4.out.new
      obtain ⟨q, hq⟩ : ∃ q, q = w4.heap.size := ⟨_, rfl⟩
      obtain ⟨W5, hW5⟩ : ∃ W5, W5 = w4.alloc (Obj.cells #[Value.string A, Value.string V, Value.bool false] 47) := ⟨_, rfl⟩
      have HS5 : Hid (DSt B g len cap b off a z w bb st (.slice va pre.length vc) pre W5) := by rw [hW5]; exact HS4.out.alloc _
      have HX5 : Hid (W5.heap[q]? = some (.cells #[Value.string A, Value.string V, Value.bool false] 47 (0, 0))) := by rw [hW5, hq]; exact heap_alloc_new w4 _
      rw [← hq] at hnew hbbz
      go_wp2_with fail
      rw [← hW5, ← hq]
      clear hW5 hq HS4
      refine (once_any 4 (by omega) _ HS5.out.cur).mono ?_
      rintro e w6 ⟨y3, rfl, hc6, hg6⟩
      have HS6 : Hid (DSt B g len cap b off a z w bb st (.slice va pre.length vc) pre w6) := HS5.out.call hc6 hg6
      have hx6 := grown_keep HX5.out hg6 (by omega)
      have HX6 : Hid (w6.heap[q]? = some (.cells #[Value.string A, Value.string V, Value.bool false] 47 (0, 0))) := hx6
      clear hc6 hg6 HS5 HX5
      obtain ⟨F, hF⟩ : ∃ F : Bool, F = (y3 == 0) := ⟨_, rfl⟩
      rw [← hF]
      clear hF
      cases F with
      | false =>
        obtain ⟨wx, hwx⟩ : ∃ wx, wx = w6 := ⟨_, rfl⟩
        have HSx : Hid (DSt B g len cap b off a z w bb st (.slice va pre.length vc) pre wx) := by rw [hwx]; exact HS6.out
        have HXx : Hid (wx.heap[q]? = some (.cells #[Value.string A, Value.string V, Value.bool false] 47 (0, 0))) := by rw [hwx]; exact HX6.out
        have hVs : V.size ≤ 5 := hV5
        rw [← hwx]
        clear hwx HS6 HX6 hx6
        have hxy := HXx.out
        have bx0 := HSx.out.c1
        have hzy : q < wx.heap.size := (Array.getElem?_eq_some_iff.1 hxy).1
        obtain ⟨_, gg, _, evv, hat⟩ := cellsChange_slice HSx.out.own
        cases evv
        have HA : Hid (ChangeAt wx va gg 0 pre) := hat
        have HLT : Hid (∀ c ∈ pre, smallChange 2097152 c) := HSx.out.lite
        have qx : wx.cell? ⟨q, 0, none⟩ = some (.string A) := cell_of_row _ _ 0 _ _ _ hxy
        have qx1 : wx.cell? ⟨q, 1, none⟩ = some (.string V) := cell_of_row _ _ 1 _ _ _ hxy
        have qx2 : wx.cell? ⟨q, 2, none⟩ = some (.bool false) := cell_of_row _ _ 2 _ _ _ hxy
        have bx : wx.cell? ⟨bb, 1, none⟩ = some (.slice va pre.length vc) := bx0
        have hzb : bb < wx.heap.size := HSx.out.bz
        have hzq : q < wx.heap.size := hzy
        clear hxy bx0 hzy hat
        go_wp2_with fail
        skip
        obtain ⟨L0, hL0⟩ : ∃ L0 : List ChangeL, L0 = [] := ⟨_, rfl⟩
        obtain ⟨N0, hN0⟩ : ∃ N0 : Nat, N0 = 0 := ⟨_, rfl⟩
        have HN0 : Hid (L0.length ≤ N0) := by show _ ≤ _; rw [hL0]; exact Nat.zero_le _
        have HN00 : Hid (N0 = 0) := hN0
        have HL0 : Hid (∀ c ∈ L0, smallChange 2097152 c) := by rw [hL0]; exact fun c hc => (List.not_mem_nil hc).elim
        have HB0 : Hid (Below wx.heap.size wx (wx.alloc (Obj.cells #[] 47))) := (Below.refl _ _).alloc (Nat.le_refl _) _
        have HO0 : Hid ((wx.alloc (Obj.cells #[] 47)).ownsRow wx.heap.size 47 3 (.slice (some ⟨wx.heap.size, 0, none⟩) 0 0) L0.length (cellsChange L0)) := by rw [hL0]; exact own_empty (heap_alloc_new wx _) (Nat.le_refl _)
        clear hL0 hN0
        go_loopw [8, 9] (fun x i wr => ∃ (j : Nat) (nx : Value) (L : List ChangeL), j ≤ pre.length ∧ i = .int .i64 (j : Int) ∧ x = nx ∧ L.length ≤ N0 + j ∧ (∀ c ∈ L, smallChange 2097152 c) ∧ wr.ownsRow wx.heap.size 47 3 nx L.length (cellsChange L) ∧ Below wx.heap.size wx wr)
          (fun _ i _ => pre.length - (intOf i).toNat)
        case atStart => exact ⟨0, _, L0, Nat.zero_le _, rfl, rfl, by have := HN0.out; omega, HL0.out, HO0.out, HB0.out⟩
        case round =>
          obtain ⟨j, nx, L, hj, rfl, rfl, hLn, hLs, hown, hbel⟩ := hrel
          obtain ⟨na, nc, rfl⟩ := own_slice hown
          have HO : Hid (wr.ownsRow wx.heap.size 47 3 (.slice na L.length nc) L.length (cellsChange L)) := hown
          have HLs : Hid (∀ c ∈ L, smallChange 2097152 c) := hLs
          have HLn : Hid (L.length ≤ N0 + j) := hLn
          have d1 : wr.cell? ⟨bb, 1, none⟩ = some (.slice va pre.length vc) := (hbel.cell (p := ⟨bb, 1, none⟩) hzb).trans bx
          have x0 : wr.cell? ⟨q, 0, none⟩ = some (.string A) := (hbel.cell (p := ⟨q, 0, none⟩) hzq).trans qx
          clear hown hLs hLn
          by_cases hjl : j < pre.length
          · obtain ⟨c0, c1, c2⟩ := (HA.out.kept hbel).2 j hjl
            have ea := HA.out.1 (by omega)
            subst ea
            obtain ⟨E, hE⟩ : ∃ E, E = pre[j].key := ⟨_, rfl⟩
            obtain ⟨V2, hV2⟩ : ∃ V2, V2 = pre[j].value := ⟨_, rfl⟩
            obtain ⟨G2, hG2⟩ : ∃ G2, G2 = pre[j].gone := ⟨_, rfl⟩
            rw [← hE] at c0
            rw [← hV2] at c1
            rw [← hG2] at c2
            have hsm : smallChange 2097152 pre[j] := HLT.out _ (List.getElem_mem _)
            have HSM : Hid (smallChange 2097152 ⟨E, V2, G2⟩) := by rw [hE, hV2, hG2]; exact hsm
            clear hE hV2 hG2 hsm
            have hj0 : (0 : Int) ≤ (j : Int) := by omega
            have hj1 : (j : Int) < (pre.length : Int) := by omega
            have hll : L.length ≤ 20 := by have := HLn.out; have := HN00.out; omega
            simp only [Nat.zero_add] at c0 c1 c2
            go_wp2_with fail
            have NE := Abv.ne wr
            have F0 := fun x : Abv wr => x.cell c0
            have F1 := fun x : Abv wr => x.cell d1
            have F2 := fun x : Abv wr => x.cell x0
            by_cases hcmp : Op.bytesLess E.toList A.toList = true
            · have hcmp1 := hcmp
              refine wp_region_above (by kernel_rfl) (by kernel_rfl) ?_
              repeat (go_big_quiet_step (fail))
              refine wpQuiet_nil ?_
              rintro w8 ⟨⟨_, hb8⟩, rfl⟩
              clear NE F0 F1 F2 hcmp hcmp1
              rename World => w8
              have hB8 : Below wx.heap.size wx w8 := hbel.trans (hb8.mono hbel.size)
              have HO8 : Hid (w8.ownsRow wx.heap.size 47 3 (.slice na L.length nc) L.length (cellsChange L)) := own_kept HO.out hb8
              have e1 : w8.cell? ⟨bb, 1, none⟩ = some (.slice (some ⟨gg, 0, none⟩) pre.length vc) := (hb8.cell (p := ⟨bb, 1, none⟩) (World.block_lt_of_cell? wr _ d1)).trans d1
              have k0 := (hb8.cell (p := ⟨gg, j * 3, none⟩) (World.block_lt_of_cell? wr _ c0)).trans c0
              have k1 := (hb8.cell (p := ⟨gg, j * 3 + 1, none⟩) (World.block_lt_of_cell? wr _ c1)).trans c1
              have k2 := (hb8.cell (p := ⟨gg, j * 3 + 2, none⟩) (World.block_lt_of_cell? wr _ c2)).trans c2
              have hpl : L.length + 1 ≤ maxLen := by unfold maxLen; omega
              have hby : (L.length + 1) * 40 ≤ 140737488355328 := by omega
              have hbz : wx.heap.size ≤ (w8.alloc (Obj.cells #[Value.string E, Value.string V2, Value.bool G2] 47)).heap.size := by have := hB8.size; simp; omega
              clear c0 c1 c2 d1 x0 hb8 hbel HO
              go_wp2_with (at_builtin; refine wpList_append_lies _ rfl _ _ 24 rfl wx.heap.size 47 i0 (.agg #[.string ByteArray.empty, .string ByteArray.empty, .bool false]) 3 40 Try.underlying24 hi hz0 hz1 hz2 rfl (Nat.zero_lt_succ _) _ L.length (cellsChange L) rfl (HO8.out.alloc _) ⟨w8.heap.size, 0, none⟩ 1 1 [.string E, .string V2, .bool G2] rfl rfl (World.news_of_block (cs := #[.string E, .string V2, .bool G2]) (t := 47) (fr := (0, 0)) (heap_alloc_new w8 _)) (change_news ⟨E, V2, G2⟩) (Nat.zero_lt_succ _) hpl hby hbz (w8.heap.size + 1) (Array.size_push ..) ?_)
              intro g2 cap2 w9 hown9 hgrow hat9 hlt9
              have hB9 : Below wx.heap.size wx w9 := (hB8.alloc hB8.size _).grown hgrow hbz (fun r e => (HO8.out.lt r e).1)
              have HO9 : Hid (w9.ownsRow wx.heap.size 47 3 (.slice (some ⟨g2, 0, none⟩) (L.length + 1) cap2) (L ++ [(⟨E, V2, G2⟩ : ChangeL)]).length (cellsChange (L ++ [(⟨E, V2, G2⟩ : ChangeL)]))) := by
                show World.ownsRow _ _ _ _ _ _ _
                rw [cellsChange_app, List.length_append]; exact hown9
              clear hown9 hgrow hat9 hlt9 k0 k1 k2 e1 hB8 HO8
              go_wp2
              go_roundw
              case rel =>
                refine ⟨j + 1, _, L ++ [(⟨E, V2, G2⟩ : ChangeL)], by omega, by go_num, rfl, by have := HLn.out; simp; omega, fun c hc => ?_, HO9.out, hB9⟩
                rcases List.mem_append.1 hc with hc | hc
                · exact HLs.out c hc
                · obtain rfl := List.mem_singleton.1 hc; exact HSM.out
              case measure => simp [intOf]; omega
            · have hcmp2 : Op.bytesLess E.toList A.toList = false := by simpa using hcmp
              refine wp_region_above (by kernel_rfl) (by kernel_rfl) ?_
              repeat (go_big_quiet_step (fail))
              refine wpQuiet_nil ?_
              rintro w8 ⟨⟨_, hb8⟩, rfl⟩
              clear NE F0 F1 F2 hcmp hcmp2
              go_wp2
              go_roundw
              case rel => exact ⟨j + 1, _, L, by omega, by go_num, rfl, by have := HLn.out; omega, HLs.out, own_kept HO.out hb8, hbel.trans (hb8.mono hbel.size)⟩
              case measure => simp [intOf]; omega
          · have hj1 : ¬ (j : Int) < (pre.length : Int) := by omega
            have hll : L.length ≤ 20 := by have := HLn.out; have := HN00.out; omega
            have x1 : wr.cell? ⟨q, 1, none⟩ = some (.string V) := (hbel.cell (p := ⟨q, 1, none⟩) hzq).trans qx1
            have x2 : wr.cell? ⟨q, 2, none⟩ = some (.bool false) := (hbel.cell (p := ⟨q, 2, none⟩) hzq).trans qx2
            have hpl : L.length + 1 ≤ maxLen := by unfold maxLen; omega
            have hby : (L.length + 1) * 40 ≤ 140737488355328 := by omega
            have hbz : wx.heap.size ≤ (wr.alloc (Obj.cells #[Value.string A, Value.string V, Value.bool false] 47)).heap.size := by have := hbel.size; simp; omega
            go_wp2_with (at_builtin; refine wpList_append_lies _ rfl _ _ 24 rfl wx.heap.size 47 i0 (.agg #[.string ByteArray.empty, .string ByteArray.empty, .bool false]) 3 40 Try.underlying24 hi hz0 hz1 hz2 rfl (Nat.zero_lt_succ _) _ L.length (cellsChange L) rfl (HO.out.alloc _) ⟨wr.heap.size, 0, none⟩ 1 1 [.string A, .string V, .bool false] rfl rfl (World.news_of_block (cs := #[.string A, .string V, .bool false]) (t := 47) (fr := (0, 0)) (heap_alloc_new wr _)) (change_news ⟨A, V, false⟩) (Nat.zero_lt_succ _) hpl hby hbz (wr.heap.size + 1) (Array.size_push ..) ?_)
            intro g2 cap2 w9 hown9 hgrow hat9 hlt9
            obtain ⟨L1, hL1⟩ : ∃ L1 : List ChangeL, L1 = L ++ [⟨A, V, false⟩] := ⟨_, rfl⟩
            have hB9 : Below wx.heap.size wx w9 := (hbel.alloc hbel.size _).grown hgrow hbz (fun r e => (HO.out.lt r e).1)
            have HO9 : Hid (w9.ownsRow wx.heap.size 47 3 (.slice (some ⟨g2, 0, none⟩) (L.length + 1) cap2) L1.length (cellsChange L1)) := by
              show World.ownsRow _ _ _ _ _ _ _
              rw [hL1, cellsChange_app, List.length_append]; exact hown9
            have HL1 : Hid (∀ c ∈ L1, smallChange 2097152 c) := fun c hc => by
              rw [hL1] at hc
              rcases List.mem_append.1 hc with hc | hc
              · exact HLs.out c hc
              · obtain rfl := List.mem_singleton.1 hc; exact ⟨Nat.le_trans hA (by omega), Nat.le_trans hVs (by omega)⟩
            have HN1 : Hid (L1.length ≤ pre.length + 1) := by show _ ≤ _; rw [hL1]; have := HLn.out; have := HN00.out; simp; omega
            clear hown9 hgrow hat9 hlt9 hL1 x1 x2 x0 d1 hbel HO HLs HLn HB0 HO0 HN0 HN00 HL0
            go_wp2
            obtain ⟨M0, hN0⟩ : ∃ M0 : Nat, M0 = pre.length + 1 := ⟨_, rfl⟩
            have HN0 : Hid (L1.length ≤ M0) := by show _ ≤ _; rw [hN0]; exact HN1.out
            have HN00 : Hid (M0 = pre.length + 1) := hN0
            have HB0 : Hid (Below wx.heap.size wx w9) := hB9
            have HO0 := HO9
            have HL0 := HL1
            clear hN0 hB9 HO9 HL1 HN1
            go_loopw [8, 10] (fun x i wr => ∃ (j : Nat) (nx : Value) (L : List ChangeL), j ≤ pre.length ∧ i = .int .i64 (j : Int) ∧ x = nx ∧ L.length ≤ M0 + j ∧ (∀ c ∈ L, smallChange 2097152 c) ∧ wr.ownsRow wx.heap.size 47 3 nx L.length (cellsChange L) ∧ Below wx.heap.size wx wr)
              (fun _ i _ => pre.length - (intOf i).toNat)
            case atStart => exact ⟨0, _, L1, Nat.zero_le _, rfl, rfl, by have := HN0.out; omega, HL0.out, HO0.out, HB0.out⟩
            case round =>
              obtain ⟨j, nx, L, hj, rfl, rfl, hLn, hLs, hown, hbel⟩ := hrel
              obtain ⟨na, nc, rfl⟩ := own_slice hown
              have HO : Hid (wr.ownsRow wx.heap.size 47 3 (.slice na L.length nc) L.length (cellsChange L)) := hown
              have HLs : Hid (∀ c ∈ L, smallChange 2097152 c) := hLs
              have HLn : Hid (L.length ≤ M0 + j) := hLn
              have d1 : wr.cell? ⟨bb, 1, none⟩ = some (.slice va pre.length vc) := (hbel.cell (p := ⟨bb, 1, none⟩) hzb).trans bx
              have x0 : wr.cell? ⟨q, 0, none⟩ = some (.string A) := (hbel.cell (p := ⟨q, 0, none⟩) hzq).trans qx
              clear hown hLs hLn
              by_cases hjl : j < pre.length
              · obtain ⟨c0, c1, c2⟩ := (HA.out.kept hbel).2 j hjl
                have ea := HA.out.1 (by omega)
                subst ea
                obtain ⟨E, hE⟩ : ∃ E, E = pre[j].key := ⟨_, rfl⟩
                obtain ⟨V2, hV2⟩ : ∃ V2, V2 = pre[j].value := ⟨_, rfl⟩
                obtain ⟨G2, hG2⟩ : ∃ G2, G2 = pre[j].gone := ⟨_, rfl⟩
                rw [← hE] at c0
                rw [← hV2] at c1
                rw [← hG2] at c2
                have hsm : smallChange 2097152 pre[j] := HLT.out _ (List.getElem_mem _)
                have HSM : Hid (smallChange 2097152 ⟨E, V2, G2⟩) := by rw [hE, hV2, hG2]; exact hsm
                clear hE hV2 hG2 hsm
                have hj0 : (0 : Int) ≤ (j : Int) := by omega
                have hj1 : (j : Int) < (pre.length : Int) := by omega
                have hll : L.length ≤ 20 := by have := HLn.out; have := HN00.out; omega
                simp only [Nat.zero_add] at c0 c1 c2
                go_wp2_with fail
                have NE := Abv.ne wr
                have F0 := fun x : Abv wr => x.cell c0
                have F1 := fun x : Abv wr => x.cell d1
                have F2 := fun x : Abv wr => x.cell x0
                by_cases hcmp : (Op.bytesLess E.toList A.toList || E.toList == A.toList) = false
                · have hcmp1 := hcmp
                  refine wp_region_above (by kernel_rfl) (by kernel_rfl) ?_
                  repeat (go_big_quiet_step (fail))
                  refine wpQuiet_nil ?_
                  rintro w8 ⟨⟨_, hb8⟩, rfl⟩
                  clear NE F0 F1 F2 hcmp hcmp1
                  rename World => w8
                  have hB8 : Below wx.heap.size wx w8 := hbel.trans (hb8.mono hbel.size)
                  have HO8 : Hid (w8.ownsRow wx.heap.size 47 3 (.slice na L.length nc) L.length (cellsChange L)) := own_kept HO.out hb8
                  have e1 : w8.cell? ⟨bb, 1, none⟩ = some (.slice (some ⟨gg, 0, none⟩) pre.length vc) := (hb8.cell (p := ⟨bb, 1, none⟩) (World.block_lt_of_cell? wr _ d1)).trans d1
                  have k0 := (hb8.cell (p := ⟨gg, j * 3, none⟩) (World.block_lt_of_cell? wr _ c0)).trans c0
                  have k1 := (hb8.cell (p := ⟨gg, j * 3 + 1, none⟩) (World.block_lt_of_cell? wr _ c1)).trans c1
                  have k2 := (hb8.cell (p := ⟨gg, j * 3 + 2, none⟩) (World.block_lt_of_cell? wr _ c2)).trans c2
                  have hpl : L.length + 1 ≤ maxLen := by unfold maxLen; omega
                  have hby : (L.length + 1) * 40 ≤ 140737488355328 := by omega
                  have hbz : wx.heap.size ≤ (w8.alloc (Obj.cells #[Value.string E, Value.string V2, Value.bool G2] 47)).heap.size := by have := hB8.size; simp; omega
                  clear c0 c1 c2 d1 x0 hb8 hbel HO
                  go_wp2_with (at_builtin; refine wpList_append_lies _ rfl _ _ 24 rfl wx.heap.size 47 i0 (.agg #[.string ByteArray.empty, .string ByteArray.empty, .bool false]) 3 40 Try.underlying24 hi hz0 hz1 hz2 rfl (Nat.zero_lt_succ _) _ L.length (cellsChange L) rfl (HO8.out.alloc _) ⟨w8.heap.size, 0, none⟩ 1 1 [.string E, .string V2, .bool G2] rfl rfl (World.news_of_block (cs := #[.string E, .string V2, .bool G2]) (t := 47) (fr := (0, 0)) (heap_alloc_new w8 _)) (change_news ⟨E, V2, G2⟩) (Nat.zero_lt_succ _) hpl hby hbz (w8.heap.size + 1) (Array.size_push ..) ?_)
                  intro g2 cap2 w9 hown9 hgrow hat9 hlt9
                  have hB9 : Below wx.heap.size wx w9 := (hB8.alloc hB8.size _).grown hgrow hbz (fun r e => (HO8.out.lt r e).1)
                  have HO9 : Hid (w9.ownsRow wx.heap.size 47 3 (.slice (some ⟨g2, 0, none⟩) (L.length + 1) cap2) (L ++ [(⟨E, V2, G2⟩ : ChangeL)]).length (cellsChange (L ++ [(⟨E, V2, G2⟩ : ChangeL)]))) := by
                    show World.ownsRow _ _ _ _ _ _ _
                    rw [cellsChange_app, List.length_append]; exact hown9
                  clear hown9 hgrow hat9 hlt9 k0 k1 k2 e1 hB8 HO8
                  go_wp2
                  go_roundw
                  case rel =>
                    refine ⟨j + 1, _, L ++ [(⟨E, V2, G2⟩ : ChangeL)], by omega, by go_num, rfl, by have := HLn.out; simp; omega, fun c hc => ?_, HO9.out, hB9⟩
                    rcases List.mem_append.1 hc with hc | hc
                    · exact HLs.out c hc
                    · obtain rfl := List.mem_singleton.1 hc; exact HSM.out
                  case measure => simp [intOf]; omega
                · have hcmp2 : (Op.bytesLess E.toList A.toList || E.toList == A.toList) = true := notFalse hcmp
                  refine wp_region_above (by kernel_rfl) (by kernel_rfl) ?_
                  repeat (go_big_quiet_step (fail))
                  refine wpQuiet_nil ?_
                  rintro w8 ⟨⟨_, hb8⟩, rfl⟩
                  clear NE F0 F1 F2 hcmp hcmp2
                  go_wp2
                  go_roundw
                  case rel => exact ⟨j + 1, _, L, by omega, by go_num, rfl, by have := HLn.out; omega, HLs.out, own_kept HO.out hb8, hbel.trans (hb8.mono hbel.size)⟩
                  case measure => simp [intOf]; omega
              · have hj1 : ¬ (j : Int) < (pre.length : Int) := by omega
                have hSr := HSx.out.same hbel
                have HSr : Hid (DSt B g len cap b off a z w bb st (.slice na L.length nc) L (wr.setCell ⟨bb, 1, none⟩ (.slice na L.length nc))) := hSr.set1 (own_mono HO.out (by have := HSx.out.grown.size; omega)) HLs.out
                have fz := hSr.fz 1
                have HK : Hid (Lens (k + 1) L.length) := HL.out.next (by omega) (by have := HLn.out; have := HN00.out; omega)
                clear hSr
                go_wp2
                go_roundw
                case rel => exact ⟨k + 1, _, L, by go_num, HK.out, HSr.out⟩
                case measure => simp [intOf]; omega
      | true =>
        have x1 := cell_of_row _ _ 1 _ _ _ hx6
        have x2 := cell_of_row _ _ 2 _ _ _ hx6
        have xf1 := frozen_of_row _ _ 1 _ _ hx6
        have xf2 := frozen_of_row _ _ 2 _ _ hx6
        simp at x1 x2
        obtain ⟨wx, hwx⟩ : ∃ wx, wx = (w6.setCell ⟨q, 2, none⟩ (.bool true)).setCell ⟨q, 1, none⟩ (.string ⟨#[]⟩) := ⟨_, rfl⟩
        have HSx : Hid (DSt B g len cap b off a z w bb st (.slice va pre.length vc) pre wx) := by rw [hwx]; exact (HS6.out.far hbbz hnew _ _).far hbbz hnew _ _
        have HXx : Hid (wx.heap[q]? = some (.cells #[Value.string A, Value.string ⟨#[]⟩, Value.bool true] 47 (0, 0))) := by
          have h1 := heap_setCell_same w6 q 2 _ 47 (.bool true) HX6.out
          have h2 := heap_setCell_same _ q 1 _ 47 (.string ⟨#[]⟩) h1
          show _ = _
          rw [hwx]
          simpa using h2
        have hVs : (⟨#[]⟩ : ByteArray).size ≤ 5 := Nat.zero_le _
        have y0 := cell_of_row _ _ 0 _ _ _ HXx.out
        have y1 := cell_of_row _ _ 1 _ _ _ HXx.out
        have y2 := cell_of_row _ _ 2 _ _ _ HXx.out
        have yb := HSx.out.c1
        rw [hwx] at y0 y1 y2 yb
        simp at y0 y1 y2
        clear HS6 HX6 hx6
        have hxy := HXx.out
        have bx0 := HSx.out.c1
        have hzy : q < wx.heap.size := (Array.getElem?_eq_some_iff.1 hxy).1
        obtain ⟨_, gg, _, evv, hat⟩ := cellsChange_slice HSx.out.own
        cases evv
        have HA : Hid (ChangeAt wx va gg 0 pre) := hat
        have HLT : Hid (∀ c ∈ pre, smallChange 2097152 c) := HSx.out.lite
        have qx : wx.cell? ⟨q, 0, none⟩ = some (.string A) := cell_of_row _ _ 0 _ _ _ hxy
        have qx1 : wx.cell? ⟨q, 1, none⟩ = some (.string ⟨#[]⟩) := cell_of_row _ _ 1 _ _ _ hxy
        have qx2 : wx.cell? ⟨q, 2, none⟩ = some (.bool true) := cell_of_row _ _ 2 _ _ _ hxy
        have bx : wx.cell? ⟨bb, 1, none⟩ = some (.slice va pre.length vc) := bx0
        have hzb : bb < wx.heap.size := HSx.out.bz
        have hzq : q < wx.heap.size := hzy
        clear hxy bx0 hzy hat
        go_wp2_with fail
        rw [← hwx]
        have hsz : w6.heap.size = wx.heap.size := by rw [hwx]; simp [World.setCell]
        rw [hsz]
        clear hwx hsz
        obtain ⟨L0, hL0⟩ : ∃ L0 : List ChangeL, L0 = [] := ⟨_, rfl⟩
        obtain ⟨N0, hN0⟩ : ∃ N0 : Nat, N0 = 0 := ⟨_, rfl⟩
        have HN0 : Hid (L0.length ≤ N0) := by show _ ≤ _; rw [hL0]; exact Nat.zero_le _
        have HN00 : Hid (N0 = 0) := hN0
        have HL0 : Hid (∀ c ∈ L0, smallChange 2097152 c) := by rw [hL0]; exact fun c hc => (List.not_mem_nil hc).elim
        have HB0 : Hid (Below wx.heap.size wx (wx.alloc (Obj.cells #[] 47))) := (Below.refl _ _).alloc (Nat.le_refl _) _
        have HO0 : Hid ((wx.alloc (Obj.cells #[] 47)).ownsRow wx.heap.size 47 3 (.slice (some ⟨wx.heap.size, 0, none⟩) 0 0) L0.length (cellsChange L0)) := by rw [hL0]; exact own_empty (heap_alloc_new wx _) (Nat.le_refl _)
        clear hL0 hN0
        go_loopw [8, 9] (fun x i wr => ∃ (j : Nat) (nx : Value) (L : List ChangeL), j ≤ pre.length ∧ i = .int .i64 (j : Int) ∧ x = nx ∧ L.length ≤ N0 + j ∧ (∀ c ∈ L, smallChange 2097152 c) ∧ wr.ownsRow wx.heap.size 47 3 nx L.length (cellsChange L) ∧ Below wx.heap.size wx wr)
          (fun _ i _ => pre.length - (intOf i).toNat)
        case atStart => exact ⟨0, _, L0, Nat.zero_le _, rfl, rfl, by have := HN0.out; omega, HL0.out, HO0.out, HB0.out⟩
        case round =>
          obtain ⟨j, nx, L, hj, rfl, rfl, hLn, hLs, hown, hbel⟩ := hrel
          obtain ⟨na, nc, rfl⟩ := own_slice hown
          have HO : Hid (wr.ownsRow wx.heap.size 47 3 (.slice na L.length nc) L.length (cellsChange L)) := hown
          have HLs : Hid (∀ c ∈ L, smallChange 2097152 c) := hLs
          have HLn : Hid (L.length ≤ N0 + j) := hLn
          have d1 : wr.cell? ⟨bb, 1, none⟩ = some (.slice va pre.length vc) := (hbel.cell (p := ⟨bb, 1, none⟩) hzb).trans bx
          have x0 : wr.cell? ⟨q, 0, none⟩ = some (.string A) := (hbel.cell (p := ⟨q, 0, none⟩) hzq).trans qx
          clear hown hLs hLn
          by_cases hjl : j < pre.length
          · obtain ⟨c0, c1, c2⟩ := (HA.out.kept hbel).2 j hjl
            have ea := HA.out.1 (by omega)
            subst ea
            obtain ⟨E, hE⟩ : ∃ E, E = pre[j].key := ⟨_, rfl⟩
            obtain ⟨V2, hV2⟩ : ∃ V2, V2 = pre[j].value := ⟨_, rfl⟩
            obtain ⟨G2, hG2⟩ : ∃ G2, G2 = pre[j].gone := ⟨_, rfl⟩
            rw [← hE] at c0
            rw [← hV2] at c1
            rw [← hG2] at c2
            have hsm : smallChange 2097152 pre[j] := HLT.out _ (List.getElem_mem _)
            have HSM : Hid (smallChange 2097152 ⟨E, V2, G2⟩) := by rw [hE, hV2, hG2]; exact hsm
            clear hE hV2 hG2 hsm
            have hj0 : (0 : Int) ≤ (j : Int) := by omega
            have hj1 : (j : Int) < (pre.length : Int) := by omega
            have hll : L.length ≤ 20 := by have := HLn.out; have := HN00.out; omega
            simp only [Nat.zero_add] at c0 c1 c2
            go_wp2_with fail
            have NE := Abv.ne wr
            have F0 := fun x : Abv wr => x.cell c0
            have F1 := fun x : Abv wr => x.cell d1
            have F2 := fun x : Abv wr => x.cell x0
            by_cases hcmp : Op.bytesLess E.toList A.toList = true
            · have hcmp1 := hcmp
              refine wp_region_above (by kernel_rfl) (by kernel_rfl) ?_
              repeat (go_big_quiet_step (fail))
              refine wpQuiet_nil ?_
              rintro w8 ⟨⟨_, hb8⟩, rfl⟩
              clear NE F0 F1 F2 hcmp hcmp1
              rename World => w8
              have hB8 : Below wx.heap.size wx w8 := hbel.trans (hb8.mono hbel.size)
              have HO8 : Hid (w8.ownsRow wx.heap.size 47 3 (.slice na L.length nc) L.length (cellsChange L)) := own_kept HO.out hb8
              have e1 : w8.cell? ⟨bb, 1, none⟩ = some (.slice (some ⟨gg, 0, none⟩) pre.length vc) := (hb8.cell (p := ⟨bb, 1, none⟩) (World.block_lt_of_cell? wr _ d1)).trans d1
              have k0 := (hb8.cell (p := ⟨gg, j * 3, none⟩) (World.block_lt_of_cell? wr _ c0)).trans c0
              have k1 := (hb8.cell (p := ⟨gg, j * 3 + 1, none⟩) (World.block_lt_of_cell? wr _ c1)).trans c1
              have k2 := (hb8.cell (p := ⟨gg, j * 3 + 2, none⟩) (World.block_lt_of_cell? wr _ c2)).trans c2
              have hpl : L.length + 1 ≤ maxLen := by unfold maxLen; omega
              have hby : (L.length + 1) * 40 ≤ 140737488355328 := by omega
              have hbz : wx.heap.size ≤ (w8.alloc (Obj.cells #[Value.string E, Value.string V2, Value.bool G2] 47)).heap.size := by have := hB8.size; simp; omega
              clear c0 c1 c2 d1 x0 hb8 hbel HO
              go_wp2_with (at_builtin; refine wpList_append_lies _ rfl _ _ 24 rfl wx.heap.size 47 i0 (.agg #[.string ByteArray.empty, .string ByteArray.empty, .bool false]) 3 40 Try.underlying24 hi hz0 hz1 hz2 rfl (Nat.zero_lt_succ _) _ L.length (cellsChange L) rfl (HO8.out.alloc _) ⟨w8.heap.size, 0, none⟩ 1 1 [.string E, .string V2, .bool G2] rfl rfl (World.news_of_block (cs := #[.string E, .string V2, .bool G2]) (t := 47) (fr := (0, 0)) (heap_alloc_new w8 _)) (change_news ⟨E, V2, G2⟩) (Nat.zero_lt_succ _) hpl hby hbz (w8.heap.size + 1) (Array.size_push ..) ?_)
              intro g2 cap2 w9 hown9 hgrow hat9 hlt9
              have hB9 : Below wx.heap.size wx w9 := (hB8.alloc hB8.size _).grown hgrow hbz (fun r e => (HO8.out.lt r e).1)
              have HO9 : Hid (w9.ownsRow wx.heap.size 47 3 (.slice (some ⟨g2, 0, none⟩) (L.length + 1) cap2) (L ++ [(⟨E, V2, G2⟩ : ChangeL)]).length (cellsChange (L ++ [(⟨E, V2, G2⟩ : ChangeL)]))) := by
                show World.ownsRow _ _ _ _ _ _ _
                rw [cellsChange_app, List.length_append]; exact hown9
              clear hown9 hgrow hat9 hlt9 k0 k1 k2 e1 hB8 HO8
              go_wp2
              go_roundw
              case rel =>
                refine ⟨j + 1, _, L ++ [(⟨E, V2, G2⟩ : ChangeL)], by omega, by go_num, rfl, by have := HLn.out; simp; omega, fun c hc => ?_, HO9.out, hB9⟩
                rcases List.mem_append.1 hc with hc | hc
                · exact HLs.out c hc
                · obtain rfl := List.mem_singleton.1 hc; exact HSM.out
              case measure => simp [intOf]; omega
            · have hcmp2 : Op.bytesLess E.toList A.toList = false := by simpa using hcmp
              refine wp_region_above (by kernel_rfl) (by kernel_rfl) ?_
              repeat (go_big_quiet_step (fail))
              refine wpQuiet_nil ?_
              rintro w8 ⟨⟨_, hb8⟩, rfl⟩
              clear NE F0 F1 F2 hcmp hcmp2
              go_wp2
              go_roundw
              case rel => exact ⟨j + 1, _, L, by omega, by go_num, rfl, by have := HLn.out; omega, HLs.out, own_kept HO.out hb8, hbel.trans (hb8.mono hbel.size)⟩
              case measure => simp [intOf]; omega
          · have hj1 : ¬ (j : Int) < (pre.length : Int) := by omega
            have hll : L.length ≤ 20 := by have := HLn.out; have := HN00.out; omega
            have x1 : wr.cell? ⟨q, 1, none⟩ = some (.string ⟨#[]⟩) := (hbel.cell (p := ⟨q, 1, none⟩) hzq).trans qx1
            have x2 : wr.cell? ⟨q, 2, none⟩ = some (.bool true) := (hbel.cell (p := ⟨q, 2, none⟩) hzq).trans qx2
            have hpl : L.length + 1 ≤ maxLen := by unfold maxLen; omega
            have hby : (L.length + 1) * 40 ≤ 140737488355328 := by omega
            have hbz : wx.heap.size ≤ (wr.alloc (Obj.cells #[Value.string A, Value.string ⟨#[]⟩, Value.bool true] 47)).heap.size := by have := hbel.size; simp; omega
            go_wp2_with (at_builtin; refine wpList_append_lies _ rfl _ _ 24 rfl wx.heap.size 47 i0 (.agg #[.string ByteArray.empty, .string ByteArray.empty, .bool false]) 3 40 Try.underlying24 hi hz0 hz1 hz2 rfl (Nat.zero_lt_succ _) _ L.length (cellsChange L) rfl (HO.out.alloc _) ⟨wr.heap.size, 0, none⟩ 1 1 [.string A, .string ⟨#[]⟩, .bool true] rfl rfl (World.news_of_block (cs := #[.string A, .string ⟨#[]⟩, .bool true]) (t := 47) (fr := (0, 0)) (heap_alloc_new wr _)) (change_news ⟨A, ⟨#[]⟩, true⟩) (Nat.zero_lt_succ _) hpl hby hbz (wr.heap.size + 1) (Array.size_push ..) ?_)
            intro g2 cap2 w9 hown9 hgrow hat9 hlt9
            obtain ⟨L1, hL1⟩ : ∃ L1 : List ChangeL, L1 = L ++ [⟨A, ⟨#[]⟩, true⟩] := ⟨_, rfl⟩
            have hB9 : Below wx.heap.size wx w9 := (hbel.alloc hbel.size _).grown hgrow hbz (fun r e => (HO.out.lt r e).1)
            have HO9 : Hid (w9.ownsRow wx.heap.size 47 3 (.slice (some ⟨g2, 0, none⟩) (L.length + 1) cap2) L1.length (cellsChange L1)) := by
              show World.ownsRow _ _ _ _ _ _ _
              rw [hL1, cellsChange_app, List.length_append]; exact hown9
            have HL1 : Hid (∀ c ∈ L1, smallChange 2097152 c) := fun c hc => by
              rw [hL1] at hc
              rcases List.mem_append.1 hc with hc | hc
              · exact HLs.out c hc
              · obtain rfl := List.mem_singleton.1 hc; exact ⟨Nat.le_trans hA (by omega), Nat.le_trans hVs (by omega)⟩
            have HN1 : Hid (L1.length ≤ pre.length + 1) := by show _ ≤ _; rw [hL1]; have := HLn.out; have := HN00.out; simp; omega
            clear hown9 hgrow hat9 hlt9 hL1 x1 x2 x0 d1 hbel HO HLs HLn HB0 HO0 HN0 HN00 HL0
            go_wp2
            obtain ⟨M0, hN0⟩ : ∃ M0 : Nat, M0 = pre.length + 1 := ⟨_, rfl⟩
            have HN0 : Hid (L1.length ≤ M0) := by show _ ≤ _; rw [hN0]; exact HN1.out
            have HN00 : Hid (M0 = pre.length + 1) := hN0
            have HB0 : Hid (Below wx.heap.size wx w9) := hB9
            have HO0 := HO9
            have HL0 := HL1
            clear hN0 hB9 HO9 HL1 HN1
            go_loopw [8, 10] (fun x i wr => ∃ (j : Nat) (nx : Value) (L : List ChangeL), j ≤ pre.length ∧ i = .int .i64 (j : Int) ∧ x = nx ∧ L.length ≤ M0 + j ∧ (∀ c ∈ L, smallChange 2097152 c) ∧ wr.ownsRow wx.heap.size 47 3 nx L.length (cellsChange L) ∧ Below wx.heap.size wx wr)
              (fun _ i _ => pre.length - (intOf i).toNat)
            case atStart => exact ⟨0, _, L1, Nat.zero_le _, rfl, rfl, by have := HN0.out; omega, HL0.out, HO0.out, HB0.out⟩
            case round =>
              obtain ⟨j, nx, L, hj, rfl, rfl, hLn, hLs, hown, hbel⟩ := hrel
              obtain ⟨na, nc, rfl⟩ := own_slice hown
              have HO : Hid (wr.ownsRow wx.heap.size 47 3 (.slice na L.length nc) L.length (cellsChange L)) := hown
              have HLs : Hid (∀ c ∈ L, smallChange 2097152 c) := hLs
              have HLn : Hid (L.length ≤ M0 + j) := hLn
              have d1 : wr.cell? ⟨bb, 1, none⟩ = some (.slice va pre.length vc) := (hbel.cell (p := ⟨bb, 1, none⟩) hzb).trans bx
              have x0 : wr.cell? ⟨q, 0, none⟩ = some (.string A) := (hbel.cell (p := ⟨q, 0, none⟩) hzq).trans qx
              clear hown hLs hLn
              by_cases hjl : j < pre.length
              · obtain ⟨c0, c1, c2⟩ := (HA.out.kept hbel).2 j hjl
                have ea := HA.out.1 (by omega)
                subst ea
                obtain ⟨E, hE⟩ : ∃ E, E = pre[j].key := ⟨_, rfl⟩
                obtain ⟨V2, hV2⟩ : ∃ V2, V2 = pre[j].value := ⟨_, rfl⟩
                obtain ⟨G2, hG2⟩ : ∃ G2, G2 = pre[j].gone := ⟨_, rfl⟩
                rw [← hE] at c0
                rw [← hV2] at c1
                rw [← hG2] at c2
                have hsm : smallChange 2097152 pre[j] := HLT.out _ (List.getElem_mem _)
                have HSM : Hid (smallChange 2097152 ⟨E, V2, G2⟩) := by rw [hE, hV2, hG2]; exact hsm
                clear hE hV2 hG2 hsm
                have hj0 : (0 : Int) ≤ (j : Int) := by omega
                have hj1 : (j : Int) < (pre.length : Int) := by omega
                have hll : L.length ≤ 20 := by have := HLn.out; have := HN00.out; omega
                simp only [Nat.zero_add] at c0 c1 c2
                go_wp2_with fail
                have NE := Abv.ne wr
                have F0 := fun x : Abv wr => x.cell c0
                have F1 := fun x : Abv wr => x.cell d1
                have F2 := fun x : Abv wr => x.cell x0
                by_cases hcmp : (Op.bytesLess E.toList A.toList || E.toList == A.toList) = false
                · have hcmp1 := hcmp
                  refine wp_region_above (by kernel_rfl) (by kernel_rfl) ?_
                  repeat (go_big_quiet_step (fail))
                  refine wpQuiet_nil ?_
                  rintro w8 ⟨⟨_, hb8⟩, rfl⟩
                  clear NE F0 F1 F2 hcmp hcmp1
                  rename World => w8
                  have hB8 : Below wx.heap.size wx w8 := hbel.trans (hb8.mono hbel.size)
                  have HO8 : Hid (w8.ownsRow wx.heap.size 47 3 (.slice na L.length nc) L.length (cellsChange L)) := own_kept HO.out hb8
                  have e1 : w8.cell? ⟨bb, 1, none⟩ = some (.slice (some ⟨gg, 0, none⟩) pre.length vc) := (hb8.cell (p := ⟨bb, 1, none⟩) (World.block_lt_of_cell? wr _ d1)).trans d1
                  have k0 := (hb8.cell (p := ⟨gg, j * 3, none⟩) (World.block_lt_of_cell? wr _ c0)).trans c0
                  have k1 := (hb8.cell (p := ⟨gg, j * 3 + 1, none⟩) (World.block_lt_of_cell? wr _ c1)).trans c1
                  have k2 := (hb8.cell (p := ⟨gg, j * 3 + 2, none⟩) (World.block_lt_of_cell? wr _ c2)).trans c2
                  have hpl : L.length + 1 ≤ maxLen := by unfold maxLen; omega
                  have hby : (L.length + 1) * 40 ≤ 140737488355328 := by omega
                  have hbz : wx.heap.size ≤ (w8.alloc (Obj.cells #[Value.string E, Value.string V2, Value.bool G2] 47)).heap.size := by have := hB8.size; simp; omega
                  clear c0 c1 c2 d1 x0 hb8 hbel HO
                  go_wp2_with (at_builtin; refine wpList_append_lies _ rfl _ _ 24 rfl wx.heap.size 47 i0 (.agg #[.string ByteArray.empty, .string ByteArray.empty, .bool false]) 3 40 Try.underlying24 hi hz0 hz1 hz2 rfl (Nat.zero_lt_succ _) _ L.length (cellsChange L) rfl (HO8.out.alloc _) ⟨w8.heap.size, 0, none⟩ 1 1 [.string E, .string V2, .bool G2] rfl rfl (World.news_of_block (cs := #[.string E, .string V2, .bool G2]) (t := 47) (fr := (0, 0)) (heap_alloc_new w8 _)) (change_news ⟨E, V2, G2⟩) (Nat.zero_lt_succ _) hpl hby hbz (w8.heap.size + 1) (Array.size_push ..) ?_)
                  intro g2 cap2 w9 hown9 hgrow hat9 hlt9
                  have hB9 : Below wx.heap.size wx w9 := (hB8.alloc hB8.size _).grown hgrow hbz (fun r e => (HO8.out.lt r e).1)
                  have HO9 : Hid (w9.ownsRow wx.heap.size 47 3 (.slice (some ⟨g2, 0, none⟩) (L.length + 1) cap2) (L ++ [(⟨E, V2, G2⟩ : ChangeL)]).length (cellsChange (L ++ [(⟨E, V2, G2⟩ : ChangeL)]))) := by
                    show World.ownsRow _ _ _ _ _ _ _
                    rw [cellsChange_app, List.length_append]; exact hown9
                  clear hown9 hgrow hat9 hlt9 k0 k1 k2 e1 hB8 HO8
                  go_wp2
                  go_roundw
                  case rel =>
                    refine ⟨j + 1, _, L ++ [(⟨E, V2, G2⟩ : ChangeL)], by omega, by go_num, rfl, by have := HLn.out; simp; omega, fun c hc => ?_, HO9.out, hB9⟩
                    rcases List.mem_append.1 hc with hc | hc
                    · exact HLs.out c hc
                    · obtain rfl := List.mem_singleton.1 hc; exact HSM.out
                  case measure => simp [intOf]; omega
                · have hcmp2 : (Op.bytesLess E.toList A.toList || E.toList == A.toList) = true := notFalse hcmp
                  refine wp_region_above (by kernel_rfl) (by kernel_rfl) ?_
                  repeat (go_big_quiet_step (fail))
                  refine wpQuiet_nil ?_
                  rintro w8 ⟨⟨_, hb8⟩, rfl⟩
                  clear NE F0 F1 F2 hcmp hcmp2
                  go_wp2
                  go_roundw
                  case rel => exact ⟨j + 1, _, L, by omega, by go_num, rfl, by have := HLn.out; omega, HLs.out, own_kept HO.out hb8, hbel.trans (hb8.mono hbel.size)⟩
                  case measure => simp [intOf]; omega
              · have hj1 : ¬ (j : Int) < (pre.length : Int) := by omega
                have hSr := HSx.out.same hbel
                have HSr : Hid (DSt B g len cap b off a z w bb st (.slice na L.length nc) L (wr.setCell ⟨bb, 1, none⟩ (.slice na L.length nc))) := hSr.set1 (own_mono HO.out (by have := HSx.out.grown.size; omega)) HLs.out
                have fz := hSr.fz 1
                have HK : Hid (Lens (k + 1) L.length) := HL.out.next (by omega) (by have := HLn.out; have := HN00.out; omega)
                clear hSr
                go_wp2
                go_roundw
                case rel => exact ⟨k + 1, _, L, by go_num, HK.out, HSr.out⟩
                case measure => simp [intOf]; omega
    · have hk1 : ¬ (k : Int) < y := hlt
      obtain ⟨va, vc, rfl⟩ := own_slice HS1.out.own
      have hu := HS1.out.up
      have b0 := HS1.out.c0
      have b1 := HS1.out.c1
      have r0 := cell_of_row _ _ 0 _ _ _ HS1.out.res
      have r1 := cell_of_row _ _ 1 _ _ _ HS1.out.res
      have rf0 := frozen_of_row _ _ 0 _ _ HS1.out.res
      have rf1 := frozen_of_row _ _ 1 _ _ HS1.out.res
      simp at r0 r1
      go_wp2
      obtain ⟨l0, l1⟩ := two_cell HS1.out.res (.int .i64 st) (.slice va pre.length vc)
      exact bodyPost_ret (v := .agg #[.int .i64 st, .slice va pre.length vc]) (by simp [results, Try.results43, go_sem, l0, l1]) rfl ⟨.slice va pre.length vc, pre, rfl, own_set (own_set HS1.out.own _ _ _ (own_not HS1.out.own HS1.out.res (by decide))) _ _ _ (own_not HS1.out.own HS1.out.res (by decide)), hle.1, HS1.out.lite, (HS1.out.cur.far (by omega) _ _).far (by omega) _ _, grown_new (grown_new HS1.out.grown (k := w.heap.size) (Nat.le_refl _) 0 _) (k := w.heap.size) (Nat.le_refl _) 1 _⟩
end Go.Proofs.Ytjheeeijikldpaa
