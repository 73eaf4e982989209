/- Lists of replies in memory, 9 cells each; measured, copied, held against each other, marked. Made by program. -/
import Derived.Test.YtddmogggdckneaaKit
import Derived.Test.YtddmogggdckneaaLCm
import Derived.Test.YtddmogggdckneaaSpecBehind
import Derived.Test.YtddmogggdckneaaMathRp
import Derived.Test.YtddmogggdckneaaPut
import Derived.Laws.AppendOwnNone
import Derived.Deep.RegionHeld3
import Derived.Deep.DeepCutAuto
namespace Go.Proofs.Ytddmogggdckneaa
open Go.RowKit
set_option linter.unusedVariables false
set_option linter.unusedSimpArgs false

def rpV (r : RpL) : Value := .agg #[.int .i64 r.call, .int .i64 r.idx, .int .i64 r.op, .int .i64 r.session, .int .i64 r.seq, .string r.key, .string r.old, .string r.value, .string r.text]
/-- A slice at a whose elements are these. -/
def RpAt (w : World) (a : Option Addr) (g off : Nat) (l : List RpL) : Prop :=
  (0 < l.length → a = some ⟨g, off, none⟩) ∧ ∀ j (hj : j < l.length), w.cell? ⟨g, off + j * 9, none⟩ = some (.int .i64 l[j].call) ∧ w.cell? ⟨g, off + j * 9 + 1, none⟩ = some (.int .i64 l[j].idx) ∧ w.cell? ⟨g, off + j * 9 + 2, none⟩ = some (.int .i64 l[j].op) ∧ w.cell? ⟨g, off + j * 9 + 3, none⟩ = some (.int .i64 l[j].session) ∧ w.cell? ⟨g, off + j * 9 + 4, none⟩ = some (.int .i64 l[j].seq) ∧ w.cell? ⟨g, off + j * 9 + 5, none⟩ = some (.string l[j].key) ∧ w.cell? ⟨g, off + j * 9 + 6, none⟩ = some (.string l[j].old) ∧ w.cell? ⟨g, off + j * 9 + 7, none⟩ = some (.string l[j].value) ∧ w.cell? ⟨g, off + j * 9 + 8, none⟩ = some (.string l[j].text)
theorem RpAt.lt {w : World} {a : Option Addr} {g off : Nat} {l : List RpL} (h : RpAt w a g off l) (hl : 0 < l.length) : g < w.heap.size := World.block_lt_of_cell? w _ (h.2 0 hl).1
theorem RpAt.kept {w w' : World} {a : Option Addr} {g off : Nat} {l : List RpL} (h : RpAt w a g off l) (hb : Below w.heap.size w w') : RpAt w' a g off l := by
  refine ⟨h.1, fun j hj => ?_⟩
  have hg := h.lt (by omega)
  rw [hb.cell (p := ⟨g, off + j * 9, none⟩) hg, hb.cell (p := ⟨g, off + j * 9 + 1, none⟩) hg, hb.cell (p := ⟨g, off + j * 9 + 2, none⟩) hg, hb.cell (p := ⟨g, off + j * 9 + 3, none⟩) hg, hb.cell (p := ⟨g, off + j * 9 + 4, none⟩) hg, hb.cell (p := ⟨g, off + j * 9 + 5, none⟩) hg, hb.cell (p := ⟨g, off + j * 9 + 6, none⟩) hg, hb.cell (p := ⟨g, off + j * 9 + 7, none⟩) hg, hb.cell (p := ⟨g, off + j * 9 + 8, none⟩) hg]
  exact h.2 j hj
def cellsRp (l : List RpL) : List Value := l.flatMap fun r => [.int .i64 r.call, .int .i64 r.idx, .int .i64 r.op, .int .i64 r.session, .int .i64 r.seq, .string r.key, .string r.old, .string r.value, .string r.text]
theorem cellsRp_len : ∀ l : List RpL, (cellsRp l).length = l.length * 9
  | [] => rfl
  | r :: l => by have := cellsRp_len l; simp only [cellsRp, List.flatMap_cons, List.length_append, List.length_cons, List.length_nil] at *; omega
theorem cellsRp_app (l m : List RpL) : cellsRp (l ++ m) = cellsRp l ++ cellsRp m := by simp [cellsRp]
theorem cellsRp_at : ∀ (l : List RpL) (j : Nat) (hj : j < l.length), (cellsRp l)[j * 9]? = some (.int .i64 l[j].call) ∧ (cellsRp l)[j * 9 + 1]? = some (.int .i64 l[j].idx) ∧ (cellsRp l)[j * 9 + 2]? = some (.int .i64 l[j].op) ∧ (cellsRp l)[j * 9 + 3]? = some (.int .i64 l[j].session) ∧ (cellsRp l)[j * 9 + 4]? = some (.int .i64 l[j].seq) ∧ (cellsRp l)[j * 9 + 5]? = some (.string l[j].key) ∧ (cellsRp l)[j * 9 + 6]? = some (.string l[j].old) ∧ (cellsRp l)[j * 9 + 7]? = some (.string l[j].value) ∧ (cellsRp l)[j * 9 + 8]? = some (.string l[j].text)
  | r :: l, 0, _ => ⟨rfl, rfl, rfl, rfl, rfl, rfl, rfl, rfl, rfl⟩
  | r :: l, j + 1, hj => by
    have := cellsRp_at l j (by simpa using hj)
    simpa [cellsRp, Nat.add_mul, Nat.add_assoc] using this
theorem cellsRp_set : ∀ (l : List RpL) (j : Nat) (r : RpL), cellsRp (l.set j r) = (((((((((cellsRp l).set (j * 9) (.int .i64 r.call)).set (j * 9 + 1) (.int .i64 r.idx)).set (j * 9 + 2) (.int .i64 r.op)).set (j * 9 + 3) (.int .i64 r.session)).set (j * 9 + 4) (.int .i64 r.seq)).set (j * 9 + 5) (.string r.key)).set (j * 9 + 6) (.string r.old)).set (j * 9 + 7) (.string r.value)).set (j * 9 + 8) (.string r.text)
  | [], j, r => by simp [cellsRp]
  | x :: l, 0, r => by simp [cellsRp]
  | x :: l, j + 1, r => by
    have := cellsRp_set l j r
    simp only [cellsRp, List.set_cons_succ, List.flatMap_cons, List.cons_append, List.nil_append, Nat.add_mul] at *
    rw [this]
theorem cellsRp_own {w : World} {base : Nat} {e : TypeId} {g n cap : Nat} {l : List RpL} (hn : l.length = n) (h : w.ownsRow base e 9 (.slice (some ⟨g, 0, none⟩) n cap) n (cellsRp l)) : RpAt w (some ⟨g, 0, none⟩) g 0 l := by
  refine ⟨fun _ => rfl, fun j hj => ?_⟩
  rw [Nat.zero_add, h.cellAt (j * 9) (by omega), h.cellAt (j * 9 + 1) (by omega), h.cellAt (j * 9 + 2) (by omega), h.cellAt (j * 9 + 3) (by omega), h.cellAt (j * 9 + 4) (by omega), h.cellAt (j * 9 + 5) (by omega), h.cellAt (j * 9 + 6) (by omega), h.cellAt (j * 9 + 7) (by omega), h.cellAt (j * 9 + 8) (by omega)]
  exact cellsRp_at l j hj
theorem cellsRp_slice {w : World} {base : Nat} {v : Value} {l : List RpL} (h : w.ownsRow base 87 9 v l.length (cellsRp l)) : ∃ a g cap, v = .slice a l.length cap ∧ RpAt w a g 0 l := by
  rcases h.2 with ⟨h1, h2⟩ | ⟨g, cap, cur, h1, _⟩
  · exact ⟨none, 0, 0, by rw [h1, h2], fun q => by omega, fun j hj => by omega⟩
  · subst h1; exact ⟨_, g, cap, rfl, cellsRp_own rfl h⟩
theorem madeRp (n : Nat) : (madeCells #[Value.int .i64 0, Value.int .i64 0, Value.int .i64 0, Value.int .i64 0, Value.int .i64 0, Value.string ByteArray.empty, Value.string ByteArray.empty, Value.string ByteArray.empty, Value.string ByteArray.empty] (n * 9)).toList = cellsRp (List.replicate n ⟨0, 0, 0, 0, 0, ByteArray.empty, ByteArray.empty, ByteArray.empty, ByteArray.empty⟩) := by
  induction n with
  | zero => simp [madeCells, cellsRp]
  | succ n ih =>
    rw [List.replicate_succ', cellsRp_app, ← ih, show (n + 1) * 9 = n * 9 + 9 by omega]
    simp only [madeCells, Array.toList_map, Array.toList_range, List.range_add, List.map_append, List.map_map, Function.comp_def]
    congr 1
    simp [List.range_succ, cellsRp]
def totRp1 (r : RpL) : Nat := r.key.size + r.old.size + r.value.size + r.text.size
def totRp : List RpL → Nat
  | [] => 0
  | r :: l => totRp1 r + 1 + totRp l
theorem totRp_app : ∀ (l m : List RpL), totRp (l ++ m) = totRp l + totRp m
  | [], m => by simp [totRp]
  | r :: l, m => by simp only [List.cons_append, totRp, totRp_app l m]; omega
theorem totRp_len : ∀ l : List RpL, l.length ≤ totRp l
  | [] => by simp [totRp]
  | r :: l => by have := totRp_len l; simp only [List.length_cons, totRp]; omega
theorem totRp_mem : ∀ {l : List RpL} {r : RpL}, r ∈ l → totRp1 r + 1 ≤ totRp l
  | x :: l, r, h => by
    rcases List.mem_cons.1 h with rfl | h
    · simp only [totRp]; omega
    · have := totRp_mem h; simp only [totRp]; omega
theorem totRp_take {l : List RpL} {j : Nat} (hj : j < l.length) : totRp (l.take (j + 1)) = totRp (l.take j) + (totRp1 l[j] + 1) := by
  rw [List.take_succ_eq_append_getElem hj, totRp_app]; simp [totRp]
def smallRp (B : Nat) (r : RpL) : Prop := r.key.size ≤ B ∧ r.old.size ≤ B ∧ r.value.size ≤ B ∧ r.text.size ≤ B
theorem totRp_small {l : List RpL} {B : Nat} (h : totRp l ≤ B) : l.length ≤ B ∧ ∀ r ∈ l, smallRp B r :=
  ⟨Nat.le_trans (totRp_len l) h, fun r hr => by have := totRp_mem hr; unfold totRp1 at this; exact ⟨by omega, by omega, by omega, by omega⟩⟩
theorem one_rp (F0 : Int) (F1 : Int) (F2 : Int) (F3 : Int) (F4 : Int) (F5 : ByteArray) (F6 : ByteArray) (F7 : ByteArray) (F8 : ByteArray) : ∀ v ∈ (#[.int .i64 F0, .int .i64 F1, .int .i64 F2, .int .i64 F3, .int .i64 F4, .string F5, .string F6, .string F7, .string F8] : Array Value).toList, v.oneCell' = true := by
  intro v hv
  simp at hv
  rcases hv with rfl | rfl | rfl | rfl | rfl | rfl | rfl | rfl | rfl <;> rfl
theorem resToRp {w : World} {g : Nat} {A C : Array Value} (hg : w.heap[g]? = some (.cells C 87 (0, 0))) (hs : A.size = 9) {tmps : Array Value} (ht : tmps.getD 2 undef = .pointer (some ⟨g, 0, none⟩)) : (results Try.f46 tmps).run Try.prog (w.setRow g A) = .ok (.agg A) (w.setRow g A) := by
  have h := run_loadVar_agg (P := Try.prog) Try.isAgg87 Try.sizeOf87 (row_size (A := A) hg) hs
  have ht' : tmps[2]?.getD undef = .pointer (some ⟨g, 0, none⟩) := by simpa using ht
  simp [results, Try.results46, ht', asAddr, h]
set_option maxHeartbeats 2000000 in
set_option maxRecDepth 100000 in
theorem szRp1_is (r : RpL) (hr : smallRp maxLen r) (left : Nat) (hl : left ≤ 1048576) (w : World) :
    Calls Try.prog 44 #[rpV r, .int .i64 (left : Int)] w fun e w' => ∃ x : Int, e = .returned (.int .i64 x) ∧ Left left (totRp1 r) x ∧ Below w.heap.size w w' := by
  obtain ⟨F0, F1, F2, F3, F4, F5, F6, F7, F8⟩ := r
  unfold smallRp at hr
  simp only at hr
  have HR : Hid (smallCm maxLen ⟨F2, F3, F4, F5, F6, F7⟩) := ⟨hr.1, hr.2.1, hr.2.2.1⟩
  have hA8 : F8.size ≤ maxLen := hr.2.2.2
  unfold maxLen at hA8
  clear hr
  unfold rpV totRp1
  go_enter Try.func44, Try.ntmps44
  go_wp2_with fail
  refine (szCm1_is ⟨F2, F3, F4, F5, F6, F7⟩ HR.out left hl _).mono ?_
  rintro e w1 ⟨x, rfl, hx, hb1⟩
  have HB : Hid (Below w.heap.size w w1) := ((Below.refl _ _).alloc (Nat.le_refl _) _).trans (hb1.mono (by simp))
  have hrow := (hb1.block _ (by simp)).trans (heap_alloc_new w (.cells #[.int .i64 F0, .int .i64 F1, .int .i64 F2, .int .i64 F3, .int .i64 F4, .string F5, .string F6, .string F7, .string F8] 84))
  have hx' : Left left (F5.size + F6.size + F7.size) x := hx
  have c8 := cell_of_row _ _ 8 _ _ _ hrow
  simp at c8
  clear hx hb1 hrow
  rcases hx' with ⟨hx1, hx2⟩ | ⟨hx1, hx2⟩
  · obtain ⟨Y, hY⟩ : ∃ Y : Nat, Y = left - (F5.size + F6.size + F7.size) := ⟨_, rfl⟩
    rw [← hY] at hx2
    subst hx2
    have HY : Hid (Y = left - (F5.size + F6.size + F7.size)) := hY
    have HX1 : Hid (F5.size + F6.size + F7.size ≤ left) := hx1
    have hYl : Y ≤ 1048576 := by omega
    clear hY hx1
    go_wp2
    · go_ret
      exact ⟨_, rfl, Or.inr ⟨by have := HY.out; have := HX1.out; omega, rfl⟩, HB.out⟩
    · go_ret
      exact ⟨_, rfl, Or.inl ⟨by have := HY.out; have := HX1.out; omega, by have := HY.out; have := HX1.out; omega⟩, HB.out⟩
  · subst hx2
    have HX1 : Hid (¬ F5.size + F6.size + F7.size ≤ left) := hx1
    clear hx1
    go_wp2
    go_ret
    exact ⟨_, rfl, Or.inr ⟨by have := HX1.out; omega, rfl⟩, HB.out⟩
theorem one_of_Rp0 (F2 : Int) (F3 : Int) (F4 : Int) (F5 : ByteArray) (F6 : ByteArray) (F7 : ByteArray) : ∀ v ∈ (#[.int .i64 F2, .int .i64 F3, .int .i64 F4, .string F5, .string F6, .string F7] : Array Value).toList, v.oneCell' = true := by
  intro v hv
  simp at hv
  rcases hv with rfl | rfl | rfl | rfl | rfl | rfl <;> rfl
theorem one_of_Rp1 (F8 : ByteArray) : ∀ v ∈ (#[.string F8] : Array Value).toList, v.oneCell' = true := by
  intro v hv
  simp at hv
  subst hv
  rfl
set_option maxHeartbeats 2000000 in
set_option maxRecDepth 100000 in
theorem toRp1_is (r : RpL) (w : World) : Calls Try.prog 46 #[rpV r] w fun e w' => e = .returned (rpV r) ∧ Below w.heap.size w w' := by
  obtain ⟨F0, F1, F2, F3, F4, F5, F6, F7, F8⟩ := r
  unfold rpV
  go_enter Try.func46, Try.ntmps46
  go_wp2_with fail
  obtain ⟨W, hW⟩ : ∃ W, W = ((w.alloc (Obj.cells #[.int .i64 F0, .int .i64 F1, .int .i64 F2, .int .i64 F3, .int .i64 F4, .string F5, .string F6, .string F7, .string F8] 84)).alloc (Obj.cells #[.int .i64 0, .int .i64 0, .int .i64 0, .int .i64 0, .int .i64 0, .string ⟨#[]⟩, .string ⟨#[]⟩, .string ⟨#[]⟩, .string ⟨#[]⟩] 87)).alloc (Obj.cells #[.int .i64 F0, .int .i64 F1, .int .i64 0, .int .i64 0, .int .i64 0, .string ⟨#[]⟩, .string ⟨#[]⟩, .string ⟨#[]⟩, .string ⟨#[]⟩] 87) := ⟨_, rfl⟩
  rw [← hW]
  have hb : Below w.heap.size w W := by rw [hW]; exact (((Below.refl _ _).alloc (Nat.le_refl _) _).alloc (by simp) _).alloc (by simp; omega) _
  have hbx : W.heap[w.heap.size]? = some (.cells #[.int .i64 F0, .int .i64 F1, .int .i64 F2, .int .i64 F3, .int .i64 F4, .string F5, .string F6, .string F7, .string F8] 84 (0, 0)) := by
    rw [hW, Below.heap_alloc _ _ _ (by simp; omega), Below.heap_alloc _ _ _ (by simp)]
    exact heap_alloc_new w _
  have hz : W.heap[w.heap.size + 1]? = some (.cells #[.int .i64 0, .int .i64 0, .int .i64 0, .int .i64 0, .int .i64 0, .string ⟨#[]⟩, .string ⟨#[]⟩, .string ⟨#[]⟩, .string ⟨#[]⟩] 87 (0, 0)) := by
    rw [hW, Below.heap_alloc _ _ _ (by simp)]
    have := heap_alloc_new (w.alloc (Obj.cells #[.int .i64 F0, .int .i64 F1, .int .i64 F2, .int .i64 F3, .int .i64 F4, .string F5, .string F6, .string F7, .string F8] 84)) (.cells #[.int .i64 0, .int .i64 0, .int .i64 0, .int .i64 0, .int .i64 0, .string ⟨#[]⟩, .string ⟨#[]⟩, .string ⟨#[]⟩, .string ⟨#[]⟩] 87)
    simpa using this
  have hr : W.heap[w.heap.size + 1 + 1]? = some (.cells #[.int .i64 F0, .int .i64 F1, .int .i64 0, .int .i64 0, .int .i64 0, .string ⟨#[]⟩, .string ⟨#[]⟩, .string ⟨#[]⟩, .string ⟨#[]⟩] 87 (0, 0)) := by
    rw [hW]
    have := heap_alloc_new ((w.alloc (Obj.cells #[.int .i64 F0, .int .i64 F1, .int .i64 F2, .int .i64 F3, .int .i64 F4, .string F5, .string F6, .string F7, .string F8] 84)).alloc (.cells #[.int .i64 0, .int .i64 0, .int .i64 0, .int .i64 0, .int .i64 0, .string ⟨#[]⟩, .string ⟨#[]⟩, .string ⟨#[]⟩, .string ⟨#[]⟩] 87)) (.cells #[.int .i64 F0, .int .i64 F1, .int .i64 0, .int .i64 0, .int .i64 0, .string ⟨#[]⟩, .string ⟨#[]⟩, .string ⟨#[]⟩, .string ⟨#[]⟩] 87)
    simpa using this
  clear hW
  refine (toCm1_is ⟨F2, F3, F4, F5, F6, F7⟩ W).mono ?_
  rintro e w1 ⟨rfl, hb1⟩
  unfold cmV
  have HB : Hid (Below w.heap.size w w1) := hb.trans (hb1.mono hb.size)
  have HX : Hid _ := (hb1.block _ (Array.getElem?_eq_some_iff.1 hbx).1).trans hbx
  have HZ : Hid _ := (hb1.block _ (Array.getElem?_eq_some_iff.1 hz).1).trans hz
  have HR : Hid _ := (hb1.block _ (Array.getElem?_eq_some_iff.1 hr).1).trans hr
  have x8 : (w1.setRow (w.heap.size + 1 + 1) #[.int .i64 F0, .int .i64 F1, .int .i64 F2, .int .i64 F3, .int .i64 F4, .string F5, .string F6, .string F7, .string ⟨#[]⟩]).cell? ⟨w.heap.size, 8, none⟩ = some (.string F8) := cell_of_row _ _ 8 _ _ _ (row_far (R := w.heap.size + 1 + 1) HX.out (by omega) #[.int .i64 F0, .int .i64 F1, .int .i64 F2, .int .i64 F3, .int .i64 F4, .string F5, .string F6, .string F7, .string ⟨#[]⟩])
  have HR0 : Hid (w1.heap[w.heap.size + 1 + 1]? = some (.cells #[.int .i64 F0, .int .i64 F1, .int .i64 0, .int .i64 0, .int .i64 0, .string ⟨#[]⟩, .string ⟨#[]⟩, .string ⟨#[]⟩, .string ⟨#[]⟩] 87 (0, 0))) := HR.out
  have HR1 : Hid ((w1.setRow (w.heap.size + 1 + 1) #[.int .i64 F0, .int .i64 F1, .int .i64 F2, .int .i64 F3, .int .i64 F4, .string F5, .string F6, .string F7, .string ⟨#[]⟩]).heap[w.heap.size + 1 + 1]? = some (.cells #[.int .i64 F0, .int .i64 F1, .int .i64 F2, .int .i64 F3, .int .i64 F4, .string F5, .string F6, .string F7, .string ⟨#[]⟩] 87 (0, 0))) := row_size HR0.out
  have HR2 : Hid (((w1.setRow (w.heap.size + 1 + 1) #[.int .i64 F0, .int .i64 F1, .int .i64 F2, .int .i64 F3, .int .i64 F4, .string F5, .string F6, .string F7, .string ⟨#[]⟩]).setRow (w.heap.size + 1 + 1) #[.int .i64 F0, .int .i64 F1, .int .i64 F2, .int .i64 F3, .int .i64 F4, .string F5, .string F6, .string F7, .string F8]).heap[w.heap.size + 1 + 1]? = some (.cells #[.int .i64 F0, .int .i64 F1, .int .i64 F2, .int .i64 F3, .int .i64 F4, .string F5, .string F6, .string F7, .string F8] 87 (0, 0))) := row_size HR1.out
  have HZ3 : Hid (((w1.setRow (w.heap.size + 1 + 1) #[.int .i64 F0, .int .i64 F1, .int .i64 F2, .int .i64 F3, .int .i64 F4, .string F5, .string F6, .string F7, .string ⟨#[]⟩]).setRow (w.heap.size + 1 + 1) #[.int .i64 F0, .int .i64 F1, .int .i64 F2, .int .i64 F3, .int .i64 F4, .string F5, .string F6, .string F7, .string F8]).heap[w.heap.size + 1]? = some (.cells #[.int .i64 0, .int .i64 0, .int .i64 0, .int .i64 0, .int .i64 0, .string ⟨#[]⟩, .string ⟨#[]⟩, .string ⟨#[]⟩, .string ⟨#[]⟩] 87 (0, 0))) := (row_far (R := w.heap.size + 1 + 1) (row_far (R := w.heap.size + 1 + 1) HZ.out (by omega) #[.int .i64 F0, .int .i64 F1, .int .i64 F2, .int .i64 F3, .int .i64 F4, .string F5, .string F6, .string F7, .string ⟨#[]⟩]) (by omega) #[.int .i64 F0, .int .i64 F1, .int .i64 F2, .int .i64 F3, .int .i64 F4, .string F5, .string F6, .string F7, .string F8])
  clear hb hbx hz hr hb1
  go_wp2_with (first | (refine wpList_put (n := 6) Try.sizeOf85 rfl _ _ rfl (w.heap.size + 1 + 1) 2 (.agg #[.int .i64 F2, .int .i64 F3, .int .i64 F4, .string F5, .string F6, .string F7]) #[.int .i64 F2, .int .i64 F3, .int .i64 F4, .string F5, .string F6, .string F7] #[.int .i64 F0, .int .i64 F1, .int .i64 0, .int .i64 0, .int .i64 0, .string ⟨#[]⟩, .string ⟨#[]⟩, .string ⟨#[]⟩, .string ⟨#[]⟩] #[.int .i64 F0, .int .i64 F1, .int .i64 F2, .int .i64 F3, .int .i64 F4, .string F5, .string F6, .string F7, .string ⟨#[]⟩] 87 rfl rfl rfl HR0.out rfl (by simp) (one_of_Rp0 _ _ _ _ _ _) rfl ?_) | (refine wpList_put (n := 1) Try.sizeOf9 rfl _ _ rfl (w.heap.size + 1 + 1) 8 (.string F8) #[.string F8] #[.int .i64 F0, .int .i64 F1, .int .i64 F2, .int .i64 F3, .int .i64 F4, .string F5, .string F6, .string F7, .string ⟨#[]⟩] #[.int .i64 F0, .int .i64 F1, .int .i64 F2, .int .i64 F3, .int .i64 F4, .string F5, .string F6, .string F7, .string F8] 87 rfl rfl rfl HR1.out rfl (by simp) (one_of_Rp1 _) rfl ?_) | (refine wpList_loadA Try.isAgg87 Try.sizeOf87 rfl _ rfl (w.heap.size + 1 + 1) #[.int .i64 F0, .int .i64 F1, .int .i64 F2, .int .i64 F3, .int .i64 F4, .string F5, .string F6, .string F7, .string F8] 87 rfl HR2.out rfl ?_) | (refine wpList_storeA Try.sizeOf87 rfl _ _ rfl (w.heap.size + 1) #[.int .i64 F0, .int .i64 F1, .int .i64 F2, .int .i64 F3, .int .i64 F4, .string F5, .string F6, .string F7, .string F8] #[.int .i64 0, .int .i64 0, .int .i64 0, .int .i64 0, .int .i64 0, .string ⟨#[]⟩, .string ⟨#[]⟩, .string ⟨#[]⟩, .string ⟨#[]⟩] 87 rfl rfl HZ3.out rfl rfl (one_rp _ _ _ _ _ _ _ _ _) ?_) | fail)
  refine bodyPost_ret (v := .agg #[.int .i64 F0, .int .i64 F1, .int .i64 F2, .int .i64 F3, .int .i64 F4, .string F5, .string F6, .string F7, .string F8]) (resToRp HZ3.out rfl rfl) rfl ⟨rfl, below_setRow (below_setRow (below_setRow HB.out (by omega) _) (by omega) _) (by omega) _⟩
set_option maxHeartbeats 2000000 in
set_option maxRecDepth 100000 in
theorem eqRp1_same (r : RpL) (w : World) : Calls Try.prog 53 #[rpV r, rpV r] w fun e w' => e = .returned (.bool true) ∧ Below w.heap.size w w' := by
  obtain ⟨F0, F1, F2, F3, F4, F5, F6, F7, F8⟩ := r
  unfold rpV
  go_enter Try.func53, Try.ntmps53
  go_wp2_with fail
  have hr1 := heap_alloc_new w (.cells #[.int .i64 F0, .int .i64 F1, .int .i64 F2, .int .i64 F3, .int .i64 F4, .string F5, .string F6, .string F7, .string F8] 87)
  have hr2 := heap_alloc_new (w.alloc (.cells #[.int .i64 F0, .int .i64 F1, .int .i64 F2, .int .i64 F3, .int .i64 F4, .string F5, .string F6, .string F7, .string F8] 87)) (.cells #[.int .i64 F0, .int .i64 F1, .int .i64 F2, .int .i64 F3, .int .i64 F4, .string F5, .string F6, .string F7, .string F8] 87)
  refine (eqCm1_same ⟨F2, F3, F4, F5, F6, F7⟩ _).mono ?_
  rintro e w1 ⟨rfl, hb1⟩
  have hB : Below w.heap.size w w1 := (((Below.refl _ _).alloc (Nat.le_refl _) _).alloc (by simp) _).trans (hb1.mono (by simp; omega))
  have hx1 := (hb1.block _ (by simp; omega)).trans ((Below.heap_alloc _ _ _ (by simp)).trans hr1)
  have hx2 := (hb1.block _ (by simp)).trans hr2
  have a8 := cell_of_row _ _ 8 _ _ _ hx1
  have b8 := cell_of_row _ _ 8 _ _ _ hx2
  simp at a8 b8
  clear hx1 hx2
  clear hb1 hr1 hr2
  go_wp2
  go_ret
  exact ⟨rfl, hB⟩

set_option maxHeartbeats 2000000 in
set_option maxRecDepth 100000 in
theorem szRpS_is {a : Option Addr} {g off cap : Nat} (l : List RpL) (hlen : l.length ≤ maxLen) (hsz : ∀ r ∈ l, smallRp maxLen r) (left : Nat) (hl : left ≤ 1048576) (w : World) (hf : RpAt w a g off l) :
    Calls Try.prog 19 #[.slice a l.length cap, .int .i64 (left : Int)] w fun e w' => ∃ x : Int, e = .returned (.int .i64 x) ∧ Left left (totRp l) x ∧ Below w.heap.size w w' := by
  have HF : Hid (RpAt w a g off l) := hf
  have HS : Hid (∀ r ∈ l, smallRp maxLen r) := hsz
  clear hf hsz
  unfold maxLen at hlen
  by_cases h0 : left < l.length
  · have h1 : (left : Int) - (l.length : Int) < 0 := by omega
    go_enter Try.func19, Try.ntmps19
    go_wp2
    go_ret
    exact ⟨_, rfl, Or.inr ⟨by have := totRp_len l; omega, rfl⟩, Below.refl _ _⟩
  · have h1 : ¬ (left : Int) - (l.length : Int) < 0 := by omega
    go_enter Try.func19, Try.ntmps19
    go_wp2
    go_loopw [1, 5] (fun x i wr => ∃ k R : Nat, k ≤ l.length ∧ i = .int .i64 (k : Int) ∧ x = .int .i64 (R : Int) ∧ R + totRp (l.take k) + (l.length - k) = left ∧ Below w.heap.size w wr)
      (fun _ i _ => l.length - (intOf i).toNat)
    case atStart => exact ⟨0, left - l.length, Nat.zero_le _, rfl, by go_num, by simp [totRp]; omega, Below.refl _ _⟩
    case round =>
      obtain ⟨k, R, hk, rfl, rfl, hR, hbel⟩ := hrel
      by_cases hlt : k < l.length
      · have hcc := (HF.out.kept hbel).2 k hlt
        have ea := HF.out.1 (by omega)
        subst ea
        have hs := HS.out l[k] (List.getElem_mem _)
        have HT := totRp_take hlt
        obtain ⟨F0, hF0⟩ : ∃ F0, F0 = l[k].call := ⟨_, rfl⟩
        obtain ⟨F1, hF1⟩ : ∃ F1, F1 = l[k].idx := ⟨_, rfl⟩
        obtain ⟨F2, hF2⟩ : ∃ F2, F2 = l[k].op := ⟨_, rfl⟩
        obtain ⟨F3, hF3⟩ : ∃ F3, F3 = l[k].session := ⟨_, rfl⟩
        obtain ⟨F4, hF4⟩ : ∃ F4, F4 = l[k].seq := ⟨_, rfl⟩
        obtain ⟨F5, hF5⟩ : ∃ F5, F5 = l[k].key := ⟨_, rfl⟩
        obtain ⟨F6, hF6⟩ : ∃ F6, F6 = l[k].old := ⟨_, rfl⟩
        obtain ⟨F7, hF7⟩ : ∃ F7, F7 = l[k].value := ⟨_, rfl⟩
        obtain ⟨F8, hF8⟩ : ∃ F8, F8 = l[k].text := ⟨_, rfl⟩
        have HEL : Hid (l[k] = ⟨F0, F1, F2, F3, F4, F5, F6, F7, F8⟩) := by show _ = _; rw [hF0, hF1, hF2, hF3, hF4, hF5, hF6, hF7, hF8]
        simp only [← hF0, ← hF1, ← hF2, ← hF3, ← hF4, ← hF5, ← hF6, ← hF7, ← hF8] at hcc
        obtain ⟨c0, c1, c2, c3, c4, c5, c6, c7, c8⟩ := hcc
        rw [HEL.out] at hs HT
        have HS1 : Hid _ := hs
        have HT1 : Hid _ := HT
        obtain ⟨Z, hZ⟩ : ∃ Z, Z = totRp1 ⟨F0, F1, F2, F3, F4, F5, F6, F7, F8⟩ := ⟨_, rfl⟩
        have HZ : Hid (Z = totRp1 ⟨F0, F1, F2, F3, F4, F5, F6, F7, F8⟩) := hZ
        clear hs HT hZ hF0 hF1 hF2 hF3 hF4 hF5 hF6 hF7 hF8
        have hk0 : (0 : Int) ≤ (k : Int) := by omega
        have hk1 : (k : Int) < (l.length : Int) := by omega
        have hRl : R ≤ 1048576 := by omega
        go_wp2_with fail
        refine (szRp1_is ⟨F0, F1, F2, F3, F4, F5, F6, F7, F8⟩ HS1.out R hRl wr).mono ?_
        rintro e w1 ⟨x, rfl, hx, hb1⟩
        have hx' : Left R (totRp1 ⟨F0, F1, F2, F3, F4, F5, F6, F7, F8⟩) x := hx
        rw [← HZ.out] at hx'
        clear hx
        rcases hx' with ⟨hx1, hx2⟩ | ⟨hx1, hx2⟩
        · obtain ⟨Y, hY⟩ : ∃ Y : Nat, Y = R - Z := ⟨_, rfl⟩
          rw [← hY] at hx2
          subst hx2
          have HY : Hid (Y = R - Z) := hY
          clear hY
          have hB : Below w.heap.size w w1 := hbel.trans (hb1.mono hbel.size)
          go_wp2
          go_roundw
          case rel => exact ⟨k + 1, Y, by omega, by go_num, rfl, by rw [HT1.out, ← HZ.out]; have := HY.out; omega, hB⟩
          case measure => simp [intOf]; omega
        · subst hx2
          have hB : Below w.heap.size w w1 := hbel.trans (hb1.mono hbel.size)
          have hno : ¬ totRp l ≤ left := by
            have e1 := totRp_app (l.take (k + 1)) (l.drop (k + 1))
            rw [List.take_append_drop] at e1
            have e2 := totRp_len (l.drop (k + 1))
            rw [List.length_drop] at e2
            have := HT1.out
            rw [← HZ.out] at this
            omega
          have HN : Hid (¬ totRp l ≤ left) := hno
          clear hno
          go_wp2
          go_ret
          exact ⟨_, rfl, Or.inr ⟨HN.out, rfl⟩, hB⟩
      · have hk1 : ¬ (k : Int) < (l.length : Int) := by omega
        have HN : Hid (totRp l + R = left) := by
          show _ = _
          rw [List.take_of_length_le (by omega)] at hR
          omega
        clear hR
        go_wp2
        go_ret
        exact ⟨_, rfl, Or.inl ⟨by have := HN.out; omega, by have := HN.out; omega⟩, hbel⟩
theorem Try.info87 : (Try.prog.info? 87).map (fun i => (i.zero, i.size, i.bytes)) = some (some (.agg #[.int .i64 0, .int .i64 0, .int .i64 0, .int .i64 0, .int .i64 0, .string ByteArray.empty, .string ByteArray.empty, .string ByteArray.empty, .string ByteArray.empty]), 9, 104) := by kernel_rfl
set_option maxHeartbeats 2000000 in
set_option maxRecDepth 100000 in
theorem toRpS_is {a : Option Addr} {g off cap : Nat} (l : List RpL) (hlen : l.length ≤ 1048576) (w : World) (hf : RpAt w a g off l) :
    Calls Try.prog 21 #[.slice a l.length cap] w fun e w' => e = .returned (.slice (some ⟨w.heap.size, 0, none⟩) l.length l.length) ∧
      w'.ownsRow w.heap.size 87 9 (.slice (some ⟨w.heap.size, 0, none⟩) l.length l.length) l.length (cellsRp l) ∧ Below w.heap.size w w' := by
  obtain ⟨i0, hi, hz0, hz1, hz2⟩ := info_parts Try.info87
  have HF : Hid (RpAt w a g off l) := hf
  clear hf
  go_enter Try.func21, Try.ntmps21
  go_wp2_with (at_make; refine wpList_make_full _ rfl _ _ 47 rfl w.heap.size 87 i0 (.agg #[.int .i64 0, .int .i64 0, .int .i64 0, .int .i64 0, .int .i64 0, .string ByteArray.empty, .string ByteArray.empty, .string ByteArray.empty, .string ByteArray.empty]) 9 Try.underlying47 hi hz0 hz1 _ _ _ _ l.length rfl rfl (by omega) (by omega) ?b2 ?b3 (Nat.le_refl _) ?_)
  case b2 => rw [hz2]; omega
  case b3 => unfold maxLen; omega
  intro w0 hown0 hgrow0
  have hbel0 : Below w.heap.size w w0 := (Below.refl _ _).grown hgrow0 (Nat.le_refl _) (by simp)
  have hown0' : w0.ownsRow w.heap.size 87 9 (.slice (some ⟨w.heap.size, 0, none⟩) l.length l.length) l.length (cellsRp (List.replicate l.length ⟨0, 0, 0, 0, 0, ByteArray.empty, ByteArray.empty, ByteArray.empty, ByteArray.empty⟩)) := by rw [← madeRp]; exact hown0
  clear hgrow0 hown0
  go_wp2
  go_loopw [4] (fun i wr => ∃ (k : Nat) (pre : List RpL), k ≤ l.length ∧ i = .int .i64 (k : Int) ∧ pre.length = l.length ∧ pre.take k = l.take k ∧
      wr.ownsRow w.heap.size 87 9 (.slice (some ⟨w.heap.size, 0, none⟩) l.length l.length) l.length (cellsRp pre) ∧ Below w.heap.size w wr)
    (fun i _ => l.length - (intOf i).toNat)
  case atStart => exact ⟨0, _, Nat.zero_le _, rfl, by simp, by simp, hown0', hbel0⟩
  case round =>
    obtain ⟨k, pre, hk, rfl, hpl, hpt, hown, hbel⟩ := hrel
    have HL : Hid (pre.length = l.length) := hpl
    have HT : Hid (pre.take k = l.take k) := hpt
    clear hpl hpt hown0' hbel0
    by_cases hlt : k < l.length
    · have hcc := (HF.out.kept hbel).2 k hlt
      have ea := HF.out.1 (by omega)
      subst ea
      have hgz := HF.out.lt (by omega)
      obtain ⟨F0, hF0⟩ : ∃ F0, F0 = l[k].call := ⟨_, rfl⟩
      obtain ⟨F1, hF1⟩ : ∃ F1, F1 = l[k].idx := ⟨_, rfl⟩
      obtain ⟨F2, hF2⟩ : ∃ F2, F2 = l[k].op := ⟨_, rfl⟩
      obtain ⟨F3, hF3⟩ : ∃ F3, F3 = l[k].session := ⟨_, rfl⟩
      obtain ⟨F4, hF4⟩ : ∃ F4, F4 = l[k].seq := ⟨_, rfl⟩
      obtain ⟨F5, hF5⟩ : ∃ F5, F5 = l[k].key := ⟨_, rfl⟩
      obtain ⟨F6, hF6⟩ : ∃ F6, F6 = l[k].old := ⟨_, rfl⟩
      obtain ⟨F7, hF7⟩ : ∃ F7, F7 = l[k].value := ⟨_, rfl⟩
      obtain ⟨F8, hF8⟩ : ∃ F8, F8 = l[k].text := ⟨_, rfl⟩
      have HEL : Hid (l[k] = ⟨F0, F1, F2, F3, F4, F5, F6, F7, F8⟩) := by show _ = _; rw [hF0, hF1, hF2, hF3, hF4, hF5, hF6, hF7, hF8]
      simp only [← hF0, ← hF1, ← hF2, ← hF3, ← hF4, ← hF5, ← hF6, ← hF7, ← hF8] at hcc
      obtain ⟨c0, c1, c2, c3, c4, c5, c6, c7, c8⟩ := hcc
      clear hF0 hF1 hF2 hF3 hF4 hF5 hF6 hF7 hF8
      have hk0 : (0 : Int) ≤ (k : Int) := by omega
      have hk1 : (k : Int) < (l.length : Int) := by omega
      go_wp2_with fail
      refine (toRp1_is ⟨F0, F1, F2, F3, F4, F5, F6, F7, F8⟩ wr).mono ?_
      rintro e w1 ⟨rfl, hb1⟩
      unfold rpV
      have hown1 := own_kept hown hb1
      have hbel1 : Below w.heap.size w w1 := hbel.trans (hb1.mono hbel.size)
      have hf0 := hown1.frozenAt (k * 9)
      have hf1 := hown1.frozenAt (k * 9 + 1)
      have hf2 := hown1.frozenAt (k * 9 + 2)
      have hf3 := hown1.frozenAt (k * 9 + 3)
      have hf4 := hown1.frozenAt (k * 9 + 4)
      have hf5 := hown1.frozenAt (k * 9 + 5)
      have hf6 := hown1.frozenAt (k * 9 + 6)
      have hf7 := hown1.frozenAt (k * 9 + 7)
      have hf8 := hown1.frozenAt (k * 9 + 8)
      obtain ⟨u0, hu0⟩ : ∃ u0, w1.cell? ⟨w.heap.size, k * 9, none⟩ = some u0 := by
        rw [hown1.cellAt (k * 9) (by omega)]
        exact ⟨_, (cellsRp_at pre k (by rw [HL.out]; exact hlt)).1⟩
      obtain ⟨u1, hu1⟩ : ∃ u1, w1.cell? ⟨w.heap.size, k * 9 + 1, none⟩ = some u1 := by
        rw [hown1.cellAt (k * 9 + 1) (by omega)]
        exact ⟨_, (cellsRp_at pre k (by rw [HL.out]; exact hlt)).2.1⟩
      obtain ⟨u2, hu2⟩ : ∃ u2, w1.cell? ⟨w.heap.size, k * 9 + 2, none⟩ = some u2 := by
        rw [hown1.cellAt (k * 9 + 2) (by omega)]
        exact ⟨_, (cellsRp_at pre k (by rw [HL.out]; exact hlt)).2.2.1⟩
      obtain ⟨u3, hu3⟩ : ∃ u3, w1.cell? ⟨w.heap.size, k * 9 + 3, none⟩ = some u3 := by
        rw [hown1.cellAt (k * 9 + 3) (by omega)]
        exact ⟨_, (cellsRp_at pre k (by rw [HL.out]; exact hlt)).2.2.2.1⟩
      obtain ⟨u4, hu4⟩ : ∃ u4, w1.cell? ⟨w.heap.size, k * 9 + 4, none⟩ = some u4 := by
        rw [hown1.cellAt (k * 9 + 4) (by omega)]
        exact ⟨_, (cellsRp_at pre k (by rw [HL.out]; exact hlt)).2.2.2.2.1⟩
      obtain ⟨u5, hu5⟩ : ∃ u5, w1.cell? ⟨w.heap.size, k * 9 + 5, none⟩ = some u5 := by
        rw [hown1.cellAt (k * 9 + 5) (by omega)]
        exact ⟨_, (cellsRp_at pre k (by rw [HL.out]; exact hlt)).2.2.2.2.2.1⟩
      obtain ⟨u6, hu6⟩ : ∃ u6, w1.cell? ⟨w.heap.size, k * 9 + 6, none⟩ = some u6 := by
        rw [hown1.cellAt (k * 9 + 6) (by omega)]
        exact ⟨_, (cellsRp_at pre k (by rw [HL.out]; exact hlt)).2.2.2.2.2.2.1⟩
      obtain ⟨u7, hu7⟩ : ∃ u7, w1.cell? ⟨w.heap.size, k * 9 + 7, none⟩ = some u7 := by
        rw [hown1.cellAt (k * 9 + 7) (by omega)]
        exact ⟨_, (cellsRp_at pre k (by rw [HL.out]; exact hlt)).2.2.2.2.2.2.2.1⟩
      obtain ⟨u8, hu8⟩ : ∃ u8, w1.cell? ⟨w.heap.size, k * 9 + 8, none⟩ = some u8 := by
        rw [hown1.cellAt (k * 9 + 8) (by omega)]
        exact ⟨_, (cellsRp_at pre k (by rw [HL.out]; exact hlt)).2.2.2.2.2.2.2.2⟩
      have hst := (((((((((hown1.stored (k * 9) (.int .i64 F0)).1.stored (k * 9 + 1) (.int .i64 F1)).1.stored (k * 9 + 2) (.int .i64 F2)).1.stored (k * 9 + 3) (.int .i64 F3)).1.stored (k * 9 + 4) (.int .i64 F4)).1.stored (k * 9 + 5) (.string F5)).1.stored (k * 9 + 6) (.string F6)).1.stored (k * 9 + 7) (.string F7)).1.stored (k * 9 + 8) (.string F8))
      rw [← cellsRp_set pre k ⟨F0, F1, F2, F3, F4, F5, F6, F7, F8⟩] at hst
      have HST : Hid (_ ∧ _) := hst
      clear hst hb1 hown hbel
      go_wp2
      go_roundw
      case rel => exact ⟨k + 1, pre.set k ⟨F0, F1, F2, F3, F4, F5, F6, F7, F8⟩, by omega, by go_num, by rw [List.length_set]; exact HL.out, take_set_step hlt HL.out HT.out HEL.out, HST.out.1, (((((((((hbel1.setCell (Nat.le_refl _) _).setCell (Nat.le_refl _) _).setCell (Nat.le_refl _) _).setCell (Nat.le_refl _) _).setCell (Nat.le_refl _) _).setCell (Nat.le_refl _) _).setCell (Nat.le_refl _) _).setCell (Nat.le_refl _) _).setCell (Nat.le_refl _) _)⟩
      case measure => simp [intOf]; omega
    · have hk1 : ¬ (k : Int) < (l.length : Int) := by omega
      have HE : Hid (pre = l) := by
        show _ = _
        have h := HT.out
        rwa [List.take_of_length_le (by rw [HL.out]; omega), List.take_of_length_le (by omega)] at h
      go_wp2
      go_ret
      exact ⟨rfl, by rw [HE.out] at hown; exact hown, hbel⟩
set_option maxHeartbeats 2000000 in
set_option maxRecDepth 100000 in
theorem eqRpS_same {a b : Option Addr} {g off cap h off' cap' : Nat} (l : List RpL) (hlen : l.length ≤ 1048576) (w : World) (hf : RpAt w a g off l) (hf' : RpAt w b h off' l) :
    Calls Try.prog 23 #[.slice a l.length cap, .slice b l.length cap'] w fun e w' => e = .returned (.bool true) ∧ Below w.heap.size w w' := by
  have HF : Hid (RpAt w a g off l) := hf
  have HF' : Hid (RpAt w b h off' l) := hf'
  clear hf hf'
  go_enter Try.func23, Try.ntmps23
  go_wp2
  go_loopw [5] (fun i wr => ∃ k : Nat, k ≤ l.length ∧ i = .int .i64 (k : Int) ∧ Below w.heap.size w wr)
    (fun i _ => l.length - (intOf i).toNat)
  case atStart => exact ⟨0, Nat.zero_le _, rfl, Below.refl _ _⟩
  case round =>
    obtain ⟨k, hk, rfl, hbel⟩ := hrel
    by_cases hlt : k < l.length
    · have hcc := (HF.out.kept hbel).2 k hlt
      have hdd := (HF'.out.kept hbel).2 k hlt
      have ea := HF.out.1 (by omega)
      have eb := HF'.out.1 (by omega)
      subst ea eb
      obtain ⟨F0, hF0⟩ : ∃ F0, F0 = l[k].call := ⟨_, rfl⟩
      obtain ⟨F1, hF1⟩ : ∃ F1, F1 = l[k].idx := ⟨_, rfl⟩
      obtain ⟨F2, hF2⟩ : ∃ F2, F2 = l[k].op := ⟨_, rfl⟩
      obtain ⟨F3, hF3⟩ : ∃ F3, F3 = l[k].session := ⟨_, rfl⟩
      obtain ⟨F4, hF4⟩ : ∃ F4, F4 = l[k].seq := ⟨_, rfl⟩
      obtain ⟨F5, hF5⟩ : ∃ F5, F5 = l[k].key := ⟨_, rfl⟩
      obtain ⟨F6, hF6⟩ : ∃ F6, F6 = l[k].old := ⟨_, rfl⟩
      obtain ⟨F7, hF7⟩ : ∃ F7, F7 = l[k].value := ⟨_, rfl⟩
      obtain ⟨F8, hF8⟩ : ∃ F8, F8 = l[k].text := ⟨_, rfl⟩
      have HEL : Hid (l[k] = ⟨F0, F1, F2, F3, F4, F5, F6, F7, F8⟩) := by show _ = _; rw [hF0, hF1, hF2, hF3, hF4, hF5, hF6, hF7, hF8]
      simp only [← hF0, ← hF1, ← hF2, ← hF3, ← hF4, ← hF5, ← hF6, ← hF7, ← hF8] at hcc hdd
      obtain ⟨c0, c1, c2, c3, c4, c5, c6, c7, c8⟩ := hcc
      obtain ⟨d0, d1, d2, d3, d4, d5, d6, d7, d8⟩ := hdd
      clear hF0 hF1 hF2 hF3 hF4 hF5 hF6 hF7 hF8
      have hk0 : (0 : Int) ≤ (k : Int) := by omega
      have hk1 : (k : Int) < (l.length : Int) := by omega
      go_wp2
      have NE := Abv.ne wr
      have C0 := fun x : Abv wr => x.cell c0
      have D0 := fun x : Abv wr => x.cell d0
      have C1 := fun x : Abv wr => x.cell c1
      have D1 := fun x : Abv wr => x.cell d1
      have C2 := fun x : Abv wr => x.cell c2
      have D2 := fun x : Abv wr => x.cell d2
      have C3 := fun x : Abv wr => x.cell c3
      have D3 := fun x : Abv wr => x.cell d3
      have C4 := fun x : Abv wr => x.cell c4
      have D4 := fun x : Abv wr => x.cell d4
      have C5 := fun x : Abv wr => x.cell c5
      have D5 := fun x : Abv wr => x.cell d5
      have C6 := fun x : Abv wr => x.cell c6
      have D6 := fun x : Abv wr => x.cell d6
      have C7 := fun x : Abv wr => x.cell c7
      have D7 := fun x : Abv wr => x.cell d7
      have C8 := fun x : Abv wr => x.cell c8
      have D8 := fun x : Abv wr => x.cell d8
      refine wp_region_above (by kernel_rfl) (by kernel_rfl) ?_
      repeat (go_big_quiet_step (first | (go_at_call 53; exact calls_above (eqRp1_same ⟨F0, F1, F2, F3, F4, F5, F6, F7, F8⟩ _))))
      refine wpQuiet_nil ?_
      rintro w1 ⟨⟨_, hb1⟩, rfl⟩
      clear NE C0 D0 C1 D1 C2 D2 C3 D3 C4 D4 C5 D5 C6 D6 C7 D7 C8 D8
      go_wp2
      go_roundw
      case rel => exact ⟨k + 1, by omega, by go_num, hbel.trans (hb1.mono hbel.size)⟩
      case measure => simp [intOf]; omega
    · have hk1 : ¬ (k : Int) < (l.length : Int) := by omega
      go_wp2
      go_ret
      exact ⟨rfl, hbel⟩
theorem RpAt.cellsAll {w : World} {a : Option Addr} {g off : Nat} {l : List RpL} (h : RpAt w a g off l) : ∀ j u, (cellsRp l)[j]? = some u → w.cell? ((⟨g, off, none⟩ : Addr).add j) = some u := by
  intro j u hu
  rw [Addr.add_lit]
  have hj : j < l.length * 9 := by rw [← cellsRp_len]; exact (List.getElem?_eq_some_iff.1 hu).1
  obtain ⟨k, i, hi, rfl⟩ : ∃ k i, i < 9 ∧ j = k * 9 + i := ⟨j / 9, j % 9, by omega, by omega⟩
  have h1 := cellsRp_at l k (by omega)
  have h2 := h.2 k (by omega)
  have h3 : i = 0 ∨ i = 1 ∨ i = 2 ∨ i = 3 ∨ i = 4 ∨ i = 5 ∨ i = 6 ∨ i = 7 ∨ i = 8 := by omega
  rcases h3 with rfl | rfl | rfl | rfl | rfl | rfl | rfl | rfl | rfl
  · rw [show k * 9 + 0 = k * 9 from by omega, h1.1] at hu
    rw [← Option.some.inj hu]
    simpa [Nat.add_assoc] using h2.1
  · rw [h1.2.1] at hu
    rw [← Option.some.inj hu]
    simpa [Nat.add_assoc] using h2.2.1
  · rw [h1.2.2.1] at hu
    rw [← Option.some.inj hu]
    simpa [Nat.add_assoc] using h2.2.2.1
  · rw [h1.2.2.2.1] at hu
    rw [← Option.some.inj hu]
    simpa [Nat.add_assoc] using h2.2.2.2.1
  · rw [h1.2.2.2.2.1] at hu
    rw [← Option.some.inj hu]
    simpa [Nat.add_assoc] using h2.2.2.2.2.1
  · rw [h1.2.2.2.2.2.1] at hu
    rw [← Option.some.inj hu]
    simpa [Nat.add_assoc] using h2.2.2.2.2.2.1
  · rw [h1.2.2.2.2.2.2.1] at hu
    rw [← Option.some.inj hu]
    simpa [Nat.add_assoc] using h2.2.2.2.2.2.2.1
  · rw [h1.2.2.2.2.2.2.2.1] at hu
    rw [← Option.some.inj hu]
    simpa [Nat.add_assoc] using h2.2.2.2.2.2.2.2.1
  · rw [h1.2.2.2.2.2.2.2.2] at hu
    rw [← Option.some.inj hu]
    simpa [Nat.add_assoc] using h2.2.2.2.2.2.2.2.2
theorem cellsRp_one {l : List RpL} : ∀ u ∈ cellsRp l, u.oneCell' = true := by
  intro u hu
  unfold cellsRp at hu
  obtain ⟨r, _, hr⟩ := List.mem_flatMap.1 hu
  simp only [List.mem_cons, List.not_mem_nil, or_false] at hr
  rcases hr with rfl | rfl | rfl | rfl | rfl | rfl | rfl | rfl | rfl <;> rfl
/-- 'append(x, y...)' onto a row of the call's own. -/
theorem wpList_appendRp {w : World} {ops : Array Oper} {rest : List Oper} {o : Oper} {act : Act} {Q : Exit → Act → World → Prop} (hgd : o.guard = none) (s x : Operand)
    (ho : o.op = .call { callee := .builtin .append, args := #[s, x], argTypes := #[47, 47] }) (base : Nat) (v : Value) (n : Nat) (xs : List Value) (hs : act.eval s = v) (hown : w.ownsRow base 87 9 v n xs)
    (a : Option Addr) (g off cap : Nat) (l : List RpL) (hx : act.eval x = .slice a l.length cap) (hf : RpAt w a g off l) (hnil : a = none → cap = 0) (h63 : n + l.length ≤ 2097152) (hbase : base ≤ w.heap.size)
    (h : ∀ v' w', w'.ownsRow base 87 9 v' (n + l.length) (xs ++ cellsRp l) → w.grownBy w' v.ownBlock → wpList Try.prog ops Q rest (act.put o.dst v') w') : wpList Try.prog ops Q (o :: rest) act w := by
  obtain ⟨i0, hi, hz0, hz1, hz2⟩ := info_parts Try.info87
  cases a with
  | none =>
    have hl : l = [] := by
      cases l with
      | nil => rfl
      | cons f r => have := hf.1 (by simp); cases this
    subst hl
    rw [hnil rfl] at hx
    refine wpList_append_own_none hgd s x 47 ho base 87 i0 9 Try.underlying47 hi v n xs hs hown hx ?_
    refine h v w ?_ (World.grownBy.refl _ _)
    simpa [cellsRp] using hown
  | some ad =>
    have had : 0 < l.length → ad = ⟨g, off, none⟩ := fun hp => Option.some.inj (hf.1 hp)
    refine wpList_append_own w hgd s x 47 ho base 87 i0 (.agg #[.int .i64 0, .int .i64 0, .int .i64 0, .int .i64 0, .int .i64 0, .string ByteArray.empty, .string ByteArray.empty, .string ByteArray.empty, .string ByteArray.empty]) 9 104 Try.underlying47 hi hz0 hz1 hz2 rfl (by decide) v n xs hs hown ad l.length cap (cellsRp l) hx (cellsRp_len l) ?_ cellsRp_one (by unfold maxLen; omega) (by omega) hbase ?_
    · intro j u hu
      have hp : 0 < l.length := by
        have := (List.getElem?_eq_some_iff.1 hu).1
        rw [cellsRp_len] at this
        omega
      rw [had hp]
      exact hf.cellsAll j u hu
    · intro v' w' h1 h2 _
      exact h v' w' h1 h2
/-- Marked ones: from k on, 9 numbers each. -/
def markRp1 (m : Nat) : RpL := ⟨((m : Nat) : Int), ((m + 1 : Nat) : Int), ((m + 2 : Nat) : Int), ((m + 3 : Nat) : Int), ((m + 4 : Nat) : Int), mk (m + 5), mk (m + 6), mk (m + 7), mk (m + 8)⟩
def marksRp (k n : Nat) : List RpL := (List.range n).map fun i => markRp1 (k + 9 * i)
theorem marksRp_len (k n : Nat) : (marksRp k n).length = n := by simp [marksRp]
theorem marksRp_at (k n j : Nat) (hj : j < (marksRp k n).length) : (marksRp k n)[j] = markRp1 (k + 9 * j) := by simp [marksRp]
end Go.Proofs.Ytddmogggdckneaa
