/- Lists of what was applied in memory, 6 cells each; measured, copied, held against each other, marked. Made by program. -/
import Derived.Test.YtddmogggdckneaaKit
import Derived.Test.YtddmogggdckneaaLEn
import Derived.Test.YtddmogggdckneaaSpecBehind
import Derived.Test.YtddmogggdckneaaMathAp
import Derived.Laws.AppendOwnNone
import Derived.Deep.RegionHeld3
import Derived.Deep.DeepCutAuto
namespace Go.Proofs.Ytddmogggdckneaa
open Go.RowKit
set_option linter.unusedVariables false
set_option linter.unusedSimpArgs false

def apV (r : ApL) : Value := .agg #[.int .i64 r.node, .int .i64 r.term, .int .i64 r.index, .int .i64 r.eterm, .int .i64 r.ekind, .string r.edata]
/-- A slice at a whose elements are these. -/
def ApAt (w : World) (a : Option Addr) (g off : Nat) (l : List ApL) : Prop :=
  (0 < l.length → a = some ⟨g, off, none⟩) ∧ ∀ j (hj : j < l.length), w.cell? ⟨g, off + j * 6, none⟩ = some (.int .i64 l[j].node) ∧ w.cell? ⟨g, off + j * 6 + 1, none⟩ = some (.int .i64 l[j].term) ∧ w.cell? ⟨g, off + j * 6 + 2, none⟩ = some (.int .i64 l[j].index) ∧ w.cell? ⟨g, off + j * 6 + 3, none⟩ = some (.int .i64 l[j].eterm) ∧ w.cell? ⟨g, off + j * 6 + 4, none⟩ = some (.int .i64 l[j].ekind) ∧ w.cell? ⟨g, off + j * 6 + 5, none⟩ = some (.string l[j].edata)
theorem ApAt.lt {w : World} {a : Option Addr} {g off : Nat} {l : List ApL} (h : ApAt w a g off l) (hl : 0 < l.length) : g < w.heap.size := World.block_lt_of_cell? w _ (h.2 0 hl).1
theorem ApAt.kept {w w' : World} {a : Option Addr} {g off : Nat} {l : List ApL} (h : ApAt w a g off l) (hb : Below w.heap.size w w') : ApAt w' a g off l := by
  refine ⟨h.1, fun j hj => ?_⟩
  have hg := h.lt (by omega)
  rw [hb.cell (p := ⟨g, off + j * 6, none⟩) hg, hb.cell (p := ⟨g, off + j * 6 + 1, none⟩) hg, hb.cell (p := ⟨g, off + j * 6 + 2, none⟩) hg, hb.cell (p := ⟨g, off + j * 6 + 3, none⟩) hg, hb.cell (p := ⟨g, off + j * 6 + 4, none⟩) hg, hb.cell (p := ⟨g, off + j * 6 + 5, none⟩) hg]
  exact h.2 j hj
def cellsAp (l : List ApL) : List Value := l.flatMap fun r => [.int .i64 r.node, .int .i64 r.term, .int .i64 r.index, .int .i64 r.eterm, .int .i64 r.ekind, .string r.edata]
theorem cellsAp_len : ∀ l : List ApL, (cellsAp l).length = l.length * 6
  | [] => rfl
  | r :: l => by have := cellsAp_len l; simp only [cellsAp, List.flatMap_cons, List.length_append, List.length_cons, List.length_nil] at *; omega
theorem cellsAp_app (l m : List ApL) : cellsAp (l ++ m) = cellsAp l ++ cellsAp m := by simp [cellsAp]
theorem cellsAp_at : ∀ (l : List ApL) (j : Nat) (hj : j < l.length), (cellsAp l)[j * 6]? = some (.int .i64 l[j].node) ∧ (cellsAp l)[j * 6 + 1]? = some (.int .i64 l[j].term) ∧ (cellsAp l)[j * 6 + 2]? = some (.int .i64 l[j].index) ∧ (cellsAp l)[j * 6 + 3]? = some (.int .i64 l[j].eterm) ∧ (cellsAp l)[j * 6 + 4]? = some (.int .i64 l[j].ekind) ∧ (cellsAp l)[j * 6 + 5]? = some (.string l[j].edata)
  | r :: l, 0, _ => ⟨rfl, rfl, rfl, rfl, rfl, rfl⟩
  | r :: l, j + 1, hj => by
    have := cellsAp_at l j (by simpa using hj)
    simpa [cellsAp, Nat.add_mul, Nat.add_assoc] using this
theorem cellsAp_set : ∀ (l : List ApL) (j : Nat) (r : ApL), cellsAp (l.set j r) = ((((((cellsAp l).set (j * 6) (.int .i64 r.node)).set (j * 6 + 1) (.int .i64 r.term)).set (j * 6 + 2) (.int .i64 r.index)).set (j * 6 + 3) (.int .i64 r.eterm)).set (j * 6 + 4) (.int .i64 r.ekind)).set (j * 6 + 5) (.string r.edata)
  | [], j, r => by simp [cellsAp]
  | x :: l, 0, r => by simp [cellsAp]
  | x :: l, j + 1, r => by
    have := cellsAp_set l j r
    simp only [cellsAp, List.set_cons_succ, List.flatMap_cons, List.cons_append, List.nil_append, Nat.add_mul] at *
    rw [this]
theorem cellsAp_own {w : World} {base : Nat} {e : TypeId} {g n cap : Nat} {l : List ApL} (hn : l.length = n) (h : w.ownsRow base e 6 (.slice (some ⟨g, 0, none⟩) n cap) n (cellsAp l)) : ApAt w (some ⟨g, 0, none⟩) g 0 l := by
  refine ⟨fun _ => rfl, fun j hj => ?_⟩
  rw [Nat.zero_add, h.cellAt (j * 6) (by omega), h.cellAt (j * 6 + 1) (by omega), h.cellAt (j * 6 + 2) (by omega), h.cellAt (j * 6 + 3) (by omega), h.cellAt (j * 6 + 4) (by omega), h.cellAt (j * 6 + 5) (by omega)]
  exact cellsAp_at l j hj
theorem cellsAp_slice {w : World} {base : Nat} {v : Value} {l : List ApL} (h : w.ownsRow base 64 6 v l.length (cellsAp l)) : ∃ a g cap, v = .slice a l.length cap ∧ ApAt w a g 0 l := by
  rcases h.2 with ⟨h1, h2⟩ | ⟨g, cap, cur, h1, _⟩
  · exact ⟨none, 0, 0, by rw [h1, h2], fun q => by omega, fun j hj => by omega⟩
  · subst h1; exact ⟨_, g, cap, rfl, cellsAp_own rfl h⟩
theorem madeAp (n : Nat) : (madeCells #[Value.int .i64 0, Value.int .i64 0, Value.int .i64 0, Value.int .i64 0, Value.int .i64 0, Value.string ByteArray.empty] (n * 6)).toList = cellsAp (List.replicate n ⟨0, 0, 0, 0, 0, ByteArray.empty⟩) := by
  induction n with
  | zero => simp [madeCells, cellsAp]
  | succ n ih =>
    rw [List.replicate_succ', cellsAp_app, ← ih, show (n + 1) * 6 = n * 6 + 6 by omega]
    simp only [madeCells, Array.toList_map, Array.toList_range, List.range_add, List.map_append, List.map_map, Function.comp_def]
    congr 1
    simp [List.range_succ, cellsAp]
def totAp1 (r : ApL) : Nat := r.edata.size
def totAp : List ApL → Nat
  | [] => 0
  | r :: l => totAp1 r + 1 + totAp l
theorem totAp_app : ∀ (l m : List ApL), totAp (l ++ m) = totAp l + totAp m
  | [], m => by simp [totAp]
  | r :: l, m => by simp only [List.cons_append, totAp, totAp_app l m]; omega
theorem totAp_len : ∀ l : List ApL, l.length ≤ totAp l
  | [] => by simp [totAp]
  | r :: l => by have := totAp_len l; simp only [List.length_cons, totAp]; omega
theorem totAp_mem : ∀ {l : List ApL} {r : ApL}, r ∈ l → totAp1 r + 1 ≤ totAp l
  | x :: l, r, h => by
    rcases List.mem_cons.1 h with rfl | h
    · simp only [totAp]; omega
    · have := totAp_mem h; simp only [totAp]; omega
theorem totAp_take {l : List ApL} {j : Nat} (hj : j < l.length) : totAp (l.take (j + 1)) = totAp (l.take j) + (totAp1 l[j] + 1) := by
  rw [List.take_succ_eq_append_getElem hj, totAp_app]; simp [totAp]
def smallAp (B : Nat) (r : ApL) : Prop := r.edata.size ≤ B
theorem totAp_small {l : List ApL} {B : Nat} (h : totAp l ≤ B) : l.length ≤ B ∧ ∀ r ∈ l, smallAp B r :=
  ⟨Nat.le_trans (totAp_len l) h, fun r hr => by have := totAp_mem hr; unfold totAp1 at this; show _ ≤ _; omega⟩
theorem one_ap (a b c d e : Int) (s : ByteArray) : ∀ v ∈ (#[.int .i64 a, .int .i64 b, .int .i64 c, .int .i64 d, .int .i64 e, .string s] : Array Value).toList, v.oneCell' = true := by
  intro v hv
  simp at hv
  rcases hv with rfl | rfl | rfl | rfl | rfl | rfl <;> rfl
theorem result31 {w : World} {g : Nat} {A C : Array Value} (hg : w.heap[g]? = some (.cells C 64 (0, 0))) (hs : A.size = 6) {tmps : Array Value} (ht : tmps.getD 2 undef = .pointer (some ⟨g, 0, none⟩)) : (results Try.f31 tmps).run Try.prog (w.setRow g A) = .ok (.agg A) (w.setRow g A) := by
  have h := run_loadVar_agg (P := Try.prog) Try.isAgg64 Try.sizeOf64 (row_size (A := A) hg) hs
  have ht' : tmps[2]?.getD undef = .pointer (some ⟨g, 0, none⟩) := by simpa using ht
  simp [results, Try.results31, ht', asAddr, h]
theorem apV_eq (a b c d e : Int) (s : ByteArray) : apV ⟨a, b, c, d, e, s⟩ = .agg #[.int .i64 a, .int .i64 b, .int .i64 c, .int .i64 d, .int .i64 e, .string s] := rfl
set_option maxHeartbeats 2000000 in
set_option maxRecDepth 100000 in
theorem szAp1_is (r : ApL) (hr : smallAp maxLen r) (left : Nat) (hl : left ≤ 1048576) (w : World) :
    Calls Try.prog 29 #[apV r, .int .i64 (left : Int)] w fun e w' => ∃ x : Int, e = .returned (.int .i64 x) ∧ Left left (totAp1 r) x ∧ Below w.heap.size w w' := by
  obtain ⟨F0, F1, F2, F3, F4, F5⟩ := r
  have HR : Hid (smallEn maxLen ⟨F3, F4, F5⟩) := hr
  clear hr
  unfold apV totAp1
  go_enter Try.func29, Try.ntmps29
  go_wp2_with fail
  refine (szEn1_is ⟨F3, F4, F5⟩ HR.out left hl _).mono ?_
  rintro e w1 ⟨x, rfl, hx, hb1⟩
  have hB : Below w.heap.size w w1 := ((Below.refl _ _).alloc (Nat.le_refl _) _).trans (hb1.mono (by simp))
  have hx' : Left left F5.size x := hx
  clear hx hb1
  rcases hx' with ⟨hx1, hx2⟩ | ⟨hx1, hx2⟩
  · obtain ⟨Y, hY⟩ : ∃ Y : Nat, Y = left - F5.size := ⟨_, rfl⟩
    rw [← hY] at hx2
    subst hx2
    have HY : Hid (Y = left - F5.size) := hY
    clear hY
    go_wp2
    go_ret
    exact ⟨_, rfl, Or.inl ⟨hx1, by rw [HY.out]⟩, hB⟩
  · subst hx2
    go_wp2
    go_ret
    exact ⟨_, rfl, Or.inr ⟨hx1, rfl⟩, hB⟩
set_option maxHeartbeats 2000000 in
set_option maxRecDepth 100000 in
theorem toAp1_is (r : ApL) (w : World) : Calls Try.prog 31 #[apV r] w fun e w' => e = .returned (apV r) ∧ Below w.heap.size w w' := by
  obtain ⟨F0, F1, F2, F3, F4, F5⟩ := r
  unfold apV
  go_enter Try.func31, Try.ntmps31
  go_wp2_with fail
  obtain ⟨W, hW⟩ : ∃ W, W = ((w.alloc (Obj.cells #[.int .i64 F0, .int .i64 F1, .int .i64 F2, .int .i64 F3, .int .i64 F4, .string F5] 60)).alloc (Obj.cells #[.int .i64 0, .int .i64 0, .int .i64 0, .int .i64 0, .int .i64 0, .string ⟨#[]⟩] 64)).alloc (Obj.cells #[.int .i64 F0, .int .i64 F1, .int .i64 F2, .int .i64 0, .int .i64 0, .string ⟨#[]⟩] 64) := ⟨_, rfl⟩
  rw [← hW]
  have hb : Below w.heap.size w W := by rw [hW]; exact (((Below.refl _ _).alloc (Nat.le_refl _) _).alloc (by simp) _).alloc (by simp; omega) _
  have hz : W.heap[w.heap.size + 1]? = some (.cells #[.int .i64 0, .int .i64 0, .int .i64 0, .int .i64 0, .int .i64 0, .string ⟨#[]⟩] 64 (0, 0)) := by
    rw [hW, Below.heap_alloc _ _ _ (by simp)]
    have := heap_alloc_new (w.alloc (Obj.cells #[.int .i64 F0, .int .i64 F1, .int .i64 F2, .int .i64 F3, .int .i64 F4, .string F5] 60)) (.cells #[.int .i64 0, .int .i64 0, .int .i64 0, .int .i64 0, .int .i64 0, .string ⟨#[]⟩] 64)
    simpa using this
  have hr : W.heap[w.heap.size + 1 + 1]? = some (.cells #[.int .i64 F0, .int .i64 F1, .int .i64 F2, .int .i64 0, .int .i64 0, .string ⟨#[]⟩] 64 (0, 0)) := by
    rw [hW]
    have := heap_alloc_new ((w.alloc (Obj.cells #[.int .i64 F0, .int .i64 F1, .int .i64 F2, .int .i64 F3, .int .i64 F4, .string F5] 60)).alloc (.cells #[.int .i64 0, .int .i64 0, .int .i64 0, .int .i64 0, .int .i64 0, .string ⟨#[]⟩] 64)) (.cells #[.int .i64 F0, .int .i64 F1, .int .i64 F2, .int .i64 0, .int .i64 0, .string ⟨#[]⟩] 64)
    simpa using this
  clear hW
  refine (toEn1_is ⟨F3, F4, F5⟩ W).mono ?_
  rintro e w1 ⟨rfl, hb1⟩
  unfold entV
  have HB : Hid (Below w.heap.size w w1) := hb.trans (hb1.mono hb.size)
  have HZ : Hid _ := (hb1.block _ (Array.getElem?_eq_some_iff.1 hz).1).trans hz
  have HR : Hid _ := (hb1.block _ (Array.getElem?_eq_some_iff.1 hr).1).trans hr
  have o3 := cell_of_row _ _ 3 _ _ _ HR.out
  have o4 := cell_of_row _ _ 4 _ _ _ HR.out
  have o5 := cell_of_row _ _ 5 _ _ _ HR.out
  simp at o3 o4 o5
  have f3 := frozen_of_row _ _ 3 _ _ HR.out
  have f4 := frozen_of_row _ _ 4 _ _ HR.out
  have f5 := frozen_of_row _ _ 5 _ _ HR.out
  have h1 := heap_setCell_same w1 (w.heap.size + 1 + 1) 3 _ 64 (.int .i64 F3) HR.out
  have h2 := heap_setCell_same _ (w.heap.size + 1 + 1) 4 _ 64 (.int .i64 F4) h1
  have h3 := heap_setCell_same _ (w.heap.size + 1 + 1) 5 _ 64 (.string F5) h2
  simp at h3
  have HR3 : Hid _ := h3
  have HZ3 : Hid _ := set_far (R := w.heap.size + 1 + 1) (set_far (R := w.heap.size + 1 + 1) (set_far (R := w.heap.size + 1 + 1) HZ.out (by omega) 3 (.int .i64 F3)) (by omega) 4 (.int .i64 F4)) (by omega) 5 (.string F5)
  clear h1 h2 h3 hb hz hr hb1
  go_wp2_with (first | (refine wpList_loadA Try.isAgg64 Try.sizeOf64 rfl _ rfl (w.heap.size + 1 + 1) #[.int .i64 F0, .int .i64 F1, .int .i64 F2, .int .i64 F3, .int .i64 F4, .string F5] 64 rfl HR3.out rfl ?_) | (refine wpList_storeA Try.sizeOf64 rfl _ _ rfl (w.heap.size + 1) #[.int .i64 F0, .int .i64 F1, .int .i64 F2, .int .i64 F3, .int .i64 F4, .string F5] #[.int .i64 0, .int .i64 0, .int .i64 0, .int .i64 0, .int .i64 0, .string ⟨#[]⟩] 64 rfl rfl HZ3.out rfl rfl (one_ap _ _ _ _ _ _) ?_) | fail)
  have hq : w.heap.size ≤ w.heap.size + 1 + 1 := by omega
  exact bodyPost_ret (result31 HZ3.out rfl rfl) rfl ⟨rfl, below_setRow (((HB.out.setCell hq _).setCell hq _).setCell hq _) (by omega) _⟩
set_option maxHeartbeats 2000000 in
set_option maxRecDepth 100000 in
theorem eqAp1_same (r : ApL) (w : World) : Calls Try.prog 43 #[apV r, apV r] w fun e w' => e = .returned (.bool true) ∧ Below w.heap.size w w' := by
  obtain ⟨F0, F1, F2, F3, F4, F5⟩ := r
  unfold apV
  go_enter Try.func43, Try.ntmps43
  go_wp2_with fail
  refine (eqEn1_same ⟨F3, F4, F5⟩ _).mono ?_
  rintro e w1 ⟨rfl, hb1⟩
  have hB : Below w.heap.size w w1 := (((Below.refl _ _).alloc (Nat.le_refl _) _).alloc (by simp) _).trans (hb1.mono (by simp; omega))
  clear hb1
  go_wp2
  go_ret
  exact ⟨rfl, hB⟩

set_option maxHeartbeats 2000000 in
set_option maxRecDepth 100000 in
theorem szApS_is {a : Option Addr} {g off cap : Nat} (l : List ApL) (hlen : l.length ≤ maxLen) (hsz : ∀ r ∈ l, smallAp maxLen r) (left : Nat) (hl : left ≤ 1048576) (w : World) (hf : ApAt w a g off l) :
    Calls Try.prog 14 #[.slice a l.length cap, .int .i64 (left : Int)] w fun e w' => ∃ x : Int, e = .returned (.int .i64 x) ∧ Left left (totAp l) x ∧ Below w.heap.size w w' := by
  have HF : Hid (ApAt w a g off l) := hf
  have HS : Hid (∀ r ∈ l, smallAp maxLen r) := hsz
  clear hf hsz
  unfold maxLen at hlen
  by_cases h0 : left < l.length
  · have h1 : (left : Int) - (l.length : Int) < 0 := by omega
    go_enter Try.func14, Try.ntmps14
    go_wp2
    go_ret
    exact ⟨_, rfl, Or.inr ⟨by have := totAp_len l; omega, rfl⟩, Below.refl _ _⟩
  · have h1 : ¬ (left : Int) - (l.length : Int) < 0 := by omega
    go_enter Try.func14, Try.ntmps14
    go_wp2
    go_loopw [1, 5] (fun x i wr => ∃ k R : Nat, k ≤ l.length ∧ i = .int .i64 (k : Int) ∧ x = .int .i64 (R : Int) ∧ R + totAp (l.take k) + (l.length - k) = left ∧ Below w.heap.size w wr)
      (fun _ i _ => l.length - (intOf i).toNat)
    case atStart => exact ⟨0, left - l.length, Nat.zero_le _, rfl, by go_num, by simp [totAp]; omega, Below.refl _ _⟩
    case round =>
      obtain ⟨k, R, hk, rfl, rfl, hR, hbel⟩ := hrel
      by_cases hlt : k < l.length
      · have hcc := (HF.out.kept hbel).2 k hlt
        have ea := HF.out.1 (by omega)
        subst ea
        have hs := HS.out l[k] (List.getElem_mem _)
        have HT := totAp_take hlt
        obtain ⟨F0, hF0⟩ : ∃ F0, F0 = l[k].node := ⟨_, rfl⟩
        obtain ⟨F1, hF1⟩ : ∃ F1, F1 = l[k].term := ⟨_, rfl⟩
        obtain ⟨F2, hF2⟩ : ∃ F2, F2 = l[k].index := ⟨_, rfl⟩
        obtain ⟨F3, hF3⟩ : ∃ F3, F3 = l[k].eterm := ⟨_, rfl⟩
        obtain ⟨F4, hF4⟩ : ∃ F4, F4 = l[k].ekind := ⟨_, rfl⟩
        obtain ⟨F5, hF5⟩ : ∃ F5, F5 = l[k].edata := ⟨_, rfl⟩
        have HEL : Hid (l[k] = ⟨F0, F1, F2, F3, F4, F5⟩) := by show _ = _; rw [hF0, hF1, hF2, hF3, hF4, hF5]
        simp only [← hF0, ← hF1, ← hF2, ← hF3, ← hF4, ← hF5] at hcc
        obtain ⟨c0, c1, c2, c3, c4, c5⟩ := hcc
        rw [HEL.out] at hs HT
        have HS1 : Hid _ := hs
        have HT1 : Hid _ := HT
        obtain ⟨Z, hZ⟩ : ∃ Z, Z = totAp1 ⟨F0, F1, F2, F3, F4, F5⟩ := ⟨_, rfl⟩
        have HZ : Hid (Z = totAp1 ⟨F0, F1, F2, F3, F4, F5⟩) := hZ
        clear hs HT hZ hF0 hF1 hF2 hF3 hF4 hF5
        have hk0 : (0 : Int) ≤ (k : Int) := by omega
        have hk1 : (k : Int) < (l.length : Int) := by omega
        have hRl : R ≤ 1048576 := by omega
        go_wp2_with fail
        refine (szAp1_is ⟨F0, F1, F2, F3, F4, F5⟩ HS1.out R hRl wr).mono ?_
        rintro e w1 ⟨x, rfl, hx, hb1⟩
        have hx' : Left R (totAp1 ⟨F0, F1, F2, F3, F4, F5⟩) x := hx
        rw [← HZ.out] at hx'
        clear hx
        rcases hx' with ⟨hx1, hx2⟩ | ⟨hx1, hx2⟩
        · obtain ⟨Y, hY⟩ : ∃ Y : Nat, Y = R - Z := ⟨_, rfl⟩
          rw [← hY] at hx2
          subst hx2
          have HY : Hid (Y = R - Z) := hY
          clear hY
          have hB : Below w.heap.size w w1 := hbel.trans (hb1.mono hbel.size)
          go_wp2
          go_roundw
          case rel => exact ⟨k + 1, Y, by omega, by go_num, rfl, by rw [HT1.out, ← HZ.out]; have := HY.out; omega, hB⟩
          case measure => simp [intOf]; omega
        · subst hx2
          have hB : Below w.heap.size w w1 := hbel.trans (hb1.mono hbel.size)
          have hno : ¬ totAp l ≤ left := by
            have e1 := totAp_app (l.take (k + 1)) (l.drop (k + 1))
            rw [List.take_append_drop] at e1
            have e2 := totAp_len (l.drop (k + 1))
            rw [List.length_drop] at e2
            have := HT1.out
            rw [← HZ.out] at this
            omega
          have HN : Hid (¬ totAp l ≤ left) := hno
          clear hno
          go_wp2
          go_ret
          exact ⟨_, rfl, Or.inr ⟨HN.out, rfl⟩, hB⟩
      · have hk1 : ¬ (k : Int) < (l.length : Int) := by omega
        have HN : Hid (totAp l + R = left) := by
          show _ = _
          rw [List.take_of_length_le (by omega)] at hR
          omega
        clear hR
        go_wp2
        go_ret
        exact ⟨_, rfl, Or.inl ⟨by have := HN.out; omega, by have := HN.out; omega⟩, hbel⟩
theorem Try.info64 : (Try.prog.info? 64).map (fun i => (i.zero, i.size, i.bytes)) = some (some (.agg #[.int .i64 0, .int .i64 0, .int .i64 0, .int .i64 0, .int .i64 0, .string ByteArray.empty]), 6, 56) := by kernel_rfl
set_option maxHeartbeats 2000000 in
set_option maxRecDepth 100000 in
theorem toApS_is {a : Option Addr} {g off cap : Nat} (l : List ApL) (hlen : l.length ≤ 1048576) (w : World) (hf : ApAt w a g off l) :
    Calls Try.prog 16 #[.slice a l.length cap] w fun e w' => e = .returned (.slice (some ⟨w.heap.size, 0, none⟩) l.length l.length) ∧
      w'.ownsRow w.heap.size 64 6 (.slice (some ⟨w.heap.size, 0, none⟩) l.length l.length) l.length (cellsAp l) ∧ Below w.heap.size w w' := by
  obtain ⟨i0, hi, hz0, hz1, hz2⟩ := info_parts Try.info64
  have HF : Hid (ApAt w a g off l) := hf
  clear hf
  go_enter Try.func16, Try.ntmps16
  go_wp2_with (at_make; refine wpList_make_full _ rfl _ _ 40 rfl w.heap.size 64 i0 (.agg #[.int .i64 0, .int .i64 0, .int .i64 0, .int .i64 0, .int .i64 0, .string ByteArray.empty]) 6 Try.underlying40 hi hz0 hz1 _ _ _ _ l.length rfl rfl (by omega) (by omega) ?b2 ?b3 (Nat.le_refl _) ?_)
  case b2 => rw [hz2]; omega
  case b3 => unfold maxLen; omega
  intro w0 hown0 hgrow0
  have hbel0 : Below w.heap.size w w0 := (Below.refl _ _).grown hgrow0 (Nat.le_refl _) (by simp)
  have hown0' : w0.ownsRow w.heap.size 64 6 (.slice (some ⟨w.heap.size, 0, none⟩) l.length l.length) l.length (cellsAp (List.replicate l.length ⟨0, 0, 0, 0, 0, ByteArray.empty⟩)) := by rw [← madeAp]; exact hown0
  clear hgrow0 hown0
  go_wp2
  go_loopw [4] (fun i wr => ∃ (k : Nat) (pre : List ApL), k ≤ l.length ∧ i = .int .i64 (k : Int) ∧ pre.length = l.length ∧ pre.take k = l.take k ∧
      wr.ownsRow w.heap.size 64 6 (.slice (some ⟨w.heap.size, 0, none⟩) l.length l.length) l.length (cellsAp pre) ∧ Below w.heap.size w wr)
    (fun i _ => l.length - (intOf i).toNat)
  case atStart => exact ⟨0, _, Nat.zero_le _, rfl, by simp, by simp, hown0', hbel0⟩
  case round =>
    obtain ⟨k, pre, hk, rfl, hpl, hpt, hown, hbel⟩ := hrel
    have HL : Hid (pre.length = l.length) := hpl
    have HT : Hid (pre.take k = l.take k) := hpt
    clear hpl hpt hown0' hbel0
    by_cases hlt : k < l.length
    · have hcc := (HF.out.kept hbel).2 k hlt
      have ea := HF.out.1 (by omega)
      subst ea
      have hgz := HF.out.lt (by omega)
      obtain ⟨F0, hF0⟩ : ∃ F0, F0 = l[k].node := ⟨_, rfl⟩
      obtain ⟨F1, hF1⟩ : ∃ F1, F1 = l[k].term := ⟨_, rfl⟩
      obtain ⟨F2, hF2⟩ : ∃ F2, F2 = l[k].index := ⟨_, rfl⟩
      obtain ⟨F3, hF3⟩ : ∃ F3, F3 = l[k].eterm := ⟨_, rfl⟩
      obtain ⟨F4, hF4⟩ : ∃ F4, F4 = l[k].ekind := ⟨_, rfl⟩
      obtain ⟨F5, hF5⟩ : ∃ F5, F5 = l[k].edata := ⟨_, rfl⟩
      have HEL : Hid (l[k] = ⟨F0, F1, F2, F3, F4, F5⟩) := by show _ = _; rw [hF0, hF1, hF2, hF3, hF4, hF5]
      simp only [← hF0, ← hF1, ← hF2, ← hF3, ← hF4, ← hF5] at hcc
      obtain ⟨c0, c1, c2, c3, c4, c5⟩ := hcc
      clear hF0 hF1 hF2 hF3 hF4 hF5
      have hk0 : (0 : Int) ≤ (k : Int) := by omega
      have hk1 : (k : Int) < (l.length : Int) := by omega
      go_wp2_with fail
      refine (toAp1_is ⟨F0, F1, F2, F3, F4, F5⟩ wr).mono ?_
      rintro e w1 ⟨rfl, hb1⟩
      unfold apV
      have hown1 := own_kept hown hb1
      have hbel1 : Below w.heap.size w w1 := hbel.trans (hb1.mono hbel.size)
      have hf0 := hown1.frozenAt (k * 6)
      have hf1 := hown1.frozenAt (k * 6 + 1)
      have hf2 := hown1.frozenAt (k * 6 + 2)
      have hf3 := hown1.frozenAt (k * 6 + 3)
      have hf4 := hown1.frozenAt (k * 6 + 4)
      have hf5 := hown1.frozenAt (k * 6 + 5)
      obtain ⟨u0, hu0⟩ : ∃ u0, w1.cell? ⟨w.heap.size, k * 6, none⟩ = some u0 := by
        rw [hown1.cellAt (k * 6) (by omega)]
        exact ⟨_, (cellsAp_at pre k (by rw [HL.out]; exact hlt)).1⟩
      obtain ⟨u1, hu1⟩ : ∃ u1, w1.cell? ⟨w.heap.size, k * 6 + 1, none⟩ = some u1 := by
        rw [hown1.cellAt (k * 6 + 1) (by omega)]
        exact ⟨_, (cellsAp_at pre k (by rw [HL.out]; exact hlt)).2.1⟩
      obtain ⟨u2, hu2⟩ : ∃ u2, w1.cell? ⟨w.heap.size, k * 6 + 2, none⟩ = some u2 := by
        rw [hown1.cellAt (k * 6 + 2) (by omega)]
        exact ⟨_, (cellsAp_at pre k (by rw [HL.out]; exact hlt)).2.2.1⟩
      obtain ⟨u3, hu3⟩ : ∃ u3, w1.cell? ⟨w.heap.size, k * 6 + 3, none⟩ = some u3 := by
        rw [hown1.cellAt (k * 6 + 3) (by omega)]
        exact ⟨_, (cellsAp_at pre k (by rw [HL.out]; exact hlt)).2.2.2.1⟩
      obtain ⟨u4, hu4⟩ : ∃ u4, w1.cell? ⟨w.heap.size, k * 6 + 4, none⟩ = some u4 := by
        rw [hown1.cellAt (k * 6 + 4) (by omega)]
        exact ⟨_, (cellsAp_at pre k (by rw [HL.out]; exact hlt)).2.2.2.2.1⟩
      obtain ⟨u5, hu5⟩ : ∃ u5, w1.cell? ⟨w.heap.size, k * 6 + 5, none⟩ = some u5 := by
        rw [hown1.cellAt (k * 6 + 5) (by omega)]
        exact ⟨_, (cellsAp_at pre k (by rw [HL.out]; exact hlt)).2.2.2.2.2⟩
      have hst := ((((((hown1.stored (k * 6) (.int .i64 F0)).1.stored (k * 6 + 1) (.int .i64 F1)).1.stored (k * 6 + 2) (.int .i64 F2)).1.stored (k * 6 + 3) (.int .i64 F3)).1.stored (k * 6 + 4) (.int .i64 F4)).1.stored (k * 6 + 5) (.string F5))
      rw [← cellsAp_set pre k ⟨F0, F1, F2, F3, F4, F5⟩] at hst
      have HST : Hid (_ ∧ _) := hst
      clear hst hb1 hown hbel
      go_wp2
      go_roundw
      case rel => exact ⟨k + 1, pre.set k ⟨F0, F1, F2, F3, F4, F5⟩, by omega, by go_num, by rw [List.length_set]; exact HL.out, take_set_step hlt HL.out HT.out HEL.out, HST.out.1, ((((((hbel1.setCell (Nat.le_refl _) _).setCell (Nat.le_refl _) _).setCell (Nat.le_refl _) _).setCell (Nat.le_refl _) _).setCell (Nat.le_refl _) _).setCell (Nat.le_refl _) _)⟩
      case measure => simp [intOf]; omega
    · have hk1 : ¬ (k : Int) < (l.length : Int) := by omega
      have HE : Hid (pre = l) := by
        show _ = _
        have h := HT.out
        rwa [List.take_of_length_le (by rw [HL.out]; omega), List.take_of_length_le (by omega)] at h
      go_wp2
      go_ret
      exact ⟨rfl, by rw [HE.out] at hown; exact hown, hbel⟩
set_option maxHeartbeats 2000000 in
set_option maxRecDepth 100000 in
theorem eqApS_same {a b : Option Addr} {g off cap h off' cap' : Nat} (l : List ApL) (hlen : l.length ≤ 1048576) (w : World) (hf : ApAt w a g off l) (hf' : ApAt w b h off' l) :
    Calls Try.prog 18 #[.slice a l.length cap, .slice b l.length cap'] w fun e w' => e = .returned (.bool true) ∧ Below w.heap.size w w' := by
  have HF : Hid (ApAt w a g off l) := hf
  have HF' : Hid (ApAt w b h off' l) := hf'
  clear hf hf'
  go_enter Try.func18, Try.ntmps18
  go_wp2
  go_loopw [5] (fun i wr => ∃ k : Nat, k ≤ l.length ∧ i = .int .i64 (k : Int) ∧ Below w.heap.size w wr)
    (fun i _ => l.length - (intOf i).toNat)
  case atStart => exact ⟨0, Nat.zero_le _, rfl, Below.refl _ _⟩
  case round =>
    obtain ⟨k, hk, rfl, hbel⟩ := hrel
    by_cases hlt : k < l.length
    · have hcc := (HF.out.kept hbel).2 k hlt
      have hdd := (HF'.out.kept hbel).2 k hlt
      have ea := HF.out.1 (by omega)
      have eb := HF'.out.1 (by omega)
      subst ea eb
      obtain ⟨F0, hF0⟩ : ∃ F0, F0 = l[k].node := ⟨_, rfl⟩
      obtain ⟨F1, hF1⟩ : ∃ F1, F1 = l[k].term := ⟨_, rfl⟩
      obtain ⟨F2, hF2⟩ : ∃ F2, F2 = l[k].index := ⟨_, rfl⟩
      obtain ⟨F3, hF3⟩ : ∃ F3, F3 = l[k].eterm := ⟨_, rfl⟩
      obtain ⟨F4, hF4⟩ : ∃ F4, F4 = l[k].ekind := ⟨_, rfl⟩
      obtain ⟨F5, hF5⟩ : ∃ F5, F5 = l[k].edata := ⟨_, rfl⟩
      have HEL : Hid (l[k] = ⟨F0, F1, F2, F3, F4, F5⟩) := by show _ = _; rw [hF0, hF1, hF2, hF3, hF4, hF5]
      simp only [← hF0, ← hF1, ← hF2, ← hF3, ← hF4, ← hF5] at hcc hdd
      obtain ⟨c0, c1, c2, c3, c4, c5⟩ := hcc
      obtain ⟨d0, d1, d2, d3, d4, d5⟩ := hdd
      clear hF0 hF1 hF2 hF3 hF4 hF5
      have hk0 : (0 : Int) ≤ (k : Int) := by omega
      have hk1 : (k : Int) < (l.length : Int) := by omega
      go_wp2
      have NE := Abv.ne wr
      have C0 := fun x : Abv wr => x.cell c0
      have D0 := fun x : Abv wr => x.cell d0
      have C1 := fun x : Abv wr => x.cell c1
      have D1 := fun x : Abv wr => x.cell d1
      have C2 := fun x : Abv wr => x.cell c2
      have D2 := fun x : Abv wr => x.cell d2
      have C3 := fun x : Abv wr => x.cell c3
      have D3 := fun x : Abv wr => x.cell d3
      have C4 := fun x : Abv wr => x.cell c4
      have D4 := fun x : Abv wr => x.cell d4
      have C5 := fun x : Abv wr => x.cell c5
      have D5 := fun x : Abv wr => x.cell d5
      refine wp_region_above (by kernel_rfl) (by kernel_rfl) ?_
      repeat (go_big_quiet_step (first | (go_at_call 43; exact calls_above (eqAp1_same ⟨F0, F1, F2, F3, F4, F5⟩ _))))
      refine wpQuiet_nil ?_
      rintro w1 ⟨⟨_, hb1⟩, rfl⟩
      clear NE C0 D0 C1 D1 C2 D2 C3 D3 C4 D4 C5 D5
      go_wp2
      go_roundw
      case rel => exact ⟨k + 1, by omega, by go_num, hbel.trans (hb1.mono hbel.size)⟩
      case measure => simp [intOf]; omega
    · have hk1 : ¬ (k : Int) < (l.length : Int) := by omega
      go_wp2
      go_ret
      exact ⟨rfl, hbel⟩
theorem ApAt.cellsAll {w : World} {a : Option Addr} {g off : Nat} {l : List ApL} (h : ApAt w a g off l) : ∀ j u, (cellsAp l)[j]? = some u → w.cell? ((⟨g, off, none⟩ : Addr).add j) = some u := by
  intro j u hu
  rw [Addr.add_lit]
  have hj : j < l.length * 6 := by rw [← cellsAp_len]; exact (List.getElem?_eq_some_iff.1 hu).1
  obtain ⟨k, i, hi, rfl⟩ : ∃ k i, i < 6 ∧ j = k * 6 + i := ⟨j / 6, j % 6, by omega, by omega⟩
  have h1 := cellsAp_at l k (by omega)
  have h2 := h.2 k (by omega)
  have h3 : i = 0 ∨ i = 1 ∨ i = 2 ∨ i = 3 ∨ i = 4 ∨ i = 5 := by omega
  rcases h3 with rfl | rfl | rfl | rfl | rfl | rfl
  · rw [show k * 6 + 0 = k * 6 from by omega, h1.1] at hu
    rw [← Option.some.inj hu]
    simpa [Nat.add_assoc] using h2.1
  · rw [h1.2.1] at hu
    rw [← Option.some.inj hu]
    simpa [Nat.add_assoc] using h2.2.1
  · rw [h1.2.2.1] at hu
    rw [← Option.some.inj hu]
    simpa [Nat.add_assoc] using h2.2.2.1
  · rw [h1.2.2.2.1] at hu
    rw [← Option.some.inj hu]
    simpa [Nat.add_assoc] using h2.2.2.2.1
  · rw [h1.2.2.2.2.1] at hu
    rw [← Option.some.inj hu]
    simpa [Nat.add_assoc] using h2.2.2.2.2.1
  · rw [h1.2.2.2.2.2] at hu
    rw [← Option.some.inj hu]
    simpa [Nat.add_assoc] using h2.2.2.2.2.2
theorem cellsAp_one {l : List ApL} : ∀ u ∈ cellsAp l, u.oneCell' = true := by
  intro u hu
  unfold cellsAp at hu
  obtain ⟨r, _, hr⟩ := List.mem_flatMap.1 hu
  simp only [List.mem_cons, List.not_mem_nil, or_false] at hr
  rcases hr with rfl | rfl | rfl | rfl | rfl | rfl <;> rfl
/-- 'append(x, y...)' onto a row of the call's own. -/
theorem wpList_appendAp {w : World} {ops : Array Oper} {rest : List Oper} {o : Oper} {act : Act} {Q : Exit → Act → World → Prop} (hgd : o.guard = none) (s x : Operand)
    (ho : o.op = .call { callee := .builtin .append, args := #[s, x], argTypes := #[40, 40] }) (base : Nat) (v : Value) (n : Nat) (xs : List Value) (hs : act.eval s = v) (hown : w.ownsRow base 64 6 v n xs)
    (a : Option Addr) (g off cap : Nat) (l : List ApL) (hx : act.eval x = .slice a l.length cap) (hf : ApAt w a g off l) (hnil : a = none → cap = 0) (h63 : n + l.length ≤ 2097152) (hbase : base ≤ w.heap.size)
    (h : ∀ v' w', w'.ownsRow base 64 6 v' (n + l.length) (xs ++ cellsAp l) → w.grownBy w' v.ownBlock → wpList Try.prog ops Q rest (act.put o.dst v') w') : wpList Try.prog ops Q (o :: rest) act w := by
  obtain ⟨i0, hi, hz0, hz1, hz2⟩ := info_parts Try.info64
  cases a with
  | none =>
    have hl : l = [] := by
      cases l with
      | nil => rfl
      | cons f r => have := hf.1 (by simp); cases this
    subst hl
    rw [hnil rfl] at hx
    refine wpList_append_own_none hgd s x 40 ho base 64 i0 6 Try.underlying40 hi v n xs hs hown hx ?_
    refine h v w ?_ (World.grownBy.refl _ _)
    simpa [cellsAp] using hown
  | some ad =>
    have had : 0 < l.length → ad = ⟨g, off, none⟩ := fun hp => Option.some.inj (hf.1 hp)
    refine wpList_append_own w hgd s x 40 ho base 64 i0 (.agg #[.int .i64 0, .int .i64 0, .int .i64 0, .int .i64 0, .int .i64 0, .string ByteArray.empty]) 6 56 Try.underlying40 hi hz0 hz1 hz2 rfl (by decide) v n xs hs hown ad l.length cap (cellsAp l) hx (cellsAp_len l) ?_ cellsAp_one (by unfold maxLen; omega) (by omega) hbase ?_
    · intro j u hu
      have hp : 0 < l.length := by
        have := (List.getElem?_eq_some_iff.1 hu).1
        rw [cellsAp_len] at this
        omega
      rw [had hp]
      exact hf.cellsAll j u hu
    · intro v' w' h1 h2 _
      exact h v' w' h1 h2
/-- Marked ones: from k on, 6 numbers each. -/
def markAp1 (m : Nat) : ApL := ⟨((m : Nat) : Int), ((m + 1 : Nat) : Int), ((m + 2 : Nat) : Int), ((m + 3 : Nat) : Int), ((m + 4 : Nat) : Int), mk (m + 5)⟩
def marksAp (k n : Nat) : List ApL := (List.range n).map fun i => markAp1 (k + 6 * i)
theorem marksAp_len (k n : Nat) : (marksAp k n).length = n := by simp [marksAp]
theorem marksAp_at (k n j : Nat) (hj : j < (marksAp k n).length) : (marksAp k n)[j] = markAp1 (k + 6 * j) := by simp [marksAp]
end Go.Proofs.Ytddmogggdckneaa
