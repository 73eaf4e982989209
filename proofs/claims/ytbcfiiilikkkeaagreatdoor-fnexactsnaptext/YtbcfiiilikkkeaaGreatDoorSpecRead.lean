/- The call of the specification's BatchText, walked. The exact law of BatchText, walked. The call of the specification's ReadBatch, walked. -/
import Derived.Test.YtbcfiiilikkkeaaGreatDoorOkLaw
import Derived.Test.YtbcfiiilikkkeaaGreatDoorReadLaw
import Derived.Deep.RegionHeld3
import Derived.Test.YtbcfiiilikkkeaaGreatDoorSpecCur
import Derived.Test.YtbcfiiilikkkeaaGreatDoorReadBatch
namespace Go.Proofs.YtbcfiiilikkkeaaGreatDoor
open Go.RowKit

theorem l01Var_q (x : Int) (h0 : 0 ≤ x) (h1 : x ≤ 1000000000) (w : World) : Calls Tryz.prog 128 #[.int .i64 x] w fun e w' => e = .returned (.string (varS x)) ∧ Below w.heap.size w w' := l01Var_int x h0 h1 w
set_option maxHeartbeats 400000 in
theorem l05Short_q (s : ByteArray) (h : s.size ≤ 1000000) (w : World) : Calls Tryz.prog 129 #[.string s] w fun e w' => e = .returned (.string (shortS s)) ∧ Below w.heap.size w w' := by
  have hi : Is (varS (s.size : Int) ++ s) (Batches.short s) := by have := (varS_is (s.size : Int)).app (T := s) rfl; simpa [Batches.short] using this
  have hz := varS_size (s.size : Int) 1000000 (by omega)
  have z3 : ¬ 9223372036854775807 < (varS (s.size : Int)).size + s.size := by omega
  have HS : Hid (Value.string (shortS s) = .string (varS (s.size : Int) ++ s)) := by show _ = _; rw [hi.eq]; rfl
  clear hi
  go_enter Tryz.func129, Tryz.ntmps129
  go_wp2_with (go_at_call 128; refine (l01Var_q (s.size : Int) (by omega) (by omega) _).mono ?_; rintro e w1 ⟨rfl, hb1⟩)
  go_ret
  exact ⟨by rw [HS.out]; rfl, hb1⟩
set_option maxHeartbeats 400000 in
theorem specText_no (st : Int) {a : Option Addr} {g off cap : Nat} (l : List ChangeL) (hlen : l.length ≤ 2097152) (w : World) (hf : ChangeAt w a g off l) (hsz : ∀ c ∈ l, smallChange 2097152 c) (hR : ¬ Batches.ok st l) :
    Calls Tryz.prog 58 #[.agg #[.int .i64 st, .slice a l.length cap]] w fun e w' => e = .returned (.tuple #[.string ⟨#[]⟩, .bool false]) ∧ Below w.heap.size w w' := by
  have HF : Hid (ChangeAt (w.alloc (Obj.cells #[Value.int IntKind.i64 st, Value.slice a l.length cap] 51)) a g off l) := hf.kept ((Below.refl _ _).alloc (Nat.le_refl _) _)
  have HS : Hid (∀ c ∈ l, smallChange 2097152 c) := hsz
  have HR : Hid (¬ Batches.ok st l) := hR
  clear hf hsz hR
  go_enter Tryz.func58, Tryz.ntmps58
  go_wp2_with (go_at_call 101; refine (specOk_any false st l hlen _ HF.out HS.out (by simp [HR.out])).mono ?_; rintro e w1 ⟨rfl, hb1⟩)
  go_ret2
  exact ⟨rfl, ((Below.refl _ _).alloc (Nat.le_refl _) _).trans (hb1.mono (by simp))⟩
set_option maxHeartbeats 1000000 in
set_option maxRecDepth 100000 in
theorem specText_yes (st : Int) {a : Option Addr} {g off cap : Nat} (l : List ChangeL) (hlen : l.length ≤ 2097152) (w : World) (hf : ChangeAt w a g off l) (hsz : ∀ c ∈ l, smallChange 2097152 c) (hR : Batches.ok st l) :
    Calls Tryz.prog 58 #[.agg #[.int .i64 st, .slice a l.length cap]] w fun e w' => e = .returned (.tuple #[.string ⟨(Batches.text st.toNat l).toArray⟩, .bool true]) ∧ Below w.heap.size w w' := by
  obtain ⟨W, hW⟩ : ∃ W, W = w.alloc (Obj.cells #[Value.int IntKind.i64 st, Value.slice a l.length cap] 51) := ⟨_, rfl⟩
  have hWb : Below w.heap.size w W := by rw [hW]; exact (Below.refl _ _).alloc (Nat.le_refl _) _
  have hc0 : W.cell? ⟨w.heap.size, 0, none⟩ = some (.int .i64 st) := by rw [hW]; exact cell_of_row _ _ 0 _ _ _ (heap_alloc_new w _)
  have hc1 : W.cell? ⟨w.heap.size, 1, none⟩ = some (.slice a l.length cap) := by rw [hW]; exact cell_of_row _ _ 1 _ _ _ (heap_alloc_new w _)
  have hWz : w.heap.size < W.heap.size := World.block_lt_of_cell? W _ hc0
  have HF : Hid (ChangeAt W a g off l) := hf.kept hWb
  have HS : Hid (∀ c ∈ l, smallChange 2097152 c) := hsz
  have HR : Hid (Batches.ok st l) := hR
  have hst := hR.1
  have hl60 := hR.2.1
  clear hf hsz hR
  go_enter Tryz.func58, Tryz.ntmps58
  go_wp2_with fail
  rw [← hW]
  clear hW
  refine (specOk_any true st l hlen _ HF.out HS.out (by simp [HR.out])).mono ?_
  rintro e w1 ⟨rfl, hb1⟩
  have d0 : w1.cell? ⟨w.heap.size, 0, none⟩ = some (.int .i64 st) := (hb1.cell (p := ⟨w.heap.size, 0, none⟩) hWz).trans hc0
  have d1 : w1.cell? ⟨w.heap.size, 1, none⟩ = some (.slice a l.length cap) := (hb1.cell (p := ⟨w.heap.size, 1, none⟩) hWz).trans hc1
  have hB1 : Below w.heap.size w w1 := hWb.trans (hb1.mono hWb.size)
  have HF1 : Hid (ChangeAt w1 a g off l) := HF.out.kept hb1
  have hz1 : w.heap.size < w1.heap.size := Nat.lt_of_lt_of_le hWz hb1.size
  clear hWb hc0 hc1 hWz HF hb1
  go_wp2_with fail
  have z1 := varS_size st 100000 (by omega)
  have z2 := varS_size (l.length : Int) 60 (by omega)
  have z3 : ¬ 9223372036854775807 < (varS st).size + (varS (l.length : Int)).size := by omega
  have NE := Abv.ne w1
  have F0 := fun x : Abv w1 => x.cell d0
  have F1 := fun x : Abv w1 => x.cell d1
  refine wp_region_above (by kernel_rfl) (by kernel_rfl) ?_
  repeat (go_big_quiet_step (first | (go_at_call 128; exact calls_above (l01Var_q _ (by omega) (by omega) _))))
  refine wpQuiet_nil ?_
  rintro w2 ⟨⟨_, hb2⟩, rfl⟩
  clear NE F0 F1
  have HI : Hid (Upto st l 0 (varS st ++ varS l.length)) := upto_zero st l
  have z4 : (varS st ++ varS l.length).size ≤ 200000 := by rw [ByteArray.size_append]; omega
  obtain ⟨S, hS⟩ : ∃ S, S = varS st ++ varS l.length := ⟨_, rfl⟩
  rw [← hS] at HI z4 ⊢
  clear hS z1 z2 z3
  have d2 : w2.cell? ⟨w.heap.size, 1, none⟩ = some (.slice a l.length cap) := (hb2.cell (p := ⟨w.heap.size, 1, none⟩) hz1).trans d1
  have hz2 : w.heap.size < w2.heap.size := Nat.lt_of_lt_of_le hz1 hb2.size
  have hB2 : Below w.heap.size w w2 := hB1.trans (hb2.mono hB1.size)
  have HF2 : Hid (ChangeAt w2 a g off l) := HF1.out.kept hb2
  clear d0 d1 hB1 HF1 hz1 hb2
  go_wp2
  go_loopw [4, 5] (fun x i wr => ∃ (k : Nat) (S : ByteArray), k ≤ l.length ∧ i = .int .i64 (k : Int) ∧ x = .string S ∧ Upto st l k S ∧ S.size ≤ 200000 + 200 * k ∧ Below w2.heap.size w2 wr)
    (fun _ i _ => l.length - (intOf i).toNat)
  case atStart => exact ⟨0, S, Nat.zero_le _, rfl, rfl, HI.out, z4, Below.refl _ _⟩
  case round =>
    obtain ⟨k, S, hk, rfl, rfl, hup, hz, hbel⟩ := hrel
    have HU : Hid (Upto st l k S) := hup
    have d3 : wr.cell? ⟨w.heap.size, 1, none⟩ = some (.slice a l.length cap) := (hbel.cell (p := ⟨w.heap.size, 1, none⟩) hz2).trans d2
    clear hup
    by_cases hlt : k < l.length
    · obtain ⟨c0, c1, c2⟩ := (HF2.out.kept hbel).2 k hlt
      have ea := HF2.out.1 (by omega)
      subst ea
      obtain ⟨A, hA⟩ : ∃ A, A = l[k].key := ⟨_, rfl⟩
      obtain ⟨V, hV⟩ : ∃ V, V = l[k].value := ⟨_, rfl⟩
      obtain ⟨G, hG⟩ : ∃ G, G = l[k].gone := ⟨_, rfl⟩
      obtain ⟨_, o1, _⟩ := HR.out.2.2 k hlt
      have s0 := o1.2.1
      have s1 := o1.2.2.1
      rw [← hA] at c0 s0
      rw [← hV] at c1 s1
      rw [← hG] at c2
      have HE : Hid (l[k] = ⟨A, V, G⟩) := by show _ = _; rw [hA, hV, hG]
      clear hA hV hG o1
      have hk0 : (0 : Int) ≤ (k : Int) := by omega
      have hk1 : (k : Int) < (l.length : Int) := by omega
      have y0 := shortS_size A 10 s0
      have y1 := shortS_size V 40 s1
      cases G with
      | true =>
        have y3 : (⟨#[1]⟩ : ByteArray).size = 1 := rfl
        have x1 : ¬ 9223372036854775807 < S.size + (shortS A).size := by omega
        have x2 : ¬ 9223372036854775807 < (S ++ shortS A).size + (⟨#[1]⟩ : ByteArray).size := by rw [ByteArray.size_append]; omega
        have x3 : ¬ 9223372036854775807 < (S ++ shortS A ++ ⟨#[1]⟩).size + (shortS V).size := by rw [ByteArray.size_append, ByteArray.size_append]; omega
        have HN : Hid (Upto st l (k + 1) (S ++ shortS A ++ ⟨#[1]⟩ ++ shortS V)) := by
          have := upto_step hlt HU.out HE.out (one_is A V true)
          show Upto _ _ _ _
          have e : S ++ (shortS A ++ flagS true ++ shortS V) = S ++ shortS A ++ ⟨#[1]⟩ ++ shortS V := Batches.by_inj (by unfold Batches.by_; simp only [app_list, List.append_assoc]; rfl)
          rw [← e]; exact this
        have hz3 : (S ++ shortS A ++ ⟨#[1]⟩ ++ shortS V).size ≤ 200000 + 200 * (k + 1) := by rw [ByteArray.size_append, ByteArray.size_append, ByteArray.size_append]; omega
        go_wp2_with fail
        have NE := Abv.ne wr
        have F0 := fun x : Abv wr => x.cell c0
        have F1 := fun x : Abv wr => x.cell c1
        have F2 := fun x : Abv wr => x.cell d3
        refine wp_region_above (by kernel_rfl) (by kernel_rfl) ?_
        repeat (go_big_quiet_step (first | (go_at_call 129; exact calls_above (l05Short_q _ (by omega) _))))
        refine wpQuiet_nil ?_
        rintro w3 ⟨⟨_, hb3⟩, rfl⟩
        clear NE F0 F1 F2 x1 x2 x3
        obtain ⟨T, hT⟩ : ∃ T, T = S ++ shortS A ++ ⟨#[1]⟩ ++ shortS V := ⟨_, rfl⟩
        rw [← hT] at HN hz3 ⊢
        clear hT
        go_wp2
        go_roundw
        case rel => exact ⟨k + 1, T, by omega, by go_num, rfl, HN.out, hz3, hbel.trans (hb3.mono hbel.size)⟩
        case measure => simp [intOf]; omega
      | false =>
        have y3 : (⟨#[0]⟩ : ByteArray).size = 1 := rfl
        have x1 : ¬ 9223372036854775807 < S.size + (shortS A).size := by omega
        have x2 : ¬ 9223372036854775807 < (S ++ shortS A).size + (⟨#[0]⟩ : ByteArray).size := by rw [ByteArray.size_append]; omega
        have x3 : ¬ 9223372036854775807 < (S ++ shortS A ++ ⟨#[0]⟩).size + (shortS V).size := by rw [ByteArray.size_append, ByteArray.size_append]; omega
        have HN : Hid (Upto st l (k + 1) (S ++ shortS A ++ ⟨#[0]⟩ ++ shortS V)) := by
          have := upto_step hlt HU.out HE.out (one_is A V false)
          show Upto _ _ _ _
          have e : S ++ (shortS A ++ flagS false ++ shortS V) = S ++ shortS A ++ ⟨#[0]⟩ ++ shortS V := Batches.by_inj (by unfold Batches.by_; simp only [app_list, List.append_assoc]; rfl)
          rw [← e]; exact this
        have hz3 : (S ++ shortS A ++ ⟨#[0]⟩ ++ shortS V).size ≤ 200000 + 200 * (k + 1) := by rw [ByteArray.size_append, ByteArray.size_append, ByteArray.size_append]; omega
        go_wp2_with fail
        have NE := Abv.ne wr
        have F0 := fun x : Abv wr => x.cell c0
        have F1 := fun x : Abv wr => x.cell c1
        have F2 := fun x : Abv wr => x.cell d3
        refine wp_region_above (by kernel_rfl) (by kernel_rfl) ?_
        repeat (go_big_quiet_step (first | (go_at_call 129; exact calls_above (l05Short_q _ (by omega) _))))
        refine wpQuiet_nil ?_
        rintro w3 ⟨⟨_, hb3⟩, rfl⟩
        clear NE F0 F1 F2 x1 x2 x3
        obtain ⟨T, hT⟩ : ∃ T, T = S ++ shortS A ++ ⟨#[0]⟩ ++ shortS V := ⟨_, rfl⟩
        rw [← hT] at HN hz3 ⊢
        clear hT
        go_wp2
        go_roundw
        case rel => exact ⟨k + 1, T, by omega, by go_num, rfl, HN.out, hz3, hbel.trans (hb3.mono hbel.size)⟩
        case measure => simp [intOf]; omega
    · have hk1 : ¬ (k : Int) < (l.length : Int) := by omega
      have HE : Hid (S = ⟨(Batches.text st.toNat l).toArray⟩) := upto_all (by omega) HU.out
      go_wp2
      go_ret2
      exact ⟨by rw [← HE.out]; rfl, hB2.trans (hbel.mono hB2.size)⟩
end Go.Proofs.YtbcfiiilikkkeaaGreatDoor
namespace Go.Proofs.YtbcfiiilikkkeaaGreatDoor
open Go.RowKit

/-- What BatchText is to answer. -/
def Txt (st : Int) (l : List ChangeL) (S : ByteArray) (R : Bool) : Prop := (Batches.ok st l ∧ S = ⟨(Batches.text st.toNat l).toArray⟩ ∧ R = true) ∨ (¬ Batches.ok st l ∧ S = ⟨#[]⟩ ∧ R = false)
theorem txt_ex (st : Int) (l : List ChangeL) : ∃ S R, Txt st l S R := by
  by_cases h : Batches.ok st l
  · exact ⟨_, _, Or.inl ⟨h, rfl, rfl⟩⟩
  · exact ⟨_, _, Or.inr ⟨h, rfl, rfl⟩⟩
theorem specText_any {st : Int} {l : List ChangeL} {S : ByteArray} {R : Bool} (hT : Txt st l S R) {a : Option Addr} {g off cap : Nat} (hlen : l.length ≤ 2097152) (w : World) (hf : ChangeAt w a g off l) (hsz : ∀ c ∈ l, smallChange 2097152 c) :
    Calls Tryz.prog 58 #[.agg #[.int .i64 st, .slice a l.length cap]] w fun e w' => e = .returned (.tuple #[.string S, .bool R]) ∧ Below w.heap.size w w' := by
  rcases hT with ⟨h, rfl, rfl⟩ | ⟨h, rfl, rfl⟩
  · exact specText_yes st l hlen w hf hsz h
  · exact specText_no st l hlen w hf hsz h
end Go.Proofs.YtbcfiiilikkkeaaGreatDoor
namespace Go.Proofs.YtbcfiiilikkkeaaGreatDoor
open Go.RowKit
set_option linter.unusedVariables false

/-- What the specification's ReadBatch holds: the cursor, the variable b, the result's, the changes read so far. -/
structure SSt (w : World) (cb bb : Nat) (t : ByteArray) (st : Int) (a : Nat) (bad : Bool) (v : Value) (pre : List ChangeL) (W : World) : Prop where
  cur : C5 W cb t a bad
  blk : W.heap[bb]? = some (.cells #[.int .i64 st, v] 51 (0, 0))
  res : W.heap[w.heap.size]? = some (.cells #[.int .i64 0, .slice none 0 0] 51 (0, 0))
  own : W.ownsRow w.heap.size 149 3 v pre.length (cellsChange pre)
  below : Below w.heap.size w W
  up : w.heap.size < cb ∧ cb < bb
section
variable {w W W' : World} {cb bb a a' : Nat} {t : ByteArray} {st : Int} {bad bad' : Bool} {v : Value} {pre : List ChangeL}
theorem SSt.call (h : SSt w cb bb t st a bad v pre W) (hr : C5 W' cb t a' bad') (hg : W.grownBy W' (some cb)) : SSt w cb bb t st a' bad' v pre W' :=
  have hu := h.up
  ⟨hr, grown_keep h.blk hg (by omega), grown_keep h.res hg (by omega), h.own.kept hg (Or.inr (own_not h.own h.cur.1 (by decide))), h.below.grown hg h.below.size (fun k e => by cases e; omega), hu⟩
theorem SSt.same (h : SSt w cb bb t st a bad v pre W) (hb : Below W.heap.size W W') : SSt w cb bb t st a bad v pre W' := h.call (h.cur.below hb) (own_below' hb)
theorem SSt.alloc (h : SSt w cb bb t st a bad v pre W) (o : Obj) : SSt w cb bb t st a bad v pre (W.alloc o) := h.same ((Below.refl _ _).alloc (Nat.le_refl _) _)
theorem SSt.stamp (h : SSt w cb bb t st a bad v pre W) (st' : Int) : SSt w cb bb t st' a bad v pre (W.setCell ⟨bb, 0, none⟩ (.int .i64 st')) := by
  have hu := h.up
  have hblk : (W.setCell ⟨bb, 0, none⟩ (.int .i64 st')).heap[bb]? = some (.cells #[.int .i64 st', v] 51 (0, 0)) := by
    have := heap_setCell_same W bb 0 _ 51 (.int .i64 st') h.blk
    simpa using this
  exact ⟨h.cur.far (by omega) _ _, hblk, set_far h.res (by omega) _ _, own_set h.own _ _ _ (own_not h.own h.blk (by decide)), h.below.setCell (show w.heap.size ≤ bb by omega) _, hu⟩
theorem SSt.far (h : SSt w cb bb t st a bad v pre W) {q : Nat} (hq : bb < q) (hne : v.ownBlock ≠ some q) (j : Nat) (u : Value) : SSt w cb bb t st a bad v pre (W.setCell ⟨q, j, none⟩ u) := by
  have hu := h.up
  exact ⟨h.cur.far (by omega) _ _, set_far h.blk (by omega) _ _, set_far h.res (by omega) _ _, own_set h.own _ _ _ hne, h.below.setCell (show w.heap.size ≤ q by omega) _, hu⟩
theorem SSt.app (h : SSt w cb bb t st a bad v pre W) {v' : Value} {c : ChangeL} (hg : W.grownBy W' v.ownBlock) (hown : W'.ownsRow w.heap.size 149 3 v' (pre.length + 1) (cellsChange pre ++ [.string c.key, .string c.value, .bool c.gone])) :
    SSt w cb bb t st a bad v' (pre ++ [c]) (W'.setCell ⟨bb, 1, none⟩ v') := by
  have hu := h.up
  have e1 : ∀ {q : Nat} {cs : Array Value} {ty : TypeId}, W.heap[q]? = some (.cells cs ty (0, 0)) → 149 ≠ ty → W'.heap[q]? = some (.cells cs ty (0, 0)) := fun {q cs ty} hq hne =>
    (hg.block q (Array.getElem?_eq_some_iff.1 hq).1 (fun e => own_not h.own hq hne e.symm)).trans hq
  have hb' := e1 h.blk (by decide)
  have hblk : (W'.setCell ⟨bb, 1, none⟩ v').heap[bb]? = some (.cells #[.int .i64 st, v'] 51 (0, 0)) := by
    have := heap_setCell_same W' bb 1 _ 51 v' hb'
    simpa using this
  have hown' : W'.ownsRow w.heap.size 149 3 v' (pre ++ [c]).length (cellsChange (pre ++ [c])) := by
    rw [cellsChange_app, List.length_append]; exact hown
  have hc : C5 W' cb t a bad := ⟨e1 h.cur.1 (by decide), h.cur.2⟩
  exact ⟨hc.far (by omega) _ _, hblk, set_far (e1 h.res (by decide)) (by omega) _ _, own_set hown' _ _ _ (own_not hown' hb' (by decide)), (h.below.grown hg h.below.size (fun k e => (h.own.lt k e).1)).setCell (show w.heap.size ≤ bb by omega) _, hu⟩
theorem SSt.c1 (h : SSt w cb bb t st a bad v pre W) : W.cell? ⟨bb, 1, none⟩ = some v := cell_of_row _ _ 1 _ _ _ h.blk
theorem SSt.c0 (h : SSt w cb bb t st a bad v pre W) : W.cell? ⟨bb, 0, none⟩ = some (.int .i64 st) := cell_of_row _ _ 0 _ _ _ h.blk
theorem SSt.f (h : SSt w cb bb t st a bad v pre W) (i : Nat) : W.frozen? ⟨bb, i, none⟩ = false := frozen_of_row _ _ _ _ _ h.blk
theorem SSt.bz (h : SSt w cb bb t st a bad v pre W) : bb < W.heap.size := (Array.getElem?_eq_some_iff.1 h.blk).1
theorem SSt.new (h : SSt w cb bb t st a bad v pre W) : v.ownBlock ≠ some W.heap.size := fun e => by have := (h.own.lt _ e).2; omega
end
theorem read5_start (t : ByteArray) (w : World) : ∃ W, W = (((w.alloc (Obj.cells #[Value.int IntKind.i64 0, Value.slice none 0 0] 51)).alloc (Obj.cells #[Value.string t, Value.int IntKind.i64 0, Value.bool false] 223)).alloc (Obj.cells #[Value.int IntKind.i64 0, Value.slice none 0 0] 51)) ∧ SSt w (w.heap.size + 1) (w.heap.size + 1 + 1) t 0 0 false (.slice none 0 0) [] W := by
  refine ⟨_, rfl, ⟨?_, Nat.zero_le _⟩, ?_, ?_, World.ownsRow_nil _ _ _ _, (((Below.refl _ _).alloc (Nat.le_refl _) _).alloc (by simp) _).alloc (by simp; omega) _, by omega, by omega⟩
  · rw [Below.heap_alloc _ _ _ (by simp)]
    have := heap_alloc_new (w.alloc (Obj.cells #[Value.int IntKind.i64 0, Value.slice none 0 0] 51)) (Obj.cells #[Value.string t, Value.int IntKind.i64 0, Value.bool false] 223)
    simpa using this
  · have := heap_alloc_new ((w.alloc (Obj.cells #[Value.int IntKind.i64 0, Value.slice none 0 0] 51)).alloc (Obj.cells #[Value.string t, Value.int IntKind.i64 0, Value.bool false] 223)) (Obj.cells #[Value.int IntKind.i64 0, Value.slice none 0 0] 51)
    simpa using this
  · rw [Below.heap_alloc _ _ _ (by simp; omega), Below.heap_alloc _ _ _ (by simp)]
    exact heap_alloc_new w _
theorem one_byte {t : ByteArray} {a : Nat} (h : a < t.size) : (t.extract a (a + 1)).toList = [t[a]] := by
  rw [Batches.toList_by, Batches.by_, Words.extract_list, show a + 1 - a = 1 by omega, List.drop_eq_getElem_cons (show a < t.data.toList.length from h)]
  rfl
theorem news6 (w6 : World) (q : Nat) (A V : ByteArray) (G : Bool) : ∀ j u, [Value.string A, .string V, .bool G][j]? = some u → ((w6.setCell ⟨q, 1, none⟩ (.string V)).alloc (Obj.cells #[Value.string A, Value.string V, Value.bool G] 149)).cell? ((⟨w6.heap.size, 0, none⟩ : Addr).add j) = some u := by
  have h := heap_alloc_new (w6.setCell ⟨q, 1, none⟩ (.string V)) (Obj.cells #[Value.string A, Value.string V, Value.bool G] 149)
  rw [show (w6.setCell ⟨q, 1, none⟩ (.string V)).heap.size = w6.heap.size by simp [World.setCell]] at h
  exact World.news_of_block (cs := #[.string A, .string V, .bool G]) h
theorem size6 (w6 : World) (q : Nat) (A V : ByteArray) (G : Bool) : ((w6.setCell ⟨q, 1, none⟩ (.string V)).alloc (Obj.cells #[Value.string A, Value.string V, Value.bool G] 149)).heap.size = w6.heap.size + 1 := by
  simp [World.setCell]
theorem neq_list {S t : ByteArray} (h : ¬ S = t) : (S.toList == t.toList) = false := by
  cases e : (S.toList == t.toList)
  · rfl
  · have e2 : S.toList = t.toList := by simpa using e
    rw [Batches.toList_by, Batches.toList_by] at e2
    exact absurd (Batches.by_inj e2) h
set_option maxHeartbeats 1000000 in
set_option maxRecDepth 100000 in
theorem specReadB_got {t : ByteArray} {st : Nat} {l : List ChangeL} (hs : t.size ≤ 1048576) (w : World) (h : Batches.Got t st l) :
    Calls Tryz.prog 115 #[.string t] w fun en w' => ∃ v, en = .returned (.tuple #[.agg #[.int .i64 (st : Int), v], .bool true]) ∧ w'.ownsRow w.heap.size 149 3 v l.length (cellsChange l) ∧ Below w.heap.size w w' := by
  have HH : Hid (Batches.Got t st l) := h
  obtain ⟨p1, p2, h1, h2, h3⟩ := Batches.got_read h
  have hl60 := h.2.2.1
  have HOK : Hid (Batches.ok (st : Int) l) := h.2
  have H1 : Hid (Words.rd t.data.toList 0 = some (st, p1)) := h1
  have H2 : Hid (Words.rd t.data.toList p1 = some (l.length, p2)) := h2
  have H3 : Hid (Batches.rdMany t l.length p2 = some (l, t.size)) := h3
  clear h h1 h2 h3
  obtain ⟨i0, hi, hz0, hz1, hz2⟩ := info_parts Tryz.info149
  obtain ⟨W, hW, hS⟩ := read5_start t w
  have HS : Hid (SSt w (w.heap.size + 1) (w.heap.size + 1 + 1) t 0 0 false (.slice none 0 0) [] W) := hS
  clear hS
  go_enter Tryz.func115, Tryz.ntmps115
  go_wp2_with fail
  rw [← hW]
  clear hW
  obtain ⟨cb, hcb⟩ : ∃ cb, cb = w.heap.size + 1 := ⟨_, rfl⟩
  obtain ⟨bb, hbb⟩ : ∃ bb, bb = cb + 1 := ⟨_, rfl⟩
  rw [← hcb, ← hbb] at HS ⊢
  clear hcb hbb
  refine (l05Var_ok hs _ HS.out.cur H1.out).mono ?_
  rintro en w1 ⟨rfl, hc1, hg1⟩
  have HS1 : Hid (SSt w cb bb t 0 p1 false (.slice none 0 0) [] w1) := HS.out.call hc1 hg1
  have HT1 : Hid (SSt w cb bb t (st : Int) p1 false (.slice none 0 0) [] (w1.setCell ⟨bb, 0, none⟩ (.int .i64 (st : Int)))) := HS1.out.stamp _
  clear hc1 hg1 HS
  have b0 := HS1.out.c0
  have fb0 := HS1.out.f 0
  go_wp2_with fail
  obtain ⟨W2, hW2⟩ : ∃ W2, W2 = w1.setCell ⟨bb, 0, none⟩ (.int .i64 (st : Int)) := ⟨_, rfl⟩
  rw [← hW2] at HT1 ⊢
  clear hW2 b0 fb0 HS1
  refine (l05Var_ok hs _ HT1.out.cur H2.out).mono ?_
  rintro en w2 ⟨rfl, hc2, hg2⟩
  have HS2 : Hid (SSt w cb bb t (st : Int) p2 false (.slice none 0 0) [] w2) := HT1.out.call hc2 hg2
  clear hc2 hg2 HT1
  go_wp2
  obtain ⟨n, hn⟩ : ∃ n, n = l.length := ⟨_, rfl⟩
  rw [← hn] at H3 hl60 ⊢
  have HN : Hid (n = l.length) := hn
  clear hn
  go_loopw [7] (fun i wr => ∃ (k a' : Nat) (v : Value) (pre rest : List ChangeL), k ≤ n ∧ i = .int .i64 (k : Int) ∧ pre.length = k ∧ pre ++ rest = l ∧ Batches.rdMany t (n - k) a' = some (rest, t.size) ∧ SSt w cb bb t (st : Int) a' false v pre wr)
    (fun i _ => n - (intOf i).toNat)
  case atStart => exact ⟨0, p2, _, [], l, Nat.zero_le _, rfl, rfl, rfl, H3.out, HS2.out⟩
  case round =>
    obtain ⟨k, a', v, pre, rest, hk, rfl, hpl0, hpr, hrd, hst⟩ := hrel
    have HS : Hid (SSt w cb bb t (st : Int) a' false v pre wr) := hst
    have HP : Hid (pre ++ rest = l) := hpr
    have HM : Hid (Batches.rdMany t (n - k) a' = some (rest, t.size)) := hrd
    have HPL : Hid (pre.length = k) := hpl0
    have bad2 := HS.out.cur.c2
    clear hst hpr hrd hpl0
    by_cases hlt : k < n
    · obtain ⟨c, a1', r, hone, hmany, hrest⟩ := rdMany_next (m := n - k - 1) (by rw [show n - k - 1 + 1 = n - k by omega]; exact HM.out)
      obtain ⟨q1, q2, g1, g2, g3⟩ := rdOne_parts hone
      obtain ⟨ha1, hx1, hgx, rfl⟩ := rdFlag_parts g2
      have G1 : Hid (Batches.rdShort t a' = some (c.key, q1)) := g1
      have G3 : Hid (Batches.rdShort t (q1 + 1) = some (c.value, a1')) := g3
      have HM1 : Hid (Batches.rdMany t (n - (k + 1)) a1' = some (r, t.size)) := by rw [show n - (k + 1) = n - k - 1 by omega]; exact hmany
      have HP1 : Hid ((pre ++ [c]) ++ r = l) := by show _ = _; rw [← HP.out, hrest]; simp
      obtain ⟨X, hX⟩ : ∃ X, X = t.extract q1 (q1 + 1) := ⟨_, rfl⟩
      have hXg : (X.toList == [1]) = c.gone := by
        rw [hX, one_byte ha1, hgx]
        rcases (show t[q1].toNat = 0 ∨ t[q1].toNat = 1 by omega) with e | e
        · rw [show t[q1] = 0 from Words.byte_ext e]; rfl
        · rw [show t[q1] = 1 from Words.byte_ext e]; rfl
      have HX : Hid (X = t.extract q1 (q1 + 1)) := hX
      have hq1 : q1 + 1 ≤ t.size := ha1
      obtain ⟨A, V, G⟩ := c
      simp only at G1 G3 hXg
      clear hone hmany hrest HM HP g1 g2 g3 hX hgx hx1 ha1
      have hk1 : (k : Int) < (n : Int) := by omega
      obtain ⟨va, vc, rfl⟩ := own_slice HS.out.own
      have hu := HS.out.up
      have hbbz := HS.out.bz
      have hnew := HS.out.new
      obtain ⟨q, hq⟩ : ∃ q, q = wr.heap.size := ⟨_, rfl⟩
      obtain ⟨W3, hW3⟩ : ∃ W3, W3 = wr.alloc (Obj.cells #[Value.string ⟨#[]⟩, Value.string ⟨#[]⟩, Value.bool false] 149) := ⟨_, rfl⟩
      have HS3 : Hid (SSt w cb bb t (st : Int) a' false (.slice va pre.length vc) pre W3) := by rw [hW3]; exact HS.out.alloc _
      have HX3 : Hid (W3.heap[q]? = some (.cells #[Value.string ⟨#[]⟩, Value.string ⟨#[]⟩, Value.bool false] 149 (0, 0))) := by rw [hW3, hq]; exact heap_alloc_new wr _
      rw [← hq] at hnew hbbz
      go_wp2_with fail
      rw [← hW3, ← hq]
      clear hW3 hq HS
      refine (short5_ok hs _ HS3.out.cur G1.out).mono ?_
      rintro en w4 ⟨rfl, hc4, hg4⟩
      have hs4 := HS3.out.call hc4 hg4
      have hx4 := grown_keep HX3.out hg4 (by omega)
      have HS4 : Hid (SSt w cb bb t (st : Int) q1 false (.slice va pre.length vc) pre (w4.setCell ⟨q, 0, none⟩ (.string A))) := hs4.far hbbz hnew _ _
      have HX4 : Hid ((w4.setCell ⟨q, 0, none⟩ (.string A)).heap[q]? = some (.cells #[Value.string A, Value.string ⟨#[]⟩, Value.bool false] 149 (0, 0))) := by
        have := heap_setCell_same w4 q 0 _ 149 (.string A) hx4
        show _ = _
        simpa using this
      have x0 := cell_of_row _ _ 0 _ _ _ hx4
      have xf0 := frozen_of_row _ _ 0 _ _ hx4
      simp at x0
      clear hc4 hg4 hs4 hx4 HS3 HX3
      go_wp2_with fail
      obtain ⟨W4, hW4⟩ : ∃ W4, W4 = w4.setCell ⟨q, 0, none⟩ (.string A) := ⟨_, rfl⟩
      rw [← hW4] at HS4 HX4 ⊢
      clear hW4 x0 xf0
      refine (take_ok (n := 1) hs _ HS4.out.cur hq1).mono ?_
      rintro en w5 ⟨rfl, hc5, hg5⟩
      rw [← HX.out]
      have hs5 := HS4.out.call hc5 hg5
      have hx5 := grown_keep HX4.out hg5 (by omega)
      have HS5 : Hid (SSt w cb bb t (st : Int) (q1 + 1) false (.slice va pre.length vc) pre (w5.setCell ⟨q, 2, none⟩ (.bool G))) := hs5.far hbbz hnew _ _
      have HX5 : Hid ((w5.setCell ⟨q, 2, none⟩ (.bool G)).heap[q]? = some (.cells #[Value.string A, Value.string ⟨#[]⟩, Value.bool G] 149 (0, 0))) := by
        have := heap_setCell_same w5 q 2 _ 149 (.bool G) hx5
        show _ = _
        simpa using this
      have x2 := cell_of_row _ _ 2 _ _ _ hx5
      have xf2 := frozen_of_row _ _ 2 _ _ hx5
      simp at x2
      clear hc5 hg5 hs5 hx5 HS4 HX4
      go_wp2_with fail
      obtain ⟨W5, hW5⟩ : ∃ W5, W5 = w5.setCell ⟨q, 2, none⟩ (.bool G) := ⟨_, rfl⟩
      rw [← hW5] at HS5 HX5 ⊢
      clear hW5 x2 xf2 hXg
      refine (short5_ok hs _ HS5.out.cur G3.out).mono ?_
      rintro en w6 ⟨rfl, hc6, hg6⟩
      have hs6 := HS5.out.call hc6 hg6
      have hx6 := grown_keep HX5.out hg6 (by omega)
      have HS6 : Hid (SSt w cb bb t (st : Int) a1' false (.slice va pre.length vc) pre (w6.setCell ⟨q, 1, none⟩ (.string V))) := hs6.far hbbz hnew _ _
      have hx7 : (w6.setCell ⟨q, 1, none⟩ (.string V)).heap[q]? = some (.cells #[Value.string A, Value.string V, Value.bool G] 149 (0, 0)) := by
        have := heap_setCell_same w6 q 1 _ 149 (.string V) hx6
        simpa using this
      have x1 := cell_of_row _ _ 1 _ _ _ hx6
      have xf1 := frozen_of_row _ _ 1 _ _ hx6
      have y0 := cell_of_row _ _ 0 _ _ _ hx7
      have y1 := cell_of_row _ _ 1 _ _ _ hx7
      have y2 := cell_of_row _ _ 2 _ _ _ hx7
      have yb := HS6.out.c1
      simp at x1 y0 y1 y2
      have hpl : pre.length + 1 ≤ maxLen := by have := HPL.out; unfold maxLen; omega
      have hby : (pre.length + 1) * 40 ≤ 140737488355328 := by have := HPL.out; omega
      have hbz : w.heap.size ≤ ((w6.setCell ⟨q, 1, none⟩ (.string V)).alloc (Obj.cells #[Value.string A, Value.string V, Value.bool G] 149)).heap.size := (HS6.out.alloc _).below.size
      clear hc6 hg6 hs6 hx6 hx7 HS5 HX5
      go_wp2_with (at_builtin; refine wpList_append_lies _ rfl _ _ 49 rfl w.heap.size 149 i0 (.agg #[.string ByteArray.empty, .string ByteArray.empty, .bool false]) 3 40 Tryz.underlying49 hi hz0 hz1 hz2 rfl (Nat.zero_lt_succ _) _ pre.length (cellsChange pre) rfl ((HS6.out.alloc _).own) ⟨w6.heap.size, 0, none⟩ 1 1 [.string A, .string V, .bool G] rfl rfl (news6 w6 q A V G) (change_news ⟨A, V, G⟩) (Nat.zero_lt_succ _) hpl hby hbz (w6.heap.size + 1) (size6 w6 q A V G) ?_)
      intro g2 cap2 w8 hown8 hgrow hat8 hlt8
      have hb8 := grown_keep' (HS6.out.alloc _).blk hgrow (own_not HS6.out.own HS6.out.blk (by decide))
      have HS9 : Hid (SSt w cb bb t (st : Int) a1' false (.slice (some ⟨g2, 0, none⟩) (pre.length + 1) cap2) (pre ++ [⟨A, V, G⟩]) (w8.setCell ⟨bb, 1, none⟩ (.slice (some ⟨g2, 0, none⟩) (pre.length + 1) cap2))) := (HS6.out.alloc _).app hgrow hown8
      have z1 := cell_of_row _ _ 1 _ _ _ hb8
      have zf1 := frozen_of_row _ _ 1 _ _ hb8
      simp at z1
      clear hown8 hgrow hat8 hlt8 hb8 x1 xf1 y0 y1 y2 yb HS6
      go_wp2
      go_roundw
      case rel => exact ⟨k + 1, a1', _, pre ++ [⟨A, V, G⟩], r, by omega, by go_num, by have := HPL.out; simp; omega, HP1.out, HM1.out, HS9.out⟩
      case measure => simp [intOf]; omega
    · have hk1 : ¬ (k : Int) < (n : Int) := by omega
      have HE : Hid (pre = l ∧ a' = t.size) := by
        have h := HM.out
        rw [show n - k = 0 by omega, Batches.rdMany] at h
        simp only [Option.some.injEq, Prod.mk.injEq] at h
        refine ⟨?_, h.2⟩
        rw [← HP.out, ← h.1]; simp
      obtain ⟨va, gg, vc, rfl, hat⟩ := cellsChange_slice HS.out.own
      have HA : Hid (ChangeAt wr va gg 0 pre) := hat
      have HSM : Hid (∀ c ∈ pre, smallChange 2097152 c) := fun c hc => by
        rw [HE.out.1] at hc
        have := Batches.ok_small HOK.out c hc
        exact ⟨Nat.le_trans this.1 (by omega), Nat.le_trans this.2 (by omega)⟩
      have HTX : Hid (Txt (st : Int) pre t true) := Or.inl ⟨by rw [HE.out.1]; exact HOK.out, by rw [HE.out.1]; exact Is.eq (show Is t _ from by unfold Is; rw [Int.toNat_natCast]; exact HH.out.1), rfl⟩
      have hu := HS.out.up
      have b0 := HS.out.c0
      have b1 := HS.out.c1
      have hpn : pre.length ≤ 2097152 := by have := HPL.out; omega
      clear hat
      go_wp2_with fail
      refine (specText_any HTX.out hpn wr HA.out HSM.out).mono ?_
      rintro en w3 ⟨rfl, hb3⟩
      have hs3 := HS.out.same hb3
      have HS3 : Hid (SSt w cb bb t (st : Int) a' false (.slice va pre.length vc) pre w3) := hs3
      have c2 := hs3.cur.c2
      have e0 := hs3.c0
      have e1 := hs3.c1
      have r0 := cell_of_row _ _ 0 _ _ _ hs3.res
      have r1 := cell_of_row _ _ 1 _ _ _ hs3.res
      have rf0 := frozen_of_row _ _ 0 _ _ hs3.res
      have rf1 := frozen_of_row _ _ 1 _ _ hs3.res
      simp at r0 r1
      clear hs3 hb3 b0 b1
      go_wp2
      obtain ⟨l0, l1⟩ := two_cell HS3.out.res (.int .i64 (st : Int)) (.slice va pre.length vc)
      refine bodyPost_ret (v := .tuple #[.agg #[.int .i64 (st : Int), .slice va pre.length vc], .bool true]) (by simp [results, Tryz.results115, go_sem, l0, l1]) rfl ⟨.slice va pre.length vc, rfl, ?_, (HS3.out.below.setCell (by simp) _).setCell (by simp) _⟩
      rw [← HE.out.1]
      exact own_set (own_set HS3.out.own _ _ _ (own_not HS3.out.own HS3.out.res (by decide))) _ _ _ (own_not HS3.out.own HS3.out.res (by decide))
end Go.Proofs.YtbcfiiilikkkeaaGreatDoor
