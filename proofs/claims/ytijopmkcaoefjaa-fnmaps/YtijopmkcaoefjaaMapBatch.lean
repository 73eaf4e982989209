/- The calls of MapBatch, the specification's and the program's, walked. -/
import Derived.Test.YtijopmkcaoefjaaPut
namespace Go.Proofs.Ytijopmkcaoefjaa
open Go.RowKit
set_option linter.unusedVariables false

/-- What MapBatch holds: the variable b, the result's, the changes so far. -/
structure PSt (w : World) (bb : Nat) (st : Int) (v : Value) (pre : List ChangeL) (W : World) : Prop where
  blk : W.heap[bb]? = some (.cells #[.int .i64 st, v] 33 (0, 0))
  res : W.heap[w.heap.size]? = some (.cells #[.int .i64 0, .slice none 0 0] 33 (0, 0))
  own : W.ownsRow w.heap.size 65 3 v pre.length (cellsChange pre)
  below : Below w.heap.size w W
  up : w.heap.size < bb
section
variable {w W W' : World} {bb : Nat} {st : Int} {v : Value} {pre : List ChangeL}
theorem PSt.step (h : PSt w bb st v pre W) (hb : Below W.heap.size W W') : PSt w bb st v pre W' :=
  ⟨(hb.block _ (Array.getElem?_eq_some_iff.1 h.blk).1).trans h.blk, (hb.block _ (Array.getElem?_eq_some_iff.1 h.res).1).trans h.res, own_kept h.own hb, h.below.trans (hb.mono h.below.size), h.up⟩
theorem PSt.drew (h : PSt w bb st v pre W) : PSt w bb st v pre W.drew := ⟨h.blk, h.res, h.own, h.below.drew, h.up⟩
theorem PSt.alloc (h : PSt w bb st v pre W) (o : Obj) : PSt w bb st v pre (W.alloc o) := h.step ((Below.refl _ _).alloc (Nat.le_refl _) _)
theorem PSt.c1 (h : PSt w bb st v pre W) : W.cell? ⟨bb, 1, none⟩ = some v := cell_of_row _ _ 1 _ _ _ h.blk
theorem PSt.app (h : PSt w bb st v pre W) {v' : Value} {c : ChangeL} (hg : W.grownBy W' v.ownBlock) (hown : W'.ownsRow w.heap.size 65 3 v' (pre.length + 1) (cellsChange pre ++ [.string c.key, .string c.value, .bool c.gone])) :
    PSt w bb st v' (pre ++ [c]) (W'.setCell ⟨bb, 1, none⟩ v') := by
  have hu := h.up
  have hb' := grown_keep h.blk hg (own_not h.own h.blk (by decide))
  have hr' := grown_keep h.res hg (own_not h.own h.res (by decide))
  have hblk : (W'.setCell ⟨bb, 1, none⟩ v').heap[bb]? = some (.cells #[.int .i64 st, v'] 33 (0, 0)) := by
    have := heap_setCell_same W' bb 1 _ 33 v' hb'
    simpa using this
  have hown' : W'.ownsRow w.heap.size 65 3 v' (pre ++ [c]).length (cellsChange (pre ++ [c])) := by
    rw [cellsChange_app, List.length_append]; exact hown
  exact ⟨hblk, set_far hr' (by omega) _ _, own_set hown' _ _ _ (own_not hown' hb' (by decide)), (h.below.grown hg h.below.size (fun j hj => (h.own.lt j hj).1)).setCell (by simp; omega) _, hu⟩
end
theorem put_take {l : List PairL} {k : Nat} (hk : k < l.length) {pre : List ChangeL} (h : pre = (l.take k).map Maps.put) {A V : ByteArray} (hE : l[k] = ⟨A, V⟩) : pre ++ [⟨A, V, false⟩] = (l.take (k + 1)).map Maps.put := by
  rw [List.take_succ_eq_append_getElem hk, List.map_append, h, hE]; rfl
/-- What MapBatch is to answer. -/
def BatR (l : List PairL) (s : Int) (st : Int) (cs : List ChangeL) (R : Bool) : Prop :=
  (Maps.ok l ∧ (0 ≤ s ∧ s ≤ 100000) ∧ s = st ∧ cs = l.map Maps.put ∧ R = true) ∨ (¬ (Maps.ok l ∧ (0 ≤ s ∧ s ≤ 100000)) ∧ st = 0 ∧ cs = [] ∧ R = false)
theorem batR_ex (l : List PairL) (s : Int) : ∃ st cs R, BatR l s st cs R := by
  by_cases h : Maps.ok l ∧ (0 ≤ s ∧ s ≤ 100000)
  · exact ⟨_, _, _, Or.inl ⟨h.1, h.2, rfl, rfl, rfl⟩⟩
  · exact ⟨_, _, _, Or.inr ⟨h, rfl, rfl, rfl⟩⟩
theorem batR_len {l : List PairL} {s st : Int} {cs : List ChangeL} {R : Bool} (h : BatR l s st cs R) : cs.length ≤ 60 := by
  rcases h with ⟨h, _, _, rfl, _⟩ | ⟨_, _, rfl, _⟩
  · rw [List.length_map]; exact h.1
  · simp
theorem res_of {w w1 : World} (hb1 : Below (w.alloc (Obj.cells #[Value.int IntKind.i64 0, Value.slice none 0 0] 33)).heap.size (w.alloc (Obj.cells #[Value.int IntKind.i64 0, Value.slice none 0 0] 33)) w1) :
    Hid (w1.heap[w.heap.size]? = some (Obj.cells #[Value.int IntKind.i64 0, Value.slice none 0 0] 33 (0, 0))) ∧ w1.cell? ⟨w.heap.size, 0, none⟩ = some (.int .i64 0) ∧ w1.cell? ⟨w.heap.size, 1, none⟩ = some (.slice none 0 0) ∧ w1.frozen? ⟨w.heap.size, 0, none⟩ = false ∧ w1.frozen? ⟨w.heap.size, 1, none⟩ = false := by
  have r1 := (hb1.block _ (by simp)).trans (heap_alloc_new w (Obj.cells #[Value.int IntKind.i64 0, Value.slice none 0 0] 33))
  exact ⟨r1, cell_of_row _ _ 0 _ _ _ r1, cell_of_row _ _ 1 _ _ _ r1, frozen_of_row _ _ 0 _ _ r1, frozen_of_row _ _ 1 _ _ r1⟩
set_option maxHeartbeats 2000000 in
set_option maxRecDepth 100000 in
theorem specBatch_any {a : Option Addr} {g off cap : Nat} (l : List PairL) (hlen : l.length ≤ 2097152) (hsz : ∀ c ∈ l, smallPair 2097152 c) (s st : Int) (cs : List ChangeL) (R : Bool) (hR : BatR l s st cs R) (w : World) (hf : PairAt w a g off l) :
    Calls Try.prog 29 #[.slice a l.length cap, .int .i64 s] w fun e w' => ∃ v, e = .returned (.tuple #[.agg #[.int .i64 st, v], .bool R]) ∧ w'.ownsRow w.heap.size 65 3 v cs.length (cellsChange cs) ∧ Below w.heap.size w w' := by
  obtain ⟨i0, hi, hz0, hz1, hz2⟩ := info_parts Try.info65
  have HF : Hid (PairAt w a g off l) := hf
  have HS : Hid (∀ c ∈ l, smallPair 2097152 c) := hsz
  have hA0 : Below w.heap.size w (w.alloc (Obj.cells #[Value.int IntKind.i64 0, Value.slice none 0 0] 33)) := (Below.refl _ _).alloc (Nat.le_refl _) _
  have HF0 : Hid (PairAt (w.alloc (Obj.cells #[Value.int IntKind.i64 0, Value.slice none 0 0] 33)) a g off l) := hf.kept hA0
  clear hf hsz
  rcases hR with ⟨hok, hst, rfl, hcs, rfl⟩ | ⟨hno, rfl, rfl, rfl⟩
  · have HCS : Hid (cs = l.map Maps.put) := hcs
    have HOK : Hid (Maps.ok l) := hok
    clear hcs
    go_enter Try.func29, Try.ntmps29
    go_wp2_with (first | (go_at_call 17; refine (specMapOk_any true l hlen _ HF0.out HS.out (by simp [hok])).mono ?_; rintro e w1 ⟨rfl, hb1⟩) | (go_at_call 60; refine (in_yes s 0 100000 hst _).mono ?_; rintro e w2 ⟨rfl, hww⟩; obtain rfl := hww.symm))
    have h60 : l.length ≤ 60 := HOK.out.1
    obtain ⟨bb, hbb⟩ : ∃ bb, bb = w1.heap.size := ⟨_, rfl⟩
    have HP : Hid (PSt w bb s (.slice none 0 0) [] (w1.alloc (Obj.cells #[Value.int IntKind.i64 s, Value.slice none 0 0] 33))) := by
      have e1 : Below w1.heap.size w1 (w1.alloc (Obj.cells #[Value.int IntKind.i64 s, Value.slice none 0 0] 33)) := (Below.refl _ _).alloc (Nat.le_refl _) _
      have e2 := (hb1.block _ (by simp)).trans (heap_alloc_new w (Obj.cells #[Value.int IntKind.i64 0, Value.slice none 0 0] 33))
      have e3 := (Array.getElem?_eq_some_iff.1 e2).1
      have e4 := hA0.trans (hb1.mono hA0.size)
      refine ⟨by rw [hbb]; exact heap_alloc_new w1 _, (e1.block _ e3).trans e2, World.ownsRow_nil _ _ _ _, e4.trans (e1.mono e4.size), by rw [hbb]; exact e3⟩
    rw [← hbb]
    clear hbb hok hA0 hb1 HF0
    go_loopw [7] (fun i wr => ∃ (k : Nat) (v : Value) (pre : List ChangeL), k ≤ l.length ∧ i = .int .i64 (k : Int) ∧ pre = (l.take k).map Maps.put ∧ PSt w bb s v pre wr)
      (fun i _ => l.length - (intOf i).toNat)
    case atStart => exact ⟨0, _, [], Nat.zero_le _, rfl, rfl, HP.out⟩
    case round =>
      obtain ⟨k, v, pre, hk, rfl, hpre, hst1⟩ := hrel
      have HS1 : Hid (PSt w bb s v pre wr) := hst1
      have HPR : Hid (pre = (l.take k).map Maps.put) := hpre
      clear hst1 hpre HP
      obtain ⟨va, vc, rfl⟩ := own_slice HS1.out.own
      have hu := HS1.out.up
      by_cases hlt : k < l.length
      · obtain ⟨c0, c1⟩ := (HF.out.kept HS1.out.below).2 k hlt
        have ea := HF.out.1 (by omega)
        subst ea
        obtain ⟨A, hA⟩ : ∃ A, A = l[k].key := ⟨_, rfl⟩
        obtain ⟨V, hV⟩ : ∃ V, V = l[k].value := ⟨_, rfl⟩
        have HE : Hid (l[k] = ⟨A, V⟩) := by show _ = _; rw [hA, hV]
        have HSM : Hid (smallPair 2097152 ⟨A, V⟩) := by have := HS.out l[k] (List.getElem_mem _); rw [HE.out] at this; exact this
        rw [← hA] at c0
        rw [← hV] at c1
        clear hA hV
        have hk0 : (0 : Int) ≤ (k : Int) := by omega
        have hk1 : (k : Int) < (l.length : Int) := by omega
        have hlp : Hid (pre.length = k) := by show _ = _; rw [HPR.out]; simp; omega
        have hpl : pre.length + 1 ≤ maxLen := by have := hlp.out; unfold maxLen; omega
        have hby : (pre.length + 1) * 40 ≤ 140737488355328 := by have := hlp.out; omega
        have hnB := own_not HS1.out.own HS1.out.blk (by decide)
        have cB := HS1.out.c1
        have cBa := fun o => (HS1.out.alloc o).c1
        go_wp2_with fail
        go_region_law (refine step_append_lies _ (by rfl) _ _ _ (by rfl) w.heap.size 65 i0 _ 3 40 Try.underlying27 hi hz0 hz1 hz2 rfl (Nat.zero_lt_succ _) _ pre.length (cellsChange pre) (by rfl) ((HS1.out.alloc _).drew.own) ⟨wr.heap.size, 0, none⟩ 1 1 [.string A, .string V, .bool false] (by rfl) (by rfl) (World.news_of_block (cs := #[.string A, .string V, .bool false]) (t := 65) (fr := (0, 0)) (heap_alloc_new wr _)) (change_news ⟨A, V, false⟩) (Nat.zero_lt_succ _) hpl hby (by have h2 := HS1.out.below.size; simp; omega) (wr.heap.size + 1) (Array.size_push ..) ?_; intro g2 cap2 w8 hown8 hgrow hat hlt8; have hB8 := grown_keep (HS1.out.alloc _).drew.blk hgrow hnB; have cR8 := cell_of_row _ _ 1 _ _ _ hB8; have fR8 := frozen_of_row _ _ 1 _ _ hB8)
        all_goals
          have HS9 : Hid (PSt w bb s (.slice (some ⟨g2, 0, none⟩) (pre.length + 1) cap2) (pre ++ [⟨A, V, false⟩]) (w8.setCell ⟨bb, 1, none⟩ (.slice (some ⟨g2, 0, none⟩) (pre.length + 1) cap2))) := (HS1.out.alloc _).drew.app (c := ⟨A, V, false⟩) hgrow hown8
          clear hown8 hgrow hat hlt8 hB8
          go_wp2
          go_roundw
          case rel => exact ⟨k + 1, _, pre ++ [⟨A, V, false⟩], by omega, by go_num, put_take hlt HPR.out HE.out, HS9.out⟩
          case measure => simp [intOf]; omega
      · have hk1 : ¬ (k : Int) < (l.length : Int) := by omega
        have hpe : Hid (pre = cs) := by show _ = _; rw [HPR.out, HCS.out, List.take_of_length_le (by omega)]
        have b0 := cell_of_row _ _ 0 _ _ _ HS1.out.blk
        have b1 := cell_of_row _ _ 1 _ _ _ HS1.out.blk
        have r0 := cell_of_row _ _ 0 _ _ _ HS1.out.res
        have r1 := cell_of_row _ _ 1 _ _ _ HS1.out.res
        have fr0 := frozen_of_row _ _ 0 _ _ HS1.out.res
        have fr1 := frozen_of_row _ _ 1 _ _ HS1.out.res
        simp at b0 b1 r0 r1
        go_wp2
        obtain ⟨l0, l1⟩ := two_cell HS1.out.res (.int .i64 s) (.slice va pre.length vc)
        refine bodyPost_ret (v := .tuple #[.agg #[.int .i64 s, .slice va pre.length vc], .bool true]) (by simp [results, Try.results29, go_sem, l0, l1]) rfl ⟨.slice va pre.length vc, rfl, ?_, (HS1.out.below.setCell (by simp) _).setCell (by simp) _⟩
        rw [← hpe.out]
        exact own_set (own_set HS1.out.own _ _ _ (own_not HS1.out.own HS1.out.res (by decide))) _ _ _ (own_not HS1.out.own HS1.out.res (by decide))
  · by_cases hok : Maps.ok l
    · have hst : ¬ (0 ≤ s ∧ s ≤ 100000) := fun h => hno ⟨hok, h⟩
      clear hno
      go_enter Try.func29, Try.ntmps29
      go_wp2_with (first | (go_at_call 17; refine (specMapOk_any true l hlen _ HF0.out HS.out (by simp [hok])).mono ?_; rintro e w1 ⟨rfl, hb1⟩; obtain ⟨HR1, r00, r01, f00, f01⟩ := res_of hb1) | (go_at_call 60; refine (in_no s 0 100000 hst _).mono ?_; rintro e w2 ⟨rfl, hww⟩; obtain rfl := hww.symm))
      obtain ⟨l0, l1⟩ := two_cell HR1.out (.int .i64 0) (.slice none 0 0)
      exact bodyPost_ret (v := .tuple #[.agg #[.int .i64 0, .slice none 0 0], .bool false]) (by simp [results, Try.results29, go_sem, l0, l1]) rfl ⟨_, rfl, World.ownsRow_nil _ _ _ _, ((hA0.trans (hb1.mono hA0.size)).setCell (by simp) _).setCell (by simp) _⟩
    · clear hno
      go_enter Try.func29, Try.ntmps29
      go_wp2_with (first | (go_at_call 17; refine (specMapOk_any false l hlen _ HF0.out HS.out (by simp [hok])).mono ?_; rintro e w1 ⟨rfl, hb1⟩; obtain ⟨HR1, r00, r01, f00, f01⟩ := res_of hb1))
      obtain ⟨l0, l1⟩ := two_cell HR1.out (.int .i64 0) (.slice none 0 0)
      exact bodyPost_ret (v := .tuple #[.agg #[.int .i64 0, .slice none 0 0], .bool false]) (by simp [results, Try.results29, go_sem, l0, l1]) rfl ⟨_, rfl, World.ownsRow_nil _ _ _ _, ((hA0.trans (hb1.mono hA0.size)).setCell (by simp) _).setCell (by simp) _⟩
set_option maxHeartbeats 2000000 in
set_option maxRecDepth 100000 in
theorem implBatch_any {a : Option Addr} {g off cap : Nat} (l : List PairL) (hlen : l.length ≤ 2097152) (hsz : ∀ c ∈ l, smallPair 2097152 c) (s st : Int) (cs : List ChangeL) (R : Bool) (hR : BatR l s st cs R) (w : World) (hf : PairAt w a g off l) :
    Calls Try.prog 13 #[.slice a l.length cap, .int .i64 s] w fun e w' => ∃ v, e = .returned (.tuple #[.agg #[.int .i64 st, v], .bool R]) ∧ w'.ownsRow w.heap.size 65 3 v cs.length (cellsChange cs) ∧ Below w.heap.size w w' := by
  obtain ⟨i0, hi, hz0, hz1, hz2⟩ := info_parts Try.info65
  have HF : Hid (PairAt w a g off l) := hf
  have HS : Hid (∀ c ∈ l, smallPair 2097152 c) := hsz
  have hA0 : Below w.heap.size w (w.alloc (Obj.cells #[Value.int IntKind.i64 0, Value.slice none 0 0] 33)) := (Below.refl _ _).alloc (Nat.le_refl _) _
  have HF0 : Hid (PairAt (w.alloc (Obj.cells #[Value.int IntKind.i64 0, Value.slice none 0 0] 33)) a g off l) := hf.kept hA0
  clear hf hsz
  rcases hR with ⟨hok, hst, rfl, hcs, rfl⟩ | ⟨hno, rfl, rfl, rfl⟩
  · have HCS : Hid (cs = l.map Maps.put) := hcs
    have HOK : Hid (Maps.ok l) := hok
    clear hcs
    go_enter Try.func13, Try.ntmps13
    go_wp2_with (first | (go_at_call 19; refine (implMapOk_any true l hlen _ HF0.out HS.out (by simp [hok])).mono ?_; rintro e w1 ⟨rfl, hb1⟩) | (go_at_call 44; refine (stampOk_is s true (by simp [hst]) _).mono ?_; rintro e w2 ⟨rfl, hww⟩; obtain rfl := hww.symm))
    have h60 : l.length ≤ 60 := HOK.out.1
    obtain ⟨bb, hbb⟩ : ∃ bb, bb = w1.heap.size := ⟨_, rfl⟩
    have HP : Hid (PSt w bb s (.slice none 0 0) [] (w1.alloc (Obj.cells #[Value.int IntKind.i64 s, Value.slice none 0 0] 33))) := by
      have e1 : Below w1.heap.size w1 (w1.alloc (Obj.cells #[Value.int IntKind.i64 s, Value.slice none 0 0] 33)) := (Below.refl _ _).alloc (Nat.le_refl _) _
      have e2 := (hb1.block _ (by simp)).trans (heap_alloc_new w (Obj.cells #[Value.int IntKind.i64 0, Value.slice none 0 0] 33))
      have e3 := (Array.getElem?_eq_some_iff.1 e2).1
      have e4 := hA0.trans (hb1.mono hA0.size)
      refine ⟨by rw [hbb]; exact heap_alloc_new w1 _, (e1.block _ e3).trans e2, World.ownsRow_nil _ _ _ _, e4.trans (e1.mono e4.size), by rw [hbb]; exact e3⟩
    rw [← hbb]
    clear hbb hok hA0 hb1 HF0
    go_loopw [22] (fun i wr => ∃ (k : Nat) (v : Value) (pre : List ChangeL), k ≤ l.length ∧ i = .int .i64 (k : Int) ∧ pre = (l.take k).map Maps.put ∧ PSt w bb s v pre wr)
      (fun i _ => l.length - (intOf i).toNat)
    case atStart => exact ⟨0, _, [], Nat.zero_le _, rfl, rfl, HP.out⟩
    case round =>
      obtain ⟨k, v, pre, hk, rfl, hpre, hst1⟩ := hrel
      have HS1 : Hid (PSt w bb s v pre wr) := hst1
      have HPR : Hid (pre = (l.take k).map Maps.put) := hpre
      clear hst1 hpre HP
      obtain ⟨va, vc, rfl⟩ := own_slice HS1.out.own
      have hu := HS1.out.up
      by_cases hlt : k < l.length
      · obtain ⟨c0, c1⟩ := (HF.out.kept HS1.out.below).2 k hlt
        have ea := HF.out.1 (by omega)
        subst ea
        obtain ⟨A, hA⟩ : ∃ A, A = l[k].key := ⟨_, rfl⟩
        obtain ⟨V, hV⟩ : ∃ V, V = l[k].value := ⟨_, rfl⟩
        have HE : Hid (l[k] = ⟨A, V⟩) := by show _ = _; rw [hA, hV]
        have HSM : Hid (smallPair 2097152 ⟨A, V⟩) := by have := HS.out l[k] (List.getElem_mem _); rw [HE.out] at this; exact this
        rw [← hA] at c0
        rw [← hV] at c1
        clear hA hV
        have hk0 : (0 : Int) ≤ (k : Int) := by omega
        have hk1 : (k : Int) < (l.length : Int) := by omega
        have hlp : Hid (pre.length = k) := by show _ = _; rw [HPR.out]; simp; omega
        have hpl : pre.length + 1 ≤ maxLen := by have := hlp.out; unfold maxLen; omega
        have hby : (pre.length + 1) * 40 ≤ 140737488355328 := by have := hlp.out; omega
        have hnB := own_not HS1.out.own HS1.out.blk (by decide)
        go_wp2_with fail
        obtain ⟨W1, hW1⟩ : ∃ W1, W1 = wr.alloc (Obj.cells #[Value.string A, Value.string V] 40) := ⟨_, rfl⟩
        rw [← hW1]
        have HS2 : Hid (PSt w bb s (.slice va pre.length vc) pre W1) := by rw [hW1]; exact HS1.out.alloc _
        have p0 : W1.cell? ⟨wr.heap.size, 0, none⟩ = some (.string A) := by rw [hW1]; exact cell_of_row _ _ 0 _ _ _ (heap_alloc_new wr _)
        have p1 : W1.cell? ⟨wr.heap.size, 1, none⟩ = some (.string V) := by rw [hW1]; exact cell_of_row _ _ 1 _ _ _ (heap_alloc_new wr _)
        clear hW1 c0 c1
        have HC : Hid (∀ wx : World, (callFunc 45 #[pairV ⟨A, V⟩]).run Try.prog wx = .ok (.enter 45 #[pairV ⟨A, V⟩]) wx) := fun _ => by kernel_rfl
        have cB := HS2.out.c1
        go_region_law (first | (refine step_call (by rfl) 45 _ _ (by rfl) (pairV ⟨A, V⟩) (by rfl) (changeV ⟨A, V, false⟩) _ HC.out (changePutting_is ⟨A, V⟩ HSM.out _) ?_; rintro wa hba; have HSa : Hid (PSt w bb s (.slice va pre.length vc) pre wa) := HS2.out.drew.step hba; have cRa := HSa.out.c1; have cRb := fun o => (HSa.out.alloc o).c1; clear hba; unfold changeV) | (refine step_append_lies _ (by rfl) _ _ _ (by rfl) w.heap.size 65 i0 _ 3 40 Try.underlying27 hi hz0 hz1 hz2 rfl (Nat.zero_lt_succ _) _ pre.length (cellsChange pre) (by rfl) ((HSa.out.alloc _).own) ⟨wa.heap.size, 0, none⟩ 1 1 [.string A, .string V, .bool false] (by rfl) (by rfl) (World.news_of_block (cs := #[.string A, .string V, .bool false]) (t := 65) (fr := (0, 0)) (heap_alloc_new wa _)) (change_news ⟨A, V, false⟩) (Nat.zero_lt_succ _) hpl hby (by have h2 := HSa.out.below.size; simp; omega) (wa.heap.size + 1) (Array.size_push ..) ?_; intro g2 cap2 w8 hown8 hgrow hat hlt8; have hB8 := grown_keep (HSa.out.alloc _).blk hgrow hnB; have cR8 := cell_of_row _ _ 1 _ _ _ hB8; have fR8 := frozen_of_row _ _ 1 _ _ hB8))
        all_goals
          have HS9 : Hid (PSt w bb s (.slice (some ⟨g2, 0, none⟩) (pre.length + 1) cap2) (pre ++ [⟨A, V, false⟩]) (w8.setCell ⟨bb, 1, none⟩ (.slice (some ⟨g2, 0, none⟩) (pre.length + 1) cap2))) := (HSa.out.alloc _).app (c := ⟨A, V, false⟩) hgrow hown8
          clear hown8 hgrow hat hlt8 hB8
          go_wp2
          go_roundw
          case rel => exact ⟨k + 1, _, pre ++ [⟨A, V, false⟩], by omega, by go_num, put_take hlt HPR.out HE.out, HS9.out⟩
          case measure => simp [intOf]; omega
      · have hk1 : ¬ (k : Int) < (l.length : Int) := by omega
        have hpe : Hid (pre = cs) := by show _ = _; rw [HPR.out, HCS.out, List.take_of_length_le (by omega)]
        have b0 := cell_of_row _ _ 0 _ _ _ HS1.out.blk
        have b1 := cell_of_row _ _ 1 _ _ _ HS1.out.blk
        have r0 := cell_of_row _ _ 0 _ _ _ HS1.out.res
        have r1 := cell_of_row _ _ 1 _ _ _ HS1.out.res
        have fr0 := frozen_of_row _ _ 0 _ _ HS1.out.res
        have fr1 := frozen_of_row _ _ 1 _ _ HS1.out.res
        simp at b0 b1 r0 r1
        go_wp2
        obtain ⟨l0, l1⟩ := two_cell HS1.out.res (.int .i64 s) (.slice va pre.length vc)
        refine bodyPost_ret (v := .tuple #[.agg #[.int .i64 s, .slice va pre.length vc], .bool true]) (by simp [results, Try.results13, go_sem, l0, l1]) rfl ⟨.slice va pre.length vc, rfl, ?_, (HS1.out.below.setCell (by simp) _).setCell (by simp) _⟩
        rw [← hpe.out]
        exact own_set (own_set HS1.out.own _ _ _ (own_not HS1.out.own HS1.out.res (by decide))) _ _ _ (own_not HS1.out.own HS1.out.res (by decide))
  · by_cases hok : Maps.ok l
    · have hst : ¬ (0 ≤ s ∧ s ≤ 100000) := fun h => hno ⟨hok, h⟩
      clear hno
      go_enter Try.func13, Try.ntmps13
      go_wp2_with (first | (go_at_call 19; refine (implMapOk_any true l hlen _ HF0.out HS.out (by simp [hok])).mono ?_; rintro e w1 ⟨rfl, hb1⟩; obtain ⟨HR1, r00, r01, f00, f01⟩ := res_of hb1) | (go_at_call 44; refine (stampOk_is s false (by simp [hst]) _).mono ?_; rintro e w2 ⟨rfl, hww⟩; obtain rfl := hww.symm))
      obtain ⟨l0, l1⟩ := two_cell HR1.out (.int .i64 0) (.slice none 0 0)
      exact bodyPost_ret (v := .tuple #[.agg #[.int .i64 0, .slice none 0 0], .bool false]) (by simp [results, Try.results13, go_sem, l0, l1]) rfl ⟨_, rfl, World.ownsRow_nil _ _ _ _, ((hA0.trans (hb1.mono hA0.size)).setCell (by simp) _).setCell (by simp) _⟩
    · clear hno
      go_enter Try.func13, Try.ntmps13
      go_wp2_with (first | (go_at_call 19; refine (implMapOk_any false l hlen _ HF0.out HS.out (by simp [hok])).mono ?_; rintro e w1 ⟨rfl, hb1⟩; obtain ⟨HR1, r00, r01, f00, f01⟩ := res_of hb1))
      obtain ⟨l0, l1⟩ := two_cell HR1.out (.int .i64 0) (.slice none 0 0)
      exact bodyPost_ret (v := .tuple #[.agg #[.int .i64 0, .slice none 0 0], .bool false]) (by simp [results, Try.results13, go_sem, l0, l1]) rfl ⟨_, rfl, World.ownsRow_nil _ _ _ _, ((hA0.trans (hb1.mono hA0.size)).setCell (by simp) _).setCell (by simp) _⟩
end Go.Proofs.Ytijopmkcaoefjaa
