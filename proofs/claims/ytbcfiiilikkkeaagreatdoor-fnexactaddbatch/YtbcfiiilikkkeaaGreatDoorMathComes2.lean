/- The program's PutRaw, walked. The program's doInOrder and PutRaws, walked. What a law holds while it calls: its variables' blocks and its rows, apart from each other; rows of whatever elements. What a law holds while it calls: its variables' blocks and its rows, apart from each other; rows of whatever elements. The exact law of PutRaws, walked, out of the contracts of both PutRaws. A list of raw writes cut: plainly; and the program's longestPart and beginningOf, walked. Plain facts on shelves: the raw writes of a batch cut at any byte; no program is named here. -/
import Derived.Test.YtbcfiiilikkkeaaGreatDoorDiskTold
import Derived.Test.YtbcfiiilikkkeaaGreatDoorKeep
import Derived.Test.YtbcfiiilikkkeaaGreatDoorDiskImplOk
import Derived.Deep.DeepCutAuto
import Derived.Test.YtbcfiiilikkkeaaGreatDoorLChange
import Derived.Test.YtbcfiiilikkkeaaGreatDoorMathAt
import Derived.Test.YtbcfiiilikkkeaaGreatDoorLRaw
namespace Go.Proofs.YtbcfiiilikkkeaaGreatDoor
open Go.RowKit
set_option linter.unusedVariables false

theorem RawAt.grown {h b : Nat} {D : Value} {r : Disks.RawL} {W W' : World} (p : RawAt h D r W) (hg : W.grownBy W' (some b)) (hb : h + 1 + 1 < b) : RawAt h D r W' := by
  have h1 := p.lt
  exact ⟨(hg.block h (by omega) (by simp; omega)).trans p.d, (hg.block (h + 1) (by omega) (by simp; omega)).trans p.r, (hg.block (h + 1 + 1) (by omega) (by simp; omega)).trans p.res⟩
theorem below_grown {w W W' : World} {b : Nat} (h : Below w.heap.size w W) (hg : W.grownBy W' (some b)) (hb : w.heap.size ≤ b) : Below w.heap.size w W' := h.grown hg h.size (fun j hj => by cases hj; exact hb)
end Go.Proofs.YtbcfiiilikkkeaaGreatDoor
namespace Go.Proofs.YtbcfiiilikkkeaaGreatDoor
open Go.RowKit
set_option linter.unusedVariables false

theorem Table.ne {w : World} {b : Nat} {l : List FileL} (h : Table w b l) {p : Addr} {v : Value} (hc : w.cell? p = some v) : b ≠ p.block := by
  obtain ⟨D, ⟨es, clock, hb, _⟩, _⟩ := h
  intro e
  subst e
  simp [World.cell?, hb] at hc
theorem RawsAt.grown {w w' : World} {a : Option Addr} {g off b : Nat} {rs : List Disks.RawL} {l : List FileL} (h : RawsAt w a g off rs) (hT : Table w b l) (hg : w.grownBy w' (some b)) : RawsAt w' a g off rs := by
  refine ⟨h.1, fun j hj => ?_⟩
  have hz := h.lt (by omega)
  have hne := hT.ne (h.2 0 (by omega)).1
  rw [cell_grown hg (p := ⟨g, off + j * 4, none⟩) hz hne, cell_grown hg (p := ⟨g, off + j * 4 + 1, none⟩) hz hne, cell_grown hg (p := ⟨g, off + j * 4 + 2, none⟩) hz hne, cell_grown hg (p := ⟨g, off + j * 4 + 3, none⟩) hz hne]
  exact h.2 j hj

set_option maxHeartbeats 2000000 in
set_option maxRecDepth 100000 in
theorem tabOrder_is {ra : Option Addr} {rg roff rcap : Nat} (l : List FileL) (rs : List Disks.RawL) (hok : Disks.ok l) (hrs : rs.length ≤ 1000) (hr : ∀ r ∈ rs, r.name.size ≤ 1048576 ∧ r.to.size ≤ 1048576 ∧ r.text.size ≤ 1048576) (b : Nat) (w : World) (hT : Table w b l) (hf : RawsAt w ra rg roff rs) :
    Calls Tryz.prog 195 #[.map (some b), .slice ra rs.length rcap] w fun e w' => e = .returned (.int .i64 ((Disks.run l rs).2 : Int)) ∧ Table w' b (Disks.run l rs).1 ∧ w.grownBy w' (some b) := by
  have HT : Hid (Table w b l) := hT
  have HF : Hid (RawsAt w ra rg roff rs) := hf
  have HR : Hid (∀ r ∈ rs, r.name.size ≤ 1048576 ∧ r.to.size ≤ 1048576 ∧ r.text.size ≤ 1048576) := hr
  have HK : Hid (Disks.ok l) := hok
  clear hT hf hr hok
  go_enter Tryz.func195, Tryz.ntmps195
  go_wp2
  go_loopw [9] (fun i wr => ∃ (k : Nat) (cur : List FileL), k ≤ rs.length ∧ i = .int .i64 (k : Int) ∧ Hid (Disks.ok cur) ∧ Hid (Table wr b cur) ∧ Hid (Disks.run l rs = ((Disks.run cur (rs.drop k)).1, k + (Disks.run cur (rs.drop k)).2)) ∧ Hid (RawsAt wr ra rg roff rs) ∧ w.grownBy wr (some b))
    (fun i _ => rs.length - (intOf i).toNat)
  case atStart => exact ⟨0, l, Nat.zero_le _, rfl, HK, HT, (by show _ = _; simp), HF, World.grownBy.refl _ _⟩
  case round =>
    obtain ⟨k, cur, hk, rfl, CK, TR, RN, RF, hgr⟩ := hrel
    by_cases hlt : k < rs.length
    · obtain ⟨c0, c1, c2, c3⟩ := RF.out.2 k hlt
      have ea := RF.out.1 (by omega)
      subst ea
      have hsz := HR.out rs[k] (List.getElem_mem _)
      have HDR : Hid (rs.drop k = rs[k] :: rs.drop (k + 1)) := List.drop_eq_getElem_cons hlt
      obtain ⟨r, hr⟩ : ∃ r, r = rs[k] := ⟨_, rfl⟩
      rw [← hr] at c0 c1 c2 c3 hsz HDR
      clear hr
      obtain ⟨K, M, O, X⟩ := r
      simp only at c0 c1 c2 c3
      have HSZ : Hid _ := hsz
      clear hsz
      have hk0 : (0 : Int) ≤ (k : Int) := by omega
      have hk1 : (k : Int) < (rs.length : Int) := by omega
      go_wp2_with fail
      obtain ⟨W1, hW1⟩ : ∃ W1, W1 = wr.alloc (Obj.cells #[Value.int .i64 K, Value.string M, Value.string O, Value.string X] 103) := ⟨_, rfl⟩
      rw [← hW1]
      have T1 : Hid (Table W1 b cur) := by show Table W1 b cur; rw [hW1]; exact TR.out.alloc _
      have F1 : Hid (RawsAt W1 (some ⟨rg, roff, none⟩) rg roff rs) := by show RawsAt _ _ _ _ _; rw [hW1]; exact RF.out.kept ((Below.refl _ _).alloc (Nat.le_refl _) _)
      have hg1 : w.grownBy W1 (some b) := by rw [hW1]; exact grown_trans hgr (World.grownBy_alloc _ _ _)
      clear hW1 hgr
      refine (tabDo_is cur CK.out ⟨K, M, O, X⟩ HSZ.out b W1 T1.out).mono ?_
      rintro e w3 ⟨rfl, T3, g3⟩
      have F3 : Hid (RawsAt w3 (some ⟨rg, roff, none⟩) rg roff rs) := F1.out.grown T1.out g3
      have hg3 : w.grownBy w3 (some b) := grown_trans hg1 g3
      clear T1 F1 hg1 g3 c0 c1 c2 c3
      cases hp : Disks.putRaw cur ⟨K, M, O, X⟩ with
      | none =>
        rw [hp] at T3
        have HE : Hid (Disks.run l rs = (cur, k)) := by show _ = _; rw [RN.out, HDR.out, Disks.run_none hp]; rfl
        have T3' : Hid (Table w3 b cur) := T3
        clear T3 hp RN
        go_wp2
        go_ret
        exact ⟨by rw [HE.out]; rfl, by rw [HE.out]; exact T3'.out, hg3⟩
      | some L =>
        rw [hp] at T3
        have HE : Hid (Disks.run l rs = ((Disks.run L (rs.drop (k + 1))).1, k + 1 + (Disks.run L (rs.drop (k + 1))).2)) := by
          show _ = _
          rw [RN.out, HDR.out, Disks.run_some hp]
          simp only [Prod.mk.injEq, true_and]
          omega
        have T3' : Hid (Table w3 b L) := T3
        have CK' : Hid (Disks.ok L) := Disks.put_ok hp
        clear T3 hp RN
        go_wp2
        go_roundw
        case rel => exact ⟨k + 1, L, by omega, by go_num, CK', T3', HE, F3, hg3⟩
        case measure => simp [intOf]; omega
    · have hk1 : ¬ (k : Int) < (rs.length : Int) := by omega
      have HE : Hid (Disks.run l rs = (cur, rs.length)) := by
        show _ = _
        rw [RN.out, List.drop_of_length_le (by omega)]
        simp only [Disks.run, Prod.mk.injEq, true_and]
        omega
      go_wp2
      go_ret
      exact ⟨by rw [HE.out]; rfl, by rw [HE.out]; exact TR.out, hgr⟩
theorem two_1 (w : World) (x y : Obj) : ((w.alloc x).alloc y).heap[w.heap.size + 1]? = some y := by
  have := heap_alloc_new (w.alloc x) y
  simpa using this
/-- A disk's variable and a result's: two blocks. -/
structure ResAt (h : Nat) (D : Value) (W : World) : Prop where
  d : W.heap[h]? = some (.cells #[D] 46 (0, 0))
  res : W.heap[h + 1]? = some (.cells #[.slice none 0 0] 46 (0, 0))
theorem ResAt.lt {h : Nat} {D : Value} {W : World} (p : ResAt h D W) : h + 1 < W.heap.size := (Array.getElem?_eq_some_iff.1 p.res).1
theorem ResAt.kept {h : Nat} {D : Value} {W W' : World} (p : ResAt h D W) (hb : Below W.heap.size W W') : ResAt h D W' := by
  have := p.lt
  exact ⟨(hb.block h (by omega)).trans p.d, (hb.block (h + 1) this).trans p.res⟩
theorem ResAt.grown {h b : Nat} {D : Value} {W W' : World} (p : ResAt h D W) (hg : W.grownBy W' (some b)) (hb : h + 1 < b) : ResAt h D W' := by
  have := p.lt
  exact ⟨(hg.block h (by omega) (by simp; omega)).trans p.d, (hg.block (h + 1) this (by simp; omega)).trans p.res⟩
theorem ResAt.cr {h : Nat} {D : Value} {W : World} (p : ResAt h D W) : W.cell? ⟨h + 1, 0, none⟩ = some (.slice none 0 0) := cell_of_row _ _ 0 _ _ _ p.res
theorem ResAt.cd {h : Nat} {D : Value} {W : World} (p : ResAt h D W) : W.cell? ⟨h, 0, none⟩ = some D := cell_of_row _ _ 0 _ _ _ p.d
theorem ResAt.fr {h : Nat} {D : Value} {W : World} (p : ResAt h D W) : W.frozen? ⟨h + 1, 0, none⟩ = false := frozen_of_row _ _ _ _ _ p.res
theorem res_start (w : World) (D : Value) : ∃ W1, W1 = (w.alloc (Obj.cells #[D] 46)).alloc (Obj.cells #[Value.slice none 0 0] 46) ∧ ResAt w.heap.size D W1 ∧ Below w.heap.size w W1 :=
  ⟨_, rfl, ⟨two_0 w _ _, two_1 w _ _⟩, ((Below.refl _ _).alloc (Nat.le_refl _) _).alloc (by simp) _⟩

set_option maxHeartbeats 1000000 in
set_option maxRecDepth 100000 in
theorem implPutRaws_yes {a ra : Option Addr} {g off cap rg roff rcap : Nat} (l : List FileL) (rs : List Disks.RawL) (hok : Disks.ok l) (hrs : rs.length ≤ 60) (hr : ∀ r ∈ rs, r.name.size ≤ 1048576 ∧ r.to.size ≤ 1048576 ∧ r.text.size ≤ 1048576) (w : World) (hf : FilesAt w a g off l) (hrf : RawsAt w ra rg roff rs) :
    Calls Tryz.prog 145 #[.agg #[.slice a l.length cap], .slice ra rs.length rcap] w (rawsPost w (Disks.run l rs).1 (Disks.run l rs).2) := by
  have HF : Hid (FilesAt w a g off l) := hf
  have HRF : Hid (RawsAt w ra rg roff rs) := hrf
  have HK : Hid (Disks.ok l) := hok
  have HR : Hid (∀ r ∈ rs, r.name.size ≤ 1048576 ∧ r.to.size ≤ 1048576 ∧ r.text.size ≤ 1048576) := hr
  have h60 : ¬ (60 : Int) < (rs.length : Int) := by omega
  have HRUN : Hid (∀ (b : Nat) (wx : World) , Table wx b l → RawsAt wx ra rg roff rs → Calls Tryz.prog 195 #[.map (some b), .slice ra rs.length rcap] wx fun e w' => e = .returned (.int .i64 ((Disks.run l rs).2 : Int)) ∧ Table w' b (Disks.run l rs).1 ∧ wx.grownBy w' (some b)) := fun b wx h1 h2 => tabOrder_is l rs HK.out (by omega) HR.out b wx h1 h2
  have hLk := Disks.run_ok rs hok
  obtain ⟨L, n, hLn⟩ : ∃ L n, Disks.run l rs = (L, n) := ⟨_, _, rfl⟩
  rw [hLn] at HRUN hLk ⊢
  have HLK : Hid (Disks.ok L) := hLk
  clear hf hok hrf hr hLn hLk
  simp only at HRUN ⊢
  go_enter Tryz.func145, Tryz.ntmps145
  go_wp2_with fail
  obtain ⟨W1, hW1, hR1, hB1⟩ := res_start w (.slice a l.length cap)
  rw [← hW1]
  clear hW1
  refine (filesOf_yes l HK.out W1 (HF.out.kept hB1)).mono ?_
  rintro e w2 ⟨b, rfl, hb, T2, hb2⟩
  have T2' : Hid (Table w2 b l) := T2
  have hR2 := hR1.kept hb2
  have hB2 : Below w.heap.size w w2 := hB1.trans (hb2.mono hB1.size)
  have hbb : w.heap.size + 1 < b := Nat.lt_of_lt_of_le hR1.lt hb
  clear T2 hR1 hB1 hb2 hb
  go_wp2_with fail
  refine (HRUN.out b w2 T2'.out (HRF.out.kept hB2)).mono ?_
  rintro e w3 ⟨rfl, T3, g3⟩
  have T3' : Hid (Table w3 b L) := T3
  have hR3 := hR2.grown g3 hbb
  have hB3 : Below w.heap.size w w3 := below_grown hB2 g3 (by omega)
  clear T2' T3 hR2 hB2 g3
  go_wp2_with fail
  refine (told_is_pk L HLK.out b w3 T3'.out).mono ?_
  rintro e w4 ⟨v, rfl, hv, hb4⟩
  have hR4 := hR3.kept hb4
  have hr4 := hR4.cr
  have hrf4 := hR4.fr
  have hz3 := hR3.lt
  have hB4 : Below w.heap.size w w4 := hB3.trans (hb4.mono hB3.size)
  have HV : Hid (w4.ownsRow w3.heap.size 164 2 v L.length (cellsF L)) := hv
  obtain ⟨va, vc, rfl⟩ := own_slice hv
  have hres := World.cell?_setCell_same w4 _ (.slice va L.length vc) hr4
  clear hv T3' hb4 hR3 hR4
  go_wp2
  refine bodyPost_ret (v := .tuple #[.agg #[.slice va L.length vc], .int .i64 (n : Int)]) (by simp [results, Tryz.results145, go_sem, hres]) rfl ⟨_, rfl, ?_, hB4.setCell (by simp) _⟩
  exact own_set (own_mono HV.out hB3.size) _ _ _ (fun e => by have := (HV.out.lt _ e).1; omega)
end Go.Proofs.YtbcfiiilikkkeaaGreatDoor
namespace Go.Proofs.YtbcfiiilikkkeaaGreatDoor
open Go.RowKit
set_option linter.unusedVariables false

/-- A slice of the law's own: n elements of z cells of type e. -/
structure RowD where
  v : Value
  e : TypeId
  z : Nat
  n : Nat
  xs : List Value
structure LawS (w : World) (bs : List (Nat × Obj)) (rows : List RowD) (W : World) : Prop where
  below : Below w.heap.size w W
  has : ∀ p ∈ bs, W.heap[p.1]? = some p.2
  own : ∀ r ∈ rows, W.ownsRow w.heap.size r.e r.z r.v r.n r.xs
  sep : ∀ p ∈ bs, ∀ r ∈ rows, r.v.ownBlock ≠ some p.1
  apart : rows.Pairwise fun r s => r.v.ownBlock = none ∨ r.v.ownBlock ≠ s.v.ownBlock
  dist : bs.Pairwise fun p q => p.1 ≠ q.1
  up : ∀ p ∈ bs, w.heap.size ≤ p.1
theorem LawS.bsz {w W : World} {bs : List (Nat × Obj)} {rows : List RowD} (h : LawS w bs rows W) : ∀ p ∈ bs, p.1 < W.heap.size := fun p hp => (Array.getElem?_eq_some_iff.1 (h.has p hp)).1
theorem LawS.rsz {w W : World} {bs : List (Nat × Obj)} {rows : List RowD} (h : LawS w bs rows W) : ∀ r ∈ rows, ∀ k, r.v.ownBlock = some k → k < W.heap.size := fun r hr k hk => ((h.own r hr).lt k hk).2
theorem LawS.start (w : World) : LawS w [] [] w :=
  ⟨Below.refl _ _, fun p hp => (List.not_mem_nil hp).elim, fun p hp => (List.not_mem_nil hp).elim, fun p hp => (List.not_mem_nil hp).elim, List.Pairwise.nil, List.Pairwise.nil, fun p hp => (List.not_mem_nil hp).elim⟩
theorem LawS.step {w W W' : World} {bs : List (Nat × Obj)} {rows : List RowD} (h : LawS w bs rows W) (hb : Below W.heap.size W W') : LawS w bs rows W' :=
  ⟨h.below.trans (hb.mono h.below.size), fun p hp => (hb.block _ (h.bsz p hp)).trans (h.has p hp), fun p hp => own_kept (h.own p hp) hb, h.sep, h.apart, h.dist, h.up⟩
theorem LawS.drew {w W : World} {bs : List (Nat × Obj)} {rows : List RowD} (h : LawS w bs rows W) : LawS w bs rows W.drew := ⟨h.below.drew, h.has, h.own, h.sep, h.apart, h.dist, h.up⟩
theorem LawS.alloc {w W : World} {bs : List (Nat × Obj)} {rows : List RowD} (h : LawS w bs rows W) (o : Obj) : LawS w ((W.heap.size, o) :: bs) rows (W.alloc o) := by
  have hb : Below W.heap.size W (W.alloc o) := (Below.refl _ _).alloc (Nat.le_refl _) _
  have h2 := h.step hb
  refine ⟨h2.below, fun p hp => ?_, h2.own, fun p hp q hq => ?_, h.apart, List.Pairwise.cons (fun q hq => by have := h.bsz q hq; simp only; omega) h.dist, fun p hp => ?_⟩
  · rcases List.mem_cons.1 hp with rfl | hp
    · exact heap_alloc_new W o
    · exact h2.has p hp
  · rcases List.mem_cons.1 hp with rfl | hp
    · intro e
      have := h.rsz q hq _ e
      exact Nat.lt_irrefl _ this
    · exact h.sep p hp q hq
  · rcases List.mem_cons.1 hp with rfl | hp
    · exact h.below.size
    · exact h.up p hp
/-- A call that answers with a row of its own. -/
theorem LawS.call {w W W' : World} {bs : List (Nat × Obj)} {rows : List RowD} (h : LawS w bs rows W) (hb : Below W.heap.size W W') {v : Value} {e : TypeId} {z n : Nat} {xs : List Value} (hv : W'.ownsRow W.heap.size e z v n xs) : LawS w bs (⟨v, e, z, n, xs⟩ :: rows) W' := by
  have h2 := h.step hb
  refine ⟨h2.below, h2.has, fun p hp => ?_, fun p hp q hq => ?_, List.Pairwise.cons (fun q hq => ?_) h.apart, h.dist, h.up⟩
  · rcases List.mem_cons.1 hp with rfl | hp
    · exact own_mono hv h.below.size
    · exact h2.own p hp
  · rcases List.mem_cons.1 hq with rfl | hq
    · intro e
      have h3 := (hv.lt _ e).1
      have h4 := h.bsz p hp
      omega
    · exact h.sep p hp q hq
  · cases e : v.ownBlock with
    | none => exact Or.inl rfl
    | some k =>
      right
      intro e2
      have h3 := (hv.lt _ e).1
      have h4 := h.rsz q hq k e2.symm
      omega
theorem pair_get {α : Type} {R : α → α → Prop} {l : List α} (h : l.Pairwise R) {i j : Nat} {x y : α} (hi : l[i]? = some x) (hj : l[j]? = some y) (hij : i < j) : R x y := by
  obtain ⟨h1, rfl⟩ := List.getElem?_eq_some_iff.1 hi
  obtain ⟨h2, rfl⟩ := List.getElem?_eq_some_iff.1 hj
  exact List.pairwise_iff_getElem.1 h i j h1 h2 hij
/-- The row at i is written: what else there is stays. -/
theorem LawS.mark {w W W' : World} {bs : List (Nat × Obj)} {rows : List RowD} (h : LawS w bs rows W) (i : Nat) {r : RowD} (hi : rows[i]? = some r) (hg : W.grownBy W' r.v.ownBlock) {xs : List Value} (hv : W'.ownsRow w.heap.size r.e r.z r.v r.n xs) : LawS w bs (rows.set i ⟨r.v, r.e, r.z, r.n, xs⟩) W' := by
  have hr : r ∈ rows := List.mem_of_getElem? hi
  have hil : i < rows.length := (List.getElem?_eq_some_iff.1 hi).1
  have key : ∀ j s, (rows.set i ⟨r.v, r.e, r.z, r.n, xs⟩)[j]? = some s → (j = i ∧ s = ⟨r.v, r.e, r.z, r.n, xs⟩) ∨ (j ≠ i ∧ rows[j]? = some s) := fun j s hs => by
    by_cases hji : j = i
    · subst hji
      rw [List.getElem?_set_self hil] at hs
      exact Or.inl ⟨rfl, (Option.some.inj hs).symm⟩
    · rw [List.getElem?_set_ne (fun e => hji e.symm)] at hs
      exact Or.inr ⟨hji, hs⟩
  have far : ∀ j s, j ≠ i → rows[j]? = some s → s.v.ownBlock = none ∨ s.v.ownBlock ≠ r.v.ownBlock := fun j s hji hs => by
    rcases Nat.lt_or_gt_of_ne hji with q | q
    · exact pair_get h.apart hs hi q
    · rcases pair_get h.apart hi hs q with e | e
      · cases es : s.v.ownBlock with
        | none => exact Or.inl rfl
        | some k => right; rw [e]; simp
      · exact Or.inr (fun e2 => e e2.symm)
  refine ⟨h.below.grown hg h.below.size (fun j hj => (hv.lt j hj).1), fun p hp => (hg.block _ (h.bsz p hp) (fun e => h.sep p hp r hr e.symm)).trans (h.has p hp), fun s hs => ?_, fun p hp s hs => ?_, List.pairwise_iff_getElem.2 fun a b ha hb hab => ?_, h.dist, h.up⟩
  · obtain ⟨j, hj⟩ := List.getElem?_of_mem hs
    rcases key j s hj with ⟨_, rfl⟩ | ⟨hji, hj2⟩
    · exact hv
    · exact (h.own s (List.mem_of_getElem? hj2)).kept hg (far j s hji hj2)
  · obtain ⟨j, hj⟩ := List.getElem?_of_mem hs
    rcases key j s hj with ⟨_, rfl⟩ | ⟨_, hj2⟩
    · exact h.sep p hp r hr
    · exact h.sep p hp s (List.mem_of_getElem? hj2)
  · have ea := key a _ (List.getElem?_eq_getElem ha)
    have eb := key b _ (List.getElem?_eq_getElem hb)
    rcases ea with ⟨e1, e2⟩ | ⟨e1, e2⟩ <;> rcases eb with ⟨q1, q2⟩ | ⟨q1, q2⟩
    · omega
    · rw [e2]
      subst e1
      have := pair_get h.apart hi q2 hab
      exact this
    · rw [q2]
      subst q1
      have := pair_get h.apart e2 hi hab
      exact this
    · exact pair_get h.apart e2 q2 hab
theorem LawS.cell {w W : World} {bs : List (Nat × Obj)} {rows : List RowD} (h : LawS w bs rows W) {b : Nat} {x : Value} {t : TypeId} (hm : (b, Obj.cells #[x] t (0, 0)) ∈ bs) : W.cell? ⟨b, 0, none⟩ = some x := cell_of_row _ _ 0 _ _ _ (h.has _ hm)
theorem LawS.frozen {w W : World} {bs : List (Nat × Obj)} {rows : List RowD} (h : LawS w bs rows W) {b : Nat} {x : Value} {t : TypeId} (hm : (b, Obj.cells #[x] t (0, 0)) ∈ bs) : W.frozen? ⟨b, 0, none⟩ = false := frozen_of_row _ _ _ _ _ (h.has _ hm)
theorem LawS.row {w W : World} {bs : List (Nat × Obj)} {rows : List RowD} (h : LawS w bs rows W) (i : Nat) {r : RowD} (hi : rows[i]? = some r) : W.ownsRow w.heap.size r.e r.z r.v r.n r.xs := h.own r (List.mem_of_getElem? hi)
end Go.Proofs.YtbcfiiilikkkeaaGreatDoor
namespace Go.Proofs.YtbcfiiilikkkeaaGreatDoor
open Go.RowKit
set_option linter.unusedVariables false

theorem LawS.files {w W : World} {bs : List (Nat × Obj)} {rows : List RowD} (h : LawS w bs rows W) (i : Nat) {a : Option Addr} {e : TypeId} {n c : Nat} {l : List FileL} (hi : rows[i]? = some ⟨.slice a n c, e, 2, n, cellsF l⟩) (hn : l.length = n) : ∃ g, FilesAt W a g 0 l := by
  have h1 := h.row i hi
  rcases h1.2 with ⟨e1, e2⟩ | ⟨g, cap, cur, e1, _⟩
  · cases e1
    exact ⟨0, fun q => by simp only at *; omega, fun j hj => by simp only at *; omega⟩
  · cases e1
    exact ⟨g, own_files hn h1⟩
end Go.Proofs.YtbcfiiilikkkeaaGreatDoor
namespace Go.Proofs.YtbcfiiilikkkeaaGreatDoor
open Go.RowKit
set_option linter.unusedVariables false

theorem LawS.raws {w W : World} {bs : List (Nat × Obj)} {rows : List RowD} (h : LawS w bs rows W) (i : Nat) {a : Option Addr} {e : TypeId} {n c : Nat} {l : List Disks.RawL} (hi : rows[i]? = some ⟨.slice a n c, e, 4, n, cellsRaw l⟩) (hn : l.length = n) : ∃ g, RawsAt W a g 0 l := by
  have h1 := h.row i hi
  rcases h1.2 with ⟨e1, e2⟩ | ⟨g, cap, cur, e1, _⟩
  · cases e1
    exact ⟨0, fun q => by simp only at *; omega, fun j hj => by simp only at *; omega⟩
  · cases e1
    exact ⟨g, cellsRaw_own hn h1⟩
end Go.Proofs.YtbcfiiilikkkeaaGreatDoor
namespace Go.Proofs.YtbcfiiilikkkeaaGreatDoor
open Go.RowKit
set_option linter.unusedVariables false

namespace Disks
/-- How many bytes of a raw write may be done in part. -/
def part (r : RawL) : Nat := if 1 ≤ r.kind ∧ r.kind ≤ 2 then r.text.size else 0
def room (rs : List RawL) (wh : Nat) : Nat := match rs[wh]? with
  | some r => part r
  | none => 0
def begin (r : RawL) (pt : Nat) : RawL := ⟨r.kind, r.name, r.to, r.text.extract 0 pt⟩
def cutDone (rs : List RawL) (wh pt : Nat) : List RawL := rs.take wh ++ (match rs[wh]? with
  | some r => if 0 < pt then [begin r pt] else []
  | none => [])
def cutInB (l : List FileL) (rs : List RawL) (WH PT : Int) : Bool := okB l && decide (rs.length ≤ 60) && decide (0 ≤ WH ∧ WH ≤ rs.length) && decide (0 ≤ PT ∧ PT ≤ room rs WH.toNat)
def whole (l : List FileL) (d : List RawL) : Option (List FileL) := if (run l d).2 = d.length then some (run l d).1 else none
def cutAll (l : List FileL) (rs : List RawL) (WH PT : Int) : Option (List FileL) := if cutInB l rs WH PT = true then whole l (cutDone rs WH.toNat PT.toNat) else none
end Disks
theorem RawsAt.drop {w : World} {a : Option Addr} {g off : Nat} {rs : List Disks.RawL} (h : RawsAt w a g off rs) (k : Nat) (b : Option Addr) (hb : 0 < (rs.drop k).length → b = some ⟨g, off + k * 4, none⟩) : RawsAt w b g (off + k * 4) (rs.drop k) := by
  refine ⟨hb, fun j hj => ?_⟩
  have hj' : j < rs.length - k := by simpa using hj
  have := h.2 (k + j) (by omega)
  simp only [List.getElem_drop]
  rw [show off + k * 4 + j * 4 = off + (k + j) * 4 by omega]
  exact this
theorem RawsAt.take {w : World} {a : Option Addr} {g off : Nat} {rs : List Disks.RawL} (h : RawsAt w a g off rs) (k : Nat) : RawsAt w a g off (rs.take k) := by
  refine ⟨fun hp => h.1 (by rw [List.length_take] at hp; omega), fun j hj => ?_⟩
  have hj' : j < rs.length := by rw [List.length_take] at hj; omega
  simp only [List.getElem_take]
  exact h.2 j hj'
end Go.Proofs.YtbcfiiilikkkeaaGreatDoor
namespace Go.Proofs.YtbcfiiilikkkeaaGreatDoor
set_option linter.unusedVariables false
namespace Shelves
open Go
open Batches (by_ by_inj lt)
open Scan (segEnd segSpots segStamp Full valAt by_len)
open Disks (fileAt textOf RawL nameIs run putRaw rawOut whole cutAll cutDone room)
theorem by_extract (b : ByteArray) (k : Nat) : by_ (b.extract 0 k) = (by_ b).take k := by
  simp [by_, ByteArray.data_extract, Array.toList_extract]
theorem extract_size (t : ByteArray) (k : Nat) : (t.extract 0 k).size ≤ t.size := by
  rw [← by_len, ← by_len, by_extract, List.length_take]; omega
end Shelves
end Go.Proofs.YtbcfiiilikkkeaaGreatDoor
