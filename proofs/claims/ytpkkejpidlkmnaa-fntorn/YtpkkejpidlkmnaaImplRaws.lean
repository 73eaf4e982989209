/- The program's doInOrder and PutRaws, walked. -/
import Derived.Test.YtpkkejpidlkmnaaImplRaw
namespace Go.Proofs.Ytpkkejpidlkmnaa
open Go.RowKit
set_option linter.unusedVariables false

theorem Table.ne {w : World} {b : Nat} {l : List FileL} (h : Table w b l) {p : Addr} {v : Value} (hc : w.cell? p = some v) : b ≠ p.block := by
  obtain ⟨D, ⟨es, clock, hb, _⟩, _⟩ := h
  intro e
  subst e
  simp [World.cell?, hb] at hc
theorem RawsAt.grown {w w' : World} {a : Option Addr} {g off b : Nat} {rs : List Disks.RawL} {l : List FileL} (h : RawsAt w a g off rs) (hT : Table w b l) (hg : w.grownBy w' (some b)) : RawsAt w' a g off rs := by
  refine ⟨h.1, fun j hj => ?_⟩
  have hz := h.lt (by omega)
  have hne := hT.ne (h.2 0 (by omega)).1
  rw [cell_grown hg (p := ⟨g, off + j * 4, none⟩) hz hne, cell_grown hg (p := ⟨g, off + j * 4 + 1, none⟩) hz hne, cell_grown hg (p := ⟨g, off + j * 4 + 2, none⟩) hz hne, cell_grown hg (p := ⟨g, off + j * 4 + 3, none⟩) hz hne]
  exact h.2 j hj

set_option maxHeartbeats 2000000 in
set_option maxRecDepth 100000 in
theorem tabOrder_is {ra : Option Addr} {rg roff rcap : Nat} (l : List FileL) (rs : List Disks.RawL) (hok : Disks.ok l) (hrs : rs.length ≤ 1000) (hr : ∀ r ∈ rs, r.name.size ≤ 1048576 ∧ r.to.size ≤ 1048576 ∧ r.text.size ≤ 1048576) (b : Nat) (w : World) (hT : Table w b l) (hf : RawsAt w ra rg roff rs) :
    Calls Try.prog 64 #[.map (some b), .slice ra rs.length rcap] w fun e w' => e = .returned (.int .i64 ((Disks.run l rs).2 : Int)) ∧ Table w' b (Disks.run l rs).1 ∧ w.grownBy w' (some b) := by
  have HT : Hid (Table w b l) := hT
  have HF : Hid (RawsAt w ra rg roff rs) := hf
  have HR : Hid (∀ r ∈ rs, r.name.size ≤ 1048576 ∧ r.to.size ≤ 1048576 ∧ r.text.size ≤ 1048576) := hr
  have HK : Hid (Disks.ok l) := hok
  clear hT hf hr hok
  go_enter Try.func64, Try.ntmps64
  go_wp2
  go_loopw [9] (fun i wr => ∃ (k : Nat) (cur : List FileL), k ≤ rs.length ∧ i = .int .i64 (k : Int) ∧ Hid (Disks.ok cur) ∧ Hid (Table wr b cur) ∧ Hid (Disks.run l rs = ((Disks.run cur (rs.drop k)).1, k + (Disks.run cur (rs.drop k)).2)) ∧ Hid (RawsAt wr ra rg roff rs) ∧ w.grownBy wr (some b))
    (fun i _ => rs.length - (intOf i).toNat)
  case atStart => exact ⟨0, l, Nat.zero_le _, rfl, HK, HT, (by show _ = _; simp), HF, World.grownBy.refl _ _⟩
  case round =>
    obtain ⟨k, cur, hk, rfl, CK, TR, RN, RF, hgr⟩ := hrel
    by_cases hlt : k < rs.length
    · obtain ⟨c0, c1, c2, c3⟩ := RF.out.2 k hlt
      have ea := RF.out.1 (by omega)
      subst ea
      have hsz := HR.out rs[k] (List.getElem_mem _)
      have HDR : Hid (rs.drop k = rs[k] :: rs.drop (k + 1)) := List.drop_eq_getElem_cons hlt
      obtain ⟨r, hr⟩ : ∃ r, r = rs[k] := ⟨_, rfl⟩
      rw [← hr] at c0 c1 c2 c3 hsz HDR
      clear hr
      obtain ⟨K, M, O, X⟩ := r
      simp only at c0 c1 c2 c3
      have HSZ : Hid _ := hsz
      clear hsz
      have hk0 : (0 : Int) ≤ (k : Int) := by omega
      have hk1 : (k : Int) < (rs.length : Int) := by omega
      go_wp2_with fail
      obtain ⟨W1, hW1⟩ : ∃ W1, W1 = wr.alloc (Obj.cells #[Value.int .i64 K, Value.string M, Value.string O, Value.string X] 45) := ⟨_, rfl⟩
      rw [← hW1]
      have T1 : Hid (Table W1 b cur) := by show Table W1 b cur; rw [hW1]; exact TR.out.alloc _
      have F1 : Hid (RawsAt W1 (some ⟨rg, roff, none⟩) rg roff rs) := by show RawsAt _ _ _ _ _; rw [hW1]; exact RF.out.kept ((Below.refl _ _).alloc (Nat.le_refl _) _)
      have hg1 : w.grownBy W1 (some b) := by rw [hW1]; exact grown_trans hgr (World.grownBy_alloc _ _ _)
      clear hW1 hgr
      refine (tabDo_is cur CK.out ⟨K, M, O, X⟩ HSZ.out b W1 T1.out).mono ?_
      rintro e w3 ⟨rfl, T3, g3⟩
      have F3 : Hid (RawsAt w3 (some ⟨rg, roff, none⟩) rg roff rs) := F1.out.grown T1.out g3
      have hg3 : w.grownBy w3 (some b) := grown_trans hg1 g3
      clear T1 F1 hg1 g3 c0 c1 c2 c3
      cases hp : Disks.putRaw cur ⟨K, M, O, X⟩ with
      | none =>
        rw [hp] at T3
        have HE : Hid (Disks.run l rs = (cur, k)) := by show _ = _; rw [RN.out, HDR.out, Disks.run_none hp]; rfl
        have T3' : Hid (Table w3 b cur) := T3
        clear T3 hp RN
        go_wp2
        go_ret
        exact ⟨by rw [HE.out]; rfl, by rw [HE.out]; exact T3'.out, hg3⟩
      | some L =>
        rw [hp] at T3
        have HE : Hid (Disks.run l rs = ((Disks.run L (rs.drop (k + 1))).1, k + 1 + (Disks.run L (rs.drop (k + 1))).2)) := by
          show _ = _
          rw [RN.out, HDR.out, Disks.run_some hp]
          simp only [Prod.mk.injEq, true_and]
          omega
        have T3' : Hid (Table w3 b L) := T3
        have CK' : Hid (Disks.ok L) := Disks.put_ok hp
        clear T3 hp RN
        go_wp2
        go_roundw
        case rel => exact ⟨k + 1, L, by omega, by go_num, CK', T3', HE, F3, hg3⟩
        case measure => simp [intOf]; omega
    · have hk1 : ¬ (k : Int) < (rs.length : Int) := by omega
      have HE : Hid (Disks.run l rs = (cur, rs.length)) := by
        show _ = _
        rw [RN.out, List.drop_of_length_le (by omega)]
        simp only [Disks.run, Prod.mk.injEq, true_and]
        omega
      go_wp2
      go_ret
      exact ⟨by rw [HE.out]; rfl, by rw [HE.out]; exact TR.out, hgr⟩
theorem two_1 (w : World) (x y : Obj) : ((w.alloc x).alloc y).heap[w.heap.size + 1]? = some y := by
  have := heap_alloc_new (w.alloc x) y
  simpa using this
/-- A disk's variable and a result's: two blocks. -/
structure ResAt (h : Nat) (D : Value) (W : World) : Prop where
  d : W.heap[h]? = some (.cells #[D] 34 (0, 0))
  res : W.heap[h + 1]? = some (.cells #[.slice none 0 0] 34 (0, 0))
theorem ResAt.lt {h : Nat} {D : Value} {W : World} (p : ResAt h D W) : h + 1 < W.heap.size := (Array.getElem?_eq_some_iff.1 p.res).1
theorem ResAt.kept {h : Nat} {D : Value} {W W' : World} (p : ResAt h D W) (hb : Below W.heap.size W W') : ResAt h D W' := by
  have := p.lt
  exact ⟨(hb.block h (by omega)).trans p.d, (hb.block (h + 1) this).trans p.res⟩
theorem ResAt.grown {h b : Nat} {D : Value} {W W' : World} (p : ResAt h D W) (hg : W.grownBy W' (some b)) (hb : h + 1 < b) : ResAt h D W' := by
  have := p.lt
  exact ⟨(hg.block h (by omega) (by simp; omega)).trans p.d, (hg.block (h + 1) this (by simp; omega)).trans p.res⟩
theorem ResAt.cr {h : Nat} {D : Value} {W : World} (p : ResAt h D W) : W.cell? ⟨h + 1, 0, none⟩ = some (.slice none 0 0) := cell_of_row _ _ 0 _ _ _ p.res
theorem ResAt.cd {h : Nat} {D : Value} {W : World} (p : ResAt h D W) : W.cell? ⟨h, 0, none⟩ = some D := cell_of_row _ _ 0 _ _ _ p.d
theorem ResAt.fr {h : Nat} {D : Value} {W : World} (p : ResAt h D W) : W.frozen? ⟨h + 1, 0, none⟩ = false := frozen_of_row _ _ _ _ _ p.res
theorem res_start (w : World) (D : Value) : ∃ W1, W1 = (w.alloc (Obj.cells #[D] 34)).alloc (Obj.cells #[Value.slice none 0 0] 34) ∧ ResAt w.heap.size D W1 ∧ Below w.heap.size w W1 :=
  ⟨_, rfl, ⟨two_0 w _ _, two_1 w _ _⟩, ((Below.refl _ _).alloc (Nat.le_refl _) _).alloc (by simp) _⟩

set_option maxHeartbeats 1000000 in
set_option maxRecDepth 100000 in
theorem implPutRaws_no {a ra : Option Addr} {g off cap rcap n : Nat} (l : List FileL) (hlen : l.length ≤ 1048576) (hsz : ∀ f ∈ l, f.1.size ≤ 1048576 ∧ f.2.size ≤ 1048576) (hno : ¬ Disks.ok l) (w : World) (hf : FilesAt w a g off l) :
    Calls Try.prog 35 #[.agg #[.slice a l.length cap], .slice ra n rcap] w (rawsPost w [] 0) := by
  have HF : Hid (FilesAt w a g off l) := hf
  have HS : Hid (∀ f ∈ l, f.1.size ≤ 1048576 ∧ f.2.size ≤ 1048576) := hsz
  have HN : Hid (¬ Disks.ok l) := hno
  clear hf hsz hno
  go_enter Try.func35, Try.ntmps35
  go_wp2_with fail
  obtain ⟨W1, hW1, hR1, hB1⟩ := res_start w (.slice a l.length cap)
  rw [← hW1]
  clear hW1
  refine (filesOf_no l hlen HS.out HN.out W1 (HF.out.kept hB1)).mono ?_
  rintro e w2 ⟨rfl, hb2⟩
  have hR2 := hR1.kept hb2
  have hB2 : Below w.heap.size w w2 := hB1.trans (hb2.mono hB1.size)
  have hr := hR2.cr
  have hrf := hR2.fr
  have hres := World.cell?_setCell_same w2 _ (.slice none 0 0) hr
  clear hR1 hB1 hb2 hR2
  go_wp2
  exact bodyPost_ret (v := .tuple #[.agg #[.slice none 0 0], .int .i64 0]) (by simp [results, Try.results35, go_sem, hres]) rfl ⟨_, rfl, World.ownsRow_nil _ _ _ _, hB2.setCell (by simp) _⟩
set_option maxHeartbeats 1000000 in
set_option maxRecDepth 100000 in
theorem implPutRaws_big {a ra : Option Addr} {g off cap rcap n : Nat} (l : List FileL) (hok : Disks.ok l) (hn : n ≤ maxLen) (hbig : 60 < n) (w : World) (hf : FilesAt w a g off l) :
    Calls Try.prog 35 #[.agg #[.slice a l.length cap], .slice ra n rcap] w (rawsPost w [] 0) := by
  have HF : Hid (FilesAt w a g off l) := hf
  have HK : Hid (Disks.ok l) := hok
  unfold maxLen at hn
  have h60 : (60 : Int) < (n : Int) := by omega
  clear hf hok
  go_enter Try.func35, Try.ntmps35
  go_wp2_with fail
  obtain ⟨W1, hW1, hR1, hB1⟩ := res_start w (.slice a l.length cap)
  rw [← hW1]
  clear hW1
  refine (filesOf_yes l HK.out W1 (HF.out.kept hB1)).mono ?_
  rintro e w2 ⟨b, rfl, hb, T2, hb2⟩
  have hR2 := hR1.kept hb2
  have hB2 : Below w.heap.size w w2 := hB1.trans (hb2.mono hB1.size)
  have hr := hR2.cr
  have hrf := hR2.fr
  have hres := World.cell?_setCell_same w2 _ (.slice none 0 0) hr
  clear hR1 hB1 hb2 hR2 T2 hb
  go_wp2
  exact bodyPost_ret (v := .tuple #[.agg #[.slice none 0 0], .int .i64 0]) (by simp [results, Try.results35, go_sem, hres]) rfl ⟨_, rfl, World.ownsRow_nil _ _ _ _, hB2.setCell (by simp) _⟩
set_option maxHeartbeats 1000000 in
set_option maxRecDepth 100000 in
theorem implPutRaws_yes {a ra : Option Addr} {g off cap rg roff rcap : Nat} (l : List FileL) (rs : List Disks.RawL) (hok : Disks.ok l) (hrs : rs.length ≤ 60) (hr : ∀ r ∈ rs, r.name.size ≤ 1048576 ∧ r.to.size ≤ 1048576 ∧ r.text.size ≤ 1048576) (w : World) (hf : FilesAt w a g off l) (hrf : RawsAt w ra rg roff rs) :
    Calls Try.prog 35 #[.agg #[.slice a l.length cap], .slice ra rs.length rcap] w (rawsPost w (Disks.run l rs).1 (Disks.run l rs).2) := by
  have HF : Hid (FilesAt w a g off l) := hf
  have HRF : Hid (RawsAt w ra rg roff rs) := hrf
  have HK : Hid (Disks.ok l) := hok
  have HR : Hid (∀ r ∈ rs, r.name.size ≤ 1048576 ∧ r.to.size ≤ 1048576 ∧ r.text.size ≤ 1048576) := hr
  have h60 : ¬ (60 : Int) < (rs.length : Int) := by omega
  have HRUN : Hid (∀ (b : Nat) (wx : World) , Table wx b l → RawsAt wx ra rg roff rs → Calls Try.prog 64 #[.map (some b), .slice ra rs.length rcap] wx fun e w' => e = .returned (.int .i64 ((Disks.run l rs).2 : Int)) ∧ Table w' b (Disks.run l rs).1 ∧ wx.grownBy w' (some b)) := fun b wx h1 h2 => tabOrder_is l rs HK.out (by omega) HR.out b wx h1 h2
  have hLk := Disks.run_ok rs hok
  obtain ⟨L, n, hLn⟩ : ∃ L n, Disks.run l rs = (L, n) := ⟨_, _, rfl⟩
  rw [hLn] at HRUN hLk ⊢
  have HLK : Hid (Disks.ok L) := hLk
  clear hf hok hrf hr hLn hLk
  simp only at HRUN ⊢
  go_enter Try.func35, Try.ntmps35
  go_wp2_with fail
  obtain ⟨W1, hW1, hR1, hB1⟩ := res_start w (.slice a l.length cap)
  rw [← hW1]
  clear hW1
  refine (filesOf_yes l HK.out W1 (HF.out.kept hB1)).mono ?_
  rintro e w2 ⟨b, rfl, hb, T2, hb2⟩
  have T2' : Hid (Table w2 b l) := T2
  have hR2 := hR1.kept hb2
  have hB2 : Below w.heap.size w w2 := hB1.trans (hb2.mono hB1.size)
  have hbb : w.heap.size + 1 < b := Nat.lt_of_lt_of_le hR1.lt hb
  clear T2 hR1 hB1 hb2 hb
  go_wp2_with fail
  refine (HRUN.out b w2 T2'.out (HRF.out.kept hB2)).mono ?_
  rintro e w3 ⟨rfl, T3, g3⟩
  have T3' : Hid (Table w3 b L) := T3
  have hR3 := hR2.grown g3 hbb
  have hB3 : Below w.heap.size w w3 := below_grown hB2 g3 (by omega)
  clear T2' T3 hR2 hB2 g3
  go_wp2_with fail
  refine (told_is L HLK.out b w3 T3'.out).mono ?_
  rintro e w4 ⟨v, rfl, hv, hb4⟩
  have hR4 := hR3.kept hb4
  have hr4 := hR4.cr
  have hrf4 := hR4.fr
  have hz3 := hR3.lt
  have hB4 : Below w.heap.size w w4 := hB3.trans (hb4.mono hB3.size)
  have HV : Hid (w4.ownsRow w3.heap.size 68 2 v L.length (cellsF L)) := hv
  obtain ⟨va, vc, rfl⟩ := own_slice hv
  have hres := World.cell?_setCell_same w4 _ (.slice va L.length vc) hr4
  clear hv T3' hb4 hR3 hR4
  go_wp2
  refine bodyPost_ret (v := .tuple #[.agg #[.slice va L.length vc], .int .i64 (n : Int)]) (by simp [results, Try.results35, go_sem, hres]) rfl ⟨_, rfl, ?_, hB4.setCell (by simp) _⟩
  exact own_set (own_mono HV.out hB3.size) _ _ _ (fun e => by have := (HV.out.lt _ e).1; omega)
end Go.Proofs.Ytpkkejpidlkmnaa
