/- The call of the specification's OpenShelf, walked. -/
import Derived.Test.YtbcfiiilikkkeaaGreatDoorSpecLoad
import Derived.Test.YtbcfiiilikkkeaaGreatDoorLRaw
import Derived.Test.YtbcfiiilikkkeaaGreatDoorMathComes2
namespace Go.Proofs.YtbcfiiilikkkeaaGreatDoor
open Go.RowKit
open Shelves (LoadIs zeroS nameM nameNew textAt dirOf stOf lastOf stray drop1 put1 upTo cleans segName)
set_option linter.unusedVariables false

namespace Shelves
/-- What OpenShelf answers. -/
def OpenIs (l : List FileL) (s : ShelfL) (rs : List Disks.RawL) (c : Int) : Prop := (opens l = .ok (s, rs) ∧ c = 0) ∨ (opens l = .error c ∧ c ≠ 0 ∧ s = zeroS ∧ rs = [])
theorem open_load {l : List FileL} {s : ShelfL} {rs : List Disks.RawL} {c : Int} (h : OpenIs l s rs c) : ∃ e, LoadIs l s e c ∧ ((c = 0 ∧ rs = cleans l s.man e) ∨ (c ≠ 0 ∧ s = zeroS ∧ e = 0 ∧ rs = [])) := by
  unfold OpenIs opens at h
  rcases hl : load l with c' | ⟨s', e⟩
  · rw [hl] at h
    rcases h with ⟨h, _⟩ | ⟨h1, h2, h3, h4⟩
    · cases h
    · simp only [Except.error.injEq] at h1
      subst h1
      exact ⟨0, Or.inr ⟨hl, h2, h3, rfl⟩, Or.inr ⟨h2, h3, rfl, h4⟩⟩
  · rw [hl] at h
    rcases h with ⟨h1, h2⟩ | ⟨h, _⟩
    · simp only [Except.ok.injEq, Prod.mk.injEq] at h1
      obtain ⟨rfl, rfl⟩ := h1
      exact ⟨e, Or.inl ⟨hl, h2⟩, Or.inl ⟨h2, rfl⟩⟩
    · cases h
theorem load_err {l : List FileL} {c : Int} (h : load l = .error c) : c ≠ 0 := by
  unfold load at h
  split at h
  · split at h
    · simp only [Except.error.injEq] at h; omega
    · split at h
      · simp only [Except.error.injEq] at h; omega
      · split at h
        · split at h
          · split at h
            · cases h
            · simp only [Except.error.injEq] at h; omega
          · simp only [Except.error.injEq] at h; omega
        · simp only [Except.error.injEq] at h; omega
  · simp only [Except.error.injEq] at h; omega
theorem open_ex (l : List FileL) : ∃ s rs c, OpenIs l s rs c := by
  unfold OpenIs opens
  rcases h : load l with c | ⟨s, e⟩
  · exact ⟨zeroS, [], c, Or.inr ⟨rfl, load_err h, rfl, rfl⟩⟩
  · exact ⟨s, _, 0, Or.inl ⟨rfl, rfl⟩⟩
theorem stray_num (m : ManL) (f : FileL) : stray m f = (decide (0 ≤ segNum f.1) && !(m.segs.contains (segNum f.1))) := by
  unfold stray segNum
  cases segOf f.1 with
  | none => rfl
  | some n => simp
theorem filter_take_one {m : ManL} {l : List FileL} {k : Nat} (h : k < l.length) : ((l.take (k + 1)).filter (stray m)).map (fun f => drop1 f.1) = ((l.take k).filter (stray m)).map (fun f => drop1 f.1) ++ (if stray m l[k] = true then [drop1 l[k].1] else []) := by
  rw [List.take_succ_eq_append_getElem h, List.filter_append, List.map_append]
  congr 1
  by_cases q : stray m l[k] = true
  · rw [List.filter_cons_of_pos q, if_pos q]; rfl
  · rw [List.filter_cons_of_neg q, if_neg q]; rfl
end Shelves
theorem rawsAt_new (w : World) (r : Disks.RawL) : RawsAt (w.alloc (Obj.cells #[.int .i64 r.kind, .string r.name, .string r.to, .string r.text] 103)) (some ⟨w.heap.size, 0, none⟩) w.heap.size 0 [r] := by
  have h := heap_alloc_new w (Obj.cells #[.int .i64 r.kind, .string r.name, .string r.to, .string r.text] 103)
  refine ⟨fun _ => rfl, fun j hj => ?_⟩
  obtain rfl : j = 0 := by simpa using hj
  exact ⟨cell_of_row _ _ 0 _ _ _ h, cell_of_row _ _ 1 _ _ _ h, cell_of_row _ _ 2 _ _ _ h, cell_of_row _ _ 3 _ _ _ h⟩
/-- What OpenShelf holds: the disk's variable, the result's, the shelf's, the raw writes. -/
structure OS (w : World) (D : Value) (b5 : Nat) (s : ShelfL) (va vc vd rv : Value) (rs : List Disks.RawL) (W : World) : Prop where
  box : W.heap[w.heap.size]? = some (.cells #[D] 46 (0, 0))
  res : W.heap[w.heap.size + 1]? = some (.cells zero7 40 (0, 0))
  sh : W.heap[b5]? = some (.cells (cells7 s va vc vd) 40 (0, 0))
  own : ShOwn w.heap.size s va vc vd W
  raws : W.ownsRow w.heap.size 103 4 rv rs.length (cellsRaw rs)
  bel : Below w.heap.size w W
section
variable {w W W' : World} {D va vc vd rv rv' : Value} {b5 : Nat} {s : ShelfL} {rs : List Disks.RawL}
theorem OS.same (h : OS w D b5 s va vc vd rv rs W) (hb : Below W.heap.size W W') : OS w D b5 s va vc vd rv rs W' :=
  ⟨(hb.block _ (Array.getElem?_eq_some_iff.1 h.box).1).trans h.box, (hb.block _ (Array.getElem?_eq_some_iff.1 h.res).1).trans h.res, (hb.block _ (Array.getElem?_eq_some_iff.1 h.sh).1).trans h.sh, h.own.kept hb, own_kept h.raws hb, h.bel.trans (hb.mono h.bel.size)⟩
theorem OS.alloc (h : OS w D b5 s va vc vd rv rs W) (ob : Obj) : OS w D b5 s va vc vd rv rs (W.alloc ob) := h.same ((Below.refl _ _).alloc (Nat.le_refl _) _)
theorem OS.app (h : OS w D b5 s va vc vd rv rs W) {r : Disks.RawL} (hg : W.grownBy W' rv.ownBlock) (hown : W'.ownsRow w.heap.size 103 4 rv' (rs.length + 1) (cellsRaw rs ++ cellsRaw [r])) : OS w D b5 s va vc vd rv' (rs ++ [r]) W' := by
  have e1 : cellsRaw (rs ++ [r]) = cellsRaw rs ++ cellsRaw [r] := by simp [cellsRaw]
  refine ⟨grown_keep' h.box hg (own_not h.raws h.box (by decide)), grown_keep' h.res hg (own_not h.raws h.res (by decide)), grown_keep' h.sh hg (own_not h.raws h.sh (by decide)), ⟨own_other h.own.segs h.raws (by decide) hg, own_other h.own.conf h.raws (by decide) hg, own_other h.own.dir h.raws (by decide) hg⟩, ?_, h.bel.grown hg h.bel.size (fun k e => (h.raws.lt k e).1)⟩
  rw [e1, List.length_append]; exact hown
theorem OS.cbox (h : OS w D b5 s va vc vd rv rs W) : W.cell? ⟨w.heap.size, 0, none⟩ = some D := cell_of_row _ _ 0 _ _ _ h.box
theorem OS.cseg (h : OS w D b5 s va vc vd rv rs W) : W.cell? ⟨b5, 0, none⟩ = some va := cell_of_row _ _ 0 _ _ _ h.sh
end
theorem man_segs {l : List FileL} {s : ShelfL} {e : Nat} (h : Shelves.Loads l s e) : 1 ≤ s.man.segs.length ∧ s.man.segs.length ≤ 8 := by
  obtain ⟨t, _, q⟩ := h.man
  exact q.2.1
def OpenPost (w : World) (s : ShelfL) (rs : List Disks.RawL) (c : Int) (en : Ending) (w' : World) : Prop :=
  ∃ va vc vd rv, en = .returned (.tuple #[shV s va vc vd, rv, .int .i64 c]) ∧ ShOwn w.heap.size s va vc vd w' ∧ w'.ownsRow w.heap.size 103 4 rv rs.length (cellsRaw rs) ∧ Below w.heap.size w w'
set_option maxHeartbeats 8000000 in
set_option maxRecDepth 100000 in
theorem specOpen_any {a : Option Addr} {g off cap : Nat} (l : List FileL) (hlen : l.length ≤ 1048576) (hsz : ∀ f ∈ l, f.1.size ≤ 1048576 ∧ f.2.size ≤ 1048576) (s : ShelfL) (rs : List Disks.RawL) (c : Int) (hS : Shelves.OpenIs l s rs c) (w : World) (hf : FilesAt w a g off l) :
    Calls Tryz.prog 51 #[.agg #[.slice a l.length cap]] w (OpenPost w s rs c) := by
  obtain ⟨e, hL, hR⟩ := Shelves.open_load hS
  have HS : Hid (LoadIs l s e c) := hL
  have HR : Hid ((c = 0 ∧ rs = cleans l s.man e) ∨ (c ≠ 0 ∧ s = zeroS ∧ e = 0 ∧ rs = [])) := hR
  have HSZ : Hid (∀ f ∈ l, f.1.size ≤ 1048576 ∧ f.2.size ≤ 1048576) := hsz
  have HF : Hid (FilesAt w a g off l) := hf
  clear hS hL hR hsz hf
  obtain ⟨W1, hW1⟩ : ∃ W1, W1 = (w.alloc (Obj.cells #[Value.slice a l.length cap] 46)).alloc (Obj.cells zero7 40) := ⟨_, rfl⟩
  have hb1 : Below w.heap.size w W1 := by rw [hW1]; exact ((Below.refl _ _).alloc (Nat.le_refl _) _).alloc (by simp) _
  have hz1 : W1.heap.size = w.heap.size + 2 := by rw [hW1]; simp
  have q1 : W1.heap[w.heap.size]? = some (.cells #[Value.slice a l.length cap] 46 (0, 0)) := by rw [hW1, Below.heap_alloc _ _ _ (by simp)]; exact heap_alloc_new w _
  have q2 : W1.heap[w.heap.size + 1]? = some (.cells zero7 40 (0, 0)) := by
    have := heap_alloc_new (w.alloc (Obj.cells #[Value.slice a l.length cap] 46)) (Obj.cells zero7 40)
    rw [show (w.alloc (Obj.cells #[Value.slice a l.length cap] 46)).heap.size = w.heap.size + 1 by simp] at this
    rw [hW1]; exact this
  have c1 : W1.cell? ⟨w.heap.size, 0, none⟩ = some (.slice a l.length cap) := cell_of_row _ _ 0 _ _ _ q1
  rw [hW1] at c1
  unfold zero7 at hW1 c1
  go_enter Tryz.func51, Tryz.ntmps51
  go_wp2_with fail
  rw [← hW1]
  clear hW1 c1
  refine Calls.mono (specLoad_any l hlen HSZ.out s e c HS.out W1 (HF.out.kept hb1)) ?_
  rintro en w2 ⟨va, vc, vd, rfl, hsh, hb2⟩
  unfold shV cells7
  obtain ⟨sa, sc, hva⟩ := own_slice hsh.segs
  subst hva
  obtain ⟨ca, cc, hvc⟩ := own_slice hsh.conf
  subst hvc
  obtain ⟨da, dc, hvd⟩ := own_slice hsh.dir
  subst hvd
  obtain ⟨W3, hW3⟩ : ∃ W3, W3 = (w2.alloc (Obj.cells #[.slice sa s.man.segs.length sc, .int .i64 s.man.next, .int .i64 s.man.base, .int .i64 s.man.term, .slice ca s.man.conf.length cc, .slice da s.dir.length dc, .int .i64 s.stamp] 40)).alloc (Obj.cells #[] 103) := ⟨_, rfl⟩
  obtain ⟨b5, hb5⟩ : ∃ b5, b5 = w2.heap.size := ⟨_, rfl⟩
  have hz2 : w.heap.size + 2 ≤ w2.heap.size := by have := hb2.size; omega
  have eA : (w2.alloc (Obj.cells #[.slice sa s.man.segs.length sc, .int .i64 s.man.next, .int .i64 s.man.base, .int .i64 s.man.term, .slice ca s.man.conf.length cc, .slice da s.dir.length dc, .int .i64 s.stamp] 40)).heap.size = w2.heap.size + 1 := by simp
  have HO3 : Hid (OS w (.slice a l.length cap) b5 s (.slice sa s.man.segs.length sc) (.slice ca s.man.conf.length cc) (.slice da s.dir.length dc) (.slice (some ⟨b5 + 1, 0, none⟩) 0 0) [] W3) := by
    have hb3 : Below w2.heap.size w2 W3 := by rw [hW3]; exact ((Below.refl _ _).alloc (Nat.le_refl _) _).alloc (by simp) _
    have hk := hb2.trans (hb3.mono hb2.size)
    refine ⟨(hk.block _ (by omega)).trans q1, (hk.block _ (by omega)).trans q2, ?_, (hsh.mono hb1.size).kept hb3, ?_, hb1.trans (hk.mono hb1.size)⟩
    · rw [hW3, hb5, Below.heap_alloc _ _ _ (by rw [eA]; omega)]; exact heap_alloc_new w2 _
    · have := World.ownsRow_made (base := w.heap.size) (e := 103) (size := 4) (w2.alloc (Obj.cells #[.slice sa s.man.segs.length sc, .int .i64 s.man.next, .int .i64 s.man.base, .int .i64 s.man.term, .slice ca s.man.conf.length cc, .slice da s.dir.length dc, .int .i64 s.stamp] 40)) #[] 0 (by rw [eA]; omega) (by unfold maxLen; omega) rfl
      rw [eA] at this
      rw [hW3, hb5]; exact this
  clear hsh hb1 hb2 q1 q2 hz1
  by_cases hc : c = 0
  case neg =>
    obtain ⟨hs0, he0, hr0⟩ : s = zeroS ∧ e = 0 ∧ rs = [] := by
      rcases HR.out with ⟨h, _⟩ | ⟨_, h1, h2, h3⟩
      · exact absurd h hc
      · exact ⟨h1, h2, h3⟩
    obtain ⟨⟨c0, c1, c2, c3, c4, c5, c6⟩, f0, f1, f2, f3, f4, f5, f6⟩ := seven_cells (show W3.heap[w.heap.size + 1]? = some (.cells #[.slice none 0 0, .int .i64 0, .int .i64 0, .int .i64 0, .slice none 0 0, .slice none 0 0, .int .i64 0] 40 (0, 0)) from HO3.out.res)
    have HY := res7 (show W3.heap[w.heap.size + 1]? = some (.cells #[.slice none 0 0, .int .i64 0, .int .i64 0, .int .i64 0, .slice none 0 0, .slice none 0 0, .int .i64 0] 40 (0, 0)) from HO3.out.res) (.slice none 0 0) (.int .i64 0) (.int .i64 0) (.int .i64 0) (.slice none 0 0) (.slice none 0 0) (.int .i64 0)
    have HF : Hid (OpenPost w s rs c (.returned (.tuple #[.agg zero7, .slice (some ⟨w2.heap.size + 1, 0, none⟩) 0 0, .int .i64 c])) (set7 W3 (w.heap.size + 1) (.slice none 0 0) (.int .i64 0) (.int .i64 0) (.int .i64 0) (.slice none 0 0) (.slice none 0 0) (.int .i64 0))) := by
      rw [hs0, hr0]
      refine ⟨.slice none 0 0, .slice none 0 0, .slice none 0 0, _, rfl, ShOwn.zero _ _, ?_, set7_below HO3.out.bel (by omega) _ _ _ _ _ _ _⟩
      have := set7_own HO3.out.raws HO3.out.res (by decide) (.slice none 0 0) (.int .i64 0) (.int .i64 0) (.int .i64 0) (.slice none 0 0) (.slice none 0 0) (.int .i64 0)
      rw [hb5] at this
      exact this
    have hcn : (c != 0) = true := by simp [hc]
    rw [hW3] at c0 c1 c2 c3 c4 c5 c6 f0 f1 f2 f3 f4 f5 f6 HY HF
    clear HO3 hW3 hc hs0 he0 hr0
    go_wp2
    obtain ⟨y0, y1, y2, y3, y4, y5, y6⟩ := HY
    unfold set7 at y0 y1 y2 y3 y4 y5 y6
    exact bodyPost_ret (v := .tuple #[.agg zero7, .slice (some ⟨w2.heap.size + 1, 0, none⟩) 0 0, .int .i64 c]) (by simp [results, Tryz.results51, go_sem, y0, y1, y2, y3, y4, y5, y6, zero7]) rfl HF.out
  subst hc
  have HRS : Hid (rs = cleans l s.man e) := by
    rcases HR.out with ⟨_, h⟩ | ⟨h, _⟩
    · exact h
    · exact absurd rfl h
  have HLO : Hid (Shelves.Loads l s e) := by
    rcases HS.out with ⟨h, _⟩ | ⟨_, h, _⟩
    · exact Shelves.load_iff.1 h
    · exact absurd rfl h
  clear HR HS
  have hcn : ((0 : Int) != 0) = false := by decide
  have c1 := HO3.out.cbox
  rw [hW3] at c1
  go_wp2_with fail
  rw [← hW3]
  have hbz : b5 + 1 = w2.heap.size + 1 := by omega
  rw [← hbz, ← hb5]
  clear hW3 c1 hcn eA hbz hz2 hb5
  obtain ⟨x, hx1, hx2⟩ := Disks.at_int l nameNew
  refine Calls.mono (l03At_is l hlen nameNew x hx1 W3 (HF.out.kept HO3.out.bel)) ?_
  rintro en w4 ⟨rfl, hb4⟩
  have HO4 : Hid (OS w (.slice a l.length cap) b5 s (.slice sa s.man.segs.length sc) (.slice ca s.man.conf.length cc) (.slice da s.dir.length dc) (.slice (some ⟨b5 + 1, 0, none⟩) 0 0) [] w4) := HO3.out.same hb4
  clear HO3 hb4 hx1
  rcases hx2 with ⟨hq, hx0⟩ | ⟨hq, hx0⟩
  · have hxc : ¬ 0 ≤ x := by omega
    have HOS := HO4
    clear HO4
    have HNEW : Hid (Disks.fileAt l nameNew = none) := hq
    clear hq
    go_wp2_with fail
    clear hx0
    go_loopw [8, 9] (fun rv i wr => ∃ k : Nat, k ≤ l.length ∧ i = .int .i64 (k : Int) ∧ Hid (OS w (.slice a l.length cap) b5 s (.slice sa s.man.segs.length sc) (.slice ca s.man.conf.length cc) (.slice da s.dir.length dc) rv ([] ++ ((l.take k).filter (stray s.man)).map (fun f => drop1 f.1)) wr))
      (fun _ i _ => l.length - (intOf i).toNat)
    case atStart => exact ⟨0, Nat.zero_le _, rfl, HOS⟩
    case round =>
      clear HOS
      obtain ⟨k, hk, rfl, HO⟩ := hrel
      obtain ⟨ra, rc, hrv⟩ := own_slice HO.out.raws
      subst hrv
      obtain ⟨PR, hPR⟩ : ∃ PR, PR = [] ++ ((l.take k).filter (stray s.man)).map (fun f => drop1 f.1) := ⟨_, rfl⟩
      have HPR : Hid (PR = [] ++ ((l.take k).filter (stray s.man)).map (fun f => drop1 f.1)) := hPR
      have hprl : PR.length ≤ 1048600 := by
        rw [hPR, List.length_append, List.length_map]
        have h1 := List.length_filter_le (stray s.man) (l.take k)
        rw [List.length_take] at h1
        have h2 : ([] : List Disks.RawL).length ≤ 1 := by simp
        omega
      rw [← hPR] at HO ⊢
      clear hPR
      have c0 := HO.out.cbox
      have c1 := HO.out.cseg
      by_cases hlt : k < l.length
      · have ea := HF.out.1 (by omega)
        have HF' := HF
        subst ea
        obtain ⟨c2, _⟩ := (HF.out.kept HO.out.bel).2 k hlt
        have hnm := (HSZ.out l[k] (List.getElem_mem _)).1
        have HSTN : Hid (stray s.man l[k] = (decide (0 ≤ segNum l[k].1) && !(s.man.segs.contains (segNum l[k].1)))) := Shelves.stray_num s.man l[k]
        have HNX : Hid ([] ++ ((l.take (k + 1)).filter (stray s.man)).map (fun f => drop1 f.1) = PR ++ (if stray s.man l[k] = true then [drop1 l[k].1] else [])) := by
          show _ = _
          rw [Shelves.filter_take_one hlt, HPR.out, List.append_assoc]
        obtain ⟨nm, hnme⟩ : ∃ nm, nm = l[k].1 := ⟨_, rfl⟩
        rw [← hnme] at c2 hnm HSTN HNX
        clear hnme
        have hk0 : (0 : Int) ≤ (k : Int) := by omega
        have hk1 : (k : Int) < (l.length : Int) := by omega
        go_wp2_with fail
        refine Calls.mono (seg9_is nm hnm wr) ?_
        rintro en w6 ⟨rfl, hb6⟩
        have HO6 : Hid (OS w (.slice (some ⟨g, off, none⟩) l.length cap) b5 s (.slice sa s.man.segs.length sc) (.slice ca s.man.conf.length cc) (.slice da s.dir.length dc) (.slice ra PR.length rc) PR w6) := HO.out.same hb6
        have c0 := HO6.out.cbox
        have c1 := HO6.out.cseg
        have c2 := hb6.cell (p := ⟨g, off + k * 2, none⟩) (World.block_lt_of_cell? wr _ c2) |>.trans c2
        clear hb6 HO
        obtain ⟨N, hN⟩ : ∃ N, N = segNum nm := ⟨_, rfl⟩
        rw [← hN] at HSTN ⊢
        clear hN
        by_cases hN0 : 0 ≤ N
        · obtain ⟨B, hB⟩ : ∃ B, B = s.man.segs.contains N := ⟨_, rfl⟩
          have HIN : Hid (∀ W : World, Below w6.heap.size w6 W → Calls Tryz.prog 123 #[.slice sa s.man.segs.length sc, .int .i64 N] W fun e w' => e = .returned (.bool B) ∧ w' = W) := fun W hW => by
            obtain ⟨_, sg, _, eS, hAt⟩ := cellsI_slice (own_kept HO6.out.own.segs hW)
            cases eS
            rw [hB]
            exact in9_is s.man.segs (by have := man_segs HLO.out; omega) N W hAt
          rw [← hB] at HSTN
          clear hB
          cases B with
          | true =>
            have HNX' : Hid ([] ++ ((l.take (k + 1)).filter (stray s.man)).map (fun f => drop1 f.1) = PR) := by
              show _ = _
              rw [HNX.out, if_neg (by rw [HSTN.out]; simp), List.append_nil]
            clear HNX HSTN
            go_wp2_with (go_at_call 123; refine Calls.mono (HIN.out w6 (Below.refl _ _)) ?_; rintro en w7 ⟨rfl, h7⟩; subst h7)
            go_roundw
            case rel => exact ⟨k + 1, by omega, by go_num, by rw [HNX'.out]; exact HO6⟩
            case measure => simp [intOf]; omega
          | false =>
            have HNX' : Hid ([] ++ ((l.take (k + 1)).filter (stray s.man)).map (fun f => drop1 f.1) = PR ++ [drop1 nm]) := by
              show _ = _
              rw [HNX.out, if_pos (by rw [HSTN.out]; simp [hN0])]
            clear HNX HSTN
            have hA := rawsAt_new w6 (drop1 nm)
            have hown := (HO6.out.alloc (Obj.cells #[Value.int .i64 4, Value.string nm, Value.string ⟨#[]⟩, Value.string ⟨#[]⟩] 103)).raws
            have hbz := (HO6.out.alloc (Obj.cells #[Value.int .i64 4, Value.string nm, Value.string ⟨#[]⟩, Value.string ⟨#[]⟩] 103)).bel.size
            go_wp2_with (first | (go_at_call 123; refine Calls.mono (HIN.out w6 (Below.refl _ _)) ?_; rintro en w7 ⟨rfl, h7⟩; subst h7) | (at_builtin; refine wpList_appendRaw rfl _ _ rfl w.heap.size _ _ _ rfl hown (some ⟨w7.heap.size, 0, none⟩) w7.heap.size 0 1 [drop1 nm] rfl hA (by simp) (by simp; omega) hbz ?_))
            intro v9 w9 hown9 hgrow9
            have HO9 : Hid (OS w (.slice (some ⟨g, off, none⟩) l.length cap) b5 s (.slice sa s.man.segs.length sc) (.slice ca s.man.conf.length cc) (.slice da s.dir.length dc) v9 (PR ++ [drop1 nm]) w9) := (HO6.out.alloc _).app hgrow9 hown9
            clear hown9 hgrow9 hown hbz hA HO6
            go_wp2
            go_roundw
            case rel => exact ⟨k + 1, by omega, by go_num, by rw [HNX'.out]; exact HO9⟩
            case measure => simp [intOf]; omega
        · have HNX' : Hid ([] ++ ((l.take (k + 1)).filter (stray s.man)).map (fun f => drop1 f.1) = PR) := by
            show _ = _
            rw [HNX.out, if_neg (by rw [HSTN.out]; simp [hN0]), List.append_nil]
          clear HNX HSTN
          go_wp2
          go_roundw
          case rel => exact ⟨k + 1, by omega, by go_num, by rw [HNX'.out]; exact HO6⟩
          case measure => simp [intOf]; omega
      · have hk1 : ¬ (k : Int) < (l.length : Int) := by omega
        have HPF : Hid (PR = [] ++ (l.filter (stray s.man)).map (fun f => drop1 f.1)) := by
          show _ = _
          rw [HPR.out, List.take_of_length_le (by omega)]
        clear HPR
        obtain ⟨_, sg, _, eS, hAt⟩ := cellsI_slice HO.out.own.segs
        cases eS
        have hsl := man_segs HLO.out
        have ea := hAt.1 (by omega)
        subst ea
        have c3 := hAt.2 (s.man.segs.length - 1) (by omega)
        rw [Shelves.last_at (by omega) (by omega), Nat.zero_add] at c3
        clear hAt
        obtain ⟨n, hn⟩ : ∃ n, n = lastOf s.man := ⟨_, rfl⟩
        have HN : Hid (n = lastOf s.man) := hn
        rw [← hn] at c3
        clear hn
        go_wp2_with fail
        clear c3
        refine Calls.mono (specSeg_any n wr) ?_
        rintro en w7 ⟨rfl, hb7⟩
        have HO7 : Hid (OS w (.slice a l.length cap) b5 s (.slice (some ⟨sg, 0, none⟩) s.man.segs.length sc) (.slice ca s.man.conf.length cc) (.slice da s.dir.length dc) (.slice ra PR.length rc) PR w7) := HO.out.same hb7
        have c0 := HO7.out.cbox
        clear hb7 HO
        obtain ⟨t2, ht2⟩ : ∃ t2, t2 = Disks.textOf l (segName n) := ⟨_, rfl⟩
        have HTX : Hid (Disks.TextIs l (segName n) t2) := by show Disks.TextIs _ _ _; rw [ht2]; exact Disks.text_of l _
        have HTA : Hid (textAt l n = Batches.by_ t2) := by show _ = _; rw [ht2]; rfl
        have ht20 : t2.size ≤ 20000 := by have := Shelves.text_le HLO.out.disk n; rw [HTA.out, Scan.by_len] at this; exact this
        have HTL : Hid ((textAt l n).length = t2.size) := by show _ = _; rw [HTA.out, Scan.by_len]
        clear ht2
        go_wp2_with fail
        clear c0
        refine Calls.mono (l03Text_is l hlen _ t2 HTX.out w7 (HF.out.kept HO7.out.bel)) ?_
        rintro en w8 ⟨rfl, hb8⟩
        have HO8 : Hid (OS w (.slice a l.length cap) b5 s (.slice (some ⟨sg, 0, none⟩) s.man.segs.length sc) (.slice ca s.man.conf.length cc) (.slice da s.dir.length dc) (.slice ra PR.length rc) PR w8) := HO7.out.same hb8
        clear hb8 HO7 c1
        have HCL : Hid (rs = PR ++ (if e < t2.size then [put1 (segName n) (t2.extract 0 e)] else [])) := by
          show _ = _
          rw [HRS.out, HPF.out]
          unfold cleans
          have e1 : upTo (textAt l (lastOf s.man)) e = t2.extract 0 e := by
            rw [← HN.out, HTA.out]
            refine Batches.by_inj ?_
            rw [Shelves.by_extract]; rfl
          rw [e1, ← HN.out, HTL.out, HNEW.out, if_neg (by simp), List.append_assoc]
        by_cases he : e < t2.size
        · have he1 : (e : Int) < (t2.size : Int) := by omega
          have hsl : ∀ wx, (Instr.slice 9 (.string t2) none (some (.int .i64 (e : Int))) none).run Tryz.prog wx = .ok (.string (t2.extract 0 e)) wx := fun wx => by
            have h3 : (e : Int) ≤ (t2.size : Int) := by omega
            simp [Instr.slice, h3, go_sem]
          have HCL' : Hid (rs = PR ++ [put1 (segName n) (t2.extract 0 e)]) := by show _ = _; rw [HCL.out, if_pos he]
          obtain ⟨t3, ht3⟩ : ∃ t3, t3 = t2.extract 0 e := ⟨_, rfl⟩
          rw [← ht3] at HCL' hsl
          clear ht3 HCL he
          have hA := rawsAt_new w8 (put1 (segName n) t3)
          have hown := (HO8.out.alloc (Obj.cells #[Value.int .i64 1, Value.string (segName n), Value.string ⟨#[]⟩, Value.string t3] 103)).raws
          have hbz := (HO8.out.alloc (Obj.cells #[Value.int .i64 1, Value.string (segName n), Value.string ⟨#[]⟩, Value.string t3] 103)).bel.size
          go_wp2_with (at_builtin; refine wpList_appendRaw rfl _ _ rfl w.heap.size _ _ _ rfl hown (some ⟨w8.heap.size, 0, none⟩) w8.heap.size 0 1 [put1 (segName n) t3] rfl hA (by simp) (by simp; omega) hbz ?_)
          intro v9 w9 hown9 hgrow9
          have HO9 : Hid (OS w (.slice a l.length cap) b5 s (.slice (some ⟨sg, 0, none⟩) s.man.segs.length sc) (.slice ca s.man.conf.length cc) (.slice da s.dir.length dc) v9 rs w9) := by
            show OS _ _ _ _ _ _ _ _ _ _
            rw [HCL'.out]
            exact (HO8.out.alloc _).app hgrow9 hown9
          clear hown9 hgrow9 hown hbz hA HO8
          obtain ⟨⟨c0, c1, c2, c3, c4, c5, c6⟩, f0, f1, f2, f3, f4, f5, f6⟩ := seven_cells (show w9.heap[w.heap.size + 1]? = some (.cells #[.slice none 0 0, .int .i64 0, .int .i64 0, .int .i64 0, .slice none 0 0, .slice none 0 0, .int .i64 0] 40 (0, 0)) from HO9.out.res)
          obtain ⟨⟨e0, e1, e2, e3, e4, e5, e6⟩, _⟩ := seven_cells (show w9.heap[b5]? = some (.cells #[.slice (some ⟨sg, 0, none⟩) s.man.segs.length sc, .int .i64 s.man.next, .int .i64 s.man.base, .int .i64 s.man.term, .slice ca s.man.conf.length cc, .slice da s.dir.length dc, .int .i64 s.stamp] 40 (0, 0)) from HO9.out.sh)
          have HY := res7 (show w9.heap[w.heap.size + 1]? = some (.cells #[.slice none 0 0, .int .i64 0, .int .i64 0, .int .i64 0, .slice none 0 0, .slice none 0 0, .int .i64 0] 40 (0, 0)) from HO9.out.res) (.slice (some ⟨sg, 0, none⟩) s.man.segs.length sc) (.int .i64 s.man.next) (.int .i64 s.man.base) (.int .i64 s.man.term) (.slice ca s.man.conf.length cc) (.slice da s.dir.length dc) (.int .i64 s.stamp)
          have HFin : Hid (OpenPost w s rs 0 (.returned (.tuple #[.agg #[.slice (some ⟨sg, 0, none⟩) s.man.segs.length sc, .int .i64 s.man.next, .int .i64 s.man.base, .int .i64 s.man.term, .slice ca s.man.conf.length cc, .slice da s.dir.length dc, .int .i64 s.stamp], v9, .int .i64 0])) (set7 w9 (w.heap.size + 1) (.slice (some ⟨sg, 0, none⟩) s.man.segs.length sc) (.int .i64 s.man.next) (.int .i64 s.man.base) (.int .i64 s.man.term) (.slice ca s.man.conf.length cc) (.slice da s.dir.length dc) (.int .i64 s.stamp))) :=
            ⟨_, _, _, _, rfl, set7_sh HO9.out.own HO9.out.res (by decide) (by decide) _ _ _ _ _ _ _, set7_own HO9.out.raws HO9.out.res (by decide) _ _ _ _ _ _ _, set7_below HO9.out.bel (by omega) _ _ _ _ _ _ _⟩
          clear HO9
          go_wp2
          obtain ⟨y0, y1, y2, y3, y4, y5, y6⟩ := HY
          unfold set7 at y0 y1 y2 y3 y4 y5 y6
          exact bodyPost_ret (v := .tuple #[.agg #[.slice (some ⟨sg, 0, none⟩) s.man.segs.length sc, .int .i64 s.man.next, .int .i64 s.man.base, .int .i64 s.man.term, .slice ca s.man.conf.length cc, .slice da s.dir.length dc, .int .i64 s.stamp], v9, .int .i64 0]) (by simp [results, Tryz.results51, go_sem, y0, y1, y2, y3, y4, y5, y6]) rfl HFin.out
        · have he1 : ¬ (e : Int) < (t2.size : Int) := by omega
          have HO9 : Hid (OS w (.slice a l.length cap) b5 s (.slice (some ⟨sg, 0, none⟩) s.man.segs.length sc) (.slice ca s.man.conf.length cc) (.slice da s.dir.length dc) (.slice ra PR.length rc) rs w8) := by
            show OS _ _ _ _ _ _ _ _ _ _
            have e1 : rs = PR := by rw [HCL.out, if_neg he, List.append_nil]
            rw [e1]; exact HO8.out
          clear HO8
          obtain ⟨⟨c0, c1, c2, c3, c4, c5, c6⟩, f0, f1, f2, f3, f4, f5, f6⟩ := seven_cells (show w8.heap[w.heap.size + 1]? = some (.cells #[.slice none 0 0, .int .i64 0, .int .i64 0, .int .i64 0, .slice none 0 0, .slice none 0 0, .int .i64 0] 40 (0, 0)) from HO9.out.res)
          obtain ⟨⟨e0, e1, e2, e3, e4, e5, e6⟩, _⟩ := seven_cells (show w8.heap[b5]? = some (.cells #[.slice (some ⟨sg, 0, none⟩) s.man.segs.length sc, .int .i64 s.man.next, .int .i64 s.man.base, .int .i64 s.man.term, .slice ca s.man.conf.length cc, .slice da s.dir.length dc, .int .i64 s.stamp] 40 (0, 0)) from HO9.out.sh)
          have HY := res7 (show w8.heap[w.heap.size + 1]? = some (.cells #[.slice none 0 0, .int .i64 0, .int .i64 0, .int .i64 0, .slice none 0 0, .slice none 0 0, .int .i64 0] 40 (0, 0)) from HO9.out.res) (.slice (some ⟨sg, 0, none⟩) s.man.segs.length sc) (.int .i64 s.man.next) (.int .i64 s.man.base) (.int .i64 s.man.term) (.slice ca s.man.conf.length cc) (.slice da s.dir.length dc) (.int .i64 s.stamp)
          have HFin : Hid (OpenPost w s rs 0 (.returned (.tuple #[.agg #[.slice (some ⟨sg, 0, none⟩) s.man.segs.length sc, .int .i64 s.man.next, .int .i64 s.man.base, .int .i64 s.man.term, .slice ca s.man.conf.length cc, .slice da s.dir.length dc, .int .i64 s.stamp], .slice ra PR.length rc, .int .i64 0])) (set7 w8 (w.heap.size + 1) (.slice (some ⟨sg, 0, none⟩) s.man.segs.length sc) (.int .i64 s.man.next) (.int .i64 s.man.base) (.int .i64 s.man.term) (.slice ca s.man.conf.length cc) (.slice da s.dir.length dc) (.int .i64 s.stamp))) :=
            ⟨_, _, _, _, rfl, set7_sh HO9.out.own HO9.out.res (by decide) (by decide) _ _ _ _ _ _ _, set7_own HO9.out.raws HO9.out.res (by decide) _ _ _ _ _ _ _, set7_below HO9.out.bel (by omega) _ _ _ _ _ _ _⟩
          clear HO9
          go_wp2
          obtain ⟨y0, y1, y2, y3, y4, y5, y6⟩ := HY
          unfold set7 at y0 y1 y2 y3 y4 y5 y6
          exact bodyPost_ret (v := .tuple #[.agg #[.slice (some ⟨sg, 0, none⟩) s.man.segs.length sc, .int .i64 s.man.next, .int .i64 s.man.base, .int .i64 s.man.term, .slice ca s.man.conf.length cc, .slice da s.dir.length dc, .int .i64 s.stamp], .slice ra PR.length rc, .int .i64 0]) (by simp [results, Tryz.results51, go_sem, y0, y1, y2, y3, y4, y5, y6]) rfl HFin.out
  · have hxc : 0 ≤ x := hx0
    have HNEW : Hid ((Disks.fileAt l nameNew).isSome = true) := hq
    clear hq
    have hA := rawsAt_new w4 (drop1 nameNew)
    have hown := (HO4.out.alloc (Obj.cells #[Value.int .i64 4, Value.string ⟨#[109, 43]⟩, Value.string ⟨#[]⟩, Value.string ⟨#[]⟩] 103)).raws
    have hbz := (HO4.out.alloc (Obj.cells #[Value.int .i64 4, Value.string ⟨#[109, 43]⟩, Value.string ⟨#[]⟩, Value.string ⟨#[]⟩] 103)).bel.size
    go_wp2_with (at_builtin; refine wpList_appendRaw rfl _ _ rfl w.heap.size _ _ _ rfl hown (some ⟨w4.heap.size, 0, none⟩) w4.heap.size 0 1 [drop1 nameNew] rfl hA (by simp) (by simp) hbz ?_)
    intro v5 w5 hown5 hgrow5
    have HOS : Hid (OS w (.slice a l.length cap) b5 s (.slice sa s.man.segs.length sc) (.slice ca s.man.conf.length cc) (.slice da s.dir.length dc) v5 [drop1 nameNew] w5) := (HO4.out.alloc _).app hgrow5 hown5
    clear hown5 hgrow5 hown hbz hA HO4
    go_wp2_with fail
    clear hx0
    go_loopw [8, 9] (fun rv i wr => ∃ k : Nat, k ≤ l.length ∧ i = .int .i64 (k : Int) ∧ Hid (OS w (.slice a l.length cap) b5 s (.slice sa s.man.segs.length sc) (.slice ca s.man.conf.length cc) (.slice da s.dir.length dc) rv ([drop1 nameNew] ++ ((l.take k).filter (stray s.man)).map (fun f => drop1 f.1)) wr))
      (fun _ i _ => l.length - (intOf i).toNat)
    case atStart => exact ⟨0, Nat.zero_le _, rfl, HOS⟩
    case round =>
      clear HOS
      obtain ⟨k, hk, rfl, HO⟩ := hrel
      obtain ⟨ra, rc, hrv⟩ := own_slice HO.out.raws
      subst hrv
      obtain ⟨PR, hPR⟩ : ∃ PR, PR = [drop1 nameNew] ++ ((l.take k).filter (stray s.man)).map (fun f => drop1 f.1) := ⟨_, rfl⟩
      have HPR : Hid (PR = [drop1 nameNew] ++ ((l.take k).filter (stray s.man)).map (fun f => drop1 f.1)) := hPR
      have hprl : PR.length ≤ 1048600 := by
        rw [hPR, List.length_append, List.length_map]
        have h1 := List.length_filter_le (stray s.man) (l.take k)
        rw [List.length_take] at h1
        have h2 : ([drop1 nameNew] : List Disks.RawL).length ≤ 1 := by simp
        omega
      rw [← hPR] at HO ⊢
      clear hPR
      have c0 := HO.out.cbox
      have c1 := HO.out.cseg
      by_cases hlt : k < l.length
      · have ea := HF.out.1 (by omega)
        have HF' := HF
        subst ea
        obtain ⟨c2, _⟩ := (HF.out.kept HO.out.bel).2 k hlt
        have hnm := (HSZ.out l[k] (List.getElem_mem _)).1
        have HSTN : Hid (stray s.man l[k] = (decide (0 ≤ segNum l[k].1) && !(s.man.segs.contains (segNum l[k].1)))) := Shelves.stray_num s.man l[k]
        have HNX : Hid ([drop1 nameNew] ++ ((l.take (k + 1)).filter (stray s.man)).map (fun f => drop1 f.1) = PR ++ (if stray s.man l[k] = true then [drop1 l[k].1] else [])) := by
          show _ = _
          rw [Shelves.filter_take_one hlt, HPR.out, List.append_assoc]
        obtain ⟨nm, hnme⟩ : ∃ nm, nm = l[k].1 := ⟨_, rfl⟩
        rw [← hnme] at c2 hnm HSTN HNX
        clear hnme
        have hk0 : (0 : Int) ≤ (k : Int) := by omega
        have hk1 : (k : Int) < (l.length : Int) := by omega
        go_wp2_with fail
        refine Calls.mono (seg9_is nm hnm wr) ?_
        rintro en w6 ⟨rfl, hb6⟩
        have HO6 : Hid (OS w (.slice (some ⟨g, off, none⟩) l.length cap) b5 s (.slice sa s.man.segs.length sc) (.slice ca s.man.conf.length cc) (.slice da s.dir.length dc) (.slice ra PR.length rc) PR w6) := HO.out.same hb6
        have c0 := HO6.out.cbox
        have c1 := HO6.out.cseg
        have c2 := hb6.cell (p := ⟨g, off + k * 2, none⟩) (World.block_lt_of_cell? wr _ c2) |>.trans c2
        clear hb6 HO
        obtain ⟨N, hN⟩ : ∃ N, N = segNum nm := ⟨_, rfl⟩
        rw [← hN] at HSTN ⊢
        clear hN
        by_cases hN0 : 0 ≤ N
        · obtain ⟨B, hB⟩ : ∃ B, B = s.man.segs.contains N := ⟨_, rfl⟩
          have HIN : Hid (∀ W : World, Below w6.heap.size w6 W → Calls Tryz.prog 123 #[.slice sa s.man.segs.length sc, .int .i64 N] W fun e w' => e = .returned (.bool B) ∧ w' = W) := fun W hW => by
            obtain ⟨_, sg, _, eS, hAt⟩ := cellsI_slice (own_kept HO6.out.own.segs hW)
            cases eS
            rw [hB]
            exact in9_is s.man.segs (by have := man_segs HLO.out; omega) N W hAt
          rw [← hB] at HSTN
          clear hB
          cases B with
          | true =>
            have HNX' : Hid ([drop1 nameNew] ++ ((l.take (k + 1)).filter (stray s.man)).map (fun f => drop1 f.1) = PR) := by
              show _ = _
              rw [HNX.out, if_neg (by rw [HSTN.out]; simp), List.append_nil]
            clear HNX HSTN
            go_wp2_with (go_at_call 123; refine Calls.mono (HIN.out w6 (Below.refl _ _)) ?_; rintro en w7 ⟨rfl, h7⟩; subst h7)
            go_roundw
            case rel => exact ⟨k + 1, by omega, by go_num, by rw [HNX'.out]; exact HO6⟩
            case measure => simp [intOf]; omega
          | false =>
            have HNX' : Hid ([drop1 nameNew] ++ ((l.take (k + 1)).filter (stray s.man)).map (fun f => drop1 f.1) = PR ++ [drop1 nm]) := by
              show _ = _
              rw [HNX.out, if_pos (by rw [HSTN.out]; simp [hN0])]
            clear HNX HSTN
            have hA := rawsAt_new w6 (drop1 nm)
            have hown := (HO6.out.alloc (Obj.cells #[Value.int .i64 4, Value.string nm, Value.string ⟨#[]⟩, Value.string ⟨#[]⟩] 103)).raws
            have hbz := (HO6.out.alloc (Obj.cells #[Value.int .i64 4, Value.string nm, Value.string ⟨#[]⟩, Value.string ⟨#[]⟩] 103)).bel.size
            go_wp2_with (first | (go_at_call 123; refine Calls.mono (HIN.out w6 (Below.refl _ _)) ?_; rintro en w7 ⟨rfl, h7⟩; subst h7) | (at_builtin; refine wpList_appendRaw rfl _ _ rfl w.heap.size _ _ _ rfl hown (some ⟨w7.heap.size, 0, none⟩) w7.heap.size 0 1 [drop1 nm] rfl hA (by simp) (by simp; omega) hbz ?_))
            intro v9 w9 hown9 hgrow9
            have HO9 : Hid (OS w (.slice (some ⟨g, off, none⟩) l.length cap) b5 s (.slice sa s.man.segs.length sc) (.slice ca s.man.conf.length cc) (.slice da s.dir.length dc) v9 (PR ++ [drop1 nm]) w9) := (HO6.out.alloc _).app hgrow9 hown9
            clear hown9 hgrow9 hown hbz hA HO6
            go_wp2
            go_roundw
            case rel => exact ⟨k + 1, by omega, by go_num, by rw [HNX'.out]; exact HO9⟩
            case measure => simp [intOf]; omega
        · have HNX' : Hid ([drop1 nameNew] ++ ((l.take (k + 1)).filter (stray s.man)).map (fun f => drop1 f.1) = PR) := by
            show _ = _
            rw [HNX.out, if_neg (by rw [HSTN.out]; simp [hN0]), List.append_nil]
          clear HNX HSTN
          go_wp2
          go_roundw
          case rel => exact ⟨k + 1, by omega, by go_num, by rw [HNX'.out]; exact HO6⟩
          case measure => simp [intOf]; omega
      · have hk1 : ¬ (k : Int) < (l.length : Int) := by omega
        have HPF : Hid (PR = [drop1 nameNew] ++ (l.filter (stray s.man)).map (fun f => drop1 f.1)) := by
          show _ = _
          rw [HPR.out, List.take_of_length_le (by omega)]
        clear HPR
        obtain ⟨_, sg, _, eS, hAt⟩ := cellsI_slice HO.out.own.segs
        cases eS
        have hsl := man_segs HLO.out
        have ea := hAt.1 (by omega)
        subst ea
        have c3 := hAt.2 (s.man.segs.length - 1) (by omega)
        rw [Shelves.last_at (by omega) (by omega), Nat.zero_add] at c3
        clear hAt
        obtain ⟨n, hn⟩ : ∃ n, n = lastOf s.man := ⟨_, rfl⟩
        have HN : Hid (n = lastOf s.man) := hn
        rw [← hn] at c3
        clear hn
        go_wp2_with fail
        clear c3
        refine Calls.mono (specSeg_any n wr) ?_
        rintro en w7 ⟨rfl, hb7⟩
        have HO7 : Hid (OS w (.slice a l.length cap) b5 s (.slice (some ⟨sg, 0, none⟩) s.man.segs.length sc) (.slice ca s.man.conf.length cc) (.slice da s.dir.length dc) (.slice ra PR.length rc) PR w7) := HO.out.same hb7
        have c0 := HO7.out.cbox
        clear hb7 HO
        obtain ⟨t2, ht2⟩ : ∃ t2, t2 = Disks.textOf l (segName n) := ⟨_, rfl⟩
        have HTX : Hid (Disks.TextIs l (segName n) t2) := by show Disks.TextIs _ _ _; rw [ht2]; exact Disks.text_of l _
        have HTA : Hid (textAt l n = Batches.by_ t2) := by show _ = _; rw [ht2]; rfl
        have ht20 : t2.size ≤ 20000 := by have := Shelves.text_le HLO.out.disk n; rw [HTA.out, Scan.by_len] at this; exact this
        have HTL : Hid ((textAt l n).length = t2.size) := by show _ = _; rw [HTA.out, Scan.by_len]
        clear ht2
        go_wp2_with fail
        clear c0
        refine Calls.mono (l03Text_is l hlen _ t2 HTX.out w7 (HF.out.kept HO7.out.bel)) ?_
        rintro en w8 ⟨rfl, hb8⟩
        have HO8 : Hid (OS w (.slice a l.length cap) b5 s (.slice (some ⟨sg, 0, none⟩) s.man.segs.length sc) (.slice ca s.man.conf.length cc) (.slice da s.dir.length dc) (.slice ra PR.length rc) PR w8) := HO7.out.same hb8
        clear hb8 HO7 c1
        have HCL : Hid (rs = PR ++ (if e < t2.size then [put1 (segName n) (t2.extract 0 e)] else [])) := by
          show _ = _
          rw [HRS.out, HPF.out]
          unfold cleans
          have e1 : upTo (textAt l (lastOf s.man)) e = t2.extract 0 e := by
            rw [← HN.out, HTA.out]
            refine Batches.by_inj ?_
            rw [Shelves.by_extract]; rfl
          rw [e1, ← HN.out, HTL.out, if_pos HNEW.out, List.append_assoc]
        by_cases he : e < t2.size
        · have he1 : (e : Int) < (t2.size : Int) := by omega
          have hsl : ∀ wx, (Instr.slice 9 (.string t2) none (some (.int .i64 (e : Int))) none).run Tryz.prog wx = .ok (.string (t2.extract 0 e)) wx := fun wx => by
            have h3 : (e : Int) ≤ (t2.size : Int) := by omega
            simp [Instr.slice, h3, go_sem]
          have HCL' : Hid (rs = PR ++ [put1 (segName n) (t2.extract 0 e)]) := by show _ = _; rw [HCL.out, if_pos he]
          obtain ⟨t3, ht3⟩ : ∃ t3, t3 = t2.extract 0 e := ⟨_, rfl⟩
          rw [← ht3] at HCL' hsl
          clear ht3 HCL he
          have hA := rawsAt_new w8 (put1 (segName n) t3)
          have hown := (HO8.out.alloc (Obj.cells #[Value.int .i64 1, Value.string (segName n), Value.string ⟨#[]⟩, Value.string t3] 103)).raws
          have hbz := (HO8.out.alloc (Obj.cells #[Value.int .i64 1, Value.string (segName n), Value.string ⟨#[]⟩, Value.string t3] 103)).bel.size
          go_wp2_with (at_builtin; refine wpList_appendRaw rfl _ _ rfl w.heap.size _ _ _ rfl hown (some ⟨w8.heap.size, 0, none⟩) w8.heap.size 0 1 [put1 (segName n) t3] rfl hA (by simp) (by simp; omega) hbz ?_)
          intro v9 w9 hown9 hgrow9
          have HO9 : Hid (OS w (.slice a l.length cap) b5 s (.slice (some ⟨sg, 0, none⟩) s.man.segs.length sc) (.slice ca s.man.conf.length cc) (.slice da s.dir.length dc) v9 rs w9) := by
            show OS _ _ _ _ _ _ _ _ _ _
            rw [HCL'.out]
            exact (HO8.out.alloc _).app hgrow9 hown9
          clear hown9 hgrow9 hown hbz hA HO8
          obtain ⟨⟨c0, c1, c2, c3, c4, c5, c6⟩, f0, f1, f2, f3, f4, f5, f6⟩ := seven_cells (show w9.heap[w.heap.size + 1]? = some (.cells #[.slice none 0 0, .int .i64 0, .int .i64 0, .int .i64 0, .slice none 0 0, .slice none 0 0, .int .i64 0] 40 (0, 0)) from HO9.out.res)
          obtain ⟨⟨e0, e1, e2, e3, e4, e5, e6⟩, _⟩ := seven_cells (show w9.heap[b5]? = some (.cells #[.slice (some ⟨sg, 0, none⟩) s.man.segs.length sc, .int .i64 s.man.next, .int .i64 s.man.base, .int .i64 s.man.term, .slice ca s.man.conf.length cc, .slice da s.dir.length dc, .int .i64 s.stamp] 40 (0, 0)) from HO9.out.sh)
          have HY := res7 (show w9.heap[w.heap.size + 1]? = some (.cells #[.slice none 0 0, .int .i64 0, .int .i64 0, .int .i64 0, .slice none 0 0, .slice none 0 0, .int .i64 0] 40 (0, 0)) from HO9.out.res) (.slice (some ⟨sg, 0, none⟩) s.man.segs.length sc) (.int .i64 s.man.next) (.int .i64 s.man.base) (.int .i64 s.man.term) (.slice ca s.man.conf.length cc) (.slice da s.dir.length dc) (.int .i64 s.stamp)
          have HFin : Hid (OpenPost w s rs 0 (.returned (.tuple #[.agg #[.slice (some ⟨sg, 0, none⟩) s.man.segs.length sc, .int .i64 s.man.next, .int .i64 s.man.base, .int .i64 s.man.term, .slice ca s.man.conf.length cc, .slice da s.dir.length dc, .int .i64 s.stamp], v9, .int .i64 0])) (set7 w9 (w.heap.size + 1) (.slice (some ⟨sg, 0, none⟩) s.man.segs.length sc) (.int .i64 s.man.next) (.int .i64 s.man.base) (.int .i64 s.man.term) (.slice ca s.man.conf.length cc) (.slice da s.dir.length dc) (.int .i64 s.stamp))) :=
            ⟨_, _, _, _, rfl, set7_sh HO9.out.own HO9.out.res (by decide) (by decide) _ _ _ _ _ _ _, set7_own HO9.out.raws HO9.out.res (by decide) _ _ _ _ _ _ _, set7_below HO9.out.bel (by omega) _ _ _ _ _ _ _⟩
          clear HO9
          go_wp2
          obtain ⟨y0, y1, y2, y3, y4, y5, y6⟩ := HY
          unfold set7 at y0 y1 y2 y3 y4 y5 y6
          exact bodyPost_ret (v := .tuple #[.agg #[.slice (some ⟨sg, 0, none⟩) s.man.segs.length sc, .int .i64 s.man.next, .int .i64 s.man.base, .int .i64 s.man.term, .slice ca s.man.conf.length cc, .slice da s.dir.length dc, .int .i64 s.stamp], v9, .int .i64 0]) (by simp [results, Tryz.results51, go_sem, y0, y1, y2, y3, y4, y5, y6]) rfl HFin.out
        · have he1 : ¬ (e : Int) < (t2.size : Int) := by omega
          have HO9 : Hid (OS w (.slice a l.length cap) b5 s (.slice (some ⟨sg, 0, none⟩) s.man.segs.length sc) (.slice ca s.man.conf.length cc) (.slice da s.dir.length dc) (.slice ra PR.length rc) rs w8) := by
            show OS _ _ _ _ _ _ _ _ _ _
            have e1 : rs = PR := by rw [HCL.out, if_neg he, List.append_nil]
            rw [e1]; exact HO8.out
          clear HO8
          obtain ⟨⟨c0, c1, c2, c3, c4, c5, c6⟩, f0, f1, f2, f3, f4, f5, f6⟩ := seven_cells (show w8.heap[w.heap.size + 1]? = some (.cells #[.slice none 0 0, .int .i64 0, .int .i64 0, .int .i64 0, .slice none 0 0, .slice none 0 0, .int .i64 0] 40 (0, 0)) from HO9.out.res)
          obtain ⟨⟨e0, e1, e2, e3, e4, e5, e6⟩, _⟩ := seven_cells (show w8.heap[b5]? = some (.cells #[.slice (some ⟨sg, 0, none⟩) s.man.segs.length sc, .int .i64 s.man.next, .int .i64 s.man.base, .int .i64 s.man.term, .slice ca s.man.conf.length cc, .slice da s.dir.length dc, .int .i64 s.stamp] 40 (0, 0)) from HO9.out.sh)
          have HY := res7 (show w8.heap[w.heap.size + 1]? = some (.cells #[.slice none 0 0, .int .i64 0, .int .i64 0, .int .i64 0, .slice none 0 0, .slice none 0 0, .int .i64 0] 40 (0, 0)) from HO9.out.res) (.slice (some ⟨sg, 0, none⟩) s.man.segs.length sc) (.int .i64 s.man.next) (.int .i64 s.man.base) (.int .i64 s.man.term) (.slice ca s.man.conf.length cc) (.slice da s.dir.length dc) (.int .i64 s.stamp)
          have HFin : Hid (OpenPost w s rs 0 (.returned (.tuple #[.agg #[.slice (some ⟨sg, 0, none⟩) s.man.segs.length sc, .int .i64 s.man.next, .int .i64 s.man.base, .int .i64 s.man.term, .slice ca s.man.conf.length cc, .slice da s.dir.length dc, .int .i64 s.stamp], .slice ra PR.length rc, .int .i64 0])) (set7 w8 (w.heap.size + 1) (.slice (some ⟨sg, 0, none⟩) s.man.segs.length sc) (.int .i64 s.man.next) (.int .i64 s.man.base) (.int .i64 s.man.term) (.slice ca s.man.conf.length cc) (.slice da s.dir.length dc) (.int .i64 s.stamp))) :=
            ⟨_, _, _, _, rfl, set7_sh HO9.out.own HO9.out.res (by decide) (by decide) _ _ _ _ _ _ _, set7_own HO9.out.raws HO9.out.res (by decide) _ _ _ _ _ _ _, set7_below HO9.out.bel (by omega) _ _ _ _ _ _ _⟩
          clear HO9
          go_wp2
          obtain ⟨y0, y1, y2, y3, y4, y5, y6⟩ := HY
          unfold set7 at y0 y1 y2 y3 y4 y5 y6
          exact bodyPost_ret (v := .tuple #[.agg #[.slice (some ⟨sg, 0, none⟩) s.man.segs.length sc, .int .i64 s.man.next, .int .i64 s.man.base, .int .i64 s.man.term, .slice ca s.man.conf.length cc, .slice da s.dir.length dc, .int .i64 s.stamp], .slice ra PR.length rc, .int .i64 0]) (by simp [results, Tryz.results51, go_sem, y0, y1, y2, y3, y4, y5, y6]) rfl HFin.out
end Go.Proofs.YtbcfiiilikkkeaaGreatDoor
