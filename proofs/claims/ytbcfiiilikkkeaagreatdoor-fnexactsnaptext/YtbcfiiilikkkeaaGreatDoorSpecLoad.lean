/- The call of the specification's l09Load, walked. -/
import Derived.Test.YtbcfiiilikkkeaaGreatDoorSh
namespace Go.Proofs.YtbcfiiilikkkeaaGreatDoor
open Go.RowKit
open Shelves (LoadIs zeroS nameM textAt dirOf stOf lastOf)
set_option linter.unusedVariables false

/-- What l09Load holds: the disk's variable, the result's, the manifest's, the shelf's. -/
structure LD (w : World) (D : Value) (b7 b9 : Nat) (m : ManL) (va vc vd : Value) (dir : List SpotL) (st : Int) (W : World) : Prop where
  box : W.heap[w.heap.size]? = some (.cells #[D] 46 (0, 0))
  res : W.heap[w.heap.size + 1]? = some (.cells zero7 40 (0, 0))
  man : W.heap[b7]? = some (.cells #[va, .int .i64 m.next, .int .i64 m.base, .int .i64 m.term, vc] 37 (0, 0))
  sh : W.heap[b9]? = some (.cells (cells7 ⟨m, dir, st⟩ va vc vd) 40 (0, 0))
  own : ShOwn w.heap.size ⟨m, dir, st⟩ va vc vd W
  lo : w.heap.size + 1 < b9
  lo7 : w.heap.size + 1 < b7
  ne : b7 ≠ b9
  bel : Below w.heap.size w W
section
variable {w W W' : World} {D va vc vd vd' : Value} {b7 b9 : Nat} {m : ManL} {dir dir' : List SpotL} {st st' : Int}
theorem LD.same (h : LD w D b7 b9 m va vc vd dir st W) (hb : Below W.heap.size W W') : LD w D b7 b9 m va vc vd dir st W' :=
  ⟨(hb.block _ (Array.getElem?_eq_some_iff.1 h.box).1).trans h.box, (hb.block _ (Array.getElem?_eq_some_iff.1 h.res).1).trans h.res, (hb.block _ (Array.getElem?_eq_some_iff.1 h.man).1).trans h.man, (hb.block _ (Array.getElem?_eq_some_iff.1 h.sh).1).trans h.sh, h.own.kept hb, h.lo, h.lo7, h.ne, h.bel.trans (hb.mono h.bel.size)⟩
theorem LD.more (h : LD w D b7 b9 m va vc vd dir st W) (hd : W.ownsRow w.heap.size 134 4 vd' dir'.length (cellsSpot dir')) : LD w D b7 b9 m va vc vd' dir' st (W.setCell ⟨b9, 5, none⟩ vd') := by
  have hl := h.lo
  have hn := h.ne
  refine ⟨set_far h.box (by omega) _ _, set_far h.res (by omega) _ _, set_far h.man hn _ _, ?_, ?_, h.lo, h.lo7, h.ne, h.bel.setCell (by simp only; omega) _⟩
  · have := heap_setCell_same W b9 5 _ 40 vd' h.sh
    simpa [cells7] using this
  · exact (ShOwn.set (s := ⟨m, dir', st⟩) ⟨h.own.segs, h.own.conf, hd⟩ h.sh (by decide) (by decide) _ _)
theorem LD.stamp (h : LD w D b7 b9 m va vc vd dir st W) : LD w D b7 b9 m va vc vd dir st' (W.setCell ⟨b9, 6, none⟩ (.int .i64 st')) := by
  have hl := h.lo
  have hn := h.ne
  refine ⟨set_far h.box (by omega) _ _, set_far h.res (by omega) _ _, set_far h.man hn _ _, ?_, ?_, h.lo, h.lo7, h.ne, h.bel.setCell (by simp only; omega) _⟩
  · have := heap_setCell_same W b9 6 _ 40 (.int .i64 st') h.sh
    simpa [cells7] using this
  · exact (ShOwn.set (s := ⟨m, dir, st'⟩) ⟨h.own.segs, h.own.conf, h.own.dir⟩ h.sh (by decide) (by decide) _ _)
theorem LD.cbox (h : LD w D b7 b9 m va vc vd dir st W) : W.cell? ⟨w.heap.size, 0, none⟩ = some D := cell_of_row _ _ 0 _ _ _ h.box
theorem LD.cseg (h : LD w D b7 b9 m va vc vd dir st W) : W.cell? ⟨b7, 0, none⟩ = some va := cell_of_row _ _ 0 _ _ _ h.man
theorem LD.cdir (h : LD w D b7 b9 m va vc vd dir st W) : W.cell? ⟨b9, 5, none⟩ = some vd := cell_of_row _ _ 5 _ _ _ h.sh
theorem LD.cst (h : LD w D b7 b9 m va vc vd dir st W) : W.cell? ⟨b9, 6, none⟩ = some (.int .i64 st) := cell_of_row _ _ 6 _ _ _ h.sh
end
/-- What l09Load answers. -/
def LoadPost (w : World) (s : ShelfL) (e : Nat) (c : Int) (en : Ending) (w' : World) : Prop :=
  ∃ va vc vd, en = .returned (.tuple #[shV s va vc vd, .int .i64 (e : Int), .int .i64 c]) ∧ ShOwn w.heap.size s va vc vd w' ∧ Below w.heap.size w w'
/-- The end with a code. -/
theorem load_fault {w W : World} {c : Int} (h2 : W.heap[w.heap.size + 1]? = some (.cells zero7 40 (0, 0))) (hb : Below w.heap.size w W) :
    LoadPost w zeroS 0 c (.returned (.tuple #[.agg zero7, .int .i64 0, .int .i64 c])) (set7 W (w.heap.size + 1) (.slice none 0 0) (.int .i64 0) (.int .i64 0) (.int .i64 0) (.slice none 0 0) (.slice none 0 0) (.int .i64 0)) :=
  ⟨.slice none 0 0, .slice none 0 0, .slice none 0 0, rfl, ShOwn.zero _ _, set7_below hb (by omega) _ _ _ _ _ _ _⟩
/-- What the result's block holds at last. -/
def Res7 (L : World) (Z : Nat) (v0 v1 v2 v3 v4 v5 v6 : Value) : Prop :=
  L.cell? ⟨Z, 0, none⟩ = some v0 ∧ L.cell? ⟨Z, 1, none⟩ = some v1 ∧ L.cell? ⟨Z, 2, none⟩ = some v2 ∧ L.cell? ⟨Z, 3, none⟩ = some v3 ∧ L.cell? ⟨Z, 4, none⟩ = some v4 ∧ L.cell? ⟨Z, 5, none⟩ = some v5 ∧ L.cell? ⟨Z, 6, none⟩ = some v6
theorem res7 {W : World} {Z : Nat} {t : TypeId} {a0 a1 a2 a3 a4 a5 a6 : Value} (h : W.heap[Z]? = some (.cells #[a0, a1, a2, a3, a4, a5, a6] t (0, 0))) (v0 v1 v2 v3 v4 v5 v6 : Value) : Res7 (set7 W Z v0 v1 v2 v3 v4 v5 v6) Z v0 v1 v2 v3 v4 v5 v6 :=
  (seven_cells (seven_set h v0 v1 v2 v3 v4 v5 v6)).1
/-- How far the batches of the segment went that came last. -/
def endK (l : List FileL) (segs : List Int) : Nat → Nat
  | 0 => 0
  | k + 1 => Scan.segEnd (textAt l (segs.getD k 0))
theorem unS_reads {t : ByteArray} (h : t.size ≤ 20000) : Scan.Reads (unS t) (Scan.its (Batches.by_ t)) := by
  have e : unS t = Scan.recs (Batches.by_ t) := by
    unfold unS Scan.recs
    rw [if_pos h, Scan.by_len]
  rw [e]
  exact Scan.reads_items _
set_option maxHeartbeats 8000000 in
set_option maxRecDepth 100000 in
theorem specLoad_any {a : Option Addr} {g off cap : Nat} (l : List FileL) (hlen : l.length ≤ 1048576) (hsz : ∀ f ∈ l, f.1.size ≤ 1048576 ∧ f.2.size ≤ 1048576) (s : ShelfL) (e : Nat) (c : Int) (hS : LoadIs l s e c) (w : World) (hf : FilesAt w a g off l) :
    Calls Tryz.prog 120 #[.agg #[.slice a l.length cap]] w (LoadPost w s e c) := by
  have HS : Hid (LoadIs l s e c) := hS
  have HSZ : Hid (∀ f ∈ l, f.1.size ≤ 1048576 ∧ f.2.size ≤ 1048576) := hsz
  have HF : Hid (FilesAt w a g off l) := hf
  clear hS hsz hf
  obtain ⟨W1, hW1⟩ : ∃ W1, W1 = (w.alloc (Obj.cells #[Value.slice a l.length cap] 46)).alloc (Obj.cells zero7 40) := ⟨_, rfl⟩
  have hb1 : Below w.heap.size w W1 := by rw [hW1]; exact ((Below.refl _ _).alloc (Nat.le_refl _) _).alloc (by simp) _
  have hz1 : W1.heap.size = w.heap.size + 2 := by rw [hW1]; simp
  have q1 : W1.heap[w.heap.size]? = some (.cells #[Value.slice a l.length cap] 46 (0, 0)) := by rw [hW1, Below.heap_alloc _ _ _ (by simp)]; exact heap_alloc_new w _
  have q2 : W1.heap[w.heap.size + 1]? = some (.cells zero7 40 (0, 0)) := by
    have := heap_alloc_new (w.alloc (Obj.cells #[Value.slice a l.length cap] 46)) (Obj.cells zero7 40)
    rw [show (w.alloc (Obj.cells #[Value.slice a l.length cap] 46)).heap.size = w.heap.size + 1 by simp] at this
    rw [hW1]; exact this
  have c1 : W1.cell? ⟨w.heap.size, 0, none⟩ = some (.slice a l.length cap) := cell_of_row _ _ 0 _ _ _ q1
  rw [hW1] at c1
  unfold zero7 at hW1 c1
  go_enter Tryz.func120, Tryz.ntmps120
  go_wp2_with fail
  rw [← hW1]
  clear hW1 c1
  by_cases hok : Disks.ok l
  case neg =>
    refine Calls.mono (specDiskOk_any false l hlen W1 (HF.out.kept hb1) HSZ.out (iff_of_false (by decide) hok)) ?_
    rintro en w2 ⟨rfl, hb2⟩
    have r2 : w2.heap[w.heap.size + 1]? = some (.cells zero7 40 (0, 0)) := (hb2.block _ (by omega)).trans q2
    obtain ⟨⟨c0, c1, c2, c3, c4, c5, c6⟩, f0, f1, f2, f3, f4, f5, f6⟩ := seven_cells (show w2.heap[w.heap.size + 1]? = some (.cells #[.slice none 0 0, .int .i64 0, .int .i64 0, .int .i64 0, .slice none 0 0, .slice none 0 0, .int .i64 0] 40 (0, 0)) from r2)
    have hF : Hid (LoadPost w zeroS 0 1 (.returned (.tuple #[.agg zero7, .int .i64 0, .int .i64 1])) (set7 w2 (w.heap.size + 1) (.slice none 0 0) (.int .i64 0) (.int .i64 0) (.int .i64 0) (.slice none 0 0) (.slice none 0 0) (.int .i64 0))) := load_fault r2 (hb1.trans (hb2.mono hb1.size))
    have HY := res7 (show w2.heap[w.heap.size + 1]? = some (.cells #[.slice none 0 0, .int .i64 0, .int .i64 0, .int .i64 0, .slice none 0 0, .slice none 0 0, .int .i64 0] 40 (0, 0)) from r2) (.slice none 0 0) (.int .i64 0) (.int .i64 0) (.int .i64 0) (.slice none 0 0) (.slice none 0 0) (.int .i64 0)
    obtain ⟨hs1, hs2, hs3⟩ := Shelves.load_is_unique HS.out (Shelves.load_no hok)
    subst hs1 hs2 hs3
    clear r2
    go_wp2
    obtain ⟨y0, y1, y2, y3, y4, y5, y6⟩ := HY
    unfold set7 at y0 y1 y2 y3 y4 y5 y6
    exact bodyPost_ret (v := .tuple #[.agg zero7, .int .i64 0, .int .i64 1]) (by simp [results, Tryz.results120, go_sem, y0, y1, y2, y3, y4, y5, y6, zero7]) rfl hF.out
  have HOK : Hid (Disks.ok l) := hok
  clear hok
  refine Calls.mono (specDiskOk_any true l hlen W1 (HF.out.kept hb1) HSZ.out (iff_of_true rfl HOK.out)) ?_
  rintro en w2 ⟨rfl, hb2⟩
  have hbB : Below w.heap.size w w2 := hb1.trans (hb2.mono hb1.size)
  have p1 : w2.heap[w.heap.size]? = some (.cells #[Value.slice a l.length cap] 46 (0, 0)) := (hb2.block _ (by omega)).trans q1
  have p2 : w2.heap[w.heap.size + 1]? = some (.cells zero7 40 (0, 0)) := (hb2.block _ (by omega)).trans q2
  have hz2 : w.heap.size + 2 ≤ w2.heap.size := by have := hb2.size; omega
  clear hb1 hb2 q1 q2 hz1
  have c1 : w2.cell? ⟨w.heap.size, 0, none⟩ = some (.slice a l.length cap) := cell_of_row _ _ 0 _ _ _ p1
  go_wp2_with fail
  clear c1
  have hto := Disks.file_of HOK.out nameM
  obtain ⟨o, ho⟩ : ∃ o, o = Disks.fileAt l nameM := ⟨_, rfl⟩
  rw [← ho] at hto
  refine Calls.mono (specFileAt_is l hlen HSZ.out nameM o hto w2 (HF.out.kept hbB)) ?_
  rintro en w3 ⟨rfl, hb3⟩
  have hbC : Below w.heap.size w w3 := hbB.trans (hb3.mono hbB.size)
  have p1 : w3.heap[w.heap.size]? = some (.cells #[Value.slice a l.length cap] 46 (0, 0)) := (hb3.block _ (by omega)).trans p1
  have p2 : w3.heap[w.heap.size + 1]? = some (.cells zero7 40 (0, 0)) := (hb3.block _ (by omega)).trans p2
  have hz3 : w.heap.size + 2 ≤ w3.heap.size := by have := hb3.size; omega
  clear hb3 hbB hto hz2
  obtain ⟨t, B, hft⟩ : ∃ (t : ByteArray) (B : Bool), fileTuple o = .tuple #[.string t, .bool B] ∧ t.size ≤ 1048576 ∧ ((o = none ∧ B = false) ∨ (o = some t ∧ B = true)) := by
    cases o with
    | none => exact ⟨⟨#[]⟩, false, rfl, by decide, Or.inl ⟨rfl, rfl⟩⟩
    | some t => exact ⟨t, true, rfl, (HSZ.out (nameM, t) (Disks.at_mem ho.symm)).2, Or.inr ⟨rfl, rfl⟩⟩
  obtain ⟨e1, hts, hor⟩ := hft
  rw [e1]
  have HO : Hid ((Disks.fileAt l nameM = none ∧ B = false) ∨ (Disks.fileAt l nameM = some t ∧ B = true)) := by show _ ∨ _; rw [← ho]; exact hor
  clear e1 ho hor
  obtain ⟨m, R, hA⟩ := ans_ex t
  have HA : Hid (Ans t m R) := hA
  clear hA
  go_wp2_with fail
  refine Calls.mono (specRM_ans hts HA.out w3) ?_
  rintro en w4 ⟨va, vc, rfl, hsg, hcf, hb4⟩
  obtain ⟨sa, sc, hva⟩ := own_slice hsg
  subst hva
  obtain ⟨ca, cc, hvc⟩ := own_slice hcf
  subst hvc
  have hbD : Below w.heap.size w w4 := hbC.trans (hb4.mono hbC.size)
  have p1 : w4.heap[w.heap.size]? = some (.cells #[Value.slice a l.length cap] 46 (0, 0)) := (hb4.block _ (by omega)).trans p1
  have p2 : w4.heap[w.heap.size + 1]? = some (.cells zero7 40 (0, 0)) := (hb4.block _ (by omega)).trans p2
  have hz4 : w.heap.size + 2 ≤ w4.heap.size := by have := hb4.size; omega
  have hsg := own_mono hsg hbC.size
  have hcf := own_mono hcf hbC.size
  clear hb4 hbC hz3
  obtain ⟨W5, hW5⟩ : ∃ W5, W5 = w4.alloc (Obj.cells #[.slice sa m.segs.length sc, .int .i64 m.next, .int .i64 m.base, .int .i64 m.term, .slice ca m.conf.length cc] 37) := ⟨_, rfl⟩
  have hb5 : Below w4.heap.size w4 W5 := by rw [hW5]; exact (Below.refl _ _).alloc (Nat.le_refl _) _
  have hbE : Below w.heap.size w W5 := hbD.trans (hb5.mono hbD.size)
  have hz5 : W5.heap.size = w4.heap.size + 1 := by rw [hW5]; simp
  by_cases hBR : B = true ∧ R = true
  case neg =>
    have hld : LoadIs l zeroS 0 2 := by
      rcases HO.out with ⟨h1, h2⟩ | ⟨h1, h2⟩
      · exact Shelves.load_2a HOK.out h1
      · rcases HA.out with ⟨h3, h4⟩ | ⟨h3, _, h4⟩
        · exact absurd ⟨h2, h4⟩ hBR
        · exact Shelves.load_2b HOK.out h1 h3
    have HLD : Hid (LoadIs l zeroS 0 2) := hld
    clear hld
    have hcase : B = false ∨ (B = true ∧ R = false) := by cases B <;> cases R <;> simp at hBR ⊢
    clear hBR
    rcases hcase with rfl | ⟨rfl, rfl⟩
    · skip
      have r2 : W5.heap[w.heap.size + 1]? = some (.cells zero7 40 (0, 0)) := by rw [hW5, Below.heap_alloc _ _ _ (by omega)]; exact p2
      obtain ⟨⟨c0, c1, c2, c3, c4, c5, c6⟩, f0, f1, f2, f3, f4, f5, f6⟩ := seven_cells (show W5.heap[w.heap.size + 1]? = some (.cells #[.slice none 0 0, .int .i64 0, .int .i64 0, .int .i64 0, .slice none 0 0, .slice none 0 0, .int .i64 0] 40 (0, 0)) from r2)
      have hF : Hid (LoadPost w zeroS 0 2 (.returned (.tuple #[.agg zero7, .int .i64 0, .int .i64 2])) (set7 W5 (w.heap.size + 1) (.slice none 0 0) (.int .i64 0) (.int .i64 0) (.int .i64 0) (.slice none 0 0) (.slice none 0 0) (.int .i64 0))) := load_fault r2 hbE
      have HY := res7 (show W5.heap[w.heap.size + 1]? = some (.cells #[.slice none 0 0, .int .i64 0, .int .i64 0, .int .i64 0, .slice none 0 0, .slice none 0 0, .int .i64 0] 40 (0, 0)) from r2) (.slice none 0 0) (.int .i64 0) (.int .i64 0) (.int .i64 0) (.slice none 0 0) (.slice none 0 0) (.int .i64 0)
      obtain ⟨hs1, hs2, hs3⟩ := Shelves.load_is_unique HS.out (HLD.out)
      subst hs1 hs2 hs3
      clear r2
      rw [hW5] at c0 c1 c2 c3 c4 c5 c6 f0 f1 f2 f3 f4 f5 f6 hF HY
      clear hW5
      go_wp2
      obtain ⟨y0, y1, y2, y3, y4, y5, y6⟩ := HY
      unfold set7 at y0 y1 y2 y3 y4 y5 y6
      exact bodyPost_ret (v := .tuple #[.agg zero7, .int .i64 0, .int .i64 2]) (by simp [results, Tryz.results120, go_sem, y0, y1, y2, y3, y4, y5, y6, zero7]) rfl hF.out
    · skip
      have r2 : W5.heap[w.heap.size + 1]? = some (.cells zero7 40 (0, 0)) := by rw [hW5, Below.heap_alloc _ _ _ (by omega)]; exact p2
      obtain ⟨⟨c0, c1, c2, c3, c4, c5, c6⟩, f0, f1, f2, f3, f4, f5, f6⟩ := seven_cells (show W5.heap[w.heap.size + 1]? = some (.cells #[.slice none 0 0, .int .i64 0, .int .i64 0, .int .i64 0, .slice none 0 0, .slice none 0 0, .int .i64 0] 40 (0, 0)) from r2)
      have hF : Hid (LoadPost w zeroS 0 2 (.returned (.tuple #[.agg zero7, .int .i64 0, .int .i64 2])) (set7 W5 (w.heap.size + 1) (.slice none 0 0) (.int .i64 0) (.int .i64 0) (.int .i64 0) (.slice none 0 0) (.slice none 0 0) (.int .i64 0))) := load_fault r2 hbE
      have HY := res7 (show W5.heap[w.heap.size + 1]? = some (.cells #[.slice none 0 0, .int .i64 0, .int .i64 0, .int .i64 0, .slice none 0 0, .slice none 0 0, .int .i64 0] 40 (0, 0)) from r2) (.slice none 0 0) (.int .i64 0) (.int .i64 0) (.int .i64 0) (.slice none 0 0) (.slice none 0 0) (.int .i64 0)
      obtain ⟨hs1, hs2, hs3⟩ := Shelves.load_is_unique HS.out (HLD.out)
      subst hs1 hs2 hs3
      clear r2
      rw [hW5] at c0 c1 c2 c3 c4 c5 c6 f0 f1 f2 f3 f4 f5 f6 hF HY
      clear hW5
      go_wp2
      obtain ⟨y0, y1, y2, y3, y4, y5, y6⟩ := HY
      unfold set7 at y0 y1 y2 y3 y4 y5 y6
      exact bodyPost_ret (v := .tuple #[.agg zero7, .int .i64 0, .int .i64 2]) (by simp [results, Tryz.results120, go_sem, y0, y1, y2, y3, y4, y5, y6, zero7]) rfl hF.out
  obtain ⟨rfl, rfl⟩ := hBR
  have HT : Hid (Disks.fileAt l nameM = some t) := by
    rcases HO.out with ⟨_, h⟩ | ⟨h, _⟩
    · cases h
    · exact h
  have HG : Hid (Mans.Got t m) := by
    rcases HA.out with ⟨h, _⟩ | ⟨_, _, h⟩
    · exact h
    · cases h
  clear HO HA
  have mo := HG.out.2
  have hsl : 1 ≤ m.segs.length ∧ m.segs.length ≤ 8 := mo.1
  have HIN : Hid (∀ n ∈ m.segs, 0 ≤ n ∧ n ≤ 999) := (Shelves.segs_ne mo).2
  have HMO : Hid (Mans.ok m) := mo
  clear mo
  have hm5 : W5.heap[w4.heap.size]? = some (.cells #[.slice sa m.segs.length sc, .int .i64 m.next, .int .i64 m.base, .int .i64 m.term, .slice ca m.conf.length cc] 37 (0, 0)) := by rw [hW5]; exact heap_alloc_new w4 _
  obtain ⟨b7, hb7⟩ : ∃ b7, b7 = w4.heap.size := ⟨_, rfl⟩
  obtain ⟨W6, hW6⟩ : ∃ W6, W6 = W5.alloc (Obj.cells (cells7 ⟨m, [], m.base⟩ (.slice sa m.segs.length sc) (.slice ca m.conf.length cc) (.slice none 0 0)) 40) := ⟨_, rfl⟩
  obtain ⟨b9, hb9⟩ : ∃ b9, b9 = W5.heap.size := ⟨_, rfl⟩
  have HL : Hid (LD w (.slice a l.length cap) b7 b9 m (.slice sa m.segs.length sc) (.slice ca m.conf.length cc) (.slice none 0 0) [] m.base W6) := by
    have hbF : Below W5.heap.size W5 W6 := by rw [hW6]; exact (Below.refl _ _).alloc (Nat.le_refl _) _
    have hk := hb5.trans (hbF.mono (by omega))
    refine ⟨(hk.block _ (by omega)).trans p1, (hk.block _ (by omega)).trans p2, ?_, ?_, ⟨own_kept (own_kept hsg hb5) hbF, own_kept (own_kept hcf hb5) hbF, World.ownsRow_nil _ _ _ _⟩, by omega, by omega, by omega, hbE.trans (hbF.mono hbE.size)⟩
    · rw [hb7]; exact (hbF.block _ (by omega)).trans hm5
    · rw [hb9, hW6]; exact heap_alloc_new W5 _
  obtain ⟨⟨d0, d1, d2, d3, d4⟩, _⟩ : (W5.cell? ⟨w4.heap.size, 0, none⟩ = some (.slice sa m.segs.length sc) ∧ W5.cell? ⟨w4.heap.size, 1, none⟩ = some (.int .i64 m.next) ∧ W5.cell? ⟨w4.heap.size, 2, none⟩ = some (.int .i64 m.base) ∧ W5.cell? ⟨w4.heap.size, 3, none⟩ = some (.int .i64 m.term) ∧ W5.cell? ⟨w4.heap.size, 4, none⟩ = some (.slice ca m.conf.length cc)) ∧ True :=
    ⟨⟨cell_of_row _ _ 0 _ _ _ hm5, cell_of_row _ _ 1 _ _ _ hm5, cell_of_row _ _ 2 _ _ _ hm5, cell_of_row _ _ 3 _ _ _ hm5, cell_of_row _ _ 4 _ _ _ hm5⟩, trivial⟩
  have hb9z : b9 = w4.heap.size + 1 := by omega
  clear hm5 hb5 hbE hsg hcf p1 p2 hbD hz4 hb9
  unfold cells7 at hW6
  simp only at hW6
  rw [hW5] at d0 d1 d2 d3 d4
  rw [hW5] at hW6
  go_wp2_with fail
  rw [← hW6, ← hb9z, ← hb7]
  clear hW6 hb9z hb7 hW5 hz5 d0 d1 d2 d3 d4
  go_loopw [10] (fun i wr => ∃ k : Nat, k ≤ m.segs.length ∧ i = .int .i64 (k : Int) ∧ Hid (∀ j (h : j < m.segs.length), j < k → (Disks.fileAt l (Shelves.segName m.segs[j])).isSome = true) ∧ Hid (LD w (.slice a l.length cap) b7 b9 m (.slice sa m.segs.length sc) (.slice ca m.conf.length cc) (.slice none 0 0) [] m.base wr))
    (fun i _ => m.segs.length - (intOf i).toNat)
  case atStart => exact ⟨0, Nat.zero_le _, rfl, fun j _ q => absurd q (Nat.not_lt_zero _), HL⟩
  case round =>
    clear HL
    obtain ⟨k, hk, rfl, HSOME, HL⟩ := hrel
    have c0 := HL.out.cbox
    have c1 := HL.out.cseg
    by_cases hlt : k < m.segs.length
    · obtain ⟨_, sg, _, eS, hAt⟩ := cellsI_slice HL.out.own.segs
      cases eS
      have ea := hAt.1 (by simp only; omega)
      have c2 := hAt.2 k hlt
      subst ea
      clear hAt
      have hin := HIN.out m.segs[k] (List.getElem_mem _)
      obtain ⟨x, hx1, hx2⟩ := Disks.at_int l (Shelves.segName m.segs[k])
      obtain ⟨n, hn⟩ : ∃ n, n = m.segs[k] := ⟨_, rfl⟩
      have HN : Hid (n = m.segs[k]) := hn
      rw [← hn] at hx1 hx2 hin
      have c2' : wr.cell? ⟨sg, k, none⟩ = some (.int .i64 n) := by rw [hn]; simpa using c2
      have HX1 : Hid ((Disks.None l (Shelves.segName n) ∧ x = -1) ∨ ∃ k : Nat, Disks.At l (Shelves.segName n) k ∧ x = (k : Int)) := hx1
      have HX2 : Hid ((Disks.fileAt l (Shelves.segName n) = none ∧ x < 0) ∨ ((Disks.fileAt l (Shelves.segName n)).isSome = true ∧ 0 ≤ x)) := hx2
      clear hn hx1 hx2 c2
      have HFx : Hid (∀ y : Abv wr, FilesAt y.w a g off l) := fun y => (HF.out.kept HL.out.bel).kept y.b
      have hk0 : (0 : Int) ≤ (k : Int) := by omega
      have hk1 : (k : Int) < (m.segs.length : Int) := by omega
      go_wp2_with fail
      have NE := Abv.ne wr
      have F0 := fun y : Abv wr => y.cell c0
      have F1 := fun y : Abv wr => y.cell c1
      have F2 := fun y : Abv wr => y.cell c2'
      refine wp_region_above (by kernel_rfl) (by kernel_rfl) ?_
      repeat (go_big_quiet_step (first | (go_at_call 62; exact calls_above (specSeg_any n _)) | (go_at_call 121; exact calls_above (l03At_is l hlen _ x HX1.out _ (HFx.out _)))))
      refine wpQuiet_nil ?_
      rintro w6 ⟨⟨_, hb6⟩, rfl⟩
      clear NE F0 F1 F2 c0 c1 c2' HFx
      have HL6 : Hid (LD w (.slice a l.length cap) b7 b9 m (.slice (some ⟨sg, 0, none⟩) m.segs.length sc) (.slice ca m.conf.length cc) (.slice none 0 0) [] m.base w6) := HL.out.same hb6
      clear hb6 HL
      rcases HX2.out with ⟨hq, hx0⟩ | ⟨hq, hx0⟩
      · have HLD : Hid (LoadIs l zeroS 0 3) := Shelves.load_3 HOK.out HT.out HG.out (List.getElem_mem hlt) (by rw [← HN.out]; exact hq)
        clear hq
        have r2 : w6.heap[w.heap.size + 1]? = some (.cells zero7 40 (0, 0)) := HL6.out.res
        obtain ⟨⟨c0, c1, c2, c3, c4, c5, c6⟩, f0, f1, f2, f3, f4, f5, f6⟩ := seven_cells (show w6.heap[w.heap.size + 1]? = some (.cells #[.slice none 0 0, .int .i64 0, .int .i64 0, .int .i64 0, .slice none 0 0, .slice none 0 0, .int .i64 0] 40 (0, 0)) from r2)
        have hF : Hid (LoadPost w zeroS 0 3 (.returned (.tuple #[.agg zero7, .int .i64 0, .int .i64 3])) (set7 w6 (w.heap.size + 1) (.slice none 0 0) (.int .i64 0) (.int .i64 0) (.int .i64 0) (.slice none 0 0) (.slice none 0 0) (.int .i64 0))) := load_fault r2 HL6.out.bel
        have HY := res7 (show w6.heap[w.heap.size + 1]? = some (.cells #[.slice none 0 0, .int .i64 0, .int .i64 0, .int .i64 0, .slice none 0 0, .slice none 0 0, .int .i64 0] 40 (0, 0)) from r2) (.slice none 0 0) (.int .i64 0) (.int .i64 0) (.int .i64 0) (.slice none 0 0) (.slice none 0 0) (.int .i64 0)
        obtain ⟨hs1, hs2, hs3⟩ := Shelves.load_is_unique HS.out (HLD.out)
        subst hs1 hs2 hs3
        clear r2
        clear HL6
        go_wp2
        obtain ⟨y0, y1, y2, y3, y4, y5, y6⟩ := HY
        unfold set7 at y0 y1 y2 y3 y4 y5 y6
        exact bodyPost_ret (v := .tuple #[.agg zero7, .int .i64 0, .int .i64 3]) (by simp [results, Tryz.results120, go_sem, y0, y1, y2, y3, y4, y5, y6, zero7]) rfl hF.out
      · have hx0' : ¬ x < 0 := by omega
        have HS6 : Hid (∀ j (h : j < m.segs.length), j < k + 1 → (Disks.fileAt l (Shelves.segName m.segs[j])).isSome = true) := fun j h q => by
          by_cases e : j = k
          · subst e; rw [← HN.out]; exact hq
          · exact HSOME.out j h (by omega)
        clear hq
        go_wp2
        go_roundw
        case rel => exact ⟨k + 1, by omega, by go_num, HS6, HL6⟩
        case measure => simp [intOf]; omega
    · have hk1 : ¬ (k : Int) < (m.segs.length : Int) := by omega
      have HSG : Hid (∀ n ∈ m.segs, (Disks.fileAt l (Shelves.segName n)).isSome = true) := fun n hn => by
        obtain ⟨j, hj, e⟩ := List.getElem_of_mem hn
        rw [← e]; exact HSOME.out j hj (by omega)
      clear HSOME
      go_wp2_with fail
      clear c0 c1 hk1 hlt hk
      have HL0 : Hid (LD w (.slice a l.length cap) b7 b9 m (.slice sa m.segs.length sc) (.slice ca m.conf.length cc) (.slice none 0 0) (dirOf l [] (m.segs.take 0)) (stOf l m.base (m.segs.take 0)) wr) := HL
      clear HL
      go_loopw [11, 12] (fun e i wr => ∃ (k : Nat) (vd : Value), k ≤ m.segs.length ∧ i = .int .i64 (k : Int) ∧ e = .int .i64 ((endK l m.segs k : Nat) : Int) ∧ Hid (∀ j (h : j < m.segs.length), j < k → j + 1 < m.segs.length → Scan.Full (textAt l m.segs[j])) ∧ Hid (LD w (.slice a l.length cap) b7 b9 m (.slice sa m.segs.length sc) (.slice ca m.conf.length cc) vd (dirOf l [] (m.segs.take k)) (stOf l m.base (m.segs.take k)) wr))
        (fun _ i _ => m.segs.length - (intOf i).toNat)
      case atStart => exact ⟨0, .slice none 0 0, Nat.zero_le _, rfl, rfl, fun j _ q => absurd q (Nat.not_lt_zero _), HL0⟩
      case round =>
        clear HL0
        obtain ⟨k, vd, hk, rfl, rfl, HFULL, HL⟩ := hrel
        obtain ⟨da, dc, hvd⟩ := own_slice HL.out.own.dir
        subst hvd
        have c0 := HL.out.cbox
        have c1 := HL.out.cseg
        by_cases hlt : k < m.segs.length
        · obtain ⟨_, sg, _, eS, hAt⟩ := cellsI_slice HL.out.own.segs
          cases eS
          have ea := hAt.1 (by simp only; omega)
          have c2 := hAt.2 k hlt
          subst ea
          clear hAt
          obtain ⟨n, hn⟩ : ∃ n, n = m.segs[k] := ⟨_, rfl⟩
          have HN : Hid (n = m.segs[k]) := hn
          have c2' : wr.cell? ⟨sg, k, none⟩ = some (.int .i64 n) := by rw [hn]; simpa using c2
          obtain ⟨t2, ht2⟩ : ∃ t2, t2 = Disks.textOf l (Shelves.segName n) := ⟨_, rfl⟩
          have HTX : Hid (Disks.TextIs l (Shelves.segName n) t2) := by show Disks.TextIs _ _ _; rw [ht2]; exact Disks.text_of l _
          have HTA : Hid (textAt l n = Batches.by_ t2) := by show _ = _; rw [ht2]; rfl
          have ht20 : t2.size ≤ 20000 := by have := Shelves.text_le HOK.out n; rw [HTA.out, Scan.by_len] at this; exact this
          clear hn c2 ht2
          have HFx : Hid (∀ y : Abv wr, FilesAt y.w a g off l) := fun y => (HF.out.kept HL.out.bel).kept y.b
          have hk0 : (0 : Int) ≤ (k : Int) := by omega
          have hk1 : (k : Int) < (m.segs.length : Int) := by omega
          go_wp2_with fail
          have NE := Abv.ne wr
          have F0 := fun y : Abv wr => y.cell c0
          have F1 := fun y : Abv wr => y.cell c1
          have F2 := fun y : Abv wr => y.cell c2'
          refine wp_region_above (by kernel_rfl) (by kernel_rfl) ?_
          repeat (go_big_quiet_step (first | (go_at_call 62; exact calls_above (specSeg_any n _)) | (go_at_call 63; exact calls_above (l03Text_is l hlen _ t2 HTX.out _ (HFx.out _)))))
          refine wpQuiet_nil ?_
          rintro w6 ⟨⟨_, hb6⟩, rfl⟩
          have c1 := hb6.cell (p := ⟨b7, 0, none⟩) (World.block_lt_of_cell? wr _ c1) |>.trans c1
          have c2' := hb6.cell (p := ⟨sg, k, none⟩) (World.block_lt_of_cell? wr _ c2') |>.trans c2'
          have HL6 := HL.out.same hb6
          have HL6 : Hid (LD w (.slice a l.length cap) b7 b9 m (.slice (some ⟨sg, 0, none⟩) m.segs.length sc) (.slice ca m.conf.length cc) (.slice da (dirOf l [] (m.segs.take k)).length dc) (dirOf l [] (m.segs.take k)) (stOf l m.base (m.segs.take k)) w6) := HL6
          clear NE F0 F1 F2 HFx hb6 HL
          obtain ⟨items, hit⟩ : ∃ items, items = Scan.its (textAt l n) := ⟨_, rfl⟩
          have HIT : Hid (items = Scan.its (textAt l n)) := hit
          have HRD : Hid (Scan.Reads (unS t2) items) := by
            show Scan.Reads _ _
            rw [hit, HTA.out]
            exact unS_reads ht20
          clear hit
          go_wp2_with fail
          refine Calls.mono (specScan_any t2 (by unfold maxLen; omega) n items HRD.out w6) ?_
          rintro en w7 ⟨v1, v2, rfl, ho1, ho2, hbS⟩
          obtain ⟨xa, xc, hv1⟩ := own_slice ho1
          subst hv1
          obtain ⟨ta, tc, hv2⟩ := own_slice ho2
          subst hv2
          have HL7 : Hid (LD w (.slice a l.length cap) b7 b9 m (.slice (some ⟨sg, 0, none⟩) m.segs.length sc) (.slice ca m.conf.length cc) (.slice da (dirOf l [] (m.segs.take k)).length dc) (dirOf l [] (m.segs.take k)) (stOf l m.base (m.segs.take k)) w7) := HL6.out.same hbS
          have HO1 : Hid (w7.ownsRow w6.heap.size 134 4 (.slice xa (Scan.itSpots n 0 items).length xc) (Scan.itSpots n 0 items).length (cellsSpot (Scan.itSpots n 0 items))) := ho1
          have HO2 : Hid (w7.ownsRow w6.heap.size 9 1 (.slice ta items.length tc) items.length (cellsS (items.map fun x => x.bytes))) := ho2
          have hil : items.length ≤ 20000 := Nat.le_trans HRD.out.1 (unS_len t2)
          have HSZI : Hid (∀ x ∈ items, 1 ≤ x.bytes.length ∧ x.bytes.length ≤ 9000) := fun x hx => unS_size t2 _ (ch_len HRD.out x hx).2
          have hspl : (Scan.itSpots n 0 items).length ≤ 20000 := by
            have := Scan.spots_le n (textAt l n)
            rw [HIT.out]
            have h2 := Shelves.text_le HOK.out n
            unfold Scan.segSpots at this
            omega
          have HSP : Hid (Scan.itSpots n 0 items = Scan.segSpots n (textAt l n)) := by show _ = _; rw [HIT.out]; rfl
          have HST : Hid (Scan.itStamp (-1) items = Scan.segStamp (textAt l n)) := by show _ = _; rw [HIT.out]; rfl
          have HEN : Hid (Scan.itEnd 0 items = Scan.segEnd (textAt l n)) := by show _ = _; rw [HIT.out]; rfl
          clear ho1 ho2 hbS HL6 c0 c1 c2'
          obtain ⟨ST, hSTe⟩ : ∃ ST, ST = Scan.itStamp (-1) items := ⟨_, rfl⟩
          rw [← hSTe] at HST ⊢
          clear hSTe
          go_wp2_with fail
          go_loopw [11, 17] (fun q i wq => ∃ j : Nat, j ≤ items.length ∧ i = .int .i64 (j : Int) ∧ q = .int .i64 ((Scan.itEnd 0 (items.take j) : Nat) : Int) ∧ Hid (Below w7.heap.size w7 wq))
            (fun _ i _ => items.length - (intOf i).toNat)
          case atStart => exact ⟨0, Nat.zero_le _, rfl, rfl, Below.refl _ _⟩
          case round =>
            obtain ⟨j, hj, rfl, rfl, HBQ⟩ := hrel
            have hej : Scan.itEnd 0 (items.take j) ≤ 200000000 := by
              have := Scan.itEnd_le (items.take j) 0 (fun x hx => (HSZI.out x (List.mem_of_mem_take hx)).2)
              rw [List.length_take] at this
              omega
            by_cases hjl : j < items.length
            · obtain ⟨q, hq, hcl⟩ := row_cell (recs := items.map fun x => x.bytes) (by rw [List.length_map]; exact own_kept HO2.out HBQ.out) (k := j) (by rw [List.length_map]; exact hjl)
              subst hq
              rw [List.getElem_map] at hcl
              obtain ⟨r, hr⟩ : ∃ r, r = items[j].bytes := ⟨_, rfl⟩
              rw [← hr] at hcl
              have hrl : 1 ≤ r.length ∧ r.length ≤ 9000 := by rw [hr]; exact HSZI.out _ (List.getElem_mem _)
              have HEJ : Hid (Scan.itEnd 0 (items.take (j + 1)) = Scan.itEnd 0 (items.take j) + Scan.hdr r + r.length) := by
                show _ = _
                rw [List.take_succ_eq_append_getElem hjl, Scan.itEnd_snoc, hr]; rfl
              clear hr
              obtain ⟨T, hT⟩ : ∃ T : ByteArray, T = ⟨r.toArray⟩ := ⟨_, rfl⟩
              have hTs : T.size = r.length := by rw [hT]; exact rec_size r
              rw [← hT] at hcl
              clear hT
              have hj0 : (0 : Int) ≤ (j : Int) := by omega
              have hj1 : (j : Int) < (items.length : Int) := by omega
              go_wp2_with fail
              refine Calls.mono (specFrame_yes T (by omega) (by omega) wr) ?_
              rintro en w8 ⟨rfl, hb8⟩
              unfold frameTuple
              obtain ⟨F, hF⟩ : ∃ F, F = frameB T := ⟨_, rfl⟩
              have hFs : F.size = Scan.hdr r + r.length := by rw [hF, frameB_size, hTs]; unfold Scan.hdr; rfl
              rw [← hF]
              clear hF hcl
              have hh := Scan.hdr_le r hrl.2
              have HBQ8 : Hid (Below w7.heap.size w7 w8) := HBQ.out.trans (hb8.mono HBQ.out.size)
              clear hb8 HBQ
              obtain ⟨E, hE⟩ : ∃ E, E = Scan.itEnd 0 (items.take j) := ⟨_, rfl⟩
              rw [← hE] at hej HEJ ⊢
              clear hE
              go_wp2
              go_roundw
              case rel => exact ⟨j + 1, by omega, by go_num, by rw [HEJ.out]; refine congrArg (Value.int .i64) ?_; omega, HBQ8⟩
              case measure => simp [intOf]; omega
            · have hj1 : ¬ (j : Int) < (items.length : Int) := by omega
              have HEJ : Hid (Scan.itEnd 0 (items.take j) = Scan.segEnd (textAt l n)) := by show _ = _; rw [List.take_of_length_le (by omega)]; exact HEN.out
              have HL8 : Hid (LD w (.slice a l.length cap) b7 b9 m (.slice (some ⟨sg, 0, none⟩) m.segs.length sc) (.slice ca m.conf.length cc) (.slice da (dirOf l [] (m.segs.take k)).length dc) (dirOf l [] (m.segs.take k)) (stOf l m.base (m.segs.take k)) wr) := HL7.out.same HBQ.out
              have HO8 : Hid (wr.ownsRow w6.heap.size 134 4 (.slice xa (Scan.itSpots n 0 items).length xc) (Scan.itSpots n 0 items).length (cellsSpot (Scan.itSpots n 0 items))) := own_kept HO1.out HBQ.out
              obtain ⟨E, hE⟩ : ∃ E, E = Scan.itEnd 0 (items.take j) := ⟨_, rfl⟩
              rw [← hE] at hej HEJ ⊢
              clear hE HBQ HL7 HO1 HO2 hj hjl
              have HTL : Hid ((textAt l n).length = t2.size) := by show _ = _; rw [HTA.out, Scan.by_len]
              have c1 := HL8.out.cseg
              have hle : E ≤ t2.size := by have := Scan.segEnd_le (textAt l n); have := HEJ.out; have := HTL.out; omega
              by_cases hbad : E < t2.size ∧ k + 1 < m.segs.length
              · obtain ⟨hb1, hb2⟩ := hbad
                have HLD : Hid (LoadIs l zeroS 0 4) := Shelves.load_4a HOK.out HT.out HG.out HSG.out (Shelves.mem_init hb2) (by rw [← HN.out, ← HEJ.out, HTL.out]; omega)
                have hb1' : (E : Int) < (t2.size : Int) := by omega
                have hb2' : (k : Int) + 1 < (m.segs.length : Int) := by omega
                have r2 : wr.heap[w.heap.size + 1]? = some (.cells zero7 40 (0, 0)) := HL8.out.res
                obtain ⟨⟨c0, c1, c2, c3, c4, c5, c6⟩, f0, f1, f2, f3, f4, f5, f6⟩ := seven_cells (show wr.heap[w.heap.size + 1]? = some (.cells #[.slice none 0 0, .int .i64 0, .int .i64 0, .int .i64 0, .slice none 0 0, .slice none 0 0, .int .i64 0] 40 (0, 0)) from r2)
                have hF : Hid (LoadPost w zeroS 0 4 (.returned (.tuple #[.agg zero7, .int .i64 0, .int .i64 4])) (set7 wr (w.heap.size + 1) (.slice none 0 0) (.int .i64 0) (.int .i64 0) (.int .i64 0) (.slice none 0 0) (.slice none 0 0) (.int .i64 0))) := load_fault r2 HL8.out.bel
                have HY := res7 (show wr.heap[w.heap.size + 1]? = some (.cells #[.slice none 0 0, .int .i64 0, .int .i64 0, .int .i64 0, .slice none 0 0, .slice none 0 0, .int .i64 0] 40 (0, 0)) from r2) (.slice none 0 0) (.int .i64 0) (.int .i64 0) (.int .i64 0) (.slice none 0 0) (.slice none 0 0) (.int .i64 0)
                obtain ⟨hs1, hs2, hs3⟩ := Shelves.load_is_unique HS.out (HLD.out)
                subst hs1 hs2 hs3
                clear r2
                clear HL8
                go_wp2
                obtain ⟨y0, y1, y2, y3, y4, y5, y6⟩ := HY
                unfold set7 at y0 y1 y2 y3 y4 y5 y6
                exact bodyPost_ret (v := .tuple #[.agg zero7, .int .i64 0, .int .i64 4]) (by simp [results, Tryz.results120, go_sem, y0, y1, y2, y3, y4, y5, y6, zero7]) rfl hF.out
              · have HFU : Hid (∀ j (h : j < m.segs.length), j < k + 1 → j + 1 < m.segs.length → Scan.Full (textAt l m.segs[j])) := fun j h q1 q2 => by
                  by_cases e : j = k
                  · subst e
                    rw [← HN.out]
                    show Scan.segEnd _ = _
                    have := HEJ.out
                    have := HTL.out
                    omega
                  · exact HFULL.out j h (by omega) q2
                have HEK : Hid (endK l m.segs (k + 1) = E) := by
                  show Scan.segEnd (textAt l (m.segs.getD k 0)) = E
                  rw [HEJ.out, HN.out, List.getD_eq_getElem?_getD, List.getElem?_eq_getElem hlt]; rfl
                have hcase : ¬ (E : Int) < (t2.size : Int) ∨ ((E : Int) < (t2.size : Int) ∧ ¬ (k : Int) + 1 < (m.segs.length : Int)) := by omega
                clear hbad HFULL
                have HMORE : Hid (∀ W : World, Below wr.heap.size wr W → Calls Tryz.prog 185 #[.slice da (dirOf l [] (m.segs.take k)).length dc, .slice xa (Scan.itSpots n 0 items).length xc] W fun e w' => ∃ v, e = .returned v ∧ w'.ownsRow W.heap.size 134 4 v (dirOf l [] (m.segs.take (k + 1))).length (cellsSpot (dirOf l [] (m.segs.take (k + 1)))) ∧ Below W.heap.size W w') := fun W hbW => by
                  obtain ⟨_, g1, _, e1, A1⟩ := cellsSpot_slice (HL8.out.same hbW).own.dir
                  cases e1
                  obtain ⟨_, g2, _, e2, A2⟩ := cellsSpot_slice (own_kept HO8.out hbW)
                  cases e2
                  have hdl := Shelves.dirOf_len HOK.out (m.segs.take k) []
                  rw [List.length_take] at hdl
                  rw [Shelves.take_dir hlt, ← HN.out, ← HSP.out]
                  refine l08More_is (dirOf l [] (m.segs.take k)) (Scan.itSpots n 0 items) (by simp only [List.length_nil] at hdl; omega) W A1 A2 ?_
                  intro hda
                  rcases (HL8.out.same hbW).own.dir.2 with ⟨q1, _⟩ | ⟨g, cp, cur, q1, _⟩
                  · simp only [Value.slice.injEq] at q1; exact q1.2.2
                  · simp only [Value.slice.injEq] at q1; rw [q1.1] at hda; cases hda
                clear HO8
                rcases hcase with hcs | ⟨hcs, hcs2⟩
                · skip
                  have d50 := HL8.out.cdir
                  go_wp2_with fail
                  clear d50
                  refine Calls.mono (HMORE.out wr (Below.refl _ _)) ?_
                  rintro en w9 ⟨v9, rfl, ho9, hb9⟩
                  obtain ⟨na, nc, hv9⟩ := own_slice ho9
                  subst hv9
                  have HL9 : Hid (LD w (.slice a l.length cap) b7 b9 m (.slice (some ⟨sg, 0, none⟩) m.segs.length sc) (.slice ca m.conf.length cc) (.slice da (dirOf l [] (m.segs.take k)).length dc) (dirOf l [] (m.segs.take k)) (stOf l m.base (m.segs.take k)) w9) := HL8.out.same hb9
                  have ho9' := own_mono ho9 HL8.out.bel.size
                  have HL10 : Hid (LD w (.slice a l.length cap) b7 b9 m (.slice (some ⟨sg, 0, none⟩) m.segs.length sc) (.slice ca m.conf.length cc) (.slice na (dirOf l [] (m.segs.take (k + 1))).length nc) (dirOf l [] (m.segs.take (k + 1))) (stOf l m.base (m.segs.take k)) (w9.setCell ⟨b9, 5, none⟩ (.slice na (dirOf l [] (m.segs.take (k + 1))).length nc))) := HL9.out.more ho9'
                  have d5 := HL9.out.cdir
                  have f5 := frozen_of_row _ _ 5 _ _ HL9.out.sh
                  have d6 := HL10.out.cst
                  have f6 := frozen_of_row _ _ 6 _ _ HL10.out.sh
                  have HSK : Hid (stOf l m.base (m.segs.take (k + 1)) = if stOf l m.base (m.segs.take k) < ST then ST else stOf l m.base (m.segs.take k)) := by show _ = _; rw [Shelves.take_st hlt, ← HN.out, HST.out]
                  clear ho9 ho9' hb9 HL9 HL8 HMORE c1
                  obtain ⟨so, hso⟩ : ∃ so, so = stOf l m.base (m.segs.take k) := ⟨_, rfl⟩
                  rw [← hso] at HL10 HSK d6
                  clear hso
                  by_cases hst : so < ST
                  · have HL11 : Hid (LD w (.slice a l.length cap) b7 b9 m (.slice (some ⟨sg, 0, none⟩) m.segs.length sc) (.slice ca m.conf.length cc) (.slice na (dirOf l [] (m.segs.take (k + 1))).length nc) (dirOf l [] (m.segs.take (k + 1))) (stOf l m.base (m.segs.take (k + 1))) ((w9.setCell ⟨b9, 5, none⟩ (.slice na (dirOf l [] (m.segs.take (k + 1))).length nc)).setCell ⟨b9, 6, none⟩ (.int .i64 ST))) := by
                      show LD _ _ _ _ _ _ _ _ _ _ _
                      rw [HSK.out, if_pos hst]
                      exact HL10.out.stamp
                    clear HL10
                    go_wp2
                    go_roundw
                    case rel => exact ⟨k + 1, _, by omega, by go_num, by rw [HEK.out], HFU, HL11⟩
                    case measure => simp [intOf]; omega
                  · have HL11 : Hid (LD w (.slice a l.length cap) b7 b9 m (.slice (some ⟨sg, 0, none⟩) m.segs.length sc) (.slice ca m.conf.length cc) (.slice na (dirOf l [] (m.segs.take (k + 1))).length nc) (dirOf l [] (m.segs.take (k + 1))) (stOf l m.base (m.segs.take (k + 1))) (w9.setCell ⟨b9, 5, none⟩ (.slice na (dirOf l [] (m.segs.take (k + 1))).length nc))) := by
                      show LD _ _ _ _ _ _ _ _ _ _ _
                      rw [HSK.out, if_neg hst]
                      exact HL10.out
                    clear HL10
                    go_wp2
                    go_roundw
                    case rel => exact ⟨k + 1, _, by omega, by go_num, by rw [HEK.out], HFU, HL11⟩
                    case measure => simp [intOf]; omega
                · skip
                  have d50 := HL8.out.cdir
                  go_wp2_with fail
                  clear d50
                  refine Calls.mono (HMORE.out wr (Below.refl _ _)) ?_
                  rintro en w9 ⟨v9, rfl, ho9, hb9⟩
                  obtain ⟨na, nc, hv9⟩ := own_slice ho9
                  subst hv9
                  have HL9 : Hid (LD w (.slice a l.length cap) b7 b9 m (.slice (some ⟨sg, 0, none⟩) m.segs.length sc) (.slice ca m.conf.length cc) (.slice da (dirOf l [] (m.segs.take k)).length dc) (dirOf l [] (m.segs.take k)) (stOf l m.base (m.segs.take k)) w9) := HL8.out.same hb9
                  have ho9' := own_mono ho9 HL8.out.bel.size
                  have HL10 : Hid (LD w (.slice a l.length cap) b7 b9 m (.slice (some ⟨sg, 0, none⟩) m.segs.length sc) (.slice ca m.conf.length cc) (.slice na (dirOf l [] (m.segs.take (k + 1))).length nc) (dirOf l [] (m.segs.take (k + 1))) (stOf l m.base (m.segs.take k)) (w9.setCell ⟨b9, 5, none⟩ (.slice na (dirOf l [] (m.segs.take (k + 1))).length nc))) := HL9.out.more ho9'
                  have d5 := HL9.out.cdir
                  have f5 := frozen_of_row _ _ 5 _ _ HL9.out.sh
                  have d6 := HL10.out.cst
                  have f6 := frozen_of_row _ _ 6 _ _ HL10.out.sh
                  have HSK : Hid (stOf l m.base (m.segs.take (k + 1)) = if stOf l m.base (m.segs.take k) < ST then ST else stOf l m.base (m.segs.take k)) := by show _ = _; rw [Shelves.take_st hlt, ← HN.out, HST.out]
                  clear ho9 ho9' hb9 HL9 HL8 HMORE c1
                  obtain ⟨so, hso⟩ : ∃ so, so = stOf l m.base (m.segs.take k) := ⟨_, rfl⟩
                  rw [← hso] at HL10 HSK d6
                  clear hso
                  by_cases hst : so < ST
                  · have HL11 : Hid (LD w (.slice a l.length cap) b7 b9 m (.slice (some ⟨sg, 0, none⟩) m.segs.length sc) (.slice ca m.conf.length cc) (.slice na (dirOf l [] (m.segs.take (k + 1))).length nc) (dirOf l [] (m.segs.take (k + 1))) (stOf l m.base (m.segs.take (k + 1))) ((w9.setCell ⟨b9, 5, none⟩ (.slice na (dirOf l [] (m.segs.take (k + 1))).length nc)).setCell ⟨b9, 6, none⟩ (.int .i64 ST))) := by
                      show LD _ _ _ _ _ _ _ _ _ _ _
                      rw [HSK.out, if_pos hst]
                      exact HL10.out.stamp
                    clear HL10
                    go_wp2
                    go_roundw
                    case rel => exact ⟨k + 1, _, by omega, by go_num, by rw [HEK.out], HFU, HL11⟩
                    case measure => simp [intOf]; omega
                  · have HL11 : Hid (LD w (.slice a l.length cap) b7 b9 m (.slice (some ⟨sg, 0, none⟩) m.segs.length sc) (.slice ca m.conf.length cc) (.slice na (dirOf l [] (m.segs.take (k + 1))).length nc) (dirOf l [] (m.segs.take (k + 1))) (stOf l m.base (m.segs.take (k + 1))) (w9.setCell ⟨b9, 5, none⟩ (.slice na (dirOf l [] (m.segs.take (k + 1))).length nc))) := by
                      show LD _ _ _ _ _ _ _ _ _ _ _
                      rw [HSK.out, if_neg hst]
                      exact HL10.out
                    clear HL10
                    go_wp2
                    go_roundw
                    case rel => exact ⟨k + 1, _, by omega, by go_num, by rw [HEK.out], HFU, HL11⟩
                    case measure => simp [intOf]; omega
        · have hk1 : ¬ (k : Int) < (m.segs.length : Int) := by omega
          have hke : k = m.segs.length := by omega
          have HE : Hid (endK l m.segs k = Scan.segEnd (textAt l (lastOf m))) := by
            show _ = _
            have : k = (m.segs.length - 1) + 1 := by omega
            rw [this]
            show Scan.segEnd (textAt l (m.segs.getD (m.segs.length - 1) 0)) = _
            rw [List.getD_eq_getElem?_getD, List.getElem?_eq_getElem (by omega), Option.getD_some, Shelves.last_at (by omega) (by omega)]
          have HFL : Hid (∀ n ∈ m.segs.dropLast, Scan.Full (textAt l n)) := fun n hn => by
            obtain ⟨j, hj, e⟩ := Shelves.init_at hn
            rw [← e]; exact HFULL.out j (by omega) (by omega) hj
          have etk : m.segs.take k = m.segs := List.take_of_length_le (by omega)
          rw [etk] at HL
          have hdl := Shelves.dirOf_len HOK.out m.segs []
          simp only [List.length_nil] at hdl
          have HDK : Hid (∀ x ∈ dirOf l [] m.segs, smallSpot 2097152 x) := fun x hx => Nat.le_trans (Shelves.dirOf_key m.segs x hx) (by omega)
          obtain ⟨dir, hdir⟩ : ∃ dir, dir = dirOf l [] m.segs := ⟨_, rfl⟩
          have HDIR : Hid (dir = dirOf l [] m.segs) := hdir
          rw [← hdir] at HL hdl HDK
          obtain ⟨sto, hsto⟩ : ∃ sto, sto = stOf l m.base m.segs := ⟨_, rfl⟩
          have HSTO : Hid (sto = stOf l m.base m.segs) := hsto
          rw [← hsto] at HL
          obtain ⟨E, hE⟩ : ∃ E, E = endK l m.segs k := ⟨_, rfl⟩
          rw [← hE] at HE ⊢
          clear hdir hsto hE etk HFULL c0
          have d5 := HL.out.cdir
          go_wp2_with fail
          clear d5 c1
          obtain ⟨_, dg, _, eD, hAD⟩ := cellsSpot_slice HL.out.own.dir
          cases eD
          by_cases hdk : Dirs.ok dir
          · refine Calls.mono (specDirOk_any true dir (by omega) wr hAD HDK.out (iff_of_true rfl hdk)) ?_
            rintro en w9 ⟨rfl, hb9⟩
            have HLD : Hid (LoadIs l ⟨m, dir, sto⟩ E 0) := by
              have := Shelves.load_ok HOK.out HT.out HG.out HSG.out HFL.out (by rw [← HDIR.out]; exact hdk)
              rw [← HDIR.out, ← HSTO.out, ← HE.out] at this
              exact this
            have HL9 : Hid (LD w (.slice a l.length cap) b7 b9 m (.slice sa m.segs.length sc) (.slice ca m.conf.length cc) (.slice da dir.length dc) dir sto w9) := HL.out.same hb9
            clear hb9 HL hAD hdk
            obtain ⟨hs1, hs2, hs3⟩ := Shelves.load_is_unique HS.out HLD.out
            subst hs1 hs2 hs3
            obtain ⟨⟨c0, c1, c2, c3, c4, c5, c6⟩, f0, f1, f2, f3, f4, f5, f6⟩ := seven_cells (show w9.heap[w.heap.size + 1]? = some (.cells #[.slice none 0 0, .int .i64 0, .int .i64 0, .int .i64 0, .slice none 0 0, .slice none 0 0, .int .i64 0] 40 (0, 0)) from HL9.out.res)
            obtain ⟨⟨e0, e1, e2, e3, e4, e5, e6⟩, _⟩ := seven_cells (show w9.heap[b9]? = some (.cells #[.slice sa m.segs.length sc, .int .i64 m.next, .int .i64 m.base, .int .i64 m.term, .slice ca m.conf.length cc, .slice da dir.length dc, .int .i64 sto] 40 (0, 0)) from HL9.out.sh)
            have HY := res7 (show w9.heap[w.heap.size + 1]? = some (.cells #[.slice none 0 0, .int .i64 0, .int .i64 0, .int .i64 0, .slice none 0 0, .slice none 0 0, .int .i64 0] 40 (0, 0)) from HL9.out.res) (.slice sa m.segs.length sc) (.int .i64 m.next) (.int .i64 m.base) (.int .i64 m.term) (.slice ca m.conf.length cc) (.slice da dir.length dc) (.int .i64 sto)
            have HF : Hid (LoadPost w ⟨m, dir, sto⟩ e 0 (.returned (.tuple #[.agg #[.slice sa m.segs.length sc, .int .i64 m.next, .int .i64 m.base, .int .i64 m.term, .slice ca m.conf.length cc, .slice da dir.length dc, .int .i64 sto], .int .i64 (e : Int), .int .i64 0])) (set7 w9 (w.heap.size + 1) (.slice sa m.segs.length sc) (.int .i64 m.next) (.int .i64 m.base) (.int .i64 m.term) (.slice ca m.conf.length cc) (.slice da dir.length dc) (.int .i64 sto))) :=
              ⟨_, _, _, rfl, set7_sh HL9.out.own HL9.out.res (by decide) (by decide) _ _ _ _ _ _ _, set7_below HL9.out.bel (by omega) _ _ _ _ _ _ _⟩
            clear HL9
            go_wp2
            obtain ⟨y0, y1, y2, y3, y4, y5, y6⟩ := HY
            unfold set7 at y0 y1 y2 y3 y4 y5 y6
            exact bodyPost_ret (v := .tuple #[.agg #[.slice sa m.segs.length sc, .int .i64 m.next, .int .i64 m.base, .int .i64 m.term, .slice ca m.conf.length cc, .slice da dir.length dc, .int .i64 sto], .int .i64 (e : Int), .int .i64 0]) (by simp [results, Tryz.results120, go_sem, y0, y1, y2, y3, y4, y5, y6]) rfl HF.out
          · refine Calls.mono (specDirOk_any false dir (by omega) wr hAD HDK.out (iff_of_false (by decide) hdk)) ?_
            rintro en w9 ⟨rfl, hb9⟩
            have HLD : Hid (LoadIs l zeroS 0 4) := Shelves.load_4b HOK.out HT.out HG.out HSG.out HFL.out (by rw [← HDIR.out]; exact hdk)
            have HL9 : Hid (LD w (.slice a l.length cap) b7 b9 m (.slice sa m.segs.length sc) (.slice ca m.conf.length cc) (.slice da dir.length dc) dir sto w9) := HL.out.same hb9
            clear hb9 HL hAD hdk
            have r2 : w9.heap[w.heap.size + 1]? = some (.cells zero7 40 (0, 0)) := HL9.out.res
            obtain ⟨⟨c0, c1, c2, c3, c4, c5, c6⟩, f0, f1, f2, f3, f4, f5, f6⟩ := seven_cells (show w9.heap[w.heap.size + 1]? = some (.cells #[.slice none 0 0, .int .i64 0, .int .i64 0, .int .i64 0, .slice none 0 0, .slice none 0 0, .int .i64 0] 40 (0, 0)) from r2)
            have hF : Hid (LoadPost w zeroS 0 4 (.returned (.tuple #[.agg zero7, .int .i64 0, .int .i64 4])) (set7 w9 (w.heap.size + 1) (.slice none 0 0) (.int .i64 0) (.int .i64 0) (.int .i64 0) (.slice none 0 0) (.slice none 0 0) (.int .i64 0))) := load_fault r2 HL9.out.bel
            have HY := res7 (show w9.heap[w.heap.size + 1]? = some (.cells #[.slice none 0 0, .int .i64 0, .int .i64 0, .int .i64 0, .slice none 0 0, .slice none 0 0, .int .i64 0] 40 (0, 0)) from r2) (.slice none 0 0) (.int .i64 0) (.int .i64 0) (.int .i64 0) (.slice none 0 0) (.slice none 0 0) (.int .i64 0)
            obtain ⟨hs1, hs2, hs3⟩ := Shelves.load_is_unique HS.out (HLD.out)
            subst hs1 hs2 hs3
            clear r2
            clear HL9
            go_wp2
            obtain ⟨y0, y1, y2, y3, y4, y5, y6⟩ := HY
            unfold set7 at y0 y1 y2 y3 y4 y5 y6
            exact bodyPost_ret (v := .tuple #[.agg zero7, .int .i64 0, .int .i64 4]) (by simp [results, Tryz.results120, go_sem, y0, y1, y2, y3, y4, y5, y6, zero7]) rfl hF.out
end Go.Proofs.YtbcfiiilikkkeaaGreatDoor
