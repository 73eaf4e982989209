/- The call of the program's shelfOn, walked. -/
import Derived.Test.YtbcfiiilikkkeaaGreatDoorImplDir
import Derived.Test.YtbcfiiilikkkeaaGreatDoorMathFormat
namespace Go.Proofs.YtbcfiiilikkkeaaGreatDoor
open Go.RowKit
open Shelves (LoadIs zeroS nameM nameNew textAt dirOf stOf lastOf cleans segName OpenIs)
set_option linter.unusedVariables false

/-- An error with a code, or none. -/
def faultV (c : Int) : Value := if c = 0 then .nilIface else .iface 202 (.agg #[.int .i64 c])
def OnPost (w : World) (s : ShelfL) (rs : List Disks.RawL) (c : Int) (en : Ending) (w' : World) : Prop :=
  ∃ va vc vd rv, en = .returned (.tuple #[shV s va vc vd, rv, faultV c]) ∧ ShOwn w.heap.size s va vc vd w' ∧ Apart va vc ∧ w'.ownsRow w.heap.size 103 4 rv rs.length (cellsRaw rs) ∧ Below w.heap.size w w'
theorem on_fault {w W : World} {c : Int} (h2 : W.heap[w.heap.size + 1]? = some (.cells zero7 40 (0, 0))) (hb : Below w.heap.size w W) :
    OnPost w zeroS [] c (.returned (.tuple #[.agg zero7, .slice none 0 0, faultV c])) (set7 W (w.heap.size + 1) (.slice none 0 0) (.int .i64 0) (.int .i64 0) (.int .i64 0) (.slice none 0 0) (.slice none 0 0) (.int .i64 0)) :=
  ⟨.slice none 0 0, .slice none 0 0, .slice none 0 0, .slice none 0 0, rfl, ShOwn.zero _ _, apart_nil _, World.ownsRow_nil _ _ _ _, set7_below hb (by omega) _ _ _ _ _ _ _⟩
namespace Shelves
theorem open_err {l : List FileL} {c : Int} (h : LoadIs l zeroS 0 c) (hc : c ≠ 0) : OpenIs l zeroS [] c := by
  rcases h with ⟨_, h⟩ | ⟨h1, h2, _⟩
  · exact absurd h hc
  · exact Or.inr ⟨by unfold opens; rw [h1], h2, rfl, rfl⟩
theorem open_ok {l : List FileL} {s : ShelfL} {e : Nat} (h : LoadIs l s e 0) : OpenIs l s (cleans l s.man e) 0 := by
  rcases h with ⟨h, _⟩ | ⟨_, h, _⟩
  · exact Or.inl ⟨by unfold opens; rw [h], rfl⟩
  · exact absurd rfl h
theorem open_unique {l : List FileL} {s s' : ShelfL} {rs rs' : List Disks.RawL} {c c' : Int} (h : OpenIs l s rs c) (h' : OpenIs l s' rs' c') : s = s' ∧ rs = rs' ∧ c = c' := by
  rcases h with ⟨h1, h2⟩ | ⟨h1, h2, h3, h4⟩
  · rcases h' with ⟨g1, g2⟩ | ⟨g1, _⟩
    · rw [h1] at g1; simp only [Except.ok.injEq, Prod.mk.injEq] at g1; exact ⟨g1.1, g1.2, h2.trans g2.symm⟩
    · rw [h1] at g1; cases g1
  · rcases h' with ⟨g1, g2⟩ | ⟨g1, g2, g3, g4⟩
    · rw [h1] at g1; cases g1
    · rw [h1] at g1; simp only [Except.error.injEq] at g1; exact ⟨h3.trans g3.symm, h4.trans g4.symm, g1⟩
end Shelves
theorem set7_far {W : World} {Z b j : Nat} (h : b ≠ Z) (v0 v1 v2 v3 v4 v5 v6 : Value) (sp : Option Addr) (sq : sp = sp) : (set7 W Z v0 v1 v2 v3 v4 v5 v6).cell? ⟨b, j, none⟩ = W.cell? ⟨b, j, none⟩ := by
  have key : ∀ (W : World) (i : Nat) (v : Value), (W.setCell ⟨Z, i, none⟩ v).cell? ⟨b, j, none⟩ = W.cell? ⟨b, j, none⟩ := fun W i v => by
    unfold World.cell?
    simp only
    rw [Below.heap_setCell W ⟨Z, i, none⟩ v b (by simpa using h)]
  unfold set7
  rw [key, key, key, key, key, key, key]
/-- What shelfOn holds: the disk's variable, the result's, the manifest's. -/
structure ON (w : World) (D : Value) (b7 : Nat) (m : ManL) (va vc : Value) (W : World) : Prop where
  box : W.heap[w.heap.size]? = some (.cells #[D] 46 (0, 0))
  res : W.heap[w.heap.size + 1]? = some (.cells zero7 40 (0, 0))
  man : W.heap[b7]? = some (.cells #[va, .int .i64 m.next, .int .i64 m.base, .int .i64 m.term, vc] 37 (0, 0))
  segs : W.ownsRow w.heap.size 3 1 va m.segs.length (cellsI m.segs)
  conf : W.ownsRow w.heap.size 3 1 vc m.conf.length (cellsI m.conf)
  ap : Apart va vc
  bel : Below w.heap.size w W
theorem ON.same {w W W' : World} {D va vc : Value} {b7 : Nat} {m : ManL} (h : ON w D b7 m va vc W) (hb : Below W.heap.size W W') : ON w D b7 m va vc W' :=
  ⟨(hb.block _ (Array.getElem?_eq_some_iff.1 h.box).1).trans h.box, (hb.block _ (Array.getElem?_eq_some_iff.1 h.res).1).trans h.res, (hb.block _ (Array.getElem?_eq_some_iff.1 h.man).1).trans h.man, own_kept h.segs hb, own_kept h.conf hb, h.ap, h.bel.trans (hb.mono h.bel.size)⟩
theorem ON.cbox {w W : World} {D va vc : Value} {b7 : Nat} {m : ManL} (h : ON w D b7 m va vc W) : W.cell? ⟨w.heap.size, 0, none⟩ = some D := cell_of_row _ _ 0 _ _ _ h.box
theorem ON.cman {w W : World} {D va vc : Value} {b7 : Nat} {m : ManL} (h : ON w D b7 m va vc W) : W.cell? ⟨b7, 0, none⟩ = some va ∧ W.cell? ⟨b7, 1, none⟩ = some (.int .i64 m.next) ∧ W.cell? ⟨b7, 2, none⟩ = some (.int .i64 m.base) ∧ W.cell? ⟨b7, 3, none⟩ = some (.int .i64 m.term) ∧ W.cell? ⟨b7, 4, none⟩ = some vc :=
  ⟨cell_of_row _ _ 0 _ _ _ h.man, cell_of_row _ _ 1 _ _ _ h.man, cell_of_row _ _ 2 _ _ _ h.man, cell_of_row _ _ 3 _ _ _ h.man, cell_of_row _ _ 4 _ _ _ h.man⟩
set_option maxHeartbeats 8000000 in
set_option maxRecDepth 100000 in
theorem implOn_any {a : Option Addr} {g off cap : Nat} (l : List FileL) (hlen : l.length ≤ 1048576) (hsz : ∀ f ∈ l, f.1.size ≤ 1048576 ∧ f.2.size ≤ 1048576) (s : ShelfL) (rs : List Disks.RawL) (c : Int) (hS : OpenIs l s rs c) (w : World) (hf : FilesAt w a g off l) (hp : Pow w) :
    Calls Tryz.prog 98 #[.agg #[.slice a l.length cap]] w (OnPost w s rs c) := by
  have HS : Hid (OpenIs l s rs c) := hS
  have HSZ : Hid (∀ f ∈ l, f.1.size ≤ 1048576 ∧ f.2.size ≤ 1048576) := hsz
  have HF : Hid (FilesAt w a g off l) := hf
  have HP : Hid (Pow w) := hp
  clear hS hsz hf hp
  obtain ⟨W1, hW1⟩ : ∃ W1, W1 = (w.alloc (Obj.cells #[Value.slice a l.length cap] 46)).alloc (Obj.cells zero7 40) := ⟨_, rfl⟩
  have hb1 : Below w.heap.size w W1 := by rw [hW1]; exact ((Below.refl _ _).alloc (Nat.le_refl _) _).alloc (by simp) _
  have hz1 : W1.heap.size = w.heap.size + 2 := by rw [hW1]; simp
  have q1 : W1.heap[w.heap.size]? = some (.cells #[Value.slice a l.length cap] 46 (0, 0)) := by rw [hW1, Below.heap_alloc _ _ _ (by simp)]; exact heap_alloc_new w _
  have q2 : W1.heap[w.heap.size + 1]? = some (.cells zero7 40 (0, 0)) := by
    have := heap_alloc_new (w.alloc (Obj.cells #[Value.slice a l.length cap] 46)) (Obj.cells zero7 40)
    rw [show (w.alloc (Obj.cells #[Value.slice a l.length cap] 46)).heap.size = w.heap.size + 1 by simp] at this
    rw [hW1]; exact this
  have c1 : W1.cell? ⟨w.heap.size, 0, none⟩ = some (.slice a l.length cap) := cell_of_row _ _ 0 _ _ _ q1
  rw [hW1] at c1
  unfold zero7 at hW1 c1
  go_enter Tryz.func98, Tryz.ntmps98
  go_wp2_with fail
  rw [← hW1]
  clear hW1 c1
  by_cases hok : Disks.ok l
  case neg =>
    refine Calls.mono (filesOf_no l hlen HSZ.out hok W1 (HF.out.kept hb1)) ?_
    rintro en w2 ⟨rfl, hb2⟩
    have r2 : w2.heap[w.heap.size + 1]? = some (.cells zero7 40 (0, 0)) := (hb2.block _ (by omega)).trans q2
    obtain ⟨⟨c0, c1, c2, c3, c4, c5, c6⟩, f0, f1, f2, f3, f4, f5, f6⟩ := seven_cells (show w2.heap[w.heap.size + 1]? = some (.cells #[.slice none 0 0, .int .i64 0, .int .i64 0, .int .i64 0, .slice none 0 0, .slice none 0 0, .int .i64 0] 40 (0, 0)) from r2)
    have hF : Hid (OnPost w zeroS [] 1 (.returned (.tuple #[.agg zero7, .slice none 0 0, .iface 202 (.agg #[.int .i64 1])])) (set7 w2 (w.heap.size + 1) (.slice none 0 0) (.int .i64 0) (.int .i64 0) (.int .i64 0) (.slice none 0 0) (.slice none 0 0) (.int .i64 0))) := on_fault (c := 1) r2 (hb1.trans (hb2.mono hb1.size))
    have HY := res7 (show w2.heap[w.heap.size + 1]? = some (.cells #[.slice none 0 0, .int .i64 0, .int .i64 0, .int .i64 0, .slice none 0 0, .slice none 0 0, .int .i64 0] 40 (0, 0)) from r2) (.slice none 0 0) (.int .i64 0) (.int .i64 0) (.int .i64 0) (.slice none 0 0) (.slice none 0 0) (.int .i64 0)
    obtain ⟨hs1, hs2, hs3⟩ := Shelves.open_unique HS.out (Shelves.open_err (Shelves.load_no hok) (by decide))
    subst hs1 hs2 hs3
    clear r2
    go_wp2
    obtain ⟨y0, y1, y2, y3, y4, y5, y6⟩ := HY
    unfold set7 at y0 y1 y2 y3 y4 y5 y6
    exact bodyPost_ret (v := .tuple #[.agg zero7, .slice none 0 0, .iface 202 (.agg #[.int .i64 1])]) (by simp [results, Tryz.results98, go_sem, y0, y1, y2, y3, y4, y5, y6, zero7]) rfl hF.out
  have HOK : Hid (Disks.ok l) := hok
  clear hok
  refine Calls.mono (filesOf_yes l HOK.out W1 (HF.out.kept hb1)) ?_
  rintro en w2 ⟨tb, rfl, htb, hT2, hb2⟩
  have hbB : Below w.heap.size w w2 := hb1.trans (hb2.mono hb1.size)
  have p1 : w2.heap[w.heap.size]? = some (.cells #[Value.slice a l.length cap] 46 (0, 0)) := (hb2.block _ (by omega)).trans q1
  have p2 : w2.heap[w.heap.size + 1]? = some (.cells zero7 40 (0, 0)) := (hb2.block _ (by omega)).trans q2
  have hz2 : w.heap.size + 2 ≤ w2.heap.size := by have := hb2.size; omega
  have HT2 : Hid (Table w2 tb l) := hT2
  clear hb1 hb2 q1 q2 hz1 hT2 htb
  obtain ⟨t, ht⟩ : ∃ t, t = Disks.textOf l nameM := ⟨_, rfl⟩
  obtain ⟨A, hA⟩ : ∃ A, A = (Disks.look l nameM).1.1 := ⟨_, rfl⟩
  have hgt : (Instr.lookup 129 (.map (some tb)) (.string ⟨#[109]⟩) false).run Tryz.prog w2 = .ok (.agg #[.string A, .string t]) w2 := tab_get HT2.out (n := nameM) (A := A) (T := t) (B := (Disks.look l nameM).2) (by decide) (by rw [hA, ht, ← (Disks.look_file l nameM).1])
  have hfl := field68 A t
  have hts : t.size ≤ 1048576 := by
    rw [ht, Disks.textOf_at]
    cases q : Disks.fileAt l nameM with
    | none => decide
    | some t' => exact (HSZ.out (nameM, t') (Disks.at_mem q)).2
  have HTE : Hid (t = Disks.textOf l nameM) := ht
  clear ht hA
  obtain ⟨m, R, hAns⟩ := ans_ex t
  have HA : Hid (Ans t m R) := hAns
  clear hAns
  go_wp2_with fail
  clear hgt hfl
  refine Calls.mono (implRM_ans hts HA.out w2) ?_
  rintro en w4 ⟨va, vc, rfl, hsg, hcf, hap, hb4⟩
  obtain ⟨sa, sc, hva⟩ := own_slice hsg
  subst hva
  obtain ⟨ca, cc, hvc⟩ := own_slice hcf
  subst hvc
  obtain ⟨W5, hW5⟩ : ∃ W5, W5 = w4.alloc (Obj.cells #[.slice sa m.segs.length sc, .int .i64 m.next, .int .i64 m.base, .int .i64 m.term, .slice ca m.conf.length cc] 37) := ⟨_, rfl⟩
  obtain ⟨b7, hb7⟩ : ∃ b7, b7 = w4.heap.size := ⟨_, rfl⟩
  have HN5 : Hid (ON w (.slice a l.length cap) b7 m (.slice sa m.segs.length sc) (.slice ca m.conf.length cc) W5) := by
    have hb5 : Below w4.heap.size w4 W5 := by rw [hW5]; exact (Below.refl _ _).alloc (Nat.le_refl _) _
    have hk := hb4.trans (hb5.mono hb4.size)
    refine ⟨(hk.block _ (by omega)).trans p1, (hk.block _ (by omega)).trans p2, ?_, own_kept (own_mono hsg hbB.size) hb5, own_kept (own_mono hcf hbB.size) hb5, hap, hbB.trans (hk.mono hbB.size)⟩
    rw [hb7, hW5]; exact heap_alloc_new w4 _
  have HT5 : Hid (Table W5 tb l) := by
    have hb5 : Below w4.heap.size w4 W5 := by rw [hW5]; exact (Below.refl _ _).alloc (Nat.le_refl _) _
    exact (HT2.out.below hb4).below hb5
  clear hsg hcf hap hb4 hbB p1 p2 hz2 HT2
  cases R with
  | false =>
    have HLD : Hid (LoadIs l zeroS 0 2) := by
      rcases HA.out with ⟨_, h⟩ | ⟨h, _, _⟩
      · cases h
      · cases q : Disks.fileAt l nameM with
        | none => exact Shelves.load_2a HOK.out q
        | some t' =>
          have e1 : t = t' := by rw [HTE.out, Disks.textOf_at, q]; rfl
          exact Shelves.load_2b HOK.out q (by rw [← e1]; exact h)
    have r2 : W5.heap[w.heap.size + 1]? = some (.cells zero7 40 (0, 0)) := HN5.out.res
    obtain ⟨⟨c0, c1, c2, c3, c4, c5, c6⟩, f0, f1, f2, f3, f4, f5, f6⟩ := seven_cells (show W5.heap[w.heap.size + 1]? = some (.cells #[.slice none 0 0, .int .i64 0, .int .i64 0, .int .i64 0, .slice none 0 0, .slice none 0 0, .int .i64 0] 40 (0, 0)) from r2)
    have hF : Hid (OnPost w zeroS [] 2 (.returned (.tuple #[.agg zero7, .slice none 0 0, .iface 202 (.agg #[.int .i64 2])])) (set7 W5 (w.heap.size + 1) (.slice none 0 0) (.int .i64 0) (.int .i64 0) (.int .i64 0) (.slice none 0 0) (.slice none 0 0) (.int .i64 0))) := on_fault (c := 2) r2 HN5.out.bel
    have HY := res7 (show W5.heap[w.heap.size + 1]? = some (.cells #[.slice none 0 0, .int .i64 0, .int .i64 0, .int .i64 0, .slice none 0 0, .slice none 0 0, .int .i64 0] 40 (0, 0)) from r2) (.slice none 0 0) (.int .i64 0) (.int .i64 0) (.int .i64 0) (.slice none 0 0) (.slice none 0 0) (.int .i64 0)
    obtain ⟨hs1, hs2, hs3⟩ := Shelves.open_unique HS.out (Shelves.open_err (HLD.out) (by decide))
    subst hs1 hs2 hs3
    clear r2
    rw [hW5] at c0 c1 c2 c3 c4 c5 c6 f0 f1 f2 f3 f4 f5 f6 hF HY
    clear hW5 HN5 HT5
    go_wp2
    obtain ⟨y0, y1, y2, y3, y4, y5, y6⟩ := HY
    unfold set7 at y0 y1 y2 y3 y4 y5 y6
    exact bodyPost_ret (v := .tuple #[.agg zero7, .slice none 0 0, .iface 202 (.agg #[.int .i64 2])]) (by simp [results, Tryz.results98, go_sem, y0, y1, y2, y3, y4, y5, y6, zero7]) rfl hF.out
  | true =>
    have HG : Hid (Mans.Got t m) := by
      rcases HA.out with ⟨h, _⟩ | ⟨_, _, h⟩
      · exact h
      · cases h
    have HTM : Hid (Disks.fileAt l nameM = some t) := by
      cases q : Disks.fileAt l nameM with
      | none =>
        have e1 : t = ⟨#[]⟩ := by rw [HTE.out, Disks.textOf_at, q]; rfl
        exfalso
        have h := HG.out
        rw [e1] at h
        have h3 := congrArg List.length h.1
        rw [Shelves.sealed_len] at h3
        simp [Batches.by_] at h3
      | some t' =>
        have e1 : t = t' := by rw [HTE.out, Disks.textOf_at, q]; rfl
        show some t' = some t
        rw [e1]
    clear HA
    have hsl : 1 ≤ m.segs.length ∧ m.segs.length ≤ 8 := HG.out.2.1
    obtain ⟨m0, m1, m2, m3, m4⟩ := HN5.out.cman
    rw [hW5, hb7] at m0
    go_wp2_with fail
    rw [← hW5, ← hb7]
    clear hW5 hb7 m0 m1 m2 m3 m4
    obtain ⟨_, sg, _, eS, hAt⟩ := cellsI_slice HN5.out.segs
    cases eS
    refine Calls.mono (scansOf_is l HOK.out m.segs hsl.2 W5 HT5.out (HP.out.below HN5.out.bel) hAt) ?_
    rintro en w6 (⟨hall, v6, xs, rfl, hxs, hsc, hb6⟩ | ⟨⟨n, hn1, hn2⟩, rfl, hb6⟩)
    case inr =>
      have HLD : Hid (LoadIs l zeroS 0 3) := Shelves.load_3 HOK.out HTM.out HG.out hn1 hn2
      have HN6 : Hid (ON w (.slice a l.length cap) b7 m (.slice sa m.segs.length sc) (.slice ca m.conf.length cc) w6) := HN5.out.same hb6
      clear HN5 HT5 hb6 hAt hn1 hn2
      have r2 : w6.heap[w.heap.size + 1]? = some (.cells zero7 40 (0, 0)) := HN6.out.res
      obtain ⟨⟨c0, c1, c2, c3, c4, c5, c6⟩, f0, f1, f2, f3, f4, f5, f6⟩ := seven_cells (show w6.heap[w.heap.size + 1]? = some (.cells #[.slice none 0 0, .int .i64 0, .int .i64 0, .int .i64 0, .slice none 0 0, .slice none 0 0, .int .i64 0] 40 (0, 0)) from r2)
      have hF : Hid (OnPost w zeroS [] 3 (.returned (.tuple #[.agg zero7, .slice none 0 0, .iface 202 (.agg #[.int .i64 3])])) (set7 w6 (w.heap.size + 1) (.slice none 0 0) (.int .i64 0) (.int .i64 0) (.int .i64 0) (.slice none 0 0) (.slice none 0 0) (.int .i64 0))) := on_fault (c := 3) r2 HN6.out.bel
      have HY := res7 (show w6.heap[w.heap.size + 1]? = some (.cells #[.slice none 0 0, .int .i64 0, .int .i64 0, .int .i64 0, .slice none 0 0, .slice none 0 0, .int .i64 0] 40 (0, 0)) from r2) (.slice none 0 0) (.int .i64 0) (.int .i64 0) (.int .i64 0) (.slice none 0 0) (.slice none 0 0) (.int .i64 0)
      obtain ⟨hs1, hs2, hs3⟩ := Shelves.open_unique HS.out (Shelves.open_err (HLD.out) (by decide))
      subst hs1 hs2 hs3
      clear r2
      clear HN6
      go_wp2
      obtain ⟨y0, y1, y2, y3, y4, y5, y6⟩ := HY
      unfold set7 at y0 y1 y2 y3 y4 y5 y6
      exact bodyPost_ret (v := .tuple #[.agg zero7, .slice none 0 0, .iface 202 (.agg #[.int .i64 3])]) (by simp [results, Tryz.results98, go_sem, y0, y1, y2, y3, y4, y5, y6, zero7]) rfl hF.out
    have HALL : Hid (∀ n ∈ m.segs, (Disks.fileAt l (segName n)).isSome = true) := hall
    have HXS : Hid (xs.map (fun x => x.seg) = m.segs) := hxs
    have hxl : xs.length ≤ 8 ∧ 1 ≤ xs.length := by
      have := congrArg List.length hxs
      rw [List.length_map] at this
      omega
    obtain ⟨xa6, xc6, hv6⟩ := own_slice hsc.row
    subst hv6
    have HN6 : Hid (ON w (.slice a l.length cap) b7 m (.slice sa m.segs.length sc) (.slice ca m.conf.length cc) w6) := HN5.out.same hb6
    have HT6 : Hid (Table w6 tb l) := HT5.out.below hb6
    have HSC6 : Hid (Scans w.heap.size l xs (.slice xa6 xs.length xc6) w6) := hsc.mono HN5.out.bel.size
    clear hall hxs hsc hb6 HN5 HT5 hAt
    go_wp2_with fail
    refine Calls.mono (dirOf_is l HOK.out xs hxl.1 m.segs HXS.out w6 HT6.out (HP.out.below HN6.out.bel) HSC6.out) ?_
    rintro en w8 (⟨⟨hfu, hdk⟩, v8, rfl, ho8, hb8⟩ | ⟨hbad, rfl, hb8⟩)
    case inr =>
      have HLD : Hid (LoadIs l zeroS 0 4) := by
        rcases hbad with ⟨n, h1, h2⟩ | ⟨h1, h2⟩
        · exact Shelves.load_4a HOK.out HTM.out HG.out HALL.out h1 h2
        · exact Shelves.load_4b HOK.out HTM.out HG.out HALL.out h1 h2
      have HN8 : Hid (ON w (.slice a l.length cap) b7 m (.slice sa m.segs.length sc) (.slice ca m.conf.length cc) w8) := HN6.out.same hb8
      clear HN6 HT6 hb8 hbad HSC6
      have r2 : w8.heap[w.heap.size + 1]? = some (.cells zero7 40 (0, 0)) := HN8.out.res
      obtain ⟨⟨c0, c1, c2, c3, c4, c5, c6⟩, f0, f1, f2, f3, f4, f5, f6⟩ := seven_cells (show w8.heap[w.heap.size + 1]? = some (.cells #[.slice none 0 0, .int .i64 0, .int .i64 0, .int .i64 0, .slice none 0 0, .slice none 0 0, .int .i64 0] 40 (0, 0)) from r2)
      have hF : Hid (OnPost w zeroS [] 4 (.returned (.tuple #[.agg zero7, .slice none 0 0, .iface 202 (.agg #[.int .i64 4])])) (set7 w8 (w.heap.size + 1) (.slice none 0 0) (.int .i64 0) (.int .i64 0) (.int .i64 0) (.slice none 0 0) (.slice none 0 0) (.int .i64 0))) := on_fault (c := 4) r2 HN8.out.bel
      have HY := res7 (show w8.heap[w.heap.size + 1]? = some (.cells #[.slice none 0 0, .int .i64 0, .int .i64 0, .int .i64 0, .slice none 0 0, .slice none 0 0, .int .i64 0] 40 (0, 0)) from r2) (.slice none 0 0) (.int .i64 0) (.int .i64 0) (.int .i64 0) (.slice none 0 0) (.slice none 0 0) (.int .i64 0)
      obtain ⟨hs1, hs2, hs3⟩ := Shelves.open_unique HS.out (Shelves.open_err (HLD.out) (by decide))
      subst hs1 hs2 hs3
      clear r2
      clear HN8
      go_wp2
      obtain ⟨y0, y1, y2, y3, y4, y5, y6⟩ := HY
      unfold set7 at y0 y1 y2 y3 y4 y5 y6
      exact bodyPost_ret (v := .tuple #[.agg zero7, .slice none 0 0, .iface 202 (.agg #[.int .i64 4])]) (by simp [results, Tryz.results98, go_sem, y0, y1, y2, y3, y4, y5, y6, zero7]) rfl hF.out
    have HFUL : Hid (∀ n ∈ m.segs.dropLast, Scan.Full (textAt l n)) := hfu
    have HDK : Hid (Dirs.ok (dirOf l [] m.segs)) := hdk
    have HN8 : Hid (ON w (.slice a l.length cap) b7 m (.slice sa m.segs.length sc) (.slice ca m.conf.length cc) w8) := HN6.out.same hb8
    have HT8 : Hid (Table w8 tb l) := HT6.out.below hb8
    have HSC8 : Hid (Scans w.heap.size l xs (.slice xa6 xs.length xc6) w8) := HSC6.out.kept hb8
    obtain ⟨dir, hdir⟩ : ∃ dir, dir = dirOf l [] m.segs := ⟨_, rfl⟩
    have HDIR : Hid (dir = dirOf l [] m.segs) := hdir
    have ho8 := own_mono ho8 HN6.out.bel.size
    rw [← hdir] at ho8
    obtain ⟨da, dc, hv8⟩ := own_slice ho8
    subst hv8
    have HD8 : Hid (w8.ownsRow w.heap.size 134 4 (.slice da dir.length dc) dir.length (cellsSpot dir)) := ho8
    clear hfu hdk hdir ho8 hb8 HN6 HT6 HSC6
    obtain ⟨st, hst⟩ : ∃ st, st = stOf l m.base m.segs := ⟨_, rfl⟩
    have HST : Hid (st = stOf l m.base m.segs) := hst
    have HSTC : Hid (∀ W : World, Below w8.heap.size w8 W → Calls Tryz.prog 163 #[.int .i64 m.base, .slice xa6 xs.length xc6] W fun en w' => en = .returned (.int .i64 st) ∧ Below W.heap.size W w') := fun W hW => stampOf_is l xs hxl.1 m.base W (HSC8.out.kept hW) st (by rw [hst, HXS.out])
    clear hst
    obtain ⟨m0, m1, m2, m3, m4⟩ := HN8.out.cman
    go_wp2_with fail
    go_cut [12] (fun p wx => ∃ b12 : Nat, p = .pointer (some ⟨b12, 0, none⟩) ∧ Hid (wx.heap[b12]? = some (.cells #[.slice sa m.segs.length sc, .int .i64 m.next, .int .i64 m.base, .int .i64 m.term, .slice ca m.conf.length cc, .slice da dir.length dc, .int .i64 st] 40 (0, 0))) ∧ Hid (Below w8.heap.size w8 wx))
    case first =>
      have hlt7 : b7 < w8.heap.size := World.block_lt_of_cell? w8 _ m0
      have HK : Hid (∀ w', Below w8.heap.size w8 w' → w'.cell? ⟨b7, 0, none⟩ = some (.slice sa m.segs.length sc) ∧ w'.cell? ⟨b7, 1, none⟩ = some (.int .i64 m.next) ∧ w'.cell? ⟨b7, 2, none⟩ = some (.int .i64 m.base) ∧ w'.cell? ⟨b7, 3, none⟩ = some (.int .i64 m.term) ∧ w'.cell? ⟨b7, 4, none⟩ = some (.slice ca m.conf.length cc)) := fun w' h => (HN8.out.same h).cman
      have HBZ : Hid (∀ (o : Obj) wP, Below (w8.drew.alloc o).heap.size (w8.drew.alloc o) wP → Below w8.heap.size w8 wP) := fun o wP h => ((Below.refl w8.heap.size w8).drew.alloc (Nat.le_refl _) o).trans (h.mono (by simp))
      have hne7 : b7 ≠ w8.heap.size := by omega
      have hne7' : w8.heap.size ≠ b7 := by omega
      have HKS : Hid (∀ wQ : World, wQ.cell? ⟨b7, 0, none⟩ = some (.slice sa m.segs.length sc) → wQ.cell? ⟨b7, 1, none⟩ = some (.int .i64 m.next) → wQ.cell? ⟨b7, 2, none⟩ = some (.int .i64 m.base) → wQ.cell? ⟨b7, 3, none⟩ = some (.int .i64 m.term) → wQ.cell? ⟨b7, 4, none⟩ = some (.slice ca m.conf.length cc) → (set7 wQ w8.heap.size (.slice sa m.segs.length sc) (.int .i64 m.next) (.int .i64 m.base) (.int .i64 m.term) (.slice ca m.conf.length cc) (.slice da dir.length dc) (.int .i64 st)).cell? ⟨b7, 0, none⟩ = some (.slice sa m.segs.length sc) ∧ (set7 wQ w8.heap.size (.slice sa m.segs.length sc) (.int .i64 m.next) (.int .i64 m.base) (.int .i64 m.term) (.slice ca m.conf.length cc) (.slice da dir.length dc) (.int .i64 st)).cell? ⟨b7, 1, none⟩ = some (.int .i64 m.next) ∧ (set7 wQ w8.heap.size (.slice sa m.segs.length sc) (.int .i64 m.next) (.int .i64 m.base) (.int .i64 m.term) (.slice ca m.conf.length cc) (.slice da dir.length dc) (.int .i64 st)).cell? ⟨b7, 2, none⟩ = some (.int .i64 m.base) ∧ (set7 wQ w8.heap.size (.slice sa m.segs.length sc) (.int .i64 m.next) (.int .i64 m.base) (.int .i64 m.term) (.slice ca m.conf.length cc) (.slice da dir.length dc) (.int .i64 st)).cell? ⟨b7, 3, none⟩ = some (.int .i64 m.term) ∧ (set7 wQ w8.heap.size (.slice sa m.segs.length sc) (.int .i64 m.next) (.int .i64 m.base) (.int .i64 m.term) (.slice ca m.conf.length cc) (.slice da dir.length dc) (.int .i64 st)).cell? ⟨b7, 4, none⟩ = some (.slice ca m.conf.length cc)) := fun wQ h0 h1 h2 h3 h4 => ⟨(set7_far hne7 _ _ _ _ _ _ _ none rfl).trans h0, (set7_far hne7 _ _ _ _ _ _ _ none rfl).trans h1, (set7_far hne7 _ _ _ _ _ _ _ none rfl).trans h2, (set7_far hne7 _ _ _ _ _ _ _ none rfl).trans h3, (set7_far hne7 _ _ _ _ _ _ _ none rfl).trans h4⟩
      have HZZ : Hid (∀ wP, Below (w8.drew.alloc (Obj.cells #[.slice none 0 0, .int .i64 0, .int .i64 0, .int .i64 0, .slice none 0 0, .slice none 0 0, .int .i64 0] 40)).heap.size (w8.drew.alloc (Obj.cells #[.slice none 0 0, .int .i64 0, .int .i64 0, .int .i64 0, .slice none 0 0, .slice none 0 0, .int .i64 0] 40)) wP → wP.heap[w8.heap.size]? = some (.cells #[.slice none 0 0, .int .i64 0, .int .i64 0, .int .i64 0, .slice none 0 0, .slice none 0 0, .int .i64 0] 40 (0, 0))) := fun wP h => (h.block w8.heap.size (by simp)).trans (heap_alloc_new w8.drew _)
      go_region_held3 (fun w' => w'.cell? ⟨b7, 0, none⟩ = some (.slice sa m.segs.length sc) ∧ w'.cell? ⟨b7, 1, none⟩ = some (.int .i64 m.next) ∧ w'.cell? ⟨b7, 2, none⟩ = some (.int .i64 m.base) ∧ w'.cell? ⟨b7, 3, none⟩ = some (.int .i64 m.term) ∧ w'.cell? ⟨b7, 4, none⟩ = some (.slice ca m.conf.length cc))
        (first | go_keep | exact HK.out _ (below_undrew hbP) | exact HK.out _ ((below_undrew hbP).alloc (below_undrew hbP).size _) | exact ⟨k0, k1, k2, k3, k4⟩ | exact HKS.out wQ k0 k1 k2 k3 k4)
        (first | (go_at_call 163; refine Calls.mono (HSTC.out _ (Below.refl _ _).drew) ?_; rintro en wP ⟨rfl, hbP⟩) | (go_at_call 163; refine Calls.mono (HSTC.out _ ((Below.refl _ _).drew.alloc (Nat.le_refl _) _)) ?_; rintro en wQ ⟨rfl, hbQ⟩; have rQ := HZZ.out _ hbQ; obtain ⟨⟨z0, z1, z2, z3, z4, z5, z6⟩, g0, g1, g2, g3, g4, g5, g6⟩ := seven_cells rQ; obtain ⟨k0, k1, k2, k3, k4⟩ := HK.out _ (HBZ.out _ _ hbQ)))
      all_goals
        go_wp2_with fail
        go_meet
        case rel => first | exact ⟨_, rfl, heap_alloc_new wP _, (below_undrew hbP).alloc (below_undrew hbP).size _⟩ | exact ⟨_, rfl, seven_set rQ _ _ _ _ _ _ _, set7_below (HBZ.out _ _ hbQ) (Nat.le_refl _) _ _ _ _ _ _ _⟩
    case rest =>
      obtain ⟨b12, rfl, HSH, HB12⟩ := hcut
      have HN12 : Hid (ON w (.slice a l.length cap) b7 m (.slice sa m.segs.length sc) (.slice ca m.conf.length cc) wc) := HN8.out.same HB12.out
      have HT12 : Hid (Table wc tb l) := HT8.out.below HB12.out
      have HSC12 : Hid (Scans w.heap.size l xs (.slice xa6 xs.length xc6) wc) := HSC8.out.kept HB12.out
      have HD12 : Hid (wc.ownsRow w.heap.size 134 4 (.slice da dir.length dc) dir.length (cellsSpot dir)) := own_kept HD8.out HB12.out
      clear HN8 HT8 HSC8 HD8 HB12 m0 m1 m2 m3 m4 HSTC
      obtain ⟨k1, hk1⟩ : ∃ k1, k1 = xs.length - 1 := ⟨_, rfl⟩
      have hk1a : k1 < xs.length := by omega
      have HK1 : Hid (k1 + 1 = xs.length) := by show _ = _; omega
      have hkw : IntKind.i64.wrap ((xs.length : Int) - 1) = (k1 : Int) := by rw [IntWalk.i64_in _ (by omega)]; omega
      have hk1b : (0 : Int) ≤ (k1 : Int) := by omega
      have hk1c : (k1 : Int) < (xs.length : Int) := by omega
      clear hk1
      obtain ⟨g6, eg6, x0, x1, x2, x3, x4⟩ := HSC12.out.at (k := k1) hk1a
      subst eg6
      obtain ⟨X, hX⟩ : ∃ X, X = xs[k1]'hk1a := ⟨_, rfl⟩
      have HXL : Hid (X.seg = lastOf m) := by
        show _ = _
        have hm : xs.length = m.segs.length := by have := congrArg List.length HXS.out; rw [List.length_map] at this; exact this
        have h1 : (xs.map (fun x => x.seg))[k1]'(by rw [List.length_map]; omega) = X.seg := by rw [List.getElem_map, hX]
        rw [← h1]
        have h2 := Shelves.last_at (m := m) (k := k1) (by omega) (by have := HK1.out; omega)
        rw [← h2]
        congr 1
      rw [← hX] at x0 x1 x2 x3 x4
      clear hX
      obtain ⟨n, ya, yc, ta, tn, tc⟩ := X
      simp only at x0 x1 x2 x3 x4 HXL
      have HXL : Hid (n = lastOf m) := HXL
      obtain ⟨yn, hyn⟩ : ∃ yn, yn = (Scan.segSpots n (textAt l n)).length := ⟨_, rfl⟩
      obtain ⟨E, hE⟩ : ∃ E, E = Scan.segEnd (textAt l n) := ⟨_, rfl⟩
      obtain ⟨Q, hQ⟩ : ∃ Q, Q = Scan.segStamp (textAt l n) := ⟨_, rfl⟩
      have HLE : Hid (E ≤ (textAt l n).length) := by show _ ≤ _; rw [hE]; exact Scan.segEnd_le _
      have HOPN : Hid (OpenIs l ⟨m, dir, st⟩ (cleans l m E) 0) := by
        have h := Shelves.open_ok (Shelves.load_ok HOK.out HTM.out HG.out HALL.out HFUL.out HDK.out)
        rw [← HDIR.out, ← HST.out, ← HXL.out, ← hE] at h
        exact h
      rw [← hyn] at x1
      rw [← hQ] at x3
      rw [← hE] at x4
      clear hyn hE hQ
      obtain ⟨hs1, hs2, hs3⟩ := Shelves.open_unique HS.out HOPN.out
      subst hs1 hs3
      have HRS : Hid (rs = cleans l m E) := hs2
      clear hs2 HS HOPN
      obtain ⟨_, sg, _, eS, hAt⟩ := cellsI_slice HN12.out.segs
      cases eS
      have ea := hAt.1 (by omega)
      subst ea
      have HCLN : Hid (∀ W : World, Below wc.heap.size wc W → Calls Tryz.prog 164 #[.map (some tb), .agg #[.slice a l.length cap], .slice (some ⟨sg, 0, none⟩) m.segs.length sc, .agg #[.int .i64 n, .slice ya yn yc, .slice ta tn tc, .int .i64 Q, .int .i64 (E : Int)]] W fun en w' => ∃ v, en = .returned v ∧ w'.ownsRow W.heap.size 103 4 v rs.length (cellsRaw rs) ∧ Below W.heap.size W w') := fun W hW =>
        cleaning_is l HOK.out m hsl n HXL.out Q E HLE.out W ((HF.out.kept HN12.out.bel).kept hW) (HT12.out.below hW) ((HP.out.below HN12.out.bel).below hW) (hAt.kept hW) rs HRS.out
      clear hAt
      have c0 := HN12.out.cbox
      obtain ⟨m0, _, _, _, _⟩ := HN12.out.cman
      obtain ⟨⟨e0, e1, e2, e3, e4, e5, e6⟩, _⟩ := seven_cells HSH.out
      obtain ⟨⟨r0, r1, r2, r3, r4, r5, r6⟩, f0, f1, f2, f3, f4, f5, f6⟩ := seven_cells (show wc.heap[w.heap.size + 1]? = some (.cells #[.slice none 0 0, .int .i64 0, .int .i64 0, .int .i64 0, .slice none 0 0, .slice none 0 0, .int .i64 0] 40 (0, 0)) from HN12.out.res)
      go_wp2_with fail
      have HK : Hid (∀ w', Below wc.heap.size wc w' → w'.cell? ⟨w.heap.size, 0, none⟩ = some (.slice a l.length cap) ∧ w'.cell? ⟨b12, 0, none⟩ = some (.slice (some ⟨sg, 0, none⟩) m.segs.length sc) ∧ w'.cell? ⟨b12, 1, none⟩ = some (.int .i64 m.next) ∧ w'.cell? ⟨b12, 2, none⟩ = some (.int .i64 m.base) ∧ w'.cell? ⟨b12, 3, none⟩ = some (.int .i64 m.term) ∧ w'.cell? ⟨b12, 4, none⟩ = some (.slice ca m.conf.length cc) ∧ w'.cell? ⟨b12, 5, none⟩ = some (.slice da dir.length dc) ∧ w'.cell? ⟨b12, 6, none⟩ = some (.int .i64 st) ∧ w'.cell? ⟨b7, 0, none⟩ = some (.slice (some ⟨sg, 0, none⟩) m.segs.length sc) ∧ w'.cell? ⟨g6, k1 * 5, none⟩ = some (.int .i64 n) ∧ w'.cell? ⟨g6, k1 * 5 + 1, none⟩ = some (.slice ya yn yc) ∧ w'.cell? ⟨g6, k1 * 5 + 2, none⟩ = some (.slice ta tn tc) ∧ w'.cell? ⟨g6, k1 * 5 + 3, none⟩ = some (.int .i64 Q) ∧ w'.cell? ⟨g6, k1 * 5 + 4, none⟩ = some (.int .i64 (E : Int))) := fun w' h => ⟨(h.cell (p := ⟨w.heap.size, 0, none⟩) (World.block_lt_of_cell? wc _ c0)).trans c0, (h.cell (p := ⟨b12, 0, none⟩) (World.block_lt_of_cell? wc _ e0)).trans e0, (h.cell (p := ⟨b12, 1, none⟩) (World.block_lt_of_cell? wc _ e1)).trans e1, (h.cell (p := ⟨b12, 2, none⟩) (World.block_lt_of_cell? wc _ e2)).trans e2, (h.cell (p := ⟨b12, 3, none⟩) (World.block_lt_of_cell? wc _ e3)).trans e3, (h.cell (p := ⟨b12, 4, none⟩) (World.block_lt_of_cell? wc _ e4)).trans e4, (h.cell (p := ⟨b12, 5, none⟩) (World.block_lt_of_cell? wc _ e5)).trans e5, (h.cell (p := ⟨b12, 6, none⟩) (World.block_lt_of_cell? wc _ e6)).trans e6, (h.cell (p := ⟨b7, 0, none⟩) (World.block_lt_of_cell? wc _ m0)).trans m0, (h.cell (p := ⟨g6, k1 * 5, none⟩) (World.block_lt_of_cell? wc _ x0)).trans x0, (h.cell (p := ⟨g6, k1 * 5 + 1, none⟩) (World.block_lt_of_cell? wc _ x1)).trans x1, (h.cell (p := ⟨g6, k1 * 5 + 2, none⟩) (World.block_lt_of_cell? wc _ x2)).trans x2, (h.cell (p := ⟨g6, k1 * 5 + 3, none⟩) (World.block_lt_of_cell? wc _ x3)).trans x3, (h.cell (p := ⟨g6, k1 * 5 + 4, none⟩) (World.block_lt_of_cell? wc _ x4)).trans x4⟩
      have hn1 : w.heap.size ≠ w.heap.size + 1 := by omega
      have hn2 : b12 ≠ w.heap.size + 1 := fun q => by
        have := HSH.out
        rw [q, HN12.out.res] at this
        simp [zero7] at this
      have hn3 : b7 ≠ w.heap.size + 1 := fun q => by
        have := HN12.out.man
        rw [q, HN12.out.res] at this
        simp at this
      have hn4 : g6 ≠ w.heap.size + 1 := fun q => own_not HSC12.out.row HN12.out.res (by decide) (by simp [Value.ownBlock, q])
      have hn2' : w.heap.size + 1 ≠ b12 := fun q => hn2 q.symm
      have hn3' : w.heap.size + 1 ≠ b7 := fun q => hn3 q.symm
      have hn4' : w.heap.size + 1 ≠ g6 := fun q => hn4 q.symm
      have hn1' : w.heap.size + 1 ≠ w.heap.size := by omega
      have HKS : Hid (∀ wQ : World, (wQ.cell? ⟨w.heap.size, 0, none⟩ = some (.slice a l.length cap) ∧ wQ.cell? ⟨b12, 0, none⟩ = some (.slice (some ⟨sg, 0, none⟩) m.segs.length sc) ∧ wQ.cell? ⟨b12, 1, none⟩ = some (.int .i64 m.next) ∧ wQ.cell? ⟨b12, 2, none⟩ = some (.int .i64 m.base) ∧ wQ.cell? ⟨b12, 3, none⟩ = some (.int .i64 m.term) ∧ wQ.cell? ⟨b12, 4, none⟩ = some (.slice ca m.conf.length cc) ∧ wQ.cell? ⟨b12, 5, none⟩ = some (.slice da dir.length dc) ∧ wQ.cell? ⟨b12, 6, none⟩ = some (.int .i64 st) ∧ wQ.cell? ⟨b7, 0, none⟩ = some (.slice (some ⟨sg, 0, none⟩) m.segs.length sc) ∧ wQ.cell? ⟨g6, k1 * 5, none⟩ = some (.int .i64 n) ∧ wQ.cell? ⟨g6, k1 * 5 + 1, none⟩ = some (.slice ya yn yc) ∧ wQ.cell? ⟨g6, k1 * 5 + 2, none⟩ = some (.slice ta tn tc) ∧ wQ.cell? ⟨g6, k1 * 5 + 3, none⟩ = some (.int .i64 Q) ∧ wQ.cell? ⟨g6, k1 * 5 + 4, none⟩ = some (.int .i64 (E : Int))) → (set7 wQ (w.heap.size + 1) (.slice (some ⟨sg, 0, none⟩) m.segs.length sc) (.int .i64 m.next) (.int .i64 m.base) (.int .i64 m.term) (.slice ca m.conf.length cc) (.slice da dir.length dc) (.int .i64 st)).cell? ⟨w.heap.size, 0, none⟩ = some (.slice a l.length cap) ∧ (set7 wQ (w.heap.size + 1) (.slice (some ⟨sg, 0, none⟩) m.segs.length sc) (.int .i64 m.next) (.int .i64 m.base) (.int .i64 m.term) (.slice ca m.conf.length cc) (.slice da dir.length dc) (.int .i64 st)).cell? ⟨b12, 0, none⟩ = some (.slice (some ⟨sg, 0, none⟩) m.segs.length sc) ∧ (set7 wQ (w.heap.size + 1) (.slice (some ⟨sg, 0, none⟩) m.segs.length sc) (.int .i64 m.next) (.int .i64 m.base) (.int .i64 m.term) (.slice ca m.conf.length cc) (.slice da dir.length dc) (.int .i64 st)).cell? ⟨b12, 1, none⟩ = some (.int .i64 m.next) ∧ (set7 wQ (w.heap.size + 1) (.slice (some ⟨sg, 0, none⟩) m.segs.length sc) (.int .i64 m.next) (.int .i64 m.base) (.int .i64 m.term) (.slice ca m.conf.length cc) (.slice da dir.length dc) (.int .i64 st)).cell? ⟨b12, 2, none⟩ = some (.int .i64 m.base) ∧ (set7 wQ (w.heap.size + 1) (.slice (some ⟨sg, 0, none⟩) m.segs.length sc) (.int .i64 m.next) (.int .i64 m.base) (.int .i64 m.term) (.slice ca m.conf.length cc) (.slice da dir.length dc) (.int .i64 st)).cell? ⟨b12, 3, none⟩ = some (.int .i64 m.term) ∧ (set7 wQ (w.heap.size + 1) (.slice (some ⟨sg, 0, none⟩) m.segs.length sc) (.int .i64 m.next) (.int .i64 m.base) (.int .i64 m.term) (.slice ca m.conf.length cc) (.slice da dir.length dc) (.int .i64 st)).cell? ⟨b12, 4, none⟩ = some (.slice ca m.conf.length cc) ∧ (set7 wQ (w.heap.size + 1) (.slice (some ⟨sg, 0, none⟩) m.segs.length sc) (.int .i64 m.next) (.int .i64 m.base) (.int .i64 m.term) (.slice ca m.conf.length cc) (.slice da dir.length dc) (.int .i64 st)).cell? ⟨b12, 5, none⟩ = some (.slice da dir.length dc) ∧ (set7 wQ (w.heap.size + 1) (.slice (some ⟨sg, 0, none⟩) m.segs.length sc) (.int .i64 m.next) (.int .i64 m.base) (.int .i64 m.term) (.slice ca m.conf.length cc) (.slice da dir.length dc) (.int .i64 st)).cell? ⟨b12, 6, none⟩ = some (.int .i64 st) ∧ (set7 wQ (w.heap.size + 1) (.slice (some ⟨sg, 0, none⟩) m.segs.length sc) (.int .i64 m.next) (.int .i64 m.base) (.int .i64 m.term) (.slice ca m.conf.length cc) (.slice da dir.length dc) (.int .i64 st)).cell? ⟨b7, 0, none⟩ = some (.slice (some ⟨sg, 0, none⟩) m.segs.length sc) ∧ (set7 wQ (w.heap.size + 1) (.slice (some ⟨sg, 0, none⟩) m.segs.length sc) (.int .i64 m.next) (.int .i64 m.base) (.int .i64 m.term) (.slice ca m.conf.length cc) (.slice da dir.length dc) (.int .i64 st)).cell? ⟨g6, k1 * 5, none⟩ = some (.int .i64 n) ∧ (set7 wQ (w.heap.size + 1) (.slice (some ⟨sg, 0, none⟩) m.segs.length sc) (.int .i64 m.next) (.int .i64 m.base) (.int .i64 m.term) (.slice ca m.conf.length cc) (.slice da dir.length dc) (.int .i64 st)).cell? ⟨g6, k1 * 5 + 1, none⟩ = some (.slice ya yn yc) ∧ (set7 wQ (w.heap.size + 1) (.slice (some ⟨sg, 0, none⟩) m.segs.length sc) (.int .i64 m.next) (.int .i64 m.base) (.int .i64 m.term) (.slice ca m.conf.length cc) (.slice da dir.length dc) (.int .i64 st)).cell? ⟨g6, k1 * 5 + 2, none⟩ = some (.slice ta tn tc) ∧ (set7 wQ (w.heap.size + 1) (.slice (some ⟨sg, 0, none⟩) m.segs.length sc) (.int .i64 m.next) (.int .i64 m.base) (.int .i64 m.term) (.slice ca m.conf.length cc) (.slice da dir.length dc) (.int .i64 st)).cell? ⟨g6, k1 * 5 + 3, none⟩ = some (.int .i64 Q) ∧ (set7 wQ (w.heap.size + 1) (.slice (some ⟨sg, 0, none⟩) m.segs.length sc) (.int .i64 m.next) (.int .i64 m.base) (.int .i64 m.term) (.slice ca m.conf.length cc) (.slice da dir.length dc) (.int .i64 st)).cell? ⟨g6, k1 * 5 + 4, none⟩ = some (.int .i64 (E : Int))) := fun wQ ⟨h0, h1, h2, h3, h4, h5, h6, h7, h8, h9, h10, h11, h12, h13⟩ => ⟨(set7_far hn1 _ _ _ _ _ _ _ none rfl).trans h0, (set7_far hn2 _ _ _ _ _ _ _ none rfl).trans h1, (set7_far hn2 _ _ _ _ _ _ _ none rfl).trans h2, (set7_far hn2 _ _ _ _ _ _ _ none rfl).trans h3, (set7_far hn2 _ _ _ _ _ _ _ none rfl).trans h4, (set7_far hn2 _ _ _ _ _ _ _ none rfl).trans h5, (set7_far hn2 _ _ _ _ _ _ _ none rfl).trans h6, (set7_far hn2 _ _ _ _ _ _ _ none rfl).trans h7, (set7_far hn3 _ _ _ _ _ _ _ none rfl).trans h8, (set7_far hn4 _ _ _ _ _ _ _ none rfl).trans h9, (set7_far hn4 _ _ _ _ _ _ _ none rfl).trans h10, (set7_far hn4 _ _ _ _ _ _ _ none rfl).trans h11, (set7_far hn4 _ _ _ _ _ _ _ none rfl).trans h12, (set7_far hn4 _ _ _ _ _ _ _ none rfl).trans h13⟩
      have HRQ : Hid (∀ wQ, Below wc.heap.size wc wQ → wQ.heap[w.heap.size + 1]? = some (.cells #[.slice none 0 0, .int .i64 0, .int .i64 0, .int .i64 0, .slice none 0 0, .slice none 0 0, .int .i64 0] 40 (0, 0))) := fun wQ h => (h.block _ (Array.getElem?_eq_some_iff.1 HN12.out.res).1).trans HN12.out.res
      go_region_held3 (fun w' => w'.cell? ⟨w.heap.size, 0, none⟩ = some (.slice a l.length cap) ∧ w'.cell? ⟨b12, 0, none⟩ = some (.slice (some ⟨sg, 0, none⟩) m.segs.length sc) ∧ w'.cell? ⟨b12, 1, none⟩ = some (.int .i64 m.next) ∧ w'.cell? ⟨b12, 2, none⟩ = some (.int .i64 m.base) ∧ w'.cell? ⟨b12, 3, none⟩ = some (.int .i64 m.term) ∧ w'.cell? ⟨b12, 4, none⟩ = some (.slice ca m.conf.length cc) ∧ w'.cell? ⟨b12, 5, none⟩ = some (.slice da dir.length dc) ∧ w'.cell? ⟨b12, 6, none⟩ = some (.int .i64 st) ∧ w'.cell? ⟨b7, 0, none⟩ = some (.slice (some ⟨sg, 0, none⟩) m.segs.length sc) ∧ w'.cell? ⟨g6, k1 * 5, none⟩ = some (.int .i64 n) ∧ w'.cell? ⟨g6, k1 * 5 + 1, none⟩ = some (.slice ya yn yc) ∧ w'.cell? ⟨g6, k1 * 5 + 2, none⟩ = some (.slice ta tn tc) ∧ w'.cell? ⟨g6, k1 * 5 + 3, none⟩ = some (.int .i64 Q) ∧ w'.cell? ⟨g6, k1 * 5 + 4, none⟩ = some (.int .i64 (E : Int)))
        (first | go_keep | exact HK.out _ (below_undrew hbP) | ((repeat' (refine And.intro ?_ ?_)) <;> (first | go_keep | (refine (set7_far (W := wP) (Z := w.heap.size + 1) ?_ _ _ _ _ _ _ _ none rfl).trans ?_ <;> assumption) | (refine (set7_far (W := wP) (Z := w.heap.size + 1) (Nat.ne_of_lt (Nat.lt_succ_self _)) _ _ _ _ _ _ _ none rfl).trans ?_; assumption))))
        (first | (go_at_call 164; refine Calls.mono (HCLN.out _ (Below.refl _ _).drew) ?_; rintro en wP ⟨v9, rfl, ho9, hbP⟩; have rQ := HRQ.out _ (below_undrew hbP); obtain ⟨⟨z0, z1, z2, z3, z4, z5, z6⟩, y0, y1, y2, y3, y4, y5, y6⟩ := seven_cells rQ; obtain ⟨k0, k2, k3, k4, k5, k6, k7, k8, k9, k10, k11, k12, k13, k14⟩ := HK.out _ (below_undrew hbP)))
      all_goals
        have hB := below_undrew hbP
        have HY := res7 rQ (.slice (some ⟨sg, 0, none⟩) m.segs.length sc) (.int .i64 m.next) (.int .i64 m.base) (.int .i64 m.term) (.slice ca m.conf.length cc) (.slice da dir.length dc) (.int .i64 st)
        have HFin : Hid (OnPost w ⟨m, dir, st⟩ rs 0 (.returned (.tuple #[.agg #[.slice (some ⟨sg, 0, none⟩) m.segs.length sc, .int .i64 m.next, .int .i64 m.base, .int .i64 m.term, .slice ca m.conf.length cc, .slice da dir.length dc, .int .i64 st], v9, .nilIface])) (set7 wP (w.heap.size + 1) (.slice (some ⟨sg, 0, none⟩) m.segs.length sc) (.int .i64 m.next) (.int .i64 m.base) (.int .i64 m.term) (.slice ca m.conf.length cc) (.slice da dir.length dc) (.int .i64 st))) :=
          ⟨.slice (some ⟨sg, 0, none⟩) m.segs.length sc, .slice ca m.conf.length cc, .slice da dir.length dc, v9, rfl, set7_sh ⟨own_kept HN12.out.segs hB, own_kept HN12.out.conf hB, own_kept HD12.out hB⟩ rQ (by decide) (by decide) _ _ _ _ _ _ _, HN12.out.ap, set7_own (own_mono ho9 HN12.out.bel.size) rQ (by decide) _ _ _ _ _ _ _, set7_below (HN12.out.bel.trans (hB.mono HN12.out.bel.size)) (by omega) _ _ _ _ _ _ _⟩
        clear rQ hB z0 z1 z2 z3 z4 z5 z6 y0 y1 y2 y3 y4 y5 y6 k0 k2 k3 k4 k5 k6 k7 k8 k9 k10 k11 k12 k13 k14
        go_wp2
        obtain ⟨y0, y1, y2, y3, y4, y5, y6⟩ := HY
        unfold set7 at y0 y1 y2 y3 y4 y5 y6
        exact bodyPost_ret (v := .tuple #[.agg #[.slice (some ⟨sg, 0, none⟩) m.segs.length sc, .int .i64 m.next, .int .i64 m.base, .int .i64 m.term, .slice ca m.conf.length cc, .slice da dir.length dc, .int .i64 st], v9, .nilIface]) (by simp [results, Tryz.results98, go_sem, y0, y1, y2, y3, y4, y5, y6]) rfl HFin.out
end Go.Proofs.YtbcfiiilikkkeaaGreatDoor
