/- The calls of the program's hasMore, scansOf, stampOf, walked. -/
import Derived.Test.YtbcfiiilikkkeaaGreatDoorSh
import Derived.Test.YtbcfiiilikkkeaaGreatDoorImplSegs
import Derived.Test.YtbcfiiilikkkeaaGreatDoorMathComes2
import Derived.Test.YtbcfiiilikkkeaaGreatDoorSpecLoad
namespace Go.Proofs.YtbcfiiilikkkeaaGreatDoor
open Go.RowKit
open Shelves (textAt segName dirOf stOf lastOf)
set_option linter.unusedVariables false

/-- A scan as a value: its segment, the rows of its spots and its texts. -/
structure ScV where
  seg : Int
  xa : Option Addr
  xc : Nat
  ta : Option Addr
  tn : Nat
  tc : Nat
def cellSc (l : List FileL) (x : ScV) : List Value := [.int .i64 x.seg, .slice x.xa (Scan.segSpots x.seg (textAt l x.seg)).length x.xc, .slice x.ta x.tn x.tc, .int .i64 (Scan.segStamp (textAt l x.seg)), .int .i64 ((Scan.segEnd (textAt l x.seg) : Nat) : Int)]
def cellsSc (l : List FileL) (xs : List ScV) : List Value := xs.flatMap (cellSc l)
theorem cellsSc_app (l : List FileL) (xs ys : List ScV) : cellsSc l (xs ++ ys) = cellsSc l xs ++ cellsSc l ys := by simp [cellsSc]
theorem cellsSc_at (l : List FileL) : ∀ (xs : List ScV) (j : Nat) (hj : j < xs.length), (cellsSc l xs)[j * 5]? = some (.int .i64 xs[j].seg) ∧ (cellsSc l xs)[j * 5 + 1]? = some (.slice xs[j].xa (Scan.segSpots xs[j].seg (textAt l xs[j].seg)).length xs[j].xc) ∧ (cellsSc l xs)[j * 5 + 2]? = some (.slice xs[j].ta xs[j].tn xs[j].tc) ∧ (cellsSc l xs)[j * 5 + 3]? = some (.int .i64 (Scan.segStamp (textAt l xs[j].seg))) ∧ (cellsSc l xs)[j * 5 + 4]? = some (.int .i64 ((Scan.segEnd (textAt l xs[j].seg) : Nat) : Int))
  | [], j, hj => absurd hj (Nat.not_lt_zero _)
  | x :: xs, 0, _ => ⟨rfl, rfl, rfl, rfl, rfl⟩
  | x :: xs, j + 1, hj => by
    have ih := cellsSc_at l xs j (by simpa using hj)
    have e : cellsSc l (x :: xs) = cellSc l x ++ cellsSc l xs := rfl
    have hl : (cellSc l x).length = 5 := rfl
    have q : ∀ i, (cellsSc l (x :: xs))[(j + 1) * 5 + i]? = (cellsSc l xs)[j * 5 + i]? := fun i => by
      rw [e, List.getElem?_append_right (by omega), hl]
      congr 1
      omega
    have q0 := q 0
    simp only [Nat.add_zero] at q0
    rw [q0, q 1, q 2, q 3, q 4]
    exact ih
structure Scans (b : Nat) (l : List FileL) (xs : List ScV) (v : Value) (W : World) : Prop where
  row : W.ownsRow b 213 5 v xs.length (cellsSc l xs)
  spots : ∀ x ∈ xs, W.ownsRow b 134 4 (.slice x.xa (Scan.segSpots x.seg (textAt l x.seg)).length x.xc) (Scan.segSpots x.seg (textAt l x.seg)).length (cellsSpot (Scan.segSpots x.seg (textAt l x.seg)))
theorem Scans.kept {b : Nat} {l : List FileL} {xs : List ScV} {v : Value} {W W' : World} (h : Scans b l xs v W) (hb : Below W.heap.size W W') : Scans b l xs v W' := ⟨own_kept h.row hb, fun x hx => own_kept (h.spots x hx) hb⟩
theorem Scans.mono {b b' : Nat} {l : List FileL} {xs : List ScV} {v : Value} {W : World} (h : Scans b l xs v W) (hb : b' ≤ b) : Scans b' l xs v W := ⟨own_mono h.row hb, fun x hx => own_mono (h.spots x hx) hb⟩
theorem Scans.at {b : Nat} {l : List FileL} {xs : List ScV} {a : Option Addr} {c : Nat} {W : World} (h : Scans b l xs (.slice a xs.length c) W) {k : Nat} (hk : k < xs.length) : ∃ g, a = some ⟨g, 0, none⟩ ∧ W.cell? ⟨g, k * 5, none⟩ = some (.int .i64 xs[k].seg) ∧ W.cell? ⟨g, k * 5 + 1, none⟩ = some (.slice xs[k].xa (Scan.segSpots xs[k].seg (textAt l xs[k].seg)).length xs[k].xc) ∧ W.cell? ⟨g, k * 5 + 2, none⟩ = some (.slice xs[k].ta xs[k].tn xs[k].tc) ∧ W.cell? ⟨g, k * 5 + 3, none⟩ = some (.int .i64 (Scan.segStamp (textAt l xs[k].seg))) ∧ W.cell? ⟨g, k * 5 + 4, none⟩ = some (.int .i64 ((Scan.segEnd (textAt l xs[k].seg) : Nat) : Int)) := by
  rcases h.row.2 with ⟨h1, h2⟩ | ⟨g, cap, cur, h1, _⟩
  · omega
  · simp only [Value.slice.injEq] at h1
    obtain ⟨rfl, _, rfl⟩ := h1
    obtain ⟨q0, q1, q2, q3, q4⟩ := cellsSc_at l xs k hk
    have hc := fun i hi => h.row.cellAt (k * 5 + i) (by omega)
    refine ⟨g, rfl, ?_, ?_, ?_, ?_, ?_⟩
    · have := h.row.cellAt (k * 5) (by omega); rw [this]; exact q0
    · have := h.row.cellAt (k * 5 + 1) (by omega); rw [this]; exact q1
    · have := h.row.cellAt (k * 5 + 2) (by omega); rw [this]; exact q2
    · have := h.row.cellAt (k * 5 + 3) (by omega); rw [this]; exact q3
    · have := h.row.cellAt (k * 5 + 4) (by omega); rw [this]; exact q4
set_option maxHeartbeats 1000000 in
set_option maxRecDepth 100000 in
theorem hasMore_is (l : List FileL) (hok : Disks.ok l) {tb : Nat} (n : Int) (xa ta : Option Addr) (xn xc tn tc : Nat) (st : Int) (e : Nat) (w : World) (hT : Table w tb l) (hp : Pow w) (B : Bool) (hB : B = decide (e < (Disks.textOf l (segName n)).size)) :
    Calls Tryz.prog 206 #[.map (some tb), .agg #[.int .i64 n, .slice xa xn xc, .slice ta tn tc, .int .i64 st, .int .i64 (e : Int)]] w fun en w' => en = .returned (.bool B) ∧ Below w.heap.size w w' := by
  obtain ⟨W1, hW1⟩ : ∃ W1, W1 = w.alloc (Obj.cells #[.int .i64 n, .slice xa xn xc, .slice ta tn tc, .int .i64 st, .int .i64 (e : Int)] 213) := ⟨_, rfl⟩
  have hb1 : Below w.heap.size w W1 := by rw [hW1]; exact (Below.refl _ _).alloc (Nat.le_refl _) _
  have r1 : W1.heap[w.heap.size]? = some (.cells #[.int .i64 n, .slice xa xn xc, .slice ta tn tc, .int .i64 st, .int .i64 (e : Int)] 213 (0, 0)) := by rw [hW1]; exact heap_alloc_new w _
  have c0 : W1.cell? ⟨w.heap.size, 0, none⟩ = some (.int .i64 n) := cell_of_row _ _ 0 _ _ _ r1
  have c4 : W1.cell? ⟨w.heap.size, 4, none⟩ = some (.int .i64 (e : Int)) := cell_of_row _ _ 4 _ _ _ r1
  obtain ⟨A, hA⟩ : ∃ A, A = (Disks.look l (segName n)).1.1 := ⟨_, rfl⟩
  obtain ⟨T, hTe⟩ : ∃ T, T = Disks.textOf l (segName n) := ⟨_, rfl⟩
  have hlk : Disks.look l (segName n) = ((A, T), (Disks.look l (segName n)).2) := by rw [hA, hTe, ← (Disks.look_file l (segName n)).1]
  have HG : Hid (∀ y : Abv W1, (Instr.lookup 129 (.map (some tb)) (.string (segName n)) false).run Tryz.prog y.w = .ok (.agg #[.string A, .string T]) y.w) := fun y => tab_get ((hT.below hb1).below y.b) (Nat.le_trans (seg_size n) (by unfold maxLen; omega)) hlk
  have HP : Hid (∀ y : Abv W1, Pow y.w) := fun y => (hp.below hb1).below y.b
  rw [← hTe] at hB
  have hTs : T.size ≤ 1048576 := by
    have := Shelves.text_le hok n
    unfold textAt at this
    rw [Scan.by_len, ← hTe] at this
    omega
  clear hlk hA hTe hT hp r1
  go_enter Tryz.func206, Tryz.ntmps206
  go_wp2_with fail
  rw [← hW1]
  clear hW1
  have hfl := field68 A T
  have NE := Abv.ne W1
  have F0 := fun y : Abv W1 => y.cell c0
  have F4 := fun y : Abv W1 => y.cell c4
  have FG := HG.out
  refine wp_region_above (by kernel_rfl) (by kernel_rfl) ?_
  repeat (go_big_quiet_step (first | (go_at_call 118; exact calls_above (implSeg_any n _ (HP.out _)))))
  refine wpQuiet_nil ?_
  rintro w6 ⟨⟨_, hb6⟩, rfl⟩
  go_wp2
  go_ret
  exact ⟨by rw [hB]; rfl, hb1.trans (hb6.mono hb1.size)⟩
theorem cellSc_one (l : List FileL) (x : ScV) : ∀ u ∈ cellsSc l [x], u.oneCell' = true := by
  intro u hu
  simp [cellsSc, cellSc] at hu
  rcases hu with rfl | rfl | rfl | rfl | rfl <;> rfl
theorem Tryz.info213 : (Tryz.prog.info? 213).map (fun i => (i.zero, i.size, i.bytes)) = some (some (.agg #[.int .i64 0, .slice none 0 0, .slice none 0 0, .int .i64 0, .int .i64 0]), 5, 72) := by kernel_rfl
structure SS2 (w : World) (l : List FileL) (xs : List ScV) (v : Value) (W : World) : Prop where
  sc : Scans w.heap.size l xs v W
  bel : Below w.heap.size w W
theorem SS2.same {w W W' : World} {l : List FileL} {xs : List ScV} {v : Value} (h : SS2 w l xs v W) (hb : Below W.heap.size W W') : SS2 w l xs v W' := ⟨h.sc.kept hb, h.bel.trans (hb.mono h.bel.size)⟩
theorem SS2.alloc {w W : World} {l : List FileL} {xs : List ScV} {v : Value} (h : SS2 w l xs v W) (o : Obj) : SS2 w l xs v (W.alloc o) := h.same ((Below.refl _ _).alloc (Nat.le_refl _) _)
theorem SS2.app {w W W' : World} {l : List FileL} {xs : List ScV} {v v' : Value} (h : SS2 w l xs v W) {x : ScV} (hx : W.ownsRow w.heap.size 134 4 (.slice x.xa (Scan.segSpots x.seg (textAt l x.seg)).length x.xc) (Scan.segSpots x.seg (textAt l x.seg)).length (cellsSpot (Scan.segSpots x.seg (textAt l x.seg))))
    (hg : W.grownBy W' v.ownBlock) (hown : W'.ownsRow w.heap.size 213 5 v' (xs.length + 1) (cellsSc l xs ++ cellsSc l [x])) : SS2 w l (xs ++ [x]) v' W' := by
  refine ⟨⟨?_, fun y hy => ?_⟩, h.bel.grown hg h.bel.size (fun k e => (h.sc.row.lt k e).1)⟩
  · rw [cellsSc_app, List.length_append]; exact hown
  · rcases List.mem_append.1 hy with hy | hy
    · exact own_other (h.sc.spots y hy) h.sc.row (by decide) hg
    · rw [List.mem_singleton.1 hy]; exact own_other hx h.sc.row (by decide) hg
def ScansPost (w : World) (l : List FileL) (segs : List Int) (en : Ending) (w' : World) : Prop :=
  ((∀ n ∈ segs, (Disks.fileAt l (segName n)).isSome = true) ∧ ∃ v xs, en = .returned (.tuple #[v, .nilIface]) ∧ xs.map (fun x => x.seg) = segs ∧ Scans w.heap.size l xs v w' ∧ Below w.heap.size w w') ∨
  ((∃ n ∈ segs, Disks.fileAt l (segName n) = none) ∧ en = .returned (.tuple #[.slice none 0 0, .iface 202 (.agg #[.int .i64 3])]) ∧ Below w.heap.size w w')
set_option maxHeartbeats 4000000 in
set_option maxRecDepth 100000 in
theorem scansOf_is {a : Option Addr} {g off cap tb : Nat} (l : List FileL) (hok : Disks.ok l) (segs : List Int) (hn : segs.length ≤ 8) (w : World) (hT : Table w tb l) (hp : Pow w) (hA : IntAt w a g off segs) :
    Calls Tryz.prog 161 #[.map (some tb), .slice a segs.length cap] w (ScansPost w l segs) := by
  obtain ⟨i0, hi, hz0, hz1, hz2⟩ := info_parts Tryz.info213
  have HOK : Hid (Disks.ok l) := hok
  have HT : Hid (Table w tb l) := hT
  have HP : Hid (Pow w) := hp
  have HA : Hid (IntAt w a g off segs) := hA
  clear hok hT hp hA
  go_enter Tryz.func161, Tryz.ntmps161
  go_wp2_with (at_make; refine wpList_make_own _ rfl _ _ 205 rfl w.heap.size 213 i0 (.agg #[.int .i64 0, .slice none 0 0, .slice none 0 0, .int .i64 0, .int .i64 0]) 5 Tryz.underlying205 hi hz0 hz1 _ _ _ segs.length rfl rfl rfl (by rw [hz2]; omega) (by unfold maxLen; omega) (Nat.le_refl _) ?_; intro w1 hrow1 hg1)
  have HS1 : Hid (SS2 w l [] (.slice (some ⟨w.heap.size, 0, none⟩) 0 segs.length) w1) := ⟨⟨hrow1, fun x hx => (List.not_mem_nil hx).elim⟩, (Below.refl _ _).grown hg1 (Nat.le_refl _) (fun k e => by cases e)⟩
  clear hrow1 hg1
  go_loopw [6, 16] (fun v i wr => ∃ (k : Nat) (xs : List ScV), k ≤ segs.length ∧ i = .int .i64 (k : Int) ∧ Hid (xs.map (fun x => x.seg) = segs.take k) ∧ Hid (∀ j (h : j < segs.length), j < k → (Disks.fileAt l (segName segs[j])).isSome = true) ∧ Hid (SS2 w l xs v wr))
    (fun _ i _ => segs.length - (intOf i).toNat)
  case atStart => exact ⟨0, [], Nat.zero_le _, rfl, rfl, fun j _ q => absurd q (Nat.not_lt_zero _), HS1⟩
  case round =>
    clear HS1
    obtain ⟨k, xs, hk, rfl, HXS, HSOME, HS⟩ := hrel
    have hxl : xs.length ≤ 8 := by
      have := congrArg List.length HXS.out
      rw [List.length_map, List.length_take] at this
      omega
    obtain ⟨va, vc, hv⟩ := own_slice HS.out.sc.row
    subst hv
    by_cases hlt : k < segs.length
    · have ea := HA.out.1 (by omega)
      subst ea
      have c0 := (HA.out.kept HS.out.bel).2 k hlt
      obtain ⟨n, hnn⟩ : ∃ n, n = segs[k] := ⟨_, rfl⟩
      have HN : Hid (n = segs[k]) := hnn
      rw [← hnn] at c0
      clear hnn
      obtain ⟨A, hA⟩ : ∃ A, A = (Disks.look l (segName n)).1.1 := ⟨_, rfl⟩
      obtain ⟨T, hTe⟩ : ∃ T, T = Disks.textOf l (segName n) := ⟨_, rfl⟩
      obtain ⟨B, hB⟩ : ∃ B, B = (Disks.fileAt l (segName n)).isSome := ⟨_, rfl⟩
      have HLK : Hid (Disks.look l (segName n) = ((A, T), B)) := by
        show _ = _
        rw [hA, hTe, hB, ← (Disks.look_file l (segName n)).1, ← (Disks.look_file l (segName n)).2]
      have HTA : Hid (textAt l n = Batches.by_ T) := by show _ = _; rw [hTe]; rfl
      have HBB : Hid (B = (Disks.fileAt l (segName n)).isSome) := hB
      have ht20 : T.size ≤ 20000 := by have := Shelves.text_le HOK.out n; rw [HTA.out, Scan.by_len] at this; exact this
      have hnm := seg_size n
      clear hA hTe hB
      have hk0 : (0 : Int) ≤ (k : Int) := by omega
      have hk1 : (k : Int) < (segs.length : Int) := by omega
      go_wp2_with fail
      clear c0
      refine Calls.mono (implSeg_any n wr (HP.out.below HS.out.bel)) ?_
      rintro en w2 ⟨rfl, hb2⟩
      have HS2 : Hid (SS2 w l xs (.slice va xs.length vc) w2) := HS.out.same hb2
      have HT2 : Hid (Table w2 tb l) := HT.out.below HS2.out.bel
      clear hb2 HS
      cases B with
      | false =>
        have HPOST : Hid (∀ o : Obj, ScansPost w l segs (.returned (.tuple #[.slice none 0 0, .iface 202 (.agg #[.int .i64 3])])) (w2.alloc o)) := fun o => Or.inr ⟨⟨segs[k], List.getElem_mem _, by
          rw [← HN.out]
          cases q : Disks.fileAt l (segName n) with
          | none => rfl
          | some t => have := HBB.out; rw [q] at this; cases this⟩, rfl, (HS2.out.alloc o).bel⟩
        go_wp2_with (first | (at_lookup; refine wpList_look_tab _ rfl _ _ rfl tb l (segName n) (by unfold maxLen; omega) HT2.out _ _ _ HLK.out (by rfl) (by rfl) ?_) | fail)
        exact bodyPost_ret (v := .tuple #[.slice none 0 0, .iface 202 (.agg #[.int .i64 3])]) (by simp [results, Tryz.results161, go_sem]) rfl (HPOST.out _)
      | true =>
        obtain ⟨W3, hW3⟩ : ∃ W3, W3 = w2.alloc (Obj.cells #[.string A, .string T] 164) := ⟨_, rfl⟩
        have HS3 : Hid (SS2 w l xs (.slice va xs.length vc) W3) := by rw [hW3]; exact HS2.out.alloc _
        have HRD : Hid (Scan.Reads (unS T) (Scan.its (textAt l n))) := by show Scan.Reads _ _; rw [HTA.out]; exact unS_reads ht20
        go_wp2_with (first | (at_lookup; refine wpList_look_tab _ rfl _ _ rfl tb l (segName n) (by unfold maxLen; omega) HT2.out _ _ _ HLK.out (by rfl) (by rfl) ?_) | fail)
        rw [← hW3]
        clear hW3 HS2 HT2
        refine Calls.mono (scanOf_is T (by unfold maxLen; omega) n _ HRD.out W3) ?_
        rintro en w4 ⟨v1, v2, rfl, ho1, ho2, hb4⟩
        obtain ⟨xa, xc, hv1⟩ := own_slice ho1
        subst hv1
        obtain ⟨ta, tc, hv2⟩ := own_slice ho2
        subst hv2
        have HS4 : Hid (SS2 w l xs (.slice va xs.length vc) w4) := HS3.out.same hb4
        have HO1 : Hid (w4.ownsRow w.heap.size 134 4 (.slice xa (Scan.segSpots n (textAt l n)).length xc) (Scan.segSpots n (textAt l n)).length (cellsSpot (Scan.segSpots n (textAt l n)))) := own_mono ho1 HS3.out.bel.size
        clear ho1 ho2 hb4 HS3
        obtain ⟨X, hX⟩ : ∃ X : ScV, X = ⟨n, xa, xc, ta, (Scan.its (textAt l n)).length, tc⟩ := ⟨_, rfl⟩
        have hnew : ∀ j u, (cellsSc l [X])[j]? = some u → (w4.alloc (Obj.cells #[.int .i64 n, .slice xa (Scan.itSpots n 0 (Scan.its (textAt l n))).length xc, .slice ta (Scan.its (textAt l n)).length tc, .int .i64 (Scan.itStamp (-1) (Scan.its (textAt l n))), .int .i64 ((Scan.itEnd 0 (Scan.its (textAt l n)) : Nat) : Int)] 213)).cell? ((⟨w4.heap.size, 0, none⟩ : Addr).add j) = some u := fun j u hu => by
          have hr := heap_alloc_new w4 (Obj.cells #[.int .i64 n, .slice xa (Scan.itSpots n 0 (Scan.its (textAt l n))).length xc, .slice ta (Scan.its (textAt l n)).length tc, .int .i64 (Scan.itStamp (-1) (Scan.its (textAt l n))), .int .i64 ((Scan.itEnd 0 (Scan.its (textAt l n)) : Nat) : Int)] 213)
          rw [Addr.add_lit, Nat.zero_add, cell_of_row _ _ j _ _ _ hr, ← hu, hX, ← Array.getElem?_toList]
          rfl
        have hrow := (HS4.out.alloc (Obj.cells #[.int .i64 n, .slice xa (Scan.itSpots n 0 (Scan.its (textAt l n))).length xc, .slice ta (Scan.its (textAt l n)).length tc, .int .i64 (Scan.itStamp (-1) (Scan.its (textAt l n))), .int .i64 ((Scan.itEnd 0 (Scan.its (textAt l n)) : Nat) : Int)] 213)).sc.row
        have hbz := (HS4.out.alloc (Obj.cells #[.int .i64 n, .slice xa (Scan.itSpots n 0 (Scan.its (textAt l n))).length xc, .slice ta (Scan.its (textAt l n)).length tc, .int .i64 (Scan.itStamp (-1) (Scan.its (textAt l n))), .int .i64 ((Scan.itEnd 0 (Scan.its (textAt l n)) : Nat) : Int)] 213)).bel.size
        have HXe : Hid (X = ⟨n, xa, xc, ta, (Scan.its (textAt l n)).length, tc⟩) := hX
        clear hX
        go_wp2_with (at_builtin; refine wpList_append_own _ rfl _ _ 205 rfl w.heap.size 213 i0 (.agg #[.int .i64 0, .slice none 0 0, .slice none 0 0, .int .i64 0, .int .i64 0]) 5 72 Tryz.underlying205 hi hz0 hz1 hz2 rfl (by decide) _ _ _ rfl hrow ⟨w4.heap.size, 0, none⟩ 1 1 (cellsSc l [X]) rfl rfl hnew (cellSc_one l X) (by unfold maxLen; omega) (by omega) hbz ?_)
        intro v9 w9 hown9 hgrow9 _
        have HS9 : Hid (SS2 w l (xs ++ [X]) v9 w9) := (HS4.out.alloc _).app (by rw [HXe.out]; exact own_kept HO1.out ((Below.refl _ _).alloc (Nat.le_refl _) _)) hgrow9 hown9
        have HX9 : Hid ((xs ++ [X]).map (fun x => x.seg) = segs.take (k + 1)) := by
          show _ = _
          rw [List.map_append, HXS.out, List.take_succ_eq_append_getElem hlt, ← HN.out, HXe.out]; rfl
        have HSM9 : Hid (∀ j (h : j < segs.length), j < k + 1 → (Disks.fileAt l (segName segs[j])).isSome = true) := fun j h q => by
          by_cases e : j = k
          · subst e; rw [← HN.out]; exact HBB.out.symm
          · exact HSOME.out j h (by omega)
        clear hown9 hgrow9 hrow hbz hnew HS4 HO1
        go_wp2
        go_roundw
        case rel => exact ⟨k + 1, xs ++ [X], by omega, by go_num, HX9, HSM9, HS9⟩
        case measure => simp [intOf]; omega
    · have hk1 : ¬ (k : Int) < (segs.length : Int) := by omega
      have HPOST : Hid (ScansPost w l segs (.returned (.tuple #[.slice va xs.length vc, .nilIface])) wr) := Or.inl ⟨fun n hn => by
          obtain ⟨j, hj, e⟩ := List.getElem_of_mem hn
          rw [← e]; exact HSOME.out j hj (by omega), _, xs, rfl, by rw [HXS.out, List.take_of_length_le (by omega)], HS.out.sc, HS.out.bel⟩
      go_wp2
      exact bodyPost_ret (v := .tuple #[.slice va xs.length vc, .nilIface]) (by simp [results, Tryz.results161, go_sem]) rfl HPOST.out
theorem st_step (l : List FileL) : ∀ (xs : List ScV) (b : Int) (x : ScV), stOf l b ((xs ++ [x]).map fun x => x.seg) = if stOf l b (xs.map fun x => x.seg) < Scan.segStamp (textAt l x.seg) then Scan.segStamp (textAt l x.seg) else stOf l b (xs.map fun x => x.seg) := fun xs b x => by
  rw [List.map_append, Shelves.stOf_app]; rfl
theorem imax (a b : Int) : (if a < b then b else a) = max a b := by
  rcases Int.lt_or_le a b with h | h
  · rw [if_pos h, Int.max_eq_right (by omega)]
  · rw [if_neg (by omega), Int.max_eq_left h]
set_option maxHeartbeats 4000000 in
set_option maxRecDepth 100000 in
theorem stampOf_is {a : Option Addr} {cap b : Nat} (l : List FileL) (xs : List ScV) (hn : xs.length ≤ 8) (base : Int) (w : World) (hS : Scans b l xs (.slice a xs.length cap) w) (st : Int) (hst : st = stOf l base (xs.map fun x => x.seg)) :
    Calls Tryz.prog 163 #[.int .i64 base, .slice a xs.length cap] w fun en w' => en = .returned (.int .i64 st) ∧ Below w.heap.size w w' := by
  have HS : Hid (Scans b l xs (.slice a xs.length cap) w) := hS
  have HST : Hid (st = stOf l base (xs.map fun x => x.seg)) := hst
  clear hS hst
  go_enter Tryz.func163, Tryz.ntmps163
  go_wp2
  go_loopw [5, 11] (fun s i wr => ∃ (k : Nat) (z : Int), k ≤ xs.length ∧ i = .int .i64 (k : Int) ∧ s = .int .i64 z ∧ Hid (z = stOf l base ((xs.take k).map fun x => x.seg)) ∧ Hid (Below w.heap.size w wr))
    (fun _ i _ => xs.length - (intOf i).toNat)
  case atStart => exact ⟨0, base, Nat.zero_le _, rfl, rfl, rfl, Below.refl _ _⟩
  case round =>
    obtain ⟨k, z, hk, rfl, rfl, HZ, HB⟩ := hrel
    by_cases hlt : k < xs.length
    · obtain ⟨g, ea, c0, c1, c2, c3, c4⟩ := (HS.out.kept HB.out).at hlt
      subst ea
      obtain ⟨X, hX⟩ : ∃ X, X = xs[k] := ⟨_, rfl⟩
      have HX : Hid (X = xs[k]) := hX
      rw [← hX] at c0 c1 c2 c3 c4
      clear hX
      obtain ⟨q, hq⟩ : ∃ q, q = Scan.segStamp (textAt l X.seg) := ⟨_, rfl⟩
      have HQ : Hid (max z q = stOf l base ((xs.take (k + 1)).map fun x => x.seg)) := by
        show _ = _
        rw [List.take_succ_eq_append_getElem hlt, st_step, ← HX.out, ← HZ.out, ← hq, imax]
      rw [← hq] at c3
      clear hq
      obtain ⟨ob, hob⟩ : ∃ ob, ob = Obj.cells #[.int .i64 X.seg, .slice X.xa (Scan.segSpots X.seg (textAt l X.seg)).length X.xc, .slice X.ta X.tn X.tc, .int .i64 q, .int .i64 ((Scan.segEnd (textAt l X.seg) : Nat) : Int)] 213 := ⟨_, rfl⟩
      have HB2 : Hid (Below w.heap.size w (wr.alloc ob)) := HB.out.alloc HB.out.size _
      rw [hob] at HB2
      clear hob
      have hk0 : (0 : Int) ≤ (k : Int) := by omega
      have hk1 : (k : Int) < (xs.length : Int) := by omega
      go_wp2
      go_roundw
      case rel => exact ⟨k + 1, max z q, by omega, by go_num, rfl, HQ, HB2⟩
      case measure => simp [intOf]; omega
    · have hk1 : ¬ (k : Int) < (xs.length : Int) := by omega
      have HE : Hid (z = st) := by show _ = _; rw [HZ.out, HST.out, List.take_of_length_le (by omega)]
      go_wp2
      go_ret
      exact ⟨by rw [← HE.out]; rfl, HB.out⟩
end Go.Proofs.YtbcfiiilikkkeaaGreatDoor
