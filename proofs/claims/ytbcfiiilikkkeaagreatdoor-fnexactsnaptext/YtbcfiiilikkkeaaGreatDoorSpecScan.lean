/- The call of the specification's ScanSeg, walked. -/
import Derived.Test.YtbcfiiilikkkeaaGreatDoorScanOf
import Derived.Test.YtbcfiiilikkkeaaGreatDoorSpecRead2
namespace Go.Proofs.YtbcfiiilikkkeaaGreatDoor
open Go.RowKit
set_option linter.unusedVariables false

theorem frameB_size (s : ByteArray) : (frameB s).size = (Words.var s.size).length + 4 + s.size := by
  unfold frameB
  rw [ByteArray.size_append, ByteArray.size_append, four_size]
  have : (⟨(Words.var s.size).toArray⟩ : ByteArray).size = (Words.var s.size).length := rec_size _
  rw [this]
/-- What the specification's scan holds: the records, the spots, the texts. -/
structure SS (w : World) (lb : Nat) (lv : Value) (recs : List (List UInt8)) (v1 : Value) (sp : List SpotL) (v2 : Value) (tx : List (List UInt8)) (W : World) : Prop where
  lst : W.ownsRow lb 9 1 lv recs.length (cellsS recs)
  own1 : W.ownsRow w.heap.size 134 4 v1 sp.length (cellsSpot sp)
  own2 : W.ownsRow w.heap.size 9 1 v2 tx.length (cellsS tx)
  apart : ∀ g, v2.ownBlock = some g → lv.ownBlock ≠ some g
  bel : Below w.heap.size w W
section
variable {w W W' : World} {lb : Nat} {lv v1 v1' v2 : Value} {recs tx : List (List UInt8)} {sp : List SpotL}
theorem SS.same (h : SS w lb lv recs v1 sp v2 tx W) (hb : Below W.heap.size W W') : SS w lb lv recs v1 sp v2 tx W' :=
  ⟨own_kept h.lst hb, own_kept h.own1 hb, own_kept h.own2 hb, h.apart, h.bel.trans (hb.mono h.bel.size)⟩
theorem SS.alloc (h : SS w lb lv recs v1 sp v2 tx W) (o : Obj) : SS w lb lv recs v1 sp v2 tx (W.alloc o) := h.same ((Below.refl _ _).alloc (Nat.le_refl _) _)
theorem SS.app1 (h : SS w lb lv recs v1 sp v2 tx W) {c : SpotL} (hg : W.grownBy W' v1.ownBlock) (hown : W'.ownsRow w.heap.size 134 4 v1' (sp.length + 1) (cellsSpot sp ++ cellsSpot [c])) : SS w lb lv recs v1' (sp ++ [c]) v2 tx W' :=
  ⟨own_other h.lst h.own1 (by decide) hg, by rw [cellsSpot_app, List.length_append]; exact hown, own_other h.own2 h.own1 (by decide) hg, h.apart, h.bel.grown hg h.bel.size (fun k e => (h.own1.lt k e).1)⟩
theorem SS.app2 (h : SS w lb lv recs v1 sp v2 tx W) {p : List UInt8} {g cap : Nat} (hg : W.grownBy W' v2.ownBlock) (hown : W'.ownsRow w.heap.size 9 1 (.slice (some ⟨g, 0, none⟩) (tx.length + 1) cap) (tx.length + 1) (cellsS tx ++ [.string ⟨p.toArray⟩])) (hat : v2.ownBlock = some g ∨ W.heap.size ≤ g) :
    SS w lb lv recs v1 sp (.slice (some ⟨g, 0, none⟩) (tx.length + 1) cap) (tx ++ [p]) W' := by
  refine ⟨h.lst.kept hg ?_, own_other h.own1 h.own2 (by decide) hg, ?_, ?_, h.bel.grown hg h.bel.size (fun k e => (h.own2.lt k e).1)⟩
  · cases e : lv.ownBlock with
    | none => exact Or.inl rfl
    | some q => exact Or.inr (fun e2 => h.apart q e2.symm e)
  · have e1 : cellsS (tx ++ [p]) = cellsS tx ++ [.string ⟨p.toArray⟩] := by rw [cellsS_app]; rfl
    rw [e1, List.length_append]
    exact hown
  · intro q hq
    obtain rfl : g = q := by simpa [Value.ownBlock] using hq
    rcases hat with hat | hat
    · exact h.apart g hat
    · intro e; have := (h.lst.lt g e).2; omega
end
/-- The same with a batch in its block. -/
structure SB (w : World) (lb : Nat) (lv : Value) (recs : List (List UInt8)) (v1 : Value) (sp : List SpotL) (v2 : Value) (tx : List (List UInt8)) (bb : Nat) (st : Int) (cv : Value) (Bc : Nat) (l : List ChangeL) (W : World) : Prop where
  ss : SS w lb lv recs v1 sp v2 tx W
  blk : W.heap[bb]? = some (.cells #[.int .i64 st, cv] 51 (0, 0))
  chs : W.ownsRow Bc 149 3 cv l.length (cellsChange l)
section
variable {w W W' : World} {lb bb Bc : Nat} {lv v1 v1' v2 cv : Value} {recs tx : List (List UInt8)} {sp : List SpotL} {st : Int} {l : List ChangeL}
theorem SB.same (h : SB w lb lv recs v1 sp v2 tx bb st cv Bc l W) (hb : Below W.heap.size W W') : SB w lb lv recs v1 sp v2 tx bb st cv Bc l W' :=
  ⟨h.ss.same hb, (hb.block bb (Array.getElem?_eq_some_iff.1 h.blk).1).trans h.blk, own_kept h.chs hb⟩
theorem SB.alloc (h : SB w lb lv recs v1 sp v2 tx bb st cv Bc l W) (o : Obj) : SB w lb lv recs v1 sp v2 tx bb st cv Bc l (W.alloc o) := h.same ((Below.refl _ _).alloc (Nat.le_refl _) _)
theorem SB.app1 (h : SB w lb lv recs v1 sp v2 tx bb st cv Bc l W) {c : SpotL} (hg : W.grownBy W' v1.ownBlock) (hown : W'.ownsRow w.heap.size 134 4 v1' (sp.length + 1) (cellsSpot sp ++ cellsSpot [c])) : SB w lb lv recs v1' (sp ++ [c]) v2 tx bb st cv Bc l W' :=
  ⟨h.ss.app1 hg hown, grown_keep' h.blk hg (own_not h.ss.own1 h.blk (by decide)), own_other h.chs h.ss.own1 (by decide) hg⟩
theorem SB.c0 (h : SB w lb lv recs v1 sp v2 tx bb st cv Bc l W) : W.cell? ⟨bb, 0, none⟩ = some (.int .i64 st) := cell_of_row _ _ 0 _ _ _ h.blk
theorem SB.c1 (h : SB w lb lv recs v1 sp v2 tx bb st cv Bc l W) : W.cell? ⟨bb, 1, none⟩ = some cv := cell_of_row _ _ 1 _ _ _ h.blk
end
theorem row_cell {W : World} {lb n : Nat} {ra : Option Addr} {rc : Nat} {recs : List (List UInt8)} (h : W.ownsRow lb 9 1 (.slice ra n rc) recs.length (cellsS recs)) {k : Nat} (hk : k < recs.length) : ∃ g, ra = some ⟨g, 0, none⟩ ∧ W.cell? ⟨g, k, none⟩ = some (.string ⟨recs[k].toArray⟩) := by
  rcases h.2 with ⟨h1, h2⟩ | ⟨g, cap, cur, h1, _⟩
  · omega
  · cases h1
    refine ⟨g, rfl, ?_⟩
    rw [h.cellAt k (by omega)]
    simp [cellsS, hk]
set_option maxHeartbeats 8000000 in
set_option maxRecDepth 100000 in
theorem specScan_any (s : ByteArray) (hs : s.size ≤ maxLen) (seg : Int) (items : List Scan.It) (hR : Scan.Reads (unS s) items) (w : World) :
    Calls Tryz.prog 184 #[.string s, .int .i64 seg] w fun en w' => ∃ v1 v2, en = .returned (.tuple #[v1, v2, .int .i64 (Scan.itStamp (-1) items)]) ∧ ScanPost w seg items v1 v2 w' := by
  obtain ⟨i0, hi, hz0, hz1, hz2⟩ := info_parts Tryz.info9
  obtain ⟨recs, hrecs⟩ : ∃ recs, recs = unS s := ⟨_, rfl⟩
  have HUN : Hid (∀ w : World, Calls Tryz.prog 114 #[.string s] w fun e w' => UnPost recs (unE s) w e w') := fun w => by rw [hrecs]; exact specUn_any s hs w
  have hrl : recs.length ≤ 20000 := by rw [hrecs]; exact unS_len s
  have HRS : Hid (∀ r ∈ recs, 1 ≤ r.length ∧ r.length ≤ 9000) := by rw [hrecs]; exact unS_size s
  rw [← hrecs] at hR
  have HR : Hid (Scan.Reads recs items) := hR
  have hil := hR.1
  clear hrecs hR
  obtain ⟨z, hz⟩ : ∃ z, z = unE s := ⟨_, rfl⟩
  rw [← hz] at HUN
  clear hz
  obtain ⟨W1, hW1⟩ : ∃ W1, W1 = (w.alloc (Obj.cells #[] 134)).alloc (Obj.cells #[] 9) := ⟨_, rfl⟩
  have hzA : (w.alloc (Obj.cells #[] 134)).heap.size = w.heap.size + 1 := by simp
  have hb1 : Below w.heap.size w W1 := by rw [hW1]; exact ((Below.refl _ _).alloc (Nat.le_refl _) _).alloc (by simp) _
  have ho1 : W1.ownsRow w.heap.size 134 4 (.slice (some ⟨w.heap.size, 0, none⟩) 0 0) 0 [] := by
    rw [hW1]; exact (World.ownsRow_made w #[] 0 (Nat.le_refl _) (by unfold maxLen; omega) rfl).alloc _
  have ho2 : W1.ownsRow w.heap.size 9 1 (.slice (some ⟨w.heap.size + 1, 0, none⟩) 0 0) 0 [] := by
    have := World.ownsRow_made (base := w.heap.size) (e := 9) (size := 1) (w.alloc (Obj.cells #[] 134)) #[] 0 (by rw [hzA]; omega) (by unfold maxLen; omega) rfl
    rw [hzA] at this
    rw [hW1]; exact this
  have hzW : W1.heap.size = w.heap.size + 2 := by rw [hW1]; simp
  go_enter Tryz.func184, Tryz.ntmps184
  go_wp2_with fail
  rw [← hW1]
  clear hW1 hzA
  refine Calls.mono (HUN.out W1) ?_
  rintro en w2 ⟨rv, rfl, hor, hb2⟩
  obtain ⟨ra, rc, hrv⟩ := own_slice hor
  subst hrv
  have HS2 : Hid (SS w W1.heap.size (.slice ra recs.length rc) recs (.slice (some ⟨w.heap.size, 0, none⟩) 0 0) [] (.slice (some ⟨w.heap.size + 1, 0, none⟩) 0 0) [] w2) :=
    ⟨hor, own_kept ho1 hb2, own_kept ho2 hb2, fun g e q => by have e1 : w.heap.size + 1 = g := (by simpa [Value.ownBlock] using e); have := (hor.lt g q).1; omega, hb1.trans (hb2.mono hb1.size)⟩
  obtain ⟨lb, hlb⟩ : ∃ lb, lb = W1.heap.size := ⟨_, rfl⟩
  rw [← hlb] at HS2
  clear hlb hzW hb1 ho1 ho2 hb2 hor HUN
  go_wp2_with fail
  go_loopw [7, 8, 9, 12, 13] (fun v1 v2 q a i wr => ∃ k : Nat, k ≤ items.length ∧ i = .int .i64 (k : Int) ∧ q = .int .i64 (Scan.itStamp (-1) (items.take k)) ∧ a = .int .i64 ((Scan.itEnd 0 (items.take k) : Nat) : Int) ∧ Hid (SS w lb (.slice ra recs.length rc) recs v1 (Scan.itSpots seg 0 (items.take k)) v2 (recs.take k) wr))
    (fun _ _ _ _ i _ => recs.length - (intOf i).toNat)
  case atStart => exact ⟨0, Nat.zero_le _, rfl, rfl, rfl, HS2⟩
  case round =>
    obtain ⟨k, hk, rfl, rfl, rfl, HS⟩ := hrel
    have htl : (recs.take k).length = k := by rw [List.length_take]; omega
    have hspl : (Scan.itSpots seg 0 (items.take k)).length ≤ 1200000 := by
      have := Scan.itSpots_len (seg := seg) (items.take k) 0 (fun x hx => (ch_len HR.out x (List.mem_of_mem_take hx)).1)
      rw [List.length_take] at this
      omega
    have heb : Scan.itEnd 0 (items.take k) ≤ 200000000 := by
      have := Scan.itEnd_le (items.take k) 0 (fun x hx => (HRS.out _ (ch_len HR.out x (List.mem_of_mem_take hx)).2).2)
      rw [List.length_take] at this
      omega
    obtain ⟨va, vc, hva⟩ := own_slice HS.out.own2
    subst hva
    obtain ⟨ua, uc, hua⟩ := own_slice HS.out.own1
    subst hua
    rw [htl] at HS
    obtain ⟨e, he⟩ : ∃ e, e = Scan.itEnd 0 (items.take k) := ⟨_, rfl⟩
    obtain ⟨SP, hSP⟩ : ∃ SP, SP = Scan.itSpots seg 0 (items.take k) := ⟨_, rfl⟩
    obtain ⟨ST, hST⟩ : ∃ ST, ST = Scan.itStamp (-1) (items.take k) := ⟨_, rfl⟩
    have HSP : Hid (SP = Scan.itSpots seg 0 (items.take k)) := hSP
    have HST : Hid (ST = Scan.itStamp (-1) (items.take k)) := hST
    have HEe : Hid (e = Scan.itEnd 0 (items.take k)) := he
    rw [← hSP] at HS hspl ⊢
    rw [← hST]
    rw [← he] at heb ⊢
    rw [htl]
    clear hSP hST he
    have hdone : k = items.length → ∀ w', Below wr.heap.size wr w' → ∃ v1 v2, Ending.returned (.tuple #[.slice ua SP.length uc, .slice va k vc, .int .i64 ST]) = .returned (.tuple #[v1, v2, .int .i64 (Scan.itStamp (-1) items)]) ∧ ScanPost w seg items v1 v2 w' := fun hke w' hb => by
      have fin1 : items.take k = items := List.take_of_length_le (by omega)
      have em : items.map (fun x => x.bytes) = recs.take k := by rw [← fin1]; exact Scan.reads_map HR.out k hk
      have el : items.length = (recs.take k).length := by rw [htl]; exact hke.symm
      refine ⟨_, _, by rw [HST.out, fin1], ?_, ?_, HS.out.bel.trans (hb.mono HS.out.bel.size)⟩
      · rw [← fin1, ← HSP.out]; exact own_kept HS.out.own1 hb
      · rw [em, el]; exact own_kept HS.out.own2 hb
    have HDONE : Hid (k = items.length → ∀ w', Below wr.heap.size wr w' → ∃ v1 v2, Ending.returned (.tuple #[.slice ua SP.length uc, .slice va k vc, .int .i64 ST]) = .returned (.tuple #[v1, v2, .int .i64 (Scan.itStamp (-1) items)]) ∧ ScanPost w seg items v1 v2 w') := hdone
    clear hdone
    by_cases hkr : k < recs.length
    · obtain ⟨g, hg, hcl⟩ := row_cell HS.out.lst hkr
      subst hg
      obtain ⟨rk, hrk⟩ : ∃ rk, rk = recs[k] := ⟨_, rfl⟩
      have HRK : Hid (rk = recs[k]) := hrk
      rw [← hrk] at hcl
      have hrkl : 1 ≤ rk.length ∧ rk.length ≤ 9000 := by rw [hrk]; exact HRS.out _ (List.getElem_mem _)
      clear hrk
      obtain ⟨T, hT⟩ : ∃ T : ByteArray, T = ⟨rk.toArray⟩ := ⟨_, rfl⟩
      have HT : Hid (T = ⟨rk.toArray⟩) := hT
      have HTS : Hid (T.size = rk.length) := by show _ = _; rw [hT]; exact rec_size rk
      have hTs : 1 ≤ T.size ∧ T.size ≤ 9000 := by rw [HTS.out]; exact hrkl
      rw [← hT] at hcl
      clear hT
      have hk0 : (0 : Int) ≤ (k : Int) := by omega
      have hk1 : (k : Int) < (recs.length : Int) := by omega
      by_cases hki : k < items.length
      · obtain ⟨q1, q2⟩ := HR.out.2.1 k hki hkr
        have HX0 : Hid (∃ x, x = items[k]) := ⟨_, rfl⟩
        obtain ⟨x, hx⟩ := HX0.out
        rw [← hx] at q1 q2
        rw [← HRK.out] at q1
        have HX : Hid (x = items[k]) := hx
        clear hx HX0
        obtain ⟨r, st, l⟩ := x
        simp only at q1 q2
        subst q1
        have HG : Hid (Batches.Got T st l) := by show Batches.Got _ _ _; rw [HT.out, HRK.out]; exact q2
        clear q2
        have hst : st ≤ 100000 := by have := HG.out.2.1.2; omega
        have hl : l.length ≤ 60 := HG.out.2.2.1
        have HOK : Hid (∀ c ∈ l, Batches.changeOk c) := fun c hc => by
          obtain ⟨j, hj, rfl⟩ := List.getElem_of_mem hc
          obtain ⟨_, q, _⟩ := HG.out.2.2.2 j hj
          exact q
        go_wp2_with fail
        refine (specReadB_got (by omega) wr HG.out).mono ?_
        rintro en w3 ⟨cv, rfl, ho3, hb3⟩
        obtain ⟨ca, cc, hcv⟩ := own_slice ho3
        subst hcv
        obtain ⟨W4, hW4⟩ : ∃ W4, W4 = w3.alloc (Obj.cells #[Value.int .i64 (st : Int), Value.slice ca l.length cc] 51) := ⟨_, rfl⟩
        obtain ⟨bb, hbb⟩ : ∃ bb, bb = w3.heap.size := ⟨_, rfl⟩
        have HB4 : Hid (SB w lb (.slice (some ⟨g, 0, none⟩) recs.length rc) recs (.slice ua SP.length uc) SP (.slice va k vc) (recs.take k) bb (st : Int) (.slice ca l.length cc) wr.heap.size l W4) := by
          rw [hW4, hbb]
          exact ⟨(HS.out.same hb3).alloc _, heap_alloc_new w3 _, ho3.alloc _⟩
        have hcl4 : W4.cell? ⟨g, k, none⟩ = some (.string T) := by
          obtain ⟨g', eg, h⟩ := row_cell HB4.out.ss.lst hkr
          cases eg
          rw [h, HT.out, HRK.out]
        rw [hW4] at hcl4
        go_wp2_with fail
        rw [← hW4, ← hbb]
        clear hW4 hbb hb3 ho3 hcl hcl4 HS
        refine (specFrame_yes T hTs.1 hTs.2 W4).mono ?_
        rintro en w5 ⟨rfl, hb5⟩
        unfold frameTuple
        have HB5 : Hid (SB w lb (.slice (some ⟨g, 0, none⟩) recs.length rc) recs (.slice ua SP.length uc) SP (.slice va k vc) (recs.take k) bb (st : Int) (.slice ca l.length cc) wr.heap.size l w5) := HB4.out.same hb5
        obtain ⟨F, hF⟩ : ∃ F, F = frameB T := ⟨_, rfl⟩
        have HFS : Hid (F.size = Scan.hdr r + T.size) := by show _ = _; rw [hF, frameB_size, Scan.hdr, HTS.out]
        rw [← hF]
        have hFb : F.size ≤ 10000 := by have := Scan.hdr_le r hrkl.2; have := HFS.out; omega
        clear hF
        obtain ⟨a0, ha0⟩ : ∃ a0, a0 = Scan.itFrom e ⟨r, st, l⟩ := ⟨_, rfl⟩
        have HA0 : Hid (a0 = Scan.itFrom e ⟨r, st, l⟩) := ha0
        have HA1 : Hid (a0 = e + Scan.hdr r + (varS (st : Int)).size + (varS (l.length : Int)).size) := by show _ = _; rw [ha0, varS_len, varS_len]; rfl
        clear ha0
        have c0 := HB5.out.c0
        have c1 := HB5.out.c1
        have hcl5 : w5.cell? ⟨g, k, none⟩ = some (.string T) := by
          obtain ⟨g', eg, h⟩ := row_cell HB5.out.ss.lst hkr
          cases eg
          rw [h, HT.out, HRK.out]
        have y1 := varS_size (st : Int) 100000 (by omega)
        have y2 := varS_size (l.length : Int) 60 (by omega)
        have hh := Scan.hdr_le r hrkl.2
        have hw1 : IntKind.i64.wrap ((e : Int) + (F.size : Int)) = (e : Int) + (F.size : Int) := IntWalk.i64_in _ (by omega)
        have hw2 : IntKind.i64.wrap ((e : Int) + (F.size : Int) - (T.size : Int)) = (e : Int) + ((Scan.hdr r : Nat) : Int) := by have := HFS.out; rw [IntWalk.i64_in _ (by omega)]; omega
        have hw3 : IntKind.i64.wrap ((e : Int) + ((Scan.hdr r : Nat) : Int) + ((varS (st : Int)).size : Int)) = (e : Int) + ((Scan.hdr r : Nat) : Int) + ((varS (st : Int)).size : Int) := IntWalk.i64_in _ (by omega)
        have hw4 : IntKind.i64.wrap ((e : Int) + ((Scan.hdr r : Nat) : Int) + ((varS (st : Int)).size : Int) + ((varS (l.length : Int)).size : Int)) = (a0 : Int) := by have := HA1.out; rw [IntWalk.i64_in _ (by omega)]; omega
        have ha0b : a0 ≤ 200200000 := by have := HA1.out; omega
        clear HB4 hb5
        go_wp2_with fail
        have NE := Abv.ne w5
        have F0 := fun x : Abv w5 => x.cell c0
        have F1 := fun x : Abv w5 => x.cell c1
        have F2 := fun x : Abv w5 => x.cell hcl5
        refine wp_region_above (by kernel_rfl) (by kernel_rfl) ?_
        repeat (go_big_quiet_step (first | (go_at_call 128; exact calls_above (l01Var_q _ (by omega) (by omega) _))))
        refine wpQuiet_nil ?_
        rintro w6 ⟨⟨_, hb6⟩, rfl⟩
        have HB6 : Hid (SB w lb (.slice (some ⟨g, 0, none⟩) recs.length rc) recs (.slice ua SP.length uc) SP (.slice va k vc) (recs.take k) bb (st : Int) (.slice ca l.length cc) wr.heap.size l w6) := HB5.out.same hb6
        clear NE F0 F1 F2 hb6 c0 c1 hcl5 y1 y2 hw1 hw2 hw3 hw4 HB5 HA1
        obtain ⟨Bc, hBc⟩ : ∃ Bc, Bc = wr.heap.size := ⟨_, rfl⟩
        rw [← hBc] at HB6
        clear hBc HDONE
        go_wp2_with fail
        go_loopw [7, 18, 19] (fun v f i wq => ∃ j : Nat, j ≤ l.length ∧ i = .int .i64 (j : Int) ∧ f = .int .i64 ((Scan.chEnd a0 (l.take j) : Nat) : Int) ∧ Hid (SB w lb (.slice (some ⟨g, 0, none⟩) recs.length rc) recs v (SP ++ Scan.chSpots seg a0 (l.take j)) (.slice va k vc) (recs.take k) bb (st : Int) (.slice ca l.length cc) Bc l wq))
          (fun _ _ i _ => l.length - (intOf i).toNat)
        case atStart => exact ⟨0, Nat.zero_le _, rfl, rfl, by show SB _ _ _ _ _ _ _ _ _ _ _ _ _ _; simpa [Scan.chSpots] using HB6.out⟩
        case round =>
          clear HB6
          obtain ⟨j, hj, rfl, rfl, HBj⟩ := hrel
          have c0 := HBj.out.c0
          have c1 := HBj.out.c1
          by_cases hjl : j < l.length
          · obtain ⟨_, gg, _, eS, hAt⟩ := cellsChange_slice HBj.out.chs
            cases eS
            obtain ⟨d0, d1, d2⟩ := hAt.2 j hjl
            have ea := hAt.1 (by omega)
            subst ea
            have o1 := HOK.out l[j] (List.getElem_mem _)
            have HAA0 : Hid (∃ c, c = l[j] ∧ l[j] = c) := ⟨_, rfl, rfl⟩
            obtain ⟨c, hc, hc'⟩ := HAA0.out
            have hend : Scan.chEnd a0 (l.take (j + 1)) = Scan.chPos (Scan.chEnd a0 (l.take j)) c + c.value.size := by rw [Scan.chEnd_take hjl, hc']
            have hspn : Scan.chSpots seg a0 (l.take (j + 1)) = Scan.chSpots seg a0 (l.take j) ++ [Scan.spotC seg (Scan.chPos (Scan.chEnd a0 (l.take j)) c) c] := by rw [Scan.chSpots_take hjl, hc']
            have hle := Scan.chEnd_take_le (a := a0) (k := j) HOK.out hl
            have hpl : (SP ++ Scan.chSpots seg a0 (l.take j)).length ≤ 1200060 := by rw [List.length_append, Scan.chSpots_len, List.length_take]; omega
            rw [← hc] at d0 d1 d2 o1
            clear HAA0 hc hc' hAt
            obtain ⟨A, V, G⟩ := c
            simp only at d0 d1 d2
            simp only [Nat.zero_add] at d0 d1 d2
            have p1 := Scan.chPos_le (a := Scan.chEnd a0 (l.take j)) o1
            obtain ⟨_, o2, o3, o4⟩ := o1
            clear o4
            simp only at o2 o3
            obtain ⟨E, hE⟩ : ∃ E, E = Scan.chEnd a0 (l.take j) := ⟨_, rfl⟩
            rw [← hE] at hend hspn hle p1 ⊢
            obtain ⟨P, hP⟩ : ∃ P, P = Scan.chPos E ⟨A, V, G⟩ := ⟨_, rfl⟩
            have HPE : Hid (P = E + (shortS A).size + 1 + (varS (V.size : Int)).size) := by show _ = _; rw [hP, Scan.chPos, shortS_len, varS_len]
            rw [← hP] at hend hspn p1
            have HEND : Hid (Scan.chEnd a0 (l.take (j + 1)) = P + V.size) := hend
            have HSPN : Hid (Scan.chSpots seg a0 (l.take (j + 1)) = Scan.chSpots seg a0 (l.take j) ++ [Scan.spotC seg P ⟨A, V, G⟩]) := hspn
            obtain ⟨pre, hpre⟩ : ∃ pre, pre = SP ++ Scan.chSpots seg a0 (l.take j) := ⟨_, rfl⟩
            have HPRE : Hid (pre = SP ++ Scan.chSpots seg a0 (l.take j)) := hpre
            rw [← hpre] at HBj hpl
            clear hE hP hend hspn hpre
            have hj0 : (0 : Int) ≤ (j : Int) := by omega
            have hj1 : (j : Int) < (l.length : Int) := by omega
            obtain ⟨W7, hW7⟩ : ∃ W7, W7 = wr.alloc (Obj.cells #[Value.string A, Value.string V, Value.bool G] 149) := ⟨_, rfl⟩
            obtain ⟨q, hq⟩ : ∃ q, q = wr.heap.size := ⟨_, rfl⟩
            have hx7 : W7.heap[q]? = some (.cells #[Value.string A, Value.string V, Value.bool G] 149 (0, 0)) := by rw [hW7, hq]; exact heap_alloc_new wr _
            have HB7 : Hid (SB w lb (.slice (some ⟨g, 0, none⟩) recs.length rc) recs u7 pre (.slice va k vc) (recs.take k) bb (st : Int) (.slice (some ⟨gg, 0, none⟩) l.length cc) Bc l W7) := by rw [hW7]; exact HBj.out.alloc _
            go_wp2_with fail
            rw [← hW7, ← hq]
            clear hW7 hq HBj d0 d1 d2
            have f0 := cell_of_row _ _ 0 _ _ _ hx7
            have f1 := cell_of_row _ _ 1 _ _ _ hx7
            simp at f0 f1
            have y0 := shortS_size A 10 o2
            have y1 := varS_size (V.size : Int) 40 (by omega)
            have hw1 : IntKind.i64.wrap ((E : Int) + ((shortS A).size : Int)) = (E : Int) + ((shortS A).size : Int) := IntWalk.i64_in _ (by omega)
            have hw2 : IntKind.i64.wrap ((E : Int) + ((shortS A).size : Int) + 1) = (E : Int) + ((shortS A).size : Int) + 1 := IntWalk.i64_in _ (by omega)
            have hw3 : IntKind.i64.wrap ((E : Int) + ((shortS A).size : Int) + 1 + ((varS (V.size : Int)).size : Int)) = (P : Int) := by have := HPE.out; rw [IntWalk.i64_in _ (by omega)]; omega
            have NE := Abv.ne W7
            have F0 := fun x : Abv W7 => x.cell f0
            have F1 := fun x : Abv W7 => x.cell f1
            refine wp_region_above (by kernel_rfl) (by kernel_rfl) ?_
            repeat (go_big_quiet_step (first | (go_at_call 128; exact calls_above (l01Var_q _ (by omega) (by omega) _)) | (go_at_call 129; exact calls_above (l05Short_q _ (by omega) _))))
            refine wpQuiet_nil ?_
            rintro w8 ⟨⟨_, hb8⟩, rfl⟩
            have HB8 : Hid (SB w lb (.slice (some ⟨g, 0, none⟩) recs.length rc) recs u7 pre (.slice va k vc) (recs.take k) bb (st : Int) (.slice (some ⟨gg, 0, none⟩) l.length cc) Bc l w8) := HB7.out.same hb8
            have hx8 := (hb8.block q (Array.getElem?_eq_some_iff.1 hx7).1).trans hx7
            have HX8 : Hid (w8.heap[q]? = some (.cells #[Value.string A, Value.string V, Value.bool G] 149 (0, 0))) := hx8
            have g0 := cell_of_row _ _ 0 _ _ _ hx8
            have g1 := cell_of_row _ _ 1 _ _ _ hx8
            have g2 := cell_of_row _ _ 2 _ _ _ hx8
            simp at g0 g1 g2
            clear NE F0 F1 hb8 hx7 hx8 f0 f1 hw1 hw2 hw3 y0 y1 HPE HB7 c0 c1
            have HPN : Hid (pre ++ [Scan.spotC seg P ⟨A, V, G⟩] = SP ++ Scan.chSpots seg a0 (l.take (j + 1))) := by show _ = _; rw [HSPN.out, HPRE.out, List.append_assoc]
            cases G with
            | true =>
              have hA9 := spotAt_new w8 ⟨A, seg, 0, -1⟩
              have hown := (HB8.out.alloc (Obj.cells #[Value.string A, Value.int .i64 seg, Value.int .i64 0, Value.int .i64 (-1)] 134)).ss.own1
              have hbz := (HB8.out.alloc (Obj.cells #[Value.string A, Value.int .i64 seg, Value.int .i64 0, Value.int .i64 (-1)] 134)).ss.bel.size
              go_wp2_with (at_builtin; refine wpList_appendSpot rfl _ _ rfl w.heap.size u7 _ _ rfl hown (some ⟨w8.heap.size, 0, none⟩) w8.heap.size 0 1 [⟨A, seg, 0, -1⟩] rfl hA9 (by simp) (by simp; omega) hbz ?_)
              intro v9 w9 hown9 hgrow9
              have HB9 : Hid (SB w lb (.slice (some ⟨g, 0, none⟩) recs.length rc) recs v9 (SP ++ Scan.chSpots seg a0 (l.take (j + 1))) (.slice va k vc) (recs.take k) bb (st : Int) (.slice (some ⟨gg, 0, none⟩) l.length cc) Bc l w9) := by
                rw [← HPN.out]
                exact (HB8.out.alloc _).app1 hgrow9 hown9
              have hx9 := grown_keep' ((((Below.refl _ _).alloc (Nat.le_refl _) _ : Below w8.heap.size w8 (w8.alloc _)).block q (Array.getElem?_eq_some_iff.1 HX8.out).1).trans HX8.out) hgrow9 (own_not hown (((( Below.refl _ _).alloc (Nat.le_refl _) _ : Below w8.heap.size w8 (w8.alloc _)).block q (Array.getElem?_eq_some_iff.1 HX8.out).1).trans HX8.out) (by decide))
              have k1 := cell_of_row _ _ 1 _ _ _ hx9
              simp at k1
              clear hown9 hgrow9 hown hA9 hbz hx9 HB8 HX8 g0 g1 g2 HPN
              go_wp2
              go_roundw
              case rel =>
                refine ⟨j + 1, by omega, by go_num, ?_, HB9⟩
                rw [HEND.out]
                refine congrArg (Value.int .i64) ?_
                omega
              case measure => simp [intOf]; omega
            | false =>
              have hA9 := spotAt_new w8 ⟨A, seg, P, V.size⟩
              have hown := (HB8.out.alloc (Obj.cells #[Value.string A, Value.int .i64 seg, Value.int .i64 (P : Int), Value.int .i64 (V.size : Int)] 134)).ss.own1
              have hbz := (HB8.out.alloc (Obj.cells #[Value.string A, Value.int .i64 seg, Value.int .i64 (P : Int), Value.int .i64 (V.size : Int)] 134)).ss.bel.size
              go_wp2_with (at_builtin; refine wpList_appendSpot rfl _ _ rfl w.heap.size u7 _ _ rfl hown (some ⟨w8.heap.size, 0, none⟩) w8.heap.size 0 1 [⟨A, seg, P, V.size⟩] rfl hA9 (by simp) (by simp; omega) hbz ?_)
              intro v9 w9 hown9 hgrow9
              have HB9 : Hid (SB w lb (.slice (some ⟨g, 0, none⟩) recs.length rc) recs v9 (SP ++ Scan.chSpots seg a0 (l.take (j + 1))) (.slice va k vc) (recs.take k) bb (st : Int) (.slice (some ⟨gg, 0, none⟩) l.length cc) Bc l w9) := by
                rw [← HPN.out]
                exact (HB8.out.alloc _).app1 hgrow9 hown9
              have hx9 := grown_keep' ((((Below.refl _ _).alloc (Nat.le_refl _) _ : Below w8.heap.size w8 (w8.alloc _)).block q (Array.getElem?_eq_some_iff.1 HX8.out).1).trans HX8.out) hgrow9 (own_not hown (((( Below.refl _ _).alloc (Nat.le_refl _) _ : Below w8.heap.size w8 (w8.alloc _)).block q (Array.getElem?_eq_some_iff.1 HX8.out).1).trans HX8.out) (by decide))
              have k1 := cell_of_row _ _ 1 _ _ _ hx9
              simp at k1
              clear hown9 hgrow9 hown hA9 hbz hx9 HB8 HX8 g0 g1 g2 HPN
              go_wp2
              go_roundw
              case rel =>
                refine ⟨j + 1, by omega, by go_num, ?_, HB9⟩
                rw [HEND.out]
                refine congrArg (Value.int .i64) ?_
                omega
              case measure => simp [intOf]; omega
          · have hj1 : ¬ (j : Int) < (l.length : Int) := by omega
            have HSPX : Hid (SP ++ Scan.chSpots seg a0 (l.take j) = Scan.itSpots seg 0 (items.take (k + 1))) := by
              show _ = _
              rw [List.take_of_length_le (by omega), List.take_succ_eq_append_getElem hki, Scan.itSpots_snoc, ← HSP.out, ← HEe.out, ← HX.out, ← HA0.out]
            have HENX : Hid (Scan.itEnd 0 (items.take (k + 1)) = e + F.size) := by
              show _ = _
              rw [List.take_succ_eq_append_getElem hki, Scan.itEnd_snoc, ← HEe.out, ← HX.out, HFS.out, HTS.out]
              exact Nat.add_assoc _ _ _
            have HSTX : Hid (Scan.itStamp (-1) (items.take (k + 1)) = if ST < (st : Int) then (st : Int) else ST) := by
              show _ = _
              rw [List.take_succ_eq_append_getElem hki, Scan.itStamp_snoc, ← HST.out, ← HX.out]
            have HTXX : Hid (recs.take (k + 1) = recs.take k ++ [r]) := by show _ = _; rw [List.take_succ_eq_append_getElem hkr, HRK.out]
            rw [HSPX.out] at HBj
            have hown2 := HBj.out.ss.own2
            rw [htl] at hown2
            have hclj : wr.cell? ⟨g, k, none⟩ = some (.string T) := by
              obtain ⟨g', eg, h⟩ := row_cell HBj.out.ss.lst hkr
              cases eg
              rw [h, HT.out, HRK.out]
            have hbz : w.heap.size ≤ (wr.alloc (Obj.cells #[Value.string T] 9)).heap.size := (HBj.out.alloc _).ss.bel.size
            have hpl1 : k + 1 ≤ maxLen := by unfold maxLen; omega
            have hby : (k + 1) * 16 ≤ 140737488355328 := by omega
            by_cases hgt : ST < (st : Int)
            · have HSTY : Hid (Scan.itStamp (-1) (items.take (k + 1)) = (st : Int)) := by show _ = _; rw [HSTX.out, if_pos hgt]
              clear HSTX
              go_wp2_with (at_builtin; refine wpList_append_lies _ rfl _ _ 158 rfl w.heap.size 9 i0 (.string ⟨#[]⟩) 1 16 Tryz.underlying158 hi hz0 hz1 hz2 rfl (Nat.zero_lt_succ _) _ k (cellsS (recs.take k)) rfl (hown2.alloc _) ⟨wr.heap.size, 0, none⟩ 1 1 [.string T] rfl rfl (World.news_of_block (cs := #[.string T]) (t := 9) (fr := (0, 0)) (heap_alloc_new wr _)) (one_string_list T) (Nat.zero_lt_succ _) hpl1 hby hbz (wr.heap.size + 1) (Array.size_push ..) ?_)
              intro g9 cap9 w9 hown9 hgrow9 hat9 hlt9
              have HS9 : Hid (SS w lb (.slice (some ⟨g, 0, none⟩) recs.length rc) recs u7 (Scan.itSpots seg 0 (items.take (k + 1))) (.slice (some ⟨g9, 0, none⟩) (k + 1) cap9) (recs.take (k + 1)) w9) := by
                have h := (HBj.out.ss.alloc (Obj.cells #[Value.string T] 9)).app2 (p := r) (g := g9) (cap := cap9) hgrow9 (by rw [← HT.out, htl]; exact hown9) (by rcases hat9 with q | q; exact Or.inl q; exact Or.inr (by simp; omega))
                rw [htl] at h
                rw [HTXX.out]
                exact h
              clear hown9 hgrow9 hat9 hlt9 hown2 hclj hbz HBj c0 c1
              go_wp2
              go_roundw
              case rel =>
                refine ⟨k + 1, by omega, by go_num, by rw [HSTY.out], ?_, HS9⟩
                rw [HENX.out]
                refine congrArg (Value.int .i64) ?_
                omega
              case measure => simp [intOf]; omega
            · have HSTY : Hid (Scan.itStamp (-1) (items.take (k + 1)) = ST) := by show _ = _; rw [HSTX.out, if_neg hgt]
              clear HSTX
              go_wp2_with (at_builtin; refine wpList_append_lies _ rfl _ _ 158 rfl w.heap.size 9 i0 (.string ⟨#[]⟩) 1 16 Tryz.underlying158 hi hz0 hz1 hz2 rfl (Nat.zero_lt_succ _) _ k (cellsS (recs.take k)) rfl (hown2.alloc _) ⟨wr.heap.size, 0, none⟩ 1 1 [.string T] rfl rfl (World.news_of_block (cs := #[.string T]) (t := 9) (fr := (0, 0)) (heap_alloc_new wr _)) (one_string_list T) (Nat.zero_lt_succ _) hpl1 hby hbz (wr.heap.size + 1) (Array.size_push ..) ?_)
              intro g9 cap9 w9 hown9 hgrow9 hat9 hlt9
              have HS9 : Hid (SS w lb (.slice (some ⟨g, 0, none⟩) recs.length rc) recs u7 (Scan.itSpots seg 0 (items.take (k + 1))) (.slice (some ⟨g9, 0, none⟩) (k + 1) cap9) (recs.take (k + 1)) w9) := by
                have h := (HBj.out.ss.alloc (Obj.cells #[Value.string T] 9)).app2 (p := r) (g := g9) (cap := cap9) hgrow9 (by rw [← HT.out, htl]; exact hown9) (by rcases hat9 with q | q; exact Or.inl q; exact Or.inr (by simp; omega))
                rw [htl] at h
                rw [HTXX.out]
                exact h
              clear hown9 hgrow9 hat9 hlt9 hown2 hclj hbz HBj c0 c1
              go_wp2
              go_roundw
              case rel =>
                refine ⟨k + 1, by omega, by go_num, by rw [HSTY.out], ?_, HS9⟩
                rw [HENX.out]
                refine congrArg (Value.int .i64) ?_
                omega
              case measure => simp [intOf]; omega
      · have HKE : Hid (k = items.length) := by show _ = _; omega
        have HNG : Hid (∀ st l, ¬ Batches.Got T st l) := by
          have := HR.out.2.2 (by have := HKE.out; omega)
          intro st l hg
          refine this st l ?_
          have e1 : recs[items.length] = rk := by rw [HRK.out]; congr 1; have := HKE.out; omega
          rw [e1, ← HT.out]; exact hg
        clear hki
        go_wp2_with (go_at_call 115; refine (specReadB_none (by omega) wr HNG.out).mono ?_; rintro en w3 ⟨rfl, hb3⟩)
        exact bodyPost_ret (v := .tuple #[.slice ua SP.length uc, .slice va k vc, .int .i64 ST]) (by simp [results, Tryz.results184, go_sem]) rfl (HDONE.out HKE.out _ (hb3.alloc hb3.size _))
    · have HKE : Hid (k = items.length) := by show _ = _; omega
      have hk1 : ¬ (k : Int) < (recs.length : Int) := by omega
      go_wp2
      exact bodyPost_ret (v := .tuple #[.slice ua SP.length uc, .slice va k vc, .int .i64 ST]) (by simp [results, Tryz.results184, go_sem]) rfl (HDONE.out HKE.out _ (Below.refl _ _))
end Go.Proofs.YtbcfiiilikkkeaaGreatDoor
