/- The call of the program's cleaning, walked. Plain facts on shelves: a formatted disk, the range of stamps, what is shipped of a shelf; no program is named here. -/
import Derived.Test.YtbcfiiilikkkeaaGreatDoorImplScans
import Derived.Test.YtbcfiiilikkkeaaGreatDoorSpecOpen
import Derived.Test.YtbcfiiilikkkeaaGreatDoorKit
import Derived.Test.YtbcfiiilikkkeaaGreatDoorMathComes2
namespace Go.Proofs.YtbcfiiilikkkeaaGreatDoor
open Go.RowKit
open Shelves (zeroS nameM nameNew textAt lastOf stray drop1 put1 upTo cleans segName)
set_option linter.unusedVariables false

/-- What cleaning holds: the disk's variable, the scan's, the raw writes. -/
structure CS (w : World) (D : Value) (sc : Array Value) (rv : Value) (rs : List Disks.RawL) (W : World) : Prop where
  box : W.heap[w.heap.size]? = some (.cells #[D] 46 (0, 0))
  scn : W.heap[w.heap.size + 1]? = some (.cells sc 213 (0, 0))
  raws : W.ownsRow w.heap.size 103 4 rv rs.length (cellsRaw rs)
  bel : Below w.heap.size w W
section
variable {w W W' : World} {D rv rv' : Value} {sc : Array Value} {rs : List Disks.RawL}
theorem CS.same (h : CS w D sc rv rs W) (hb : Below W.heap.size W W') : CS w D sc rv rs W' :=
  ⟨(hb.block _ (Array.getElem?_eq_some_iff.1 h.box).1).trans h.box, (hb.block _ (Array.getElem?_eq_some_iff.1 h.scn).1).trans h.scn, own_kept h.raws hb, h.bel.trans (hb.mono h.bel.size)⟩
theorem CS.alloc (h : CS w D sc rv rs W) (ob : Obj) : CS w D sc rv rs (W.alloc ob) := h.same ((Below.refl _ _).alloc (Nat.le_refl _) _)
theorem CS.app (h : CS w D sc rv rs W) {r : Disks.RawL} (hg : W.grownBy W' rv.ownBlock) (hown : W'.ownsRow w.heap.size 103 4 rv' (rs.length + 1) (cellsRaw rs ++ cellsRaw [r])) : CS w D sc rv' (rs ++ [r]) W' := by
  have e1 : cellsRaw (rs ++ [r]) = cellsRaw rs ++ cellsRaw [r] := by simp [cellsRaw]
  refine ⟨grown_keep' h.box hg (own_not h.raws h.box (by decide)), grown_keep' h.scn hg (own_not h.raws h.scn (by decide)), ?_, h.bel.grown hg h.bel.size (fun k e => (h.raws.lt k e).1)⟩
  rw [e1, List.length_append]; exact hown
theorem CS.cbox (h : CS w D sc rv rs W) : W.cell? ⟨w.heap.size, 0, none⟩ = some D := cell_of_row _ _ 0 _ _ _ h.box
end
theorem scan_cells {w W : World} {D rv : Value} {rs : List Disks.RawL} {n st : Int} {v1 v2 : Value} {e : Int} (h : CS w D #[.int .i64 n, v1, v2, .int .i64 st, .int .i64 e] rv rs W) :
    W.cell? ⟨w.heap.size + 1, 0, none⟩ = some (.int .i64 n) ∧ W.cell? ⟨w.heap.size + 1, 1, none⟩ = some v1 ∧ W.cell? ⟨w.heap.size + 1, 2, none⟩ = some v2 ∧ W.cell? ⟨w.heap.size + 1, 3, none⟩ = some (.int .i64 st) ∧ W.cell? ⟨w.heap.size + 1, 4, none⟩ = some (.int .i64 e) :=
  ⟨cell_of_row _ _ 0 _ _ _ h.scn, cell_of_row _ _ 1 _ _ _ h.scn, cell_of_row _ _ 2 _ _ _ h.scn, cell_of_row _ _ 3 _ _ _ h.scn, cell_of_row _ _ 4 _ _ _ h.scn⟩
set_option maxHeartbeats 8000000 in
set_option maxRecDepth 100000 in
theorem cleaning_is {a xa ta : Option Addr} {g off cap tb sg so sc xn xc tn tc : Nat} (l : List FileL) (hok : Disks.ok l) (m : ManL) (hsl : 1 ≤ m.segs.length ∧ m.segs.length ≤ 8) (n : Int) (hn : n = lastOf m) (st : Int) (e : Nat) (hle : e ≤ (textAt l n).length) (w : World) (hf : FilesAt w a g off l) (hT : Table w tb l) (hp : Pow w) (hA : IntAt w (some ⟨sg, so, none⟩) sg so m.segs) (rs : List Disks.RawL) (hrs : rs = cleans l m e) :
    Calls Tryz.prog 164 #[.map (some tb), .agg #[.slice a l.length cap], .slice (some ⟨sg, so, none⟩) m.segs.length sc, .agg #[.int .i64 n, .slice xa xn xc, .slice ta tn tc, .int .i64 st, .int .i64 (e : Int)]] w fun en w' => ∃ v, en = .returned v ∧ w'.ownsRow w.heap.size 103 4 v rs.length (cellsRaw rs) ∧ Below w.heap.size w w' := by
  have HOK : Hid (Disks.ok l) := hok
  have HF : Hid (FilesAt w a g off l) := hf
  have HT : Hid (Table w tb l) := hT
  have HP : Hid (Pow w) := hp
  have HA : Hid (IntAt w (some ⟨sg, so, none⟩) sg so m.segs) := hA
  have HN : Hid (n = lastOf m) := hn
  have HRS : Hid (rs = cleans l m e) := hrs
  have hl30 : l.length ≤ 30 := hok.1
  have HSZ : Hid (∀ f ∈ l, f.1.size ≤ 1048576 ∧ f.2.size ≤ 1048576) := fun f hf => by have := ok_sizes hok f hf; omega
  clear hok hf hT hp hA hn hrs
  obtain ⟨W1, hW1⟩ : ∃ W1, W1 = (w.alloc (Obj.cells #[Value.slice a l.length cap] 46)).alloc (Obj.cells #[.int .i64 n, .slice xa xn xc, .slice ta tn tc, .int .i64 st, .int .i64 (e : Int)] 213) := ⟨_, rfl⟩
  have HC1 : Hid (CS w (.slice a l.length cap) #[.int .i64 n, .slice xa xn xc, .slice ta tn tc, .int .i64 st, .int .i64 (e : Int)] (.slice none 0 0) [] W1) := by
    have eA : (w.alloc (Obj.cells #[Value.slice a l.length cap] 46)).heap.size = w.heap.size + 1 := by simp
    refine ⟨?_, ?_, World.ownsRow_nil _ _ _ _, ?_⟩
    · rw [hW1, Below.heap_alloc _ _ _ (by simp)]; exact heap_alloc_new w _
    · have := heap_alloc_new (w.alloc (Obj.cells #[Value.slice a l.length cap] 46)) (Obj.cells #[.int .i64 n, .slice xa xn xc, .slice ta tn tc, .int .i64 st, .int .i64 (e : Int)] 213)
      rw [eA] at this
      rw [hW1]; exact this
    · rw [hW1]; exact ((Below.refl _ _).alloc (Nat.le_refl _) _).alloc (by simp) _
  obtain ⟨A, hA⟩ : ∃ A, A = (Disks.look l nameNew).1.1 := ⟨_, rfl⟩
  obtain ⟨T, hTe⟩ : ∃ T, T = (Disks.look l nameNew).1.2 := ⟨_, rfl⟩
  obtain ⟨B, hB⟩ : ∃ B, B = (Disks.fileAt l nameNew).isSome := ⟨_, rfl⟩
  have HLK : Hid (Disks.look l nameNew = ((A, T), B)) := by
    show _ = _
    rw [hA, hTe, hB, ← (Disks.look_file l nameNew).2]
  have HBB : Hid (B = (Disks.fileAt l nameNew).isSome) := hB
  have HT1 : Hid (Table W1 tb l) := HT.out.below HC1.out.bel
  clear hA hTe hB
  obtain ⟨W2, hW2⟩ : ∃ W2, W2 = W1.alloc (Obj.cells #[.string A, .string T] 164) := ⟨_, rfl⟩
  have HC2 : Hid (CS w (.slice a l.length cap) #[.int .i64 n, .slice xa xn xc, .slice ta tn tc, .int .i64 st, .int .i64 (e : Int)] (.slice none 0 0) [] W2) := by rw [hW2]; exact HC1.out.alloc _
  rw [hW1] at HT1 hW2
  clear HC1 hW1
  have hnn : nameNew.size ≤ maxLen := by decide
  cases B with
  | false =>
    have c0 := HC2.out.cbox
    rw [hW2] at c0
    go_enter Tryz.func164, Tryz.ntmps164
    go_wp2_with (first | (at_lookup; refine wpList_look_tab _ rfl _ _ rfl tb l nameNew hnn HT1.out _ _ _ HLK.out (by rfl) (by rfl) ?_) | fail)
    rw [← hW2]
    clear hW2 c0 HT1
    have HOS := HC2
    clear HC2
    go_loopw [9, 30] (fun rv i wr => ∃ k : Nat, k ≤ l.length ∧ i = .int .i64 (k : Int) ∧ Hid (CS w (.slice a l.length cap) #[.int .i64 n, .slice xa xn xc, .slice ta tn tc, .int .i64 st, .int .i64 (e : Int)] rv ([] ++ ((l.take k).filter (stray m)).map (fun f => drop1 f.1)) wr))
      (fun _ i _ => l.length - (intOf i).toNat)
    case atStart => exact ⟨0, Nat.zero_le _, rfl, HOS⟩
    case round =>
      clear HOS
      obtain ⟨k, hk, rfl, HO⟩ := hrel
      obtain ⟨ra, rc, hrv⟩ := own_slice HO.out.raws
      subst hrv
      obtain ⟨PR, hPR⟩ : ∃ PR, PR = [] ++ ((l.take k).filter (stray m)).map (fun f => drop1 f.1) := ⟨_, rfl⟩
      have HPR : Hid (PR = [] ++ ((l.take k).filter (stray m)).map (fun f => drop1 f.1)) := hPR
      have hprl : PR.length ≤ 100 := by
        rw [hPR, List.length_append, List.length_map]
        have h1 := List.length_filter_le (stray m) (l.take k)
        rw [List.length_take] at h1
        have h2 : ([] : List Disks.RawL).length ≤ 1 := by simp
        omega
      rw [← hPR] at HO ⊢
      clear hPR
      by_cases hlt : k < l.length
      · have ea := HF.out.1 (by omega)
        subst ea
        obtain ⟨c2, c3⟩ := (HF.out.kept HO.out.bel).2 k hlt
        have hnm := (HSZ.out l[k] (List.getElem_mem _)).1
        have HSTN : Hid (stray m l[k] = (decide (0 ≤ segNum l[k].1) && !(m.segs.contains (segNum l[k].1)))) := Shelves.stray_num m l[k]
        have HNX : Hid ([] ++ ((l.take (k + 1)).filter (stray m)).map (fun f => drop1 f.1) = PR ++ (if stray m l[k] = true then [drop1 l[k].1] else [])) := by
          show _ = _
          rw [Shelves.filter_take_one hlt, HPR.out, List.append_assoc]
        obtain ⟨nm, hnme⟩ : ∃ nm, nm = l[k].1 := ⟨_, rfl⟩
        obtain ⟨tx, htx⟩ : ∃ tx, tx = l[k].2 := ⟨_, rfl⟩
        rw [← hnme] at c2 hnm HSTN HNX
        rw [← htx] at c3
        clear hnme htx
        obtain ⟨W5, hW5⟩ : ∃ W5, W5 = wr.alloc (Obj.cells #[.string nm, .string tx] 164) := ⟨_, rfl⟩
        obtain ⟨b13, hb13⟩ : ∃ b13, b13 = wr.heap.size := ⟨_, rfl⟩
        have HO5 : Hid (CS w (.slice (some ⟨g, off, none⟩) l.length cap) #[.int .i64 n, .slice xa xn xc, .slice ta tn tc, .int .i64 st, .int .i64 (e : Int)] (.slice ra PR.length rc) PR W5) := by rw [hW5]; exact HO.out.alloc _
        have HB5 : Hid (W5.heap[b13]? = some (.cells #[.string nm, .string tx] 164 (0, 0))) := by rw [hW5, hb13]; exact heap_alloc_new wr _
        have d0 : W5.cell? ⟨b13, 0, none⟩ = some (.string nm) := cell_of_row _ _ 0 _ _ _ HB5.out
        rw [hW5, hb13] at d0
        have hk0 : (0 : Int) ≤ (k : Int) := by omega
        have hk1 : (k : Int) < (l.length : Int) := by omega
        go_wp2_with fail
        rw [← hW5, ← hb13]
        clear hW5 hb13 d0 c2 c3 HO
        refine Calls.mono (implSegOf_any nm hnm W5) ?_
        rintro en w6 ⟨N, B2, rfl, hans, h6⟩
        subst h6
        rcases hans with ⟨rfl, hN0, hNe⟩ | ⟨rfl, hNe⟩
        · rw [hNe] at HSTN
          clear hNe
          obtain ⟨B3, hB3⟩ : ∃ B3, B3 = m.segs.contains N := ⟨_, rfl⟩
          have HIN : Hid (Calls Tryz.prog 209 #[.slice (some ⟨sg, so, none⟩) m.segs.length sc, .int .i64 N] W5 fun e w' => e = .returned (.bool B3) ∧ w' = W5) := by
            have h := Tryz.slices_Contains_int sg so m.segs.length sc m.segs N W5 (Nat.le_refl _) (by omega) (fun j hj => by
              have := (HA.out.kept HO5.out.bel).2 j hj
              rw [this, List.getD_eq_getElem?_getD, List.getElem?_eq_getElem hj]; rfl)
            rw [List.take_length, ← hB3] at h
            exact h
          rw [← hB3] at HSTN
          clear hB3
          cases B3 with
          | true =>
            have HNX' : Hid ([] ++ ((l.take (k + 1)).filter (stray m)).map (fun f => drop1 f.1) = PR) := by
              show _ = _
              rw [HNX.out, if_neg (by rw [HSTN.out]; simp), List.append_nil]
            clear HNX HSTN
            go_wp2_with (go_at_call 209; refine Calls.mono HIN.out ?_; rintro en w7 ⟨rfl, h7⟩; subst h7)
            go_roundw
            case rel => exact ⟨k + 1, by omega, by go_num, by rw [HNX'.out]; exact HO5⟩
            case measure => simp [intOf]; omega
          | false =>
            have HNX' : Hid ([] ++ ((l.take (k + 1)).filter (stray m)).map (fun f => drop1 f.1) = PR ++ [drop1 nm]) := by
              show _ = _
              rw [HNX.out, if_pos (by rw [HSTN.out]; simp [hN0])]
            clear HNX HSTN
            have d0 : W5.cell? ⟨b13, 0, none⟩ = some (.string nm) := cell_of_row _ _ 0 _ _ _ HB5.out
            go_wp2_with (go_at_call 209; refine Calls.mono HIN.out ?_; rintro en w7 ⟨rfl, h7⟩; subst h7)
            refine Calls.mono (clone_any nm (by omega) w7) ?_
            rintro en w8 ⟨rfl, hb8⟩
            have HO8 : Hid (CS w (.slice (some ⟨g, off, none⟩) l.length cap) #[.int .i64 n, .slice xa xn xc, .slice ta tn tc, .int .i64 st, .int .i64 (e : Int)] (.slice ra PR.length rc) PR w8) := HO5.out.same hb8
            clear hb8 HO5 HB5 d0 HIN
            have hA := rawsAt_new w8 (drop1 nm)
            have hown := (HO8.out.alloc (Obj.cells #[Value.int .i64 4, Value.string nm, Value.string ⟨#[]⟩, Value.string ⟨#[]⟩] 103)).raws
            have hbz := (HO8.out.alloc (Obj.cells #[Value.int .i64 4, Value.string nm, Value.string ⟨#[]⟩, Value.string ⟨#[]⟩] 103)).bel.size
            go_wp2_with (at_builtin; refine wpList_appendRaw rfl _ _ rfl w.heap.size _ _ _ rfl hown (some ⟨w8.heap.size, 0, none⟩) w8.heap.size 0 1 [drop1 nm] rfl hA (by simp) (by simp; omega) hbz ?_)
            intro v9 w9 hown9 hgrow9
            have HO9 : Hid (CS w (.slice (some ⟨g, off, none⟩) l.length cap) #[.int .i64 n, .slice xa xn xc, .slice ta tn tc, .int .i64 st, .int .i64 (e : Int)] v9 (PR ++ [drop1 nm]) w9) := (HO8.out.alloc _).app hgrow9 hown9
            clear hown9 hgrow9 hown hbz hA HO8
            go_wp2
            go_roundw
            case rel => exact ⟨k + 1, by omega, by go_num, by rw [HNX'.out]; exact HO9⟩
            case measure => simp [intOf]; omega
        · have HNX' : Hid ([] ++ ((l.take (k + 1)).filter (stray m)).map (fun f => drop1 f.1) = PR) := by
            show _ = _
            rw [HNX.out, if_neg (by rw [HSTN.out]; simp; omega), List.append_nil]
          clear HNX HSTN hNe
          go_wp2
          go_roundw
          case rel => exact ⟨k + 1, by omega, by go_num, by rw [HNX'.out]; exact HO5⟩
          case measure => simp [intOf]; omega
      · have hk1 : ¬ (k : Int) < (l.length : Int) := by omega
        have HPF : Hid (PR = [] ++ (l.filter (stray m)).map (fun f => drop1 f.1)) := by
          show _ = _
          rw [HPR.out, List.take_of_length_le (by omega)]
        clear HPR
        obtain ⟨t2, ht2⟩ : ∃ t2, t2 = Disks.textOf l (segName n) := ⟨_, rfl⟩
        have HTA : Hid (textAt l n = Batches.by_ t2) := by show _ = _; rw [ht2]; rfl
        have ht20 : t2.size ≤ 20000 := by have := Shelves.text_le HOK.out n; rw [HTA.out, Scan.by_len] at this; exact this
        have HTL : Hid ((textAt l n).length = t2.size) := by show _ = _; rw [HTA.out, Scan.by_len]
        obtain ⟨B4, hB4⟩ : ∃ B4, B4 = decide (e < (Disks.textOf l (segName n)).size) := ⟨_, rfl⟩
        have HMORE : Hid (Calls Tryz.prog 206 #[.map (some tb), .agg #[.int .i64 n, .slice xa xn xc, .slice ta tn tc, .int .i64 st, .int .i64 (e : Int)]] wr fun en w' => en = .returned (.bool B4) ∧ Below wr.heap.size wr w') := hasMore_is l HOK.out n xa ta xn xc tn tc st e wr (HT.out.below HO.out.bel) (HP.out.below HO.out.bel) B4 hB4
        have HT2E : Hid (t2 = Disks.textOf l (segName n)) := ht2
        rw [← ht2] at hB4
        have HB4 : Hid (B4 = decide (e < t2.size)) := hB4
        clear hB4
        have HCL : Hid (rs = PR ++ (if e < t2.size then [put1 (segName n) (t2.extract 0 e)] else [])) := by
          show _ = _
          rw [HRS.out, HPF.out]
          unfold cleans
          have e1 : upTo (textAt l (lastOf m)) e = t2.extract 0 e := by
            rw [← HN.out, HTA.out]
            refine Batches.by_inj ?_
            rw [Shelves.by_extract]; rfl
          rw [e1, ← HN.out, HTL.out, if_neg (by rw [← HBB.out]; simp), List.append_assoc]
        clear ht2
        obtain ⟨s0, s1, s2, s3, s4⟩ := scan_cells HO.out
        go_wp2_with fail
        clear s0 s1 s2 s3 s4
        refine Calls.mono HMORE.out ?_
        rintro en w6 ⟨rfl, hb6⟩
        have HO6 : Hid (CS w (.slice a l.length cap) #[.int .i64 n, .slice xa xn xc, .slice ta tn tc, .int .i64 st, .int .i64 (e : Int)] (.slice ra PR.length rc) PR w6) := HO.out.same hb6
        clear hb6 HO HMORE
        cases B4 with
        | false =>
          have HPOST : Hid (w6.ownsRow w.heap.size 103 4 (.slice ra PR.length rc) rs.length (cellsRaw rs)) := by
            have e1 : rs = PR := by rw [HCL.out, if_neg (by simpa using HB4.out), List.append_nil]
            rw [e1]; exact HO6.out.raws
          go_wp2
          go_ret
          exact ⟨_, rfl, HPOST.out, HO6.out.bel⟩
        | true =>
          have he : e < t2.size := by simpa using HB4.out
          obtain ⟨s0, _, _, _, _⟩ := scan_cells HO6.out
          go_wp2_with fail
          clear s0
          refine Calls.mono (implSeg_any n w6 (HP.out.below HO6.out.bel)) ?_
          rintro en w7 ⟨rfl, hb7⟩
          have HO7 : Hid (CS w (.slice a l.length cap) #[.int .i64 n, .slice xa xn xc, .slice ta tn tc, .int .i64 st, .int .i64 (e : Int)] (.slice ra PR.length rc) PR w7) := HO6.out.same hb7
          clear hb7 HO6
          obtain ⟨_, _, _, _, s4⟩ := scan_cells HO7.out
          obtain ⟨A3, hA3⟩ : ∃ A3, A3 = (Disks.look l (segName n)).1.1 := ⟨_, rfl⟩
          have hgt := tab_get (HT.out.below HO7.out.bel) (n := segName n) (A := A3) (T := t2) (B := (Disks.look l (segName n)).2) (Nat.le_trans (seg_size n) (by unfold maxLen; omega)) (by rw [hA3, HT2E.out, ← (Disks.look_file l (segName n)).1])
          clear hA3
          have hfl := field68 A3 t2
          have he1 : (e : Int) < (t2.size : Int) := by omega
          have hsl2 : ∀ wx, (Instr.slice 9 (.string t2) none (some (.int .i64 (e : Int))) none).run Tryz.prog wx = .ok (.string (t2.extract 0 e)) wx := fun wx => by
            have h3 : (e : Int) ≤ (t2.size : Int) := by omega
            simp [Instr.slice, h3, go_sem]
          have HCL' : Hid (rs = PR ++ [put1 (segName n) (t2.extract 0 e)]) := by show _ = _; rw [HCL.out, if_pos he]
          have ht3s : (t2.extract 0 e).size ≤ 20000 := Nat.le_trans (Shelves.extract_size t2 e) ht20
          obtain ⟨t3, ht3⟩ : ∃ t3, t3 = t2.extract 0 e := ⟨_, rfl⟩
          rw [← ht3] at HCL' hsl2 ht3s
          clear ht3 HCL he HB4
          go_wp2_with fail
          clear s4 hgt hfl hsl2
          refine Calls.mono (clone_any t3 (by omega) w7) ?_
          rintro en w8 ⟨rfl, hb8⟩
          have HO8 : Hid (CS w (.slice a l.length cap) #[.int .i64 n, .slice xa xn xc, .slice ta tn tc, .int .i64 st, .int .i64 (e : Int)] (.slice ra PR.length rc) PR w8) := HO7.out.same hb8
          clear hb8 HO7
          have hA := rawsAt_new w8 (put1 (segName n) t3)
          have hown := (HO8.out.alloc (Obj.cells #[Value.int .i64 1, Value.string (segName n), Value.string ⟨#[]⟩, Value.string t3] 103)).raws
          have hbz := (HO8.out.alloc (Obj.cells #[Value.int .i64 1, Value.string (segName n), Value.string ⟨#[]⟩, Value.string t3] 103)).bel.size
          go_wp2_with (at_builtin; refine wpList_appendRaw rfl _ _ rfl w.heap.size _ _ _ rfl hown (some ⟨w8.heap.size, 0, none⟩) w8.heap.size 0 1 [put1 (segName n) t3] rfl hA (by simp) (by simp; omega) hbz ?_)
          intro v9 w9 hown9 hgrow9
          have HO9 : Hid (CS w (.slice a l.length cap) #[.int .i64 n, .slice xa xn xc, .slice ta tn tc, .int .i64 st, .int .i64 (e : Int)] v9 rs w9) := by
            show CS _ _ _ _ _ _
            rw [HCL'.out]
            exact (HO8.out.alloc _).app hgrow9 hown9
          clear hown9 hgrow9 hown hbz hA HO8
          go_wp2
          go_ret
          exact ⟨_, rfl, HO9.out.raws, HO9.out.bel⟩
  | true =>
    have hA := rawsAt_new W2 (drop1 nameNew)
    have hown := (HC2.out.alloc (Obj.cells #[Value.int .i64 4, Value.string ⟨#[109, 43]⟩, Value.string ⟨#[]⟩, Value.string ⟨#[]⟩] 103)).raws
    have hbz := (HC2.out.alloc (Obj.cells #[Value.int .i64 4, Value.string ⟨#[109, 43]⟩, Value.string ⟨#[]⟩, Value.string ⟨#[]⟩] 103)).bel.size
    have HAP : Hid (∀ v5 w5, w5.ownsRow w.heap.size 103 4 v5 (([] : List Disks.RawL).length + 1) (cellsRaw [] ++ cellsRaw [drop1 nameNew]) → (W2.alloc (Obj.cells #[Value.int .i64 4, Value.string ⟨#[109, 43]⟩, Value.string ⟨#[]⟩, Value.string ⟨#[]⟩] 103)).grownBy w5 (Value.slice none 0 0).ownBlock → CS w (.slice a l.length cap) #[.int .i64 n, .slice xa xn xc, .slice ta tn tc, .int .i64 st, .int .i64 (e : Int)] v5 ([] ++ [drop1 nameNew]) w5) := fun v5 w5 h1 h2 => (HC2.out.alloc _).app h2 h1
    have hH2 : W2.heap.size = w.heap.size + 1 + 1 + 1 := by rw [hW2]; simp
    rw [hH2] at hA
    rw [hW2] at hA hown hbz HAP
    clear HC2
    go_enter Tryz.func164, Tryz.ntmps164
    go_wp2_with (first | (at_lookup; refine wpList_look_tab _ rfl _ _ rfl tb l nameNew hnn HT1.out _ _ _ HLK.out (by rfl) (by rfl) ?_) | (at_builtin; refine wpList_appendRaw rfl _ _ rfl w.heap.size _ _ _ rfl hown (some ⟨w.heap.size + 1 + 1 + 1, 0, none⟩) (w.heap.size + 1 + 1 + 1) 0 1 [drop1 nameNew] rfl hA (by simp) (by simp) hbz ?_) | fail)
    intro v5 w5 hown5 hgrow5
    have HOS : Hid (CS w (.slice a l.length cap) #[.int .i64 n, .slice xa xn xc, .slice ta tn tc, .int .i64 st, .int .i64 (e : Int)] v5 [drop1 nameNew] w5) := HAP.out v5 w5 hown5 hgrow5
    clear hown5 hgrow5 hown hbz hA HAP HT1 hW2 hH2
    have c0 := HOS.out.cbox
    go_wp2_with fail
    clear c0
    go_loopw [9, 30] (fun rv i wr => ∃ k : Nat, k ≤ l.length ∧ i = .int .i64 (k : Int) ∧ Hid (CS w (.slice a l.length cap) #[.int .i64 n, .slice xa xn xc, .slice ta tn tc, .int .i64 st, .int .i64 (e : Int)] rv ([drop1 nameNew] ++ ((l.take k).filter (stray m)).map (fun f => drop1 f.1)) wr))
      (fun _ i _ => l.length - (intOf i).toNat)
    case atStart => exact ⟨0, Nat.zero_le _, rfl, HOS⟩
    case round =>
      clear HOS
      obtain ⟨k, hk, rfl, HO⟩ := hrel
      obtain ⟨ra, rc, hrv⟩ := own_slice HO.out.raws
      subst hrv
      obtain ⟨PR, hPR⟩ : ∃ PR, PR = [drop1 nameNew] ++ ((l.take k).filter (stray m)).map (fun f => drop1 f.1) := ⟨_, rfl⟩
      have HPR : Hid (PR = [drop1 nameNew] ++ ((l.take k).filter (stray m)).map (fun f => drop1 f.1)) := hPR
      have hprl : PR.length ≤ 100 := by
        rw [hPR, List.length_append, List.length_map]
        have h1 := List.length_filter_le (stray m) (l.take k)
        rw [List.length_take] at h1
        have h2 : ([drop1 nameNew] : List Disks.RawL).length ≤ 1 := by simp
        omega
      rw [← hPR] at HO ⊢
      clear hPR
      by_cases hlt : k < l.length
      · have ea := HF.out.1 (by omega)
        subst ea
        obtain ⟨c2, c3⟩ := (HF.out.kept HO.out.bel).2 k hlt
        have hnm := (HSZ.out l[k] (List.getElem_mem _)).1
        have HSTN : Hid (stray m l[k] = (decide (0 ≤ segNum l[k].1) && !(m.segs.contains (segNum l[k].1)))) := Shelves.stray_num m l[k]
        have HNX : Hid ([drop1 nameNew] ++ ((l.take (k + 1)).filter (stray m)).map (fun f => drop1 f.1) = PR ++ (if stray m l[k] = true then [drop1 l[k].1] else [])) := by
          show _ = _
          rw [Shelves.filter_take_one hlt, HPR.out, List.append_assoc]
        obtain ⟨nm, hnme⟩ : ∃ nm, nm = l[k].1 := ⟨_, rfl⟩
        obtain ⟨tx, htx⟩ : ∃ tx, tx = l[k].2 := ⟨_, rfl⟩
        rw [← hnme] at c2 hnm HSTN HNX
        rw [← htx] at c3
        clear hnme htx
        obtain ⟨W5, hW5⟩ : ∃ W5, W5 = wr.alloc (Obj.cells #[.string nm, .string tx] 164) := ⟨_, rfl⟩
        obtain ⟨b13, hb13⟩ : ∃ b13, b13 = wr.heap.size := ⟨_, rfl⟩
        have HO5 : Hid (CS w (.slice (some ⟨g, off, none⟩) l.length cap) #[.int .i64 n, .slice xa xn xc, .slice ta tn tc, .int .i64 st, .int .i64 (e : Int)] (.slice ra PR.length rc) PR W5) := by rw [hW5]; exact HO.out.alloc _
        have HB5 : Hid (W5.heap[b13]? = some (.cells #[.string nm, .string tx] 164 (0, 0))) := by rw [hW5, hb13]; exact heap_alloc_new wr _
        have d0 : W5.cell? ⟨b13, 0, none⟩ = some (.string nm) := cell_of_row _ _ 0 _ _ _ HB5.out
        rw [hW5, hb13] at d0
        have hk0 : (0 : Int) ≤ (k : Int) := by omega
        have hk1 : (k : Int) < (l.length : Int) := by omega
        go_wp2_with fail
        rw [← hW5, ← hb13]
        clear hW5 hb13 d0 c2 c3 HO
        refine Calls.mono (implSegOf_any nm hnm W5) ?_
        rintro en w6 ⟨N, B2, rfl, hans, h6⟩
        subst h6
        rcases hans with ⟨rfl, hN0, hNe⟩ | ⟨rfl, hNe⟩
        · rw [hNe] at HSTN
          clear hNe
          obtain ⟨B3, hB3⟩ : ∃ B3, B3 = m.segs.contains N := ⟨_, rfl⟩
          have HIN : Hid (Calls Tryz.prog 209 #[.slice (some ⟨sg, so, none⟩) m.segs.length sc, .int .i64 N] W5 fun e w' => e = .returned (.bool B3) ∧ w' = W5) := by
            have h := Tryz.slices_Contains_int sg so m.segs.length sc m.segs N W5 (Nat.le_refl _) (by omega) (fun j hj => by
              have := (HA.out.kept HO5.out.bel).2 j hj
              rw [this, List.getD_eq_getElem?_getD, List.getElem?_eq_getElem hj]; rfl)
            rw [List.take_length, ← hB3] at h
            exact h
          rw [← hB3] at HSTN
          clear hB3
          cases B3 with
          | true =>
            have HNX' : Hid ([drop1 nameNew] ++ ((l.take (k + 1)).filter (stray m)).map (fun f => drop1 f.1) = PR) := by
              show _ = _
              rw [HNX.out, if_neg (by rw [HSTN.out]; simp), List.append_nil]
            clear HNX HSTN
            go_wp2_with (go_at_call 209; refine Calls.mono HIN.out ?_; rintro en w7 ⟨rfl, h7⟩; subst h7)
            go_roundw
            case rel => exact ⟨k + 1, by omega, by go_num, by rw [HNX'.out]; exact HO5⟩
            case measure => simp [intOf]; omega
          | false =>
            have HNX' : Hid ([drop1 nameNew] ++ ((l.take (k + 1)).filter (stray m)).map (fun f => drop1 f.1) = PR ++ [drop1 nm]) := by
              show _ = _
              rw [HNX.out, if_pos (by rw [HSTN.out]; simp [hN0])]
            clear HNX HSTN
            have d0 : W5.cell? ⟨b13, 0, none⟩ = some (.string nm) := cell_of_row _ _ 0 _ _ _ HB5.out
            go_wp2_with (go_at_call 209; refine Calls.mono HIN.out ?_; rintro en w7 ⟨rfl, h7⟩; subst h7)
            refine Calls.mono (clone_any nm (by omega) w7) ?_
            rintro en w8 ⟨rfl, hb8⟩
            have HO8 : Hid (CS w (.slice (some ⟨g, off, none⟩) l.length cap) #[.int .i64 n, .slice xa xn xc, .slice ta tn tc, .int .i64 st, .int .i64 (e : Int)] (.slice ra PR.length rc) PR w8) := HO5.out.same hb8
            clear hb8 HO5 HB5 d0 HIN
            have hA := rawsAt_new w8 (drop1 nm)
            have hown := (HO8.out.alloc (Obj.cells #[Value.int .i64 4, Value.string nm, Value.string ⟨#[]⟩, Value.string ⟨#[]⟩] 103)).raws
            have hbz := (HO8.out.alloc (Obj.cells #[Value.int .i64 4, Value.string nm, Value.string ⟨#[]⟩, Value.string ⟨#[]⟩] 103)).bel.size
            go_wp2_with (at_builtin; refine wpList_appendRaw rfl _ _ rfl w.heap.size _ _ _ rfl hown (some ⟨w8.heap.size, 0, none⟩) w8.heap.size 0 1 [drop1 nm] rfl hA (by simp) (by simp; omega) hbz ?_)
            intro v9 w9 hown9 hgrow9
            have HO9 : Hid (CS w (.slice (some ⟨g, off, none⟩) l.length cap) #[.int .i64 n, .slice xa xn xc, .slice ta tn tc, .int .i64 st, .int .i64 (e : Int)] v9 (PR ++ [drop1 nm]) w9) := (HO8.out.alloc _).app hgrow9 hown9
            clear hown9 hgrow9 hown hbz hA HO8
            go_wp2
            go_roundw
            case rel => exact ⟨k + 1, by omega, by go_num, by rw [HNX'.out]; exact HO9⟩
            case measure => simp [intOf]; omega
        · have HNX' : Hid ([drop1 nameNew] ++ ((l.take (k + 1)).filter (stray m)).map (fun f => drop1 f.1) = PR) := by
            show _ = _
            rw [HNX.out, if_neg (by rw [HSTN.out]; simp; omega), List.append_nil]
          clear HNX HSTN hNe
          go_wp2
          go_roundw
          case rel => exact ⟨k + 1, by omega, by go_num, by rw [HNX'.out]; exact HO5⟩
          case measure => simp [intOf]; omega
      · have hk1 : ¬ (k : Int) < (l.length : Int) := by omega
        have HPF : Hid (PR = [drop1 nameNew] ++ (l.filter (stray m)).map (fun f => drop1 f.1)) := by
          show _ = _
          rw [HPR.out, List.take_of_length_le (by omega)]
        clear HPR
        obtain ⟨t2, ht2⟩ : ∃ t2, t2 = Disks.textOf l (segName n) := ⟨_, rfl⟩
        have HTA : Hid (textAt l n = Batches.by_ t2) := by show _ = _; rw [ht2]; rfl
        have ht20 : t2.size ≤ 20000 := by have := Shelves.text_le HOK.out n; rw [HTA.out, Scan.by_len] at this; exact this
        have HTL : Hid ((textAt l n).length = t2.size) := by show _ = _; rw [HTA.out, Scan.by_len]
        obtain ⟨B4, hB4⟩ : ∃ B4, B4 = decide (e < (Disks.textOf l (segName n)).size) := ⟨_, rfl⟩
        have HMORE : Hid (Calls Tryz.prog 206 #[.map (some tb), .agg #[.int .i64 n, .slice xa xn xc, .slice ta tn tc, .int .i64 st, .int .i64 (e : Int)]] wr fun en w' => en = .returned (.bool B4) ∧ Below wr.heap.size wr w') := hasMore_is l HOK.out n xa ta xn xc tn tc st e wr (HT.out.below HO.out.bel) (HP.out.below HO.out.bel) B4 hB4
        have HT2E : Hid (t2 = Disks.textOf l (segName n)) := ht2
        rw [← ht2] at hB4
        have HB4 : Hid (B4 = decide (e < t2.size)) := hB4
        clear hB4
        have HCL : Hid (rs = PR ++ (if e < t2.size then [put1 (segName n) (t2.extract 0 e)] else [])) := by
          show _ = _
          rw [HRS.out, HPF.out]
          unfold cleans
          have e1 : upTo (textAt l (lastOf m)) e = t2.extract 0 e := by
            rw [← HN.out, HTA.out]
            refine Batches.by_inj ?_
            rw [Shelves.by_extract]; rfl
          rw [e1, ← HN.out, HTL.out, if_pos HBB.out.symm, List.append_assoc]
        clear ht2
        obtain ⟨s0, s1, s2, s3, s4⟩ := scan_cells HO.out
        go_wp2_with fail
        clear s0 s1 s2 s3 s4
        refine Calls.mono HMORE.out ?_
        rintro en w6 ⟨rfl, hb6⟩
        have HO6 : Hid (CS w (.slice a l.length cap) #[.int .i64 n, .slice xa xn xc, .slice ta tn tc, .int .i64 st, .int .i64 (e : Int)] (.slice ra PR.length rc) PR w6) := HO.out.same hb6
        clear hb6 HO HMORE
        cases B4 with
        | false =>
          have HPOST : Hid (w6.ownsRow w.heap.size 103 4 (.slice ra PR.length rc) rs.length (cellsRaw rs)) := by
            have e1 : rs = PR := by rw [HCL.out, if_neg (by simpa using HB4.out), List.append_nil]
            rw [e1]; exact HO6.out.raws
          go_wp2
          go_ret
          exact ⟨_, rfl, HPOST.out, HO6.out.bel⟩
        | true =>
          have he : e < t2.size := by simpa using HB4.out
          obtain ⟨s0, _, _, _, _⟩ := scan_cells HO6.out
          go_wp2_with fail
          clear s0
          refine Calls.mono (implSeg_any n w6 (HP.out.below HO6.out.bel)) ?_
          rintro en w7 ⟨rfl, hb7⟩
          have HO7 : Hid (CS w (.slice a l.length cap) #[.int .i64 n, .slice xa xn xc, .slice ta tn tc, .int .i64 st, .int .i64 (e : Int)] (.slice ra PR.length rc) PR w7) := HO6.out.same hb7
          clear hb7 HO6
          obtain ⟨_, _, _, _, s4⟩ := scan_cells HO7.out
          obtain ⟨A3, hA3⟩ : ∃ A3, A3 = (Disks.look l (segName n)).1.1 := ⟨_, rfl⟩
          have hgt := tab_get (HT.out.below HO7.out.bel) (n := segName n) (A := A3) (T := t2) (B := (Disks.look l (segName n)).2) (Nat.le_trans (seg_size n) (by unfold maxLen; omega)) (by rw [hA3, HT2E.out, ← (Disks.look_file l (segName n)).1])
          clear hA3
          have hfl := field68 A3 t2
          have he1 : (e : Int) < (t2.size : Int) := by omega
          have hsl2 : ∀ wx, (Instr.slice 9 (.string t2) none (some (.int .i64 (e : Int))) none).run Tryz.prog wx = .ok (.string (t2.extract 0 e)) wx := fun wx => by
            have h3 : (e : Int) ≤ (t2.size : Int) := by omega
            simp [Instr.slice, h3, go_sem]
          have HCL' : Hid (rs = PR ++ [put1 (segName n) (t2.extract 0 e)]) := by show _ = _; rw [HCL.out, if_pos he]
          have ht3s : (t2.extract 0 e).size ≤ 20000 := Nat.le_trans (Shelves.extract_size t2 e) ht20
          obtain ⟨t3, ht3⟩ : ∃ t3, t3 = t2.extract 0 e := ⟨_, rfl⟩
          rw [← ht3] at HCL' hsl2 ht3s
          clear ht3 HCL he HB4
          go_wp2_with fail
          clear s4 hgt hfl hsl2
          refine Calls.mono (clone_any t3 (by omega) w7) ?_
          rintro en w8 ⟨rfl, hb8⟩
          have HO8 : Hid (CS w (.slice a l.length cap) #[.int .i64 n, .slice xa xn xc, .slice ta tn tc, .int .i64 st, .int .i64 (e : Int)] (.slice ra PR.length rc) PR w8) := HO7.out.same hb8
          clear hb8 HO7
          have hA := rawsAt_new w8 (put1 (segName n) t3)
          have hown := (HO8.out.alloc (Obj.cells #[Value.int .i64 1, Value.string (segName n), Value.string ⟨#[]⟩, Value.string t3] 103)).raws
          have hbz := (HO8.out.alloc (Obj.cells #[Value.int .i64 1, Value.string (segName n), Value.string ⟨#[]⟩, Value.string t3] 103)).bel.size
          go_wp2_with (at_builtin; refine wpList_appendRaw rfl _ _ rfl w.heap.size _ _ _ rfl hown (some ⟨w8.heap.size, 0, none⟩) w8.heap.size 0 1 [put1 (segName n) t3] rfl hA (by simp) (by simp; omega) hbz ?_)
          intro v9 w9 hown9 hgrow9
          have HO9 : Hid (CS w (.slice a l.length cap) #[.int .i64 n, .slice xa xn xc, .slice ta tn tc, .int .i64 st, .int .i64 (e : Int)] v9 rs w9) := by
            show CS _ _ _ _ _ _
            rw [HCL'.out]
            exact (HO8.out.alloc _).app hgrow9 hown9
          clear hown9 hgrow9 hown hbz hA HO8
          go_wp2
          go_ret
          exact ⟨_, rfl, HO9.out.raws, HO9.out.bel⟩
end Go.Proofs.YtbcfiiilikkkeaaGreatDoor
namespace Go.Proofs.YtbcfiiilikkkeaaGreatDoor
set_option linter.unusedVariables false
namespace Shelves
open Go
open Batches (by_ by_inj lt)
open Scan (segEnd segSpots segStamp Full by_len)
open Disks (fileAt textOf RawL nameIs)
theorem sealed_len (l : List UInt8) : (Mans.sealed l).length = l.length + 4 := by
  unfold Mans.sealed
  rw [List.length_append, Sums.four_len]
end Shelves
end Go.Proofs.YtbcfiiilikkkeaaGreatDoor
