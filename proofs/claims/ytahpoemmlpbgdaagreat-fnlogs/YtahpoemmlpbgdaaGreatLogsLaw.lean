/- The law of logs, walked. -/
import Derived.Test.YtahpoemmlpbgdaaGreatLogsA
namespace Go.Proofs.YtahpoemmlpbgdaaGreat
open Go.RowKit
open Logs (okL)
set_option linter.unusedVariables false
set_option linter.unusedSimpArgs false

theorem step_storeD {w : World} {ops : Array Oper} {o : Oper} {act : Act} {K : Act → World → Prop} {Q : Exit → Act → World → Prop} {E : Prop} (hgd : o.guard = none) (x y : Operand) (ho : o.op = .store 41 x y) (g : Nat) (A C : Array Value) (hx : act.eval x = .pointer (some ⟨g, 0, none⟩)) (hy : act.eval y = .agg A) (hg : w.heap[g]? = some (.cells C 41 (0, 0))) (hs : A.size = 1) (hc : C.size = 1) (h1 : ∀ v ∈ A.toList, v.oneCell' = true)
    (h : K (act.put o.dst undef) (w.setRow g A)) : if Region.wanted o (yielded ops act.tmps) = true then Oper.wp Tryz.prog o act w K Q else E := by
  have hw : Region.wanted o (yielded ops act.tmps) = true := by simp [Region.wanted, hgd]
  rw [if_pos hw]
  have hrun := run_store_agg (P := Tryz.prog) Tryz.sizeOf41 hg hs hc h1
  unfold Oper.wp
  simp [execOp, ho, hx, hy, hrun, Result.andThen]
  exact h
set_option maxHeartbeats 8000000 in
set_option maxRecDepth 100000 in
theorem lawLogs_any {cap len b off : Nat} {a : Option Addr} {z : Nat → Int} (w : World) (hc : Code w.heap.size w a len b off z) :
    Calls Tryz.prog 3 #[.slice a len cap] w fun en w' => en = .returned (.bool true) ∧ Below w.heap.size w w' := by
  have hl : len ≤ 1048576 := hc.2.1
  have HC : Hid (Calls Tryz.prog 5 #[.slice a len cap] w (LogsPost w)) := logs_any w (Nat.le_refl _) hc
  have HCD : Hid (Code w.heap.size w a len b off z) := hc
  clear hc
  go_enter Tryz.func3, Tryz.ntmps3
  go_wp2_with fail
  refine (big_no a len cap hl _).mono ?_
  rintro e w0 ⟨rfl, rfl⟩
  go_wp2_with fail
  refine Calls.mono HC.out ?_
  rintro e w1 ⟨F, R, old, now, v, u, rfl, hFT, hO, hN, ho, hu, hb1⟩
  obtain ⟨va, vc, rfl⟩ := own_slice ho
  obtain ⟨ua, uc, rfl⟩ := own_slice hu
  have okO : okL old = true := drawn_ok (S := 0) hO.1.1 (by omega) hO.2.1.1 (by omega) (by omega) hO.2.2.2
  have okN : okL now = true := drawn_ok (S := 0) hN.1.1 (by omega) hN.2.1.1 (by omega) (by omega) hN.2.2.2
  obtain ⟨rfl, rfl⟩ : F = fileB old ∧ R = true := by
    rw [fileTuple_yes okO] at hFT
    simp at hFT
    exact ⟨hFT.1.symm, hFT.2⟩
  obtain ⟨lb, hlb⟩ : ∃ lb, lb = w1.heap.size := ⟨_, rfl⟩
  obtain ⟨W2, hW2⟩ : ∃ W2, W2 = (w1.alloc (Obj.cells #[.int .i64 old.start, .int .i64 old.sterm, .slice va old.ents.length vc] 26)).alloc (Obj.cells #[.int .i64 now.start, .int .i64 now.sterm, .slice ua now.ents.length uc] 26) := ⟨_, rfl⟩
  obtain ⟨gl, hel⟩ := en_of ho
  obtain ⟨gm, hem⟩ := en_of hu
  have hcv := cap_of ho
  have hcu := cap_of hu
  have hFS : FS w lb old now va ua gl gm vc uc W2 := by
    have hb2 : Below w1.heap.size w1 W2 := by rw [hW2]; exact ((Below.refl _ _).alloc (Nat.le_refl _) _).alloc (by simp) _
    refine ⟨?_, ?_, hel.kept hb2, hem.kept hb2, hb1.trans (hb2.mono hb1.size)⟩
    · rw [hW2, hlb]; exact two_0 w1 _ _
    · rw [hW2, hlb]; exact two_1 w1 _ _
  have HF2 : Hid (FS w lb old now va ua gl gm vc uc W2) := hFS
  have HXL2 : Hid (((w1.alloc (Obj.cells #[.int .i64 old.start, .int .i64 old.sterm, .slice va old.ents.length vc] 26)).alloc (Obj.cells #[.int .i64 now.start, .int .i64 now.sterm, .slice ua now.ents.length uc] 26)).heap[lb]? = some (.cells #[.int .i64 old.start, .int .i64 old.sterm, .slice va old.ents.length vc] 26 (0, 0))) := by rw [← hW2]; exact hFS.xl
  have hdO : ∀ e ∈ old.ents, e.data.size ≤ 1048576 := fun e he => by have := hO.2.2.2.da e he; omega
  have hdN : ∀ e ∈ now.ents, e.data.size ≤ 1048576 := fun e he => by have := hN.2.2.2.da e he; omega
  have nO := hO.2.2.1
  have nN := hN.2.2.1
  have sO := hO.1
  have sN := hN.1
  obtain ⟨F, hF⟩ : ∃ F, F = fileB old := ⟨_, rfl⟩
  have hFz : F.size ≤ 20000 := by rw [hF]; exact (tells_file okO).1
  have HQ1 : Hid (∀ X, EnAt X va gl 0 old.ents → Calls Tryz.prog 6 #[.agg #[.int .i64 old.start, .int .i64 old.sterm, .slice va old.ents.length vc]] X fun en w' => en = .returned (.tuple #[.string F, .bool true]) ∧ Below X.heap.size X w') := fun X h => by
    have := implFile_is (cap := vc) old (by omega) hcv hdO X h
    rw [fileTuple_yes okO, ← hF] at this
    exact this
  have HQ2 : Hid (∀ X, Calls Tryz.prog 7 #[.string F] X (RLPost X old F.size true)) := fun X => by rw [hF]; exact read_file okO X
  have HQ3 : Hid (∀ X a' g', EnAt X va gl 0 old.ents → EnAt X a' g' 0 old.ents → ∀ c', Calls Tryz.prog 8 #[.agg #[.int .i64 old.start, .int .i64 old.sterm, .slice a' old.ents.length c'], .agg #[.int .i64 old.start, .int .i64 old.sterm, .slice va old.ents.length vc]] X fun e w' => e = .returned (.bool true) ∧ Below X.heap.size X w') := fun X a' g' h1 h2 c' => lawSame_is old (by omega) X h2 h1
  have HQ4 : Hid (∀ X a' g', EnAt X ua gm 0 now.ents → EnAt X a' g' 0 now.ents → ∀ c', Calls Tryz.prog 8 #[.agg #[.int .i64 now.start, .int .i64 now.sterm, .slice a' now.ents.length c'], .agg #[.int .i64 now.start, .int .i64 now.sterm, .slice ua now.ents.length uc]] X fun e w' => e = .returned (.bool true) ∧ Below X.heap.size X w') := fun X a' g' h1 h2 c' => lawSame_is now (by omega) X h2 h1
  obtain ⟨k, hk⟩ := sameN_ex old.ents now.ents
  obtain ⟨L, hL⟩ : ∃ L : List RawL, (old = now ∧ L = []) ∨ (old ≠ now ∧ ((Behind F old now k ∧ L = [⟨2, nameLog, ⟨#[]⟩, moreB now k⟩]) ∨ (¬ Behind F old now k ∧ L = [⟨1, nameNew, ⟨#[]⟩, fileB now⟩, ⟨3, nameNew, nameLog, ⟨#[]⟩⟩]))) := by
    by_cases h1 : old = now
    · exact ⟨_, Or.inl ⟨h1, rfl⟩⟩
    · by_cases h2 : Behind F old now k
      · exact ⟨_, Or.inr ⟨h1, Or.inl ⟨h2, rfl⟩⟩⟩
      · exact ⟨_, Or.inr ⟨h1, Or.inr ⟨h2, rfl⟩⟩⟩
  have hst : StepsIs F old now old F.size true k L true := Or.inr ⟨⟨okN, rfl, rfl, rfl⟩, rfl, hL⟩
  have HQ5 : Hid (∀ X, EnAt X va gl 0 old.ents → EnAt X ua gm 0 now.ents → Calls Tryz.prog 9 #[.string F, .agg #[.int .i64 old.start, .int .i64 old.sterm, .slice va old.ents.length vc], .agg #[.int .i64 now.start, .int .i64 now.sterm, .slice ua now.ents.length uc]] X (StepsPost X L true)) := fun X h1 h2 =>
    implSteps_is F (by omega) old now old F.size true HQ2.out (by omega) (by omega) (by omega) hcu hdN k hk L true hst X h1 h2
  have HQ6 : Hid (∀ X, EnAt X va gl 0 old.ents → EnAt X ua gm 0 now.ents → Calls Tryz.prog 10 #[.string F, .agg #[.int .i64 old.start, .int .i64 old.sterm, .slice va old.ents.length vc], .agg #[.int .i64 now.start, .int .i64 now.sterm, .slice ua now.ents.length uc]] X (StepsPost X L true)) := fun X h1 h2 =>
    specSteps_is F (by omega) old now old F.size true (fun W => by rw [hF]; exact specRead_file okO W) (fun _ => okO) (by omega) (by omega) (by omega) hdO hdN k hk L true hst X h1 h2
  obtain ⟨dd, T, hrun, hfis, htells⟩ := steps_done hF okO okN hk hL
  have hcut := fun wh pt h1 h2 => steps_cut (L := L) hF okO okN hk hL wh pt h1 h2
  have HCUT : Hid (∀ wh pt : Nat, wh ≤ L.length → pt ≤ Disks.room L wh → ∃ d T x, Disks.cutAll [(nameLog, F)] L (wh : Int) (pt : Int) = some d ∧ Disks.FileIs d nameLog (some T) ∧ Tells T x ∧ Mid old now x) := hcut
  have HRUN : Hid (Disks.run [(nameLog, F)] L = (dd, L.length) ∧ Disks.FileIs dd nameLog (some T) ∧ Tells T now) := ⟨hrun, hfis, htells⟩
  have HLS : Hid (L.length ≤ 2 ∧ (∀ r ∈ L, smallRaw 1048576 r) ∧ ∀ r ∈ L, 1 ≤ r.kind ∧ r.kind ≤ 4) := by
    have h1 := more_len okN k hk.2.1
    have h2 := (tells_file okN).1
    have z1 := sz_l
    have z2 := sz_n
    have z3 : (⟨#[]⟩ : ByteArray).size = 0 := rfl
    rcases hL with ⟨_, rfl⟩ | ⟨_, ⟨_, rfl⟩ | ⟨_, rfl⟩⟩
    · exact ⟨by simp, fun r hr => by simp at hr, fun r hr => by simp at hr⟩
    · refine ⟨by simp, fun r hr => ?_, fun r hr => ?_⟩
      · simp at hr; subst hr; exact ⟨by show nameLog.size ≤ _; omega, by show (⟨#[]⟩ : ByteArray).size ≤ _; omega, by show (moreB now k).size ≤ _; omega⟩
      · simp at hr; subst hr; exact ⟨by show (1 : Int) ≤ 2; decide, by show (2 : Int) ≤ 4; decide⟩
    · refine ⟨by simp, fun r hr => ?_, fun r hr => ?_⟩
      · simp at hr
        rcases hr with rfl | rfl
        · exact ⟨by show nameNew.size ≤ _; omega, by show (⟨#[]⟩ : ByteArray).size ≤ _; omega, by show (fileB now).size ≤ _; omega⟩
        · exact ⟨by show nameNew.size ≤ _; omega, by show nameLog.size ≤ _; omega, by show (⟨#[]⟩ : ByteArray).size ≤ _; omega⟩
      · simp at hr
        rcases hr with rfl | rfl
        · exact ⟨by show (1 : Int) ≤ 1; decide, by show (1 : Int) ≤ 4; decide⟩
        · exact ⟨by show (1 : Int) ≤ 3; decide, by show (3 : Int) ≤ 4; decide⟩
  have HOK : Hid (okL old = true ∧ okL now = true) := ⟨okO, okN⟩
  have HDD : Hid ((∀ e ∈ old.ents, e.data.size ≤ 1048576) ∧ (∀ e ∈ now.ents, e.data.size ≤ 1048576)) := ⟨hdO, hdN⟩
  rw [← hF]
  clear ho hu hb1 hel hem hFS hFT hO hN HC okO okN hdO hdN hk hL hst hcut hrun hfis htells hF
  go_wp2_with (first | (refine wpList_loadA Tryz.isAgg26 Tryz.sizeOf26 rfl _ rfl lb #[.int .i64 old.start, .int .i64 old.sterm, .slice va old.ents.length vc] 26 rfl HXL2.out rfl ?_) | fail)
  rw [← hW2, ← hlb]
  clear hW2 hlb HXL2
  refine Calls.mono (HQ1.out _ HF2.out.el) ?_
  rintro e w3 ⟨rfl, hb3⟩
  have HF3 : Hid (FS w lb old now va ua gl gm vc uc w3) := HF2.out.same hb3
  clear hb3 HF2 HQ1
  go_wp2_with fail
  refine Calls.mono (HQ2.out _) ?_
  rintro e w4 ⟨ba, bc, rfl, ho4, hb4⟩
  obtain ⟨gb, heb⟩ := en_of ho4
  obtain ⟨bb, hbb⟩ : ∃ bb, bb = w4.heap.size := ⟨_, rfl⟩
  obtain ⟨W5, hW5⟩ : ∃ W5, W5 = w4.alloc (Obj.cells #[.int .i64 old.start, .int .i64 old.sterm, .slice ba old.ents.length bc] 26) := ⟨_, rfl⟩
  have hb5 : Below w4.heap.size w4 W5 := by rw [hW5]; exact (Below.refl _ _).alloc (Nat.le_refl _) _
  have HF5 : Hid (FS w lb old now va ua gl gm vc uc W5) := (HF3.out.same hb4).same hb5
  have HE5 : Hid (EnAt W5 ba gb 0 old.ents) := heb.kept hb5
  have HX5 : Hid (W5.heap[bb]? = some (.cells #[.int .i64 old.start, .int .i64 old.sterm, .slice ba old.ents.length bc] 26 (0, 0))) := by show _ = _; rw [hW5, hbb]; exact heap_alloc_new w4 _
  have x0 := cell_of_row _ _ 0 _ _ _ HF5.out.xl
  have x1 := cell_of_row _ _ 1 _ _ _ HF5.out.xl
  have x2 := cell_of_row _ _ 2 _ _ _ HF5.out.xl
  have y0 := cell_of_row _ _ 0 _ _ _ HX5.out
  have y1 := cell_of_row _ _ 1 _ _ _ HX5.out
  have y2 := cell_of_row _ _ 2 _ _ _ HX5.out
  simp at x0 x1 x2 y0 y1 y2
  rw [hW5] at x0 x1 x2 y0 y1 y2
  rw [hbb] at y0 y1 y2
  unfold logV
  clear ho4 hb4 heb hb5 HF3 HX5
  go_wp2_with fail
  rw [← hW5]
  rw [← hbb]
  clear x0 x1 x2 y0 y1 y2 hW5 hbb
  refine Calls.mono (HQ3.out _ _ _ HF5.out.el HE5.out _) ?_
  rintro e w6 ⟨rfl, hb6⟩
  have HF6 : Hid (FS w lb old now va ua gl gm vc uc w6) := HF5.out.same hb6
  clear hb6 HF5 HE5 HQ3
  go_wp2_with (first | (refine wpList_loadA Tryz.isAgg26 Tryz.sizeOf26 rfl _ rfl lb #[.int .i64 old.start, .int .i64 old.sterm, .slice va old.ents.length vc] 26 rfl HF6.out.xl rfl ?_) | (refine wpList_loadA Tryz.isAgg26 Tryz.sizeOf26 rfl _ rfl (lb + 1) #[.int .i64 now.start, .int .i64 now.sterm, .slice ua now.ents.length uc] 26 rfl HF6.out.xm rfl ?_) | fail)
  refine Calls.mono (HQ5.out _ HF6.out.el HF6.out.em) ?_
  rintro e w7 ⟨rv, rfl, ho7, hb7⟩
  obtain ⟨ra, rg, rc, hrv, hrw⟩ := raws_of ho7
  subst hrv
  have HRC : Hid (L.length ≤ rc ∧ rc ≤ 9223372036854775807 ∧ (ra = none → rc = 0)) := own_cap ho7
  have HF7 : Hid (FS w lb old now va ua gl gm vc uc w7) := HF6.out.same hb7
  have HR7 : Hid (RawsAt w7 ra rg 0 L) := hrw
  clear ho7 hb7 hrw HF6 HQ5
  go_wp2_with (first | (refine wpList_loadA Tryz.isAgg26 Tryz.sizeOf26 rfl _ rfl lb #[.int .i64 old.start, .int .i64 old.sterm, .slice va old.ents.length vc] 26 rfl HF7.out.xl rfl ?_) | (refine wpList_loadA Tryz.isAgg26 Tryz.sizeOf26 rfl _ rfl (lb + 1) #[.int .i64 now.start, .int .i64 now.sterm, .slice ua now.ents.length uc] 26 rfl HF7.out.xm rfl ?_) | fail)
  refine Calls.mono (HQ6.out _ HF7.out.el HF7.out.em) ?_
  rintro e w8 ⟨sv, rfl, ho8, hb8⟩
  have HF8 : Hid (FS w lb old now va ua gl gm vc uc w8) := HF7.out.same hb8
  have HR8 : Hid (RawsAt w8 ra rg 0 L) := HR7.out.kept hb8
  clear ho8 hb8 HF7 HR7 HQ6
  obtain ⟨dg, hdg⟩ : ∃ dg, dg = w8.heap.size := ⟨_, rfl⟩
  obtain ⟨db, hdb⟩ : ∃ db, db = w8.heap.size + 1 := ⟨_, rfl⟩
  obtain ⟨W9, hW9⟩ : ∃ W9, W9 = (w8.alloc (Obj.cells #[.string nameLog, .string F] 38)).alloc (Obj.cells #[.slice (some ⟨dg, 0, none⟩) 1 1] 41) := ⟨_, rfl⟩
  have hb9 : Below w8.heap.size w8 W9 := by rw [hW9]; exact ((Below.refl _ _).alloc (Nat.le_refl _) _).alloc (by simp) _
  have HG9 : Hid (GS w lb old now va ua gl gm vc uc L ra rg F dg db W9) := by
    refine ⟨HF8.out.same hb9, HR8.out.kept hb9, ⟨fun _ => rfl, fun j hj => ?_⟩, by rw [hW9, hdb]; exact two_1 w8 _ _⟩
    have hj0 : j = 0 := by simp at hj; omega
    subst hj0
    have h0 : W9.heap[dg]? = some (.cells #[.string nameLog, .string F] 38 (0, 0)) := by rw [hW9, hdg]; exact two_0 w8 _ _
    exact ⟨cell_of_row _ _ 0 _ _ _ h0, cell_of_row _ _ 1 _ _ _ h0⟩
  have HXD9 : Hid (W9.heap[db]? = some (.cells #[.slice (some ⟨dg, 0, none⟩) 1 1] 41 (0, 0))) := HG9.out.xd
  have HN : Hid ((⟨#[108, 111, 103]⟩ : ByteArray) = nameLog) := rfl
  rw [hW9] at HXD9
  clear hb9 HF8 HR8
  go_wp2_with (first | (refine wpList_loadA Tryz.isAgg41 Tryz.sizeOf41 rfl _ rfl db #[.slice (some ⟨dg, 0, none⟩) 1 1] 41 rfl HXD9.out rfl ?_) | fail)
  have hW9' : W9 = (w8.alloc (Obj.cells #[.string ⟨#[108, 111, 103]⟩, .string F] 38)).alloc (Obj.cells #[.slice (some ⟨dg, 0, none⟩) 1 1] 41) := hW9
  rw [← hdb, ← hdg, ← hW9']
  clear hW9 hW9' hdg hdb HXD9
  have HQ7 : Hid (∀ X, FilesAt X (some ⟨dg, 0, none⟩) dg 0 [(nameLog, F)] → RawsAt X ra rg 0 L → Calls Tryz.prog 11 #[.agg #[.slice (some ⟨dg, 0, none⟩) 1 1], .slice ra L.length rc] X (rawsPost X dd L.length)) := fun X h1 h2 => by
    have := specPutRaws_yes (cap := 1) (rcap := rc) [(nameLog, F)] L ((Disks.okB_iff _).1 (ok_one hFz)) (by have := HLS.out.1; omega) (fun h => by cases h) HLS.out.2.1 X h1 h2
    rw [HRUN.out.1] at this
    exact this
  refine Calls.mono (HQ7.out _ HG9.out.fl HG9.out.rw) ?_
  rintro e w10 ⟨dv, rfl, ho10, hb10⟩
  obtain ⟨da, dga, dc, hdv, hfd, hdn⟩ := files_of ho10
  subst hdv
  obtain ⟨ab, hab⟩ : ∃ ab, ab = w10.heap.size := ⟨_, rfl⟩
  obtain ⟨W11, hW11⟩ : ∃ W11, W11 = w10.alloc (Obj.cells #[.slice da dd.length dc] 41) := ⟨_, rfl⟩
  have hb11 : Below w10.heap.size w10 W11 := by rw [hW11]; exact (Below.refl _ _).alloc (Nat.le_refl _) _
  have HG11 : Hid (GS w lb old now va ua gl gm vc uc L ra rg F dg db W11) := (HG9.out.same hb10).same hb11
  have HFD : Hid (FilesAt W11 da dga 0 dd) := hfd.kept hb11
  have HXA : Hid (W11.heap[ab]? = some (.cells #[.slice da dd.length dc] 41 (0, 0))) := by show _ = _; rw [hW11, hab]; exact heap_alloc_new w10 _
  rw [hW11] at HXA
  have HQ8 : Hid (∀ X, FilesAt X da dga 0 dd → Calls Tryz.prog 12 #[.agg #[.slice da dd.length dc], .string ⟨#[108, 111, 103]⟩] X fun e w' => e = .returned (.tuple #[.string T, .bool true]) ∧ Below X.heap.size X w') := fun X h => by
    have hok : Disks.ok dd := HRUN.out.2.1.1
    exact specFileAt_is (cap := dc) dd (by have := hok.1; omega) (fun f hf => by have := ok_sizes hok f hf; omega) nameLog (some T) HRUN.out.2.1 X h
  clear ho10 hb10 hfd hdn hb11 HG9 HQ7
  go_wp2_with (first | (refine wpList_loadA Tryz.isAgg41 Tryz.sizeOf41 rfl _ rfl ab #[.slice da dd.length dc] 41 rfl HXA.out rfl ?_) | fail)
  rw [← hW11, ← hab]
  clear hW11 hab HXA
  refine Calls.mono (HQ8.out _ HFD.out) ?_
  rintro e w12 ⟨rfl, hb12⟩
  have HG12 : Hid (GS w lb old now va ua gl gm vc uc L ra rg F dg db w12) := HG11.out.same hb12
  clear hb12 HG11 HFD HQ8
  obtain ⟨htz, te, htr⟩ := HRUN.out.2.2
  have HQ9 : Hid (∀ X, Calls Tryz.prog 7 #[.string T] X (RLPost X now te true)) := fun X => read_tells htz htr X
  clear htz htr
  go_wp2_with fail
  refine Calls.mono (HQ9.out _) ?_
  rintro e w13 ⟨na, nc, rfl, ho13, hb13⟩
  obtain ⟨gn, hen⟩ := en_of ho13
  obtain ⟨nb, hnb⟩ : ∃ nb, nb = w13.heap.size := ⟨_, rfl⟩
  obtain ⟨W14, hW14⟩ : ∃ W14, W14 = w13.alloc (Obj.cells #[.int .i64 now.start, .int .i64 now.sterm, .slice na now.ents.length nc] 26) := ⟨_, rfl⟩
  have hb14 : Below w13.heap.size w13 W14 := by rw [hW14]; exact (Below.refl _ _).alloc (Nat.le_refl _) _
  have HG14 : Hid (GS w lb old now va ua gl gm vc uc L ra rg F dg db W14) := (HG12.out.same hb13).same hb14
  have HE14 : Hid (EnAt W14 na gn 0 now.ents) := hen.kept hb14
  have HX14 : Hid (W14.heap[nb]? = some (.cells #[.int .i64 now.start, .int .i64 now.sterm, .slice na now.ents.length nc] 26 (0, 0))) := by show _ = _; rw [hW14, hnb]; exact heap_alloc_new w13 _
  have x0 := cell_of_row _ _ 0 _ _ _ HG14.out.fs.xm
  have x1 := cell_of_row _ _ 1 _ _ _ HG14.out.fs.xm
  have x2 := cell_of_row _ _ 2 _ _ _ HG14.out.fs.xm
  have y0 := cell_of_row _ _ 0 _ _ _ HX14.out
  have y1 := cell_of_row _ _ 1 _ _ _ HX14.out
  have y2 := cell_of_row _ _ 2 _ _ _ HX14.out
  simp at x0 x1 x2 y0 y1 y2
  rw [hW14] at x0 x1 x2 y0 y1 y2
  rw [hnb] at y0 y1 y2
  unfold logV
  clear ho13 hb13 hen hb14 HG12 HX14 HQ9
  go_wp2_with fail
  rw [← hW14]
  rw [← hnb]
  clear x0 x1 x2 y0 y1 y2 hW14 hnb
  refine Calls.mono (HQ4.out _ _ _ HG14.out.fs.em HE14.out _) ?_
  rintro e w15 ⟨rfl, hb15⟩
  have HG15 : Hid (GS w lb old now va ua gl gm vc uc L ra rg F dg db w15) := HG14.out.same hb15
  clear hb15 HG14 HE14 HQ4
  have HQ10 : Hid (∀ X, Below w.heap.size w X → Calls Tryz.prog 13 #[.slice a len cap] X fun e w' => ∃ (pv : Value) (P : List Int), e = .returned pv ∧ P.length = 12 ∧ (∀ x ∈ P, 0 ≤ x ∧ x < 10000) ∧ w'.ownsRow X.heap.size 3 1 pv 12 (cellsI P) ∧ Below X.heap.size X w') := fun X h =>
    drawPlaces_any X h.size (HCD.out.below h)
  go_wp2_with fail
  refine Calls.mono (HQ10.out _ HG15.out.fs.bel) ?_
  rintro e w16 ⟨pv, P, rfl, hp1, hp2, hp3, hb16⟩
  obtain ⟨pa, pc, rfl⟩ := own_slice hp3
  have HG16 : Hid (GS w lb old now va ua gl gm vc uc L ra rg F dg db w16) := HG15.out.same hb16
  obtain ⟨pg, hpg⟩ : ∃ pg : Nat, pa = some ⟨pg, 0, none⟩ := by
    rcases hp3.2 with ⟨_, h⟩ | ⟨g, c, cur, h, _⟩
    · cases h
    · simp at h; exact ⟨g, h.1⟩
  subst hpg
  obtain ⟨X0, hX0⟩ : ∃ x, x = P[0]'(by omega) := ⟨_, rfl⟩
  obtain ⟨X1, hX1⟩ : ∃ x, x = P[1]'(by omega) := ⟨_, rfl⟩
  have hx0 : 0 ≤ X0 ∧ X0 ≤ 10000 := by rw [hX0]; have := hp2 _ (List.getElem_mem (show 0 < P.length by omega)); omega
  have hx1 : 0 ≤ X1 ∧ X1 ≤ 10000 := by rw [hX1]; have := hp2 _ (List.getElem_mem (show 1 < P.length by omega)); omega
  have HP0 : Hid (∀ X, Below w16.heap.size w16 X → X.cell? ⟨pg, 0, none⟩ = some (.int .i64 X0) ∧ X.cell? ⟨pg, 1, none⟩ = some (.int .i64 X1)) := fun X h => by
    have h3 := own_kept hp3 h
    refine ⟨?_, ?_⟩
    · rw [h3.cellAt 0 (by omega), hX0]; simp [cellsI, List.getElem?_eq_getElem (show 0 < P.length by omega)]
    · rw [h3.cellAt 1 (by omega), hX1]; simp [cellsI, List.getElem?_eq_getElem (show 1 < P.length by omega)]
  obtain ⟨wh, pt, hw1, hw2, hcalls⟩ := cutOf_is (g := dg) (off := 0) (cap := 1) (a := some ⟨dg, 0, none⟩) (ra := ra) (rg := rg) (roff := 0) (rcap := rc) [(nameLog, F)] L ((Disks.okB_iff _).1 (ok_one hFz)) (fun h => by cases h) (by have := HLS.out.1; omega) HLS.out.2.1 HLS.out.2.2 HRC.out.1 HRC.out.2.1 HRC.out.2.2 X0 X1 hx0 hx1
  obtain ⟨cd, CT, x, hca, hcf, hct, hmid⟩ := HCUT.out wh pt hw1 hw2
  rw [hca] at hcalls
  have HQ11 : Hid (∀ X, FilesAt X (some ⟨dg, 0, none⟩) dg 0 [(nameLog, F)] → RawsAt X ra rg 0 L → Calls Tryz.prog 14 #[.agg #[.slice (some ⟨dg, 0, none⟩) 1 1], .slice ra L.length rc, .int .i64 X0, .int .i64 X1] X (putPost X (some cd))) := hcalls
  have HCF : Hid (Disks.FileIs cd nameLog (some CT) ∧ Tells CT x ∧ Mid old now x) := ⟨hcf, hct, hmid⟩
  clear hp1 hp2 hp3 hb16 hX0 hX1 hcalls hca hcf hct hmid HG15 HQ10 HCUT hw1 hw2 HRC HLS HRUN HCD
  go_wp2_with fail
  have HB16 : Hid (∀ X, Below w16.heap.size w16 X → X.heap[db]? = some (.cells #[.slice (some ⟨dg, 0, none⟩) 1 1] 41 (0, 0)) ∧ (X.cell? ⟨pg, 0, none⟩ = some (.int .i64 X0) ∧ X.cell? ⟨pg, 1, none⟩ = some (.int .i64 X1))) := fun X h => ⟨(HG16.out.same h).xd, HP0.out X h⟩
  have BD : Below w16.heap.size w16 w16.drew := (Below.refl _ _).drew
  go_cut [24, 25] (fun pv bv wx => ∃ (cb : Nat) (v : Value), pv = .pointer (some ⟨cb, 0, none⟩) ∧ bv = .bool true ∧ Below w16.heap.size w16 wx ∧ wx.heap[cb]? = some (.cells #[v] 41 (0, 0)) ∧ wx.ownsRow w.heap.size 38 2 v cd.length (cellsF cd))
  case first =>
    have hS0 := HB16.out _ BD
    refine wp_region_last (S := fun X => X.heap[db]? = some (.cells #[.slice (some ⟨dg, 0, none⟩) 1 1] 41 (0, 0)) ∧ (X.cell? ⟨pg, 0, none⟩ = some (.int .i64 X0) ∧ X.cell? ⟨pg, 1, none⟩ = some (.int .i64 X1))) (by kernel_rfl) (by kernel_rfl) hS0 (fun _ => ?_)
    simp only [List.dropLast, List.length_cons, List.length_nil, Nat.zero_add, Nat.reduceAdd, Nat.add_one_sub_one, Nat.reduceSub]
    refine wpAnyH_take (i := 0) (v := .agg #[.slice (some ⟨dg, 0, none⟩) 1 1]) rfl (by kernel_rfl) (by kernel_rfl) (by kernel_rfl) (fun _ _ _ h => h) (Or.inl ⟨by rfl, fun X hX => by have z0 := cell_of_row _ _ 0 _ _ _ hX.1; simp at z0; go_simp⟩) hS0 ?_
    try simp only [Act.put, List.setIfInBounds_toArray, List.set_cons_zero, List.set_cons_succ, List.getElem_toArray, List.getElem_cons_zero, List.getElem_cons_succ]
    refine wpAnyH_take (i := 1) (v := .slice ra L.length rc) rfl (by kernel_rfl) (by kernel_rfl) (by kernel_rfl) (fun _ _ _ h => h) (Or.inl ⟨by rfl, fun X hX => by go_simp⟩) hS0 ?_
    try simp only [Act.put, List.setIfInBounds_toArray, List.set_cons_zero, List.set_cons_succ, List.getElem_toArray, List.getElem_cons_zero, List.getElem_cons_succ]
    refine wpAnyH_take (i := 2) (v := .slice (some ⟨pg, 0, none⟩) 12 pc) rfl (by kernel_rfl) (by kernel_rfl) (by kernel_rfl) (fun _ _ _ h => h) (Or.inl ⟨by rfl, fun X hX => by go_simp⟩) hS0 ?_
    try simp only [Act.put, List.setIfInBounds_toArray, List.set_cons_zero, List.set_cons_succ, List.getElem_toArray, List.getElem_cons_zero, List.getElem_cons_succ]
    refine wpAnyH_take (i := 3) (v := .pointer (some ⟨pg, 0, none⟩)) rfl (by kernel_rfl) (by kernel_rfl) (by kernel_rfl) (fun _ _ _ h => h) (Or.inl ⟨by rfl, fun X hX => by go_simp⟩) hS0 ?_
    try simp only [Act.put, List.setIfInBounds_toArray, List.set_cons_zero, List.set_cons_succ, List.getElem_toArray, List.getElem_cons_zero, List.getElem_cons_succ]
    refine wpAnyH_take (i := 4) (v := .int .i64 X0) rfl (by kernel_rfl) (by kernel_rfl) (by kernel_rfl) (fun _ _ _ h => h) (Or.inl ⟨by rfl, fun X hX => by have z0 := hX.2.1; go_simp⟩) hS0 ?_
    try simp only [Act.put, List.setIfInBounds_toArray, List.set_cons_zero, List.set_cons_succ, List.getElem_toArray, List.getElem_cons_zero, List.getElem_cons_succ]
    refine wpAnyH_take (i := 5) (v := .slice (some ⟨pg, 0, none⟩) 12 pc) rfl (by kernel_rfl) (by kernel_rfl) (by kernel_rfl) (fun _ _ _ h => h) (Or.inl ⟨by rfl, fun X hX => by go_simp⟩) hS0 ?_
    try simp only [Act.put, List.setIfInBounds_toArray, List.set_cons_zero, List.set_cons_succ, List.getElem_toArray, List.getElem_cons_zero, List.getElem_cons_succ]
    refine wpAnyH_take (i := 6) (v := .pointer (some ⟨pg, 1, none⟩)) rfl (by kernel_rfl) (by kernel_rfl) (by kernel_rfl) (fun _ _ _ h => h) (Or.inl ⟨by rfl, fun X hX => by go_simp⟩) hS0 ?_
    try simp only [Act.put, List.setIfInBounds_toArray, List.set_cons_zero, List.set_cons_succ, List.getElem_toArray, List.getElem_cons_zero, List.getElem_cons_succ]
    refine wpAnyH_take (i := 7) (v := .int .i64 X1) rfl (by kernel_rfl) (by kernel_rfl) (by kernel_rfl) (fun _ _ _ h => h) (Or.inl ⟨by rfl, fun X hX => by have z1 := hX.2.2; go_simp⟩) hS0 ?_
    try simp only [Act.put, List.setIfInBounds_toArray, List.set_cons_zero, List.set_cons_succ, List.getElem_toArray, List.getElem_cons_zero, List.getElem_cons_succ]
    refine wpAnyH_ready (rs := [8, 12]) (by kernel_rfl) (by simp) ?_
    refine AllReadyH.cons rfl (fun K hK => ?_) (AllReadyH.cons rfl (fun K hK => ?_) AllReadyH.nil)
    · refine step_call4R (by with_unfolding_all rfl) 14 _ _ _ _ 41 34 3 3 (by with_unfolding_all rfl) (.agg #[.slice (some ⟨dg, 0, none⟩) 1 1]) (.slice ra L.length rc) (.int .i64 X0) (.int .i64 X1) (by with_unfolding_all rfl) (by with_unfolding_all rfl) (by with_unfolding_all rfl) (by with_unfolding_all rfl) (fun u w' => ∃ v, u = .tuple #[.agg #[v], .bool true] ∧ w'.ownsRow (w16.drew).heap.size 38 2 v cd.length (cellsF cd) ∧ Below (w16.drew).heap.size (w16.drew) w') (fun w => by kernel_rfl) ((HQ11.out _ (HG16.out.same BD).fl (HG16.out.same BD).rw).mono (fun e w' ⟨v, q1, q2⟩ => ⟨_, q1, v, rfl, q2⟩)) ?_
      rintro u w17 ⟨v, rfl, ho17, hb17⟩
      have HB17 : Hid (Below w16.heap.size w16 w17) := BD.trans hb17
      have HO17 : Hid (w17.ownsRow w.heap.size 38 2 v cd.length (cellsF cd)) := own_mono ho17 (Nat.le_trans HG16.out.fs.bel.size BD.size)
      clear ho17 hb17
      refine hK.out _ _ (HB16.out _ HB17.out) (fun _ => ?_)
      clear hK K
      try simp only [Act.put, List.setIfInBounds_toArray, List.set_cons_zero, List.set_cons_succ, List.getElem_toArray, List.getElem_cons_zero, List.getElem_cons_succ]
      refine wpAnyH_take (i := 9) (v := .tuple #[.agg #[v], .bool true]) rfl (by kernel_rfl) (by kernel_rfl) (by kernel_rfl) (fun _ _ _ h => h) (Or.inl ⟨by rfl, fun X hX => by go_simp⟩) (HB16.out _ HB17.out) ?_
      try simp only [Act.put, List.setIfInBounds_toArray, List.set_cons_zero, List.set_cons_succ, List.getElem_toArray, List.getElem_cons_zero, List.getElem_cons_succ]
      refine wpAnyH_take (i := 10) (v := .agg #[v]) rfl (by kernel_rfl) (by kernel_rfl) (by kernel_rfl) (fun _ _ _ h => h) (Or.inl ⟨by rfl, fun X hX => by go_simp⟩) (HB16.out _ HB17.out) ?_
      try simp only [Act.put, List.setIfInBounds_toArray, List.set_cons_zero, List.set_cons_succ, List.getElem_toArray, List.getElem_cons_zero, List.getElem_cons_succ]
      refine wpAnyH_take (i := 11) (v := .bool true) rfl (by kernel_rfl) (by kernel_rfl) (by kernel_rfl) (fun _ _ _ h => h) (Or.inl ⟨by rfl, fun X hX => by go_simp⟩) (HB16.out _ HB17.out) ?_
      try simp only [Act.put, List.setIfInBounds_toArray, List.set_cons_zero, List.set_cons_succ, List.getElem_toArray, List.getElem_cons_zero, List.getElem_cons_succ]
      refine wpAnyH_ready (rs := [12]) (by kernel_rfl) (by simp) ?_
      refine AllReadyH.cons rfl (fun K hK => ?_) AllReadyH.nil
      go_simp
      have HB18 : Hid (Below w16.heap.size w16 (w17.alloc (Obj.cells #[.slice none 0 0] 41))) := HB17.out.trans (((Below.refl _ _).alloc (Nat.le_refl _) _).mono HB17.out.size)
      have HO18 : Hid ((w17.alloc (Obj.cells #[.slice none 0 0] 41)).ownsRow w.heap.size 38 2 v cd.length (cellsF cd)) := own_kept HO17.out ((Below.refl _ _).alloc (Nat.le_refl _) _)
      have HX18 : Hid ((w17.alloc (Obj.cells #[.slice none 0 0] 41)).heap[w17.heap.size]? = some (.cells #[.slice none 0 0] 41 (0, 0))) := heap_alloc_new w17 _
      obtain ⟨cb, hcb⟩ : ∃ cb, cb = w17.heap.size := ⟨_, rfl⟩
      obtain ⟨W18, hW18⟩ : ∃ W18, W18 = w17.alloc (Obj.cells #[.slice none 0 0] 41) := ⟨_, rfl⟩
      rw [← hW18] at HB18 HO18 HX18 ⊢
      rw [← hcb] at HX18 ⊢
      have HCB : Hid (w16.heap.size ≤ cb) := by rw [hcb]; exact HB17.out.size
      clear hW18 hcb HB17 HO17
      refine hK.out _ _ (HB16.out _ HB18.out) (fun _ => ?_)
      clear hK K
      try simp only [Act.put, List.setIfInBounds_toArray, List.set_cons_zero, List.set_cons_succ, List.getElem_toArray, List.getElem_cons_zero, List.getElem_cons_succ]
      refine wpAnyH_ready (rs := [13]) (by kernel_rfl) (by simp) ?_
      refine AllReadyH.cons rfl (fun K hK => ?_) AllReadyH.nil
      refine step_storeD (by with_unfolding_all rfl) _ _ (by with_unfolding_all rfl) cb #[v] #[.slice none 0 0] (by with_unfolding_all rfl) (by with_unfolding_all rfl) HX18.out rfl rfl (disk_one HO18.out) ?_
      have HB19 : Hid (Below w16.heap.size w16 (W18.setRow cb #[v])) := below_row HB18.out HCB.out _
      refine hK.out _ _ (HB16.out _ HB19.out) (fun _ => ?_)
      clear hK K
      try simp only [Act.put, List.setIfInBounds_toArray, List.set_cons_zero, List.set_cons_succ, List.getElem_toArray, List.getElem_cons_zero, List.getElem_cons_succ]
      refine wpAnyH_done (by kernel_rfl) ?_ _
      dsimp only [NX]
      refine wpOp_step rfl (fun K hK => ?_)
      go_simp
      refine hK _ _ ?_
      clear hK K
      go_wp2_with fail
      go_meet
      case rel => exact ⟨cb, v, rfl, rfl, HB19.out, row_size HX18.out, own_row HO18.out cb _ (own_not HO18.out HX18.out (by decide))⟩
    · go_simp
      have hbA : Below w16.heap.size w16 (w16.alloc (Obj.cells #[.slice none 0 0] 41)).drew := ((Below.refl _ _).alloc (Nat.le_refl _) _).drew
      have HX17 : Hid ((w16.alloc (Obj.cells #[.slice none 0 0] 41)).drew.heap[w16.heap.size]? = some (.cells #[.slice none 0 0] 41 (0, 0))) := heap_alloc_new w16 _
      obtain ⟨cb, hcb⟩ : ∃ cb, cb = w16.heap.size := ⟨_, rfl⟩
      obtain ⟨W17, hW17⟩ : ∃ W17, W17 = (w16.alloc (Obj.cells #[.slice none 0 0] 41)).drew := ⟨_, rfl⟩
      have HBA : Hid (Below w16.heap.size w16 W17) := by rw [hW17]; exact hbA
      rw [← hW17] at HX17 ⊢
      have HCB : Hid (w16.heap.size ≤ cb) := by rw [hcb]; exact Nat.le_refl _
      rw [← hcb] at HX17 ⊢
      clear hW17 hcb hbA
      refine hK.out _ _ (HB16.out _ HBA.out) (fun _ => ?_)
      clear hK K
      try simp only [Act.put, List.setIfInBounds_toArray, List.set_cons_zero, List.set_cons_succ, List.getElem_toArray, List.getElem_cons_zero, List.getElem_cons_succ]
      refine wpAnyH_ready (rs := [8]) (by kernel_rfl) (by simp) ?_
      refine AllReadyH.cons rfl (fun K hK => ?_) AllReadyH.nil
      refine step_call4R (by with_unfolding_all rfl) 14 _ _ _ _ 41 34 3 3 (by with_unfolding_all rfl) (.agg #[.slice (some ⟨dg, 0, none⟩) 1 1]) (.slice ra L.length rc) (.int .i64 X0) (.int .i64 X1) (by with_unfolding_all rfl) (by with_unfolding_all rfl) (by with_unfolding_all rfl) (by with_unfolding_all rfl) (fun u w' => ∃ v, u = .tuple #[.agg #[v], .bool true] ∧ w'.ownsRow W17.heap.size 38 2 v cd.length (cellsF cd) ∧ Below W17.heap.size W17 w') (fun w => by kernel_rfl) ((HQ11.out _ (HG16.out.same HBA.out).fl (HG16.out.same HBA.out).rw).mono (fun e w' ⟨v, q1, q2⟩ => ⟨_, q1, v, rfl, q2⟩)) ?_
      rintro u W18 ⟨v, rfl, ho17, hb17⟩
      have HB18 : Hid (Below w16.heap.size w16 W18) := HBA.out.trans (hb17.mono HBA.out.size)
      have HO18 : Hid (W18.ownsRow w.heap.size 38 2 v cd.length (cellsF cd)) := own_mono ho17 (Nat.le_trans HG16.out.fs.bel.size HBA.out.size)
      have HX18 : Hid (W18.heap[cb]? = some (.cells #[.slice none 0 0] 41 (0, 0))) := (hb17.block _ (Array.getElem?_eq_some_iff.1 HX17.out).1).trans HX17.out
      clear ho17 hb17 HX17 HBA
      refine hK.out _ _ (HB16.out _ HB18.out) (fun _ => ?_)
      clear hK K
      try simp only [Act.put, List.setIfInBounds_toArray, List.set_cons_zero, List.set_cons_succ, List.getElem_toArray, List.getElem_cons_zero, List.getElem_cons_succ]
      refine wpAnyH_take (i := 9) (v := .tuple #[.agg #[v], .bool true]) rfl (by kernel_rfl) (by kernel_rfl) (by kernel_rfl) (fun _ _ _ h => h) (Or.inl ⟨by rfl, fun X hX => by go_simp⟩) (HB16.out _ HB18.out) ?_
      try simp only [Act.put, List.setIfInBounds_toArray, List.set_cons_zero, List.set_cons_succ, List.getElem_toArray, List.getElem_cons_zero, List.getElem_cons_succ]
      refine wpAnyH_take (i := 10) (v := .agg #[v]) rfl (by kernel_rfl) (by kernel_rfl) (by kernel_rfl) (fun _ _ _ h => h) (Or.inl ⟨by rfl, fun X hX => by go_simp⟩) (HB16.out _ HB18.out) ?_
      try simp only [Act.put, List.setIfInBounds_toArray, List.set_cons_zero, List.set_cons_succ, List.getElem_toArray, List.getElem_cons_zero, List.getElem_cons_succ]
      refine wpAnyH_take (i := 11) (v := .bool true) rfl (by kernel_rfl) (by kernel_rfl) (by kernel_rfl) (fun _ _ _ h => h) (Or.inl ⟨by rfl, fun X hX => by go_simp⟩) (HB16.out _ HB18.out) ?_
      try simp only [Act.put, List.setIfInBounds_toArray, List.set_cons_zero, List.set_cons_succ, List.getElem_toArray, List.getElem_cons_zero, List.getElem_cons_succ]
      refine wpAnyH_ready (rs := [13]) (by kernel_rfl) (by simp) ?_
      refine AllReadyH.cons rfl (fun K hK => ?_) AllReadyH.nil
      refine step_storeD (by with_unfolding_all rfl) _ _ (by with_unfolding_all rfl) cb #[v] #[.slice none 0 0] (by with_unfolding_all rfl) (by with_unfolding_all rfl) HX18.out rfl rfl (disk_one HO18.out) ?_
      have HB19 : Hid (Below w16.heap.size w16 (W18.setRow cb #[v])) := below_row HB18.out HCB.out _
      refine hK.out _ _ (HB16.out _ HB19.out) (fun _ => ?_)
      clear hK K
      try simp only [Act.put, List.setIfInBounds_toArray, List.set_cons_zero, List.set_cons_succ, List.getElem_toArray, List.getElem_cons_zero, List.getElem_cons_succ]
      refine wpAnyH_done (by kernel_rfl) ?_ _
      dsimp only [NX]
      refine wpOp_step rfl (fun K hK => ?_)
      go_simp
      refine hK _ _ ?_
      clear hK K
      go_wp2_with fail
      go_meet
      case rel => exact ⟨cb, v, rfl, rfl, HB19.out, row_size HX18.out, own_row HO18.out cb _ (own_not HO18.out HX18.out (by decide))⟩
  case rest =>
    obtain ⟨cb, cv, rfl, rfl, hwc, hxc, hoc⟩ := hcut
    obtain ⟨ca, cga, cc, hcv2, hfc, hcn⟩ := files_of hoc
    subst hcv2
    have HGC : Hid (GS w lb old now va ua gl gm vc uc L ra rg F dg db wc) := HG16.out.same hwc
    have HXC : Hid (wc.heap[cb]? = some (.cells #[.slice ca cd.length cc] 41 (0, 0))) := hxc
    have HFC : Hid (FilesAt wc ca cga 0 cd) := hfc
    have HQ12 : Hid (∀ X, FilesAt X ca cga 0 cd → Calls Tryz.prog 12 #[.agg #[.slice ca cd.length cc], .string ⟨#[108, 111, 103]⟩] X fun e w' => e = .returned (.tuple #[.string CT, .bool true]) ∧ Below X.heap.size X w') := fun X h => by
      have hok : Disks.ok cd := HCF.out.1.1
      exact specFileAt_is (cap := cc) cd (by have := hok.1; omega) (fun f hf => by have := ok_sizes hok f hf; omega) nameLog (some CT) HCF.out.1 X h
    obtain ⟨hz, xe, hxr⟩ := HCF.out.2.1
    have HQ13 : Hid (∀ X, Calls Tryz.prog 7 #[.string CT] X (RLPost X x xe true)) := fun X => read_tells hz hxr X
    have HMID : Hid (Mid old now x) := HCF.out.2.2
    have okX := HMID.out.1
    have hfx := (Logs.okL_iff.1 okX).1
    have nX : x.ents.length ≤ 120 := hfx.n
    have sX : 0 ≤ x.start ∧ x.start ≤ 100000 := ⟨hfx.s0, hfx.s1⟩
    have HDX : Hid (∀ e ∈ x.ents, e.data.size ≤ 1048576) := by
      rcases HMID.out.2 with h | ⟨j, h⟩
      · rw [h]; exact HDD.out.1
      · rw [h]; exact fun e he => HDD.out.2 e (List.mem_of_mem_take he)
    have HQ14 : Hid (∀ X xa gx xc, EnAt X xa gx 0 x.ents → Calls Tryz.prog 15 #[.agg #[.int .i64 x.start, .int .i64 x.sterm, .slice xa x.ents.length xc]] X fun en w' => en = .returned (.bool true) ∧ Below X.heap.size X w') := fun X xa gx xc h => by
      have := specLogOk_is (cap := xc) x (by omega) HDX.out X h
      rw [okX] at this
      exact this
    clear hwc hxc hoc hfc hcn hz hxr HG16 HP0 HB16 BD HCF HQ11 okX hfx hx0 hx1
    go_wp2_with (first | (refine wpList_loadA Tryz.isAgg41 Tryz.sizeOf41 rfl _ rfl cb #[.slice ca cd.length cc] 41 rfl HXC.out rfl ?_) | fail)
    refine Calls.mono (HQ12.out _ HFC.out) ?_
    rintro e w20 ⟨rfl, hb20⟩
    have HG20 : Hid (GS w lb old now va ua gl gm vc uc L ra rg F dg db w20) := HGC.out.same hb20
    clear hb20 HGC HXC HFC HQ12
    go_wp2_with fail
    refine Calls.mono (HQ13.out _) ?_
    rintro e w21 ⟨xa, xc, rfl, ho21, hb21⟩
    obtain ⟨gx, hex⟩ := en_of ho21
    obtain ⟨xb, hxb⟩ : ∃ xb, xb = w21.heap.size := ⟨_, rfl⟩
    obtain ⟨W22, hW22⟩ : ∃ W22, W22 = w21.alloc (Obj.cells #[.int .i64 x.start, .int .i64 x.sterm, .slice xa x.ents.length xc] 26) := ⟨_, rfl⟩
    have hb22 : Below w21.heap.size w21 W22 := by rw [hW22]; exact (Below.refl _ _).alloc (Nat.le_refl _) _
    have HS22 : Hid (FS w lb old now va ua gl gm vc uc W22 ∧ W22.heap[xb]? = some (.cells #[.int .i64 x.start, .int .i64 x.sterm, .slice xa x.ents.length xc] 26 (0, 0)) ∧ EnAt W22 xa gx 0 x.ents) :=
      ⟨((HG20.out.same hb21).same hb22).fs, by rw [hW22, hxb]; exact heap_alloc_new w21 _, hex.kept hb22⟩
    have y0 := cell_of_row _ _ 0 _ _ _ HS22.out.2.1
    have y1 := cell_of_row _ _ 1 _ _ _ HS22.out.2.1
    have y2 := cell_of_row _ _ 2 _ _ _ HS22.out.2.1
    simp at y0 y1 y2
    rw [hW22] at y0 y1 y2
    rw [hxb] at y0 y1 y2
    unfold logV
    clear ho21 hb21 hex hb22 HG20 HQ13
    go_wp2_with fail
    rw [← hW22]
    rw [← hxb]
    clear y0 y1 y2 hW22 hxb
    refine Calls.mono (HQ14.out _ _ _ _ HS22.out.2.2) ?_
    rintro e w23 ⟨rfl, hb23⟩
    have HS23 : Hid (FS w lb old now va ua gl gm vc uc w23 ∧ w23.heap[xb]? = some (.cells #[.int .i64 x.start, .int .i64 x.sterm, .slice xa x.ents.length xc] 26 (0, 0)) ∧ EnAt w23 xa gx 0 x.ents) :=
      ⟨HS22.out.1.same hb23, (hb23.block _ (Array.getElem?_eq_some_iff.1 HS22.out.2.1).1).trans HS22.out.2.1, HS22.out.2.2.kept hb23⟩
    clear hb23 HS22 HQ14
    go_wp2_with fail
    have HXS : Hid (∀ X Y : World, (FS w lb old now va ua gl gm vc uc X ∧ X.heap[xb]? = some (.cells #[.int .i64 x.start, .int .i64 x.sterm, .slice xa x.ents.length xc] 26 (0, 0)) ∧ EnAt X xa gx 0 x.ents) → Below X.heap.size X Y → Hid (FS w lb old now va ua gl gm vc uc Y ∧ Y.heap[xb]? = some (.cells #[.int .i64 x.start, .int .i64 x.sterm, .slice xa x.ents.length xc] 26 (0, 0)) ∧ EnAt Y xa gx 0 x.ents)) := fun X Y h hb =>
      ⟨h.1.same hb, (hb.block _ (Array.getElem?_eq_some_iff.1 h.2.1).1).trans h.2.1, h.2.2.kept hb⟩
    go_loopw [31] (fun iv wr => ∃ i : Nat, i ≤ x.ents.length ∧ iv = .int .i64 (i : Int) ∧ Hid (FS w lb old now va ua gl gm vc uc wr ∧ wr.heap[xb]? = some (.cells #[.int .i64 x.start, .int .i64 x.sterm, .slice xa x.ents.length xc] 26 (0, 0)) ∧ EnAt wr xa gx 0 x.ents)) (fun iv _ => x.ents.length - (intOf iv).toNat)
    case atStart => exact ⟨0, Nat.zero_le _, rfl, HS23⟩
    case round =>
      obtain ⟨i, hi, rfl, HS⟩ := hrel
      clear HS23
      have y0 := cell_of_row _ _ 0 _ _ _ HS.out.2.1
      have y2 := cell_of_row _ _ 2 _ _ _ HS.out.2.1
      simp at y0 y2
      by_cases hlt : i < x.ents.length
      · have hi1 : (i : Int) < (x.ents.length : Int) := by omega
        obtain ⟨p, q, sO2, bo, hvo⟩ := entAt_or old (x.start + 1 + (i : Int))
        obtain ⟨p', q', sN2, bn, hvn⟩ := entAt_or now (x.start + 1 + (i : Int))
        have HQ15 : Hid (∀ X, EnAt X va gl 0 old.ents → Calls Tryz.prog 16 #[.agg #[.int .i64 old.start, .int .i64 old.sterm, .slice va old.ents.length vc], .int .i64 (x.start + 1 + (i : Int))] X fun e w' => e = .returned (.tuple #[.agg #[.int .i64 p, .int .i64 q, .string sO2], .bool bo]) ∧ Below X.heap.size X w') := fun X h => by
          rw [← hvo]; exact entryAt_is old HOK.out.1 HDD.out.1 _ ⟨by omega, by omega⟩ X h
        have HQ16 : Hid (∀ X, EnAt X ua gm 0 now.ents → Calls Tryz.prog 16 #[.agg #[.int .i64 now.start, .int .i64 now.sterm, .slice ua now.ents.length uc], .int .i64 (x.start + 1 + (i : Int))] X fun e w' => e = .returned (.tuple #[.agg #[.int .i64 p', .int .i64 q', .string sN2], .bool bn]) ∧ Below X.heap.size X w') := fun X h => by
          rw [← hvn]; exact entryAt_is now HOK.out.2 HDD.out.2 _ ⟨by omega, by omega⟩ X h
        have HMA : Hid ((p = x.ents[i].term ∧ q = x.ents[i].kind ∧ sO2 = x.ents[i].data ∧ bo = true) ∨ (p' = x.ents[i].term ∧ q' = x.ents[i].kind ∧ sN2 = x.ents[i].data ∧ bn = true)) := by
          rcases mid_at HMID.out i hlt with ⟨_, h⟩ | ⟨_, h⟩
          · left
            rw [hvo] at h
            simpa [and_assoc] using h
          · right
            rw [hvn] at h
            simpa [and_assoc] using h
        clear hvo hvn
        go_wp2_with (first | (refine wpList_loadA Tryz.isAgg26 Tryz.sizeOf26 rfl _ rfl lb #[.int .i64 old.start, .int .i64 old.sterm, .slice va old.ents.length vc] 26 rfl HS.out.1.xl rfl ?_) | (refine wpList_loadA Tryz.isAgg26 Tryz.sizeOf26 rfl _ rfl (lb + 1) #[.int .i64 now.start, .int .i64 now.sterm, .slice ua now.ents.length uc] 26 rfl HS.out.1.xm rfl ?_) | fail)
        clear y0 y2
        refine Calls.mono (HQ15.out _ HS.out.1.el) ?_
        rintro e w24 ⟨rfl, hb24⟩
        obtain ⟨eb, heb⟩ : ∃ eb, eb = w24.heap.size := ⟨_, rfl⟩
        obtain ⟨W25, hW25⟩ : ∃ W25, W25 = w24.alloc (Obj.cells #[.int .i64 p, .int .i64 q, .string sO2] 51) := ⟨_, rfl⟩
        have hb25 : Below w24.heap.size w24 W25 := by rw [hW25]; exact (Below.refl _ _).alloc (Nat.le_refl _) _
        have HS25 := HXS.out _ _ (HXS.out _ _ HS.out hb24).out hb25
        have HXE : Hid (W25.heap[eb]? = some (.cells #[.int .i64 p, .int .i64 q, .string sO2] 51 (0, 0))) := by show _ = _; rw [hW25, heb]; exact heap_alloc_new w24 _
        have HXM25 : Hid ((w24.alloc (Obj.cells #[.int .i64 p, .int .i64 q, .string sO2] 51)).heap[lb + 1]? = some (.cells #[.int .i64 now.start, .int .i64 now.sterm, .slice ua now.ents.length uc] 26 (0, 0))) := by rw [← hW25]; exact HS25.out.1.xm
        clear hb24 hb25 HS HQ15
        go_wp2_with (first | (refine wpList_loadA Tryz.isAgg26 Tryz.sizeOf26 rfl _ rfl (lb + 1) #[.int .i64 now.start, .int .i64 now.sterm, .slice ua now.ents.length uc] 26 rfl HXM25.out rfl ?_) | fail)
        rw [← hW25, ← heb]
        clear hW25 heb HXM25
        refine Calls.mono (HQ16.out _ HS25.out.1.em) ?_
        rintro e w26 ⟨rfl, hb26⟩
        obtain ⟨fb, hfb⟩ : ∃ fb, fb = w26.heap.size := ⟨_, rfl⟩
        obtain ⟨W27, hW27⟩ : ∃ W27, W27 = w26.alloc (Obj.cells #[.int .i64 p', .int .i64 q', .string sN2] 51) := ⟨_, rfl⟩
        have hb27 : Below w26.heap.size w26 W27 := by rw [hW27]; exact (Below.refl _ _).alloc (Nat.le_refl _) _
        have HS27 := HXS.out _ _ (HXS.out _ _ HS25.out hb26).out hb27
        have he1 : W27.heap[eb]? = some (.cells #[.int .i64 p, .int .i64 q, .string sO2] 51 (0, 0)) := by
          have h1 := (hb26.block _ (Array.getElem?_eq_some_iff.1 HXE.out).1).trans HXE.out
          exact (hb27.block _ (Array.getElem?_eq_some_iff.1 h1).1).trans h1
        have he2 : W27.heap[fb]? = some (.cells #[.int .i64 p', .int .i64 q', .string sN2] 51 (0, 0)) := by rw [hW27, hfb]; exact heap_alloc_new w26 _
        obtain ⟨a0, a1, a2⟩ := HS27.out.2.2.2 i hlt
        have ea := HS27.out.2.2.1 (by omega)
        subst ea
        obtain ⟨X, hX⟩ : ∃ X, X = x.ents[i] := ⟨_, rfl⟩
        rw [← hX] at a0 a1 a2 HMA
        simp only [Nat.zero_add] at a0 a1 a2
        have y0 := cell_of_row _ _ 0 _ _ _ HS27.out.2.1
        have y2 := cell_of_row _ _ 2 _ _ _ HS27.out.2.1
        have b0 := cell_of_row _ _ 0 _ _ _ he1
        have b1 := cell_of_row _ _ 1 _ _ _ he1
        have b2 := cell_of_row _ _ 2 _ _ _ he1
        have c0 := cell_of_row _ _ 0 _ _ _ he2
        have c1 := cell_of_row _ _ 1 _ _ _ he2
        have c2 := cell_of_row _ _ 2 _ _ _ he2
        simp at y0 y2 b0 b1 b2 c0 c1 c2
        have hk0 : (0 : Int) ≤ (i : Int) := by omega
        have hkey : (X.data.toList == X.data.toList) = true := by simp
        clear hX hb26 hb27 he1 he2 HS25 HXE HQ16
        go_wp2_with fail
        rw [← hW27]
        rw [← hfb]
        clear hW27 hfb
        rcases HMA.out with ⟨rfl, rfl, rfl, rfl⟩ | ⟨rfl, rfl, rfl, rfl⟩
        · clear HMA
          have NE := Abv.ne W27
          have Y0 := fun x : Abv W27 => x.cell y0
          have Y2 := fun x : Abv W27 => x.cell y2
          have A0 := fun x : Abv W27 => x.cell a0
          have A1 := fun x : Abv W27 => x.cell a1
          have A2 := fun x : Abv W27 => x.cell a2
          have B0 := fun x : Abv W27 => x.cell b0
          have B1 := fun x : Abv W27 => x.cell b1
          have B2 := fun x : Abv W27 => x.cell b2
          have C0 := fun x : Abv W27 => x.cell c0
          have C1 := fun x : Abv W27 => x.cell c1
          have C2 := fun x : Abv W27 => x.cell c2
          refine wp_region_above (by kernel_rfl) (by kernel_rfl) ?_
          repeat (go_big_quiet_step (fail))
          refine wpQuiet_nil ?_
          rintro w28 ⟨⟨_, hb28⟩, rfl⟩
          clear NE Y0 Y2 A0 A1 A2 B0 B1 B2 C0 C1 C2 y0 y2 a0 a1 a2 b0 b1 b2 c0 c1 c2
          go_wp2
          go_roundw
          case rel => exact ⟨i + 1, by omega, by go_num, HXS.out _ _ HS27.out hb28⟩
          case measure => simp [intOf]; omega
        · clear HMA
          cases bo with
          | false =>
            have NE := Abv.ne W27
            have Y0 := fun x : Abv W27 => x.cell y0
            have Y2 := fun x : Abv W27 => x.cell y2
            have A0 := fun x : Abv W27 => x.cell a0
            have A1 := fun x : Abv W27 => x.cell a1
            have A2 := fun x : Abv W27 => x.cell a2
            have B0 := fun x : Abv W27 => x.cell b0
            have B1 := fun x : Abv W27 => x.cell b1
            have B2 := fun x : Abv W27 => x.cell b2
            have C0 := fun x : Abv W27 => x.cell c0
            have C1 := fun x : Abv W27 => x.cell c1
            have C2 := fun x : Abv W27 => x.cell c2
            refine wp_region_above (by kernel_rfl) (by kernel_rfl) ?_
            repeat (go_big_quiet_step (fail))
            refine wpQuiet_nil ?_
            rintro w28 ⟨⟨_, hb28⟩, rfl⟩
            clear NE Y0 Y2 A0 A1 A2 B0 B1 B2 C0 C1 C2 y0 y2 a0 a1 a2 b0 b1 b2 c0 c1 c2
            go_wp2
            go_roundw
            case rel => exact ⟨i + 1, by omega, by go_num, HXS.out _ _ HS27.out hb28⟩
            case measure => simp [intOf]; omega
          | true =>
            by_cases hE : (⟨p, q, sO2⟩ : EntL) = X
            · have e1 : p = X.term := by rw [← hE]
              have e2 : q = X.kind := by rw [← hE]
              have e3 : sO2 = X.data := by rw [← hE]
              subst e1 e2 e3
              clear hE
              have NE := Abv.ne W27
              have Y0 := fun x : Abv W27 => x.cell y0
              have Y2 := fun x : Abv W27 => x.cell y2
              have A0 := fun x : Abv W27 => x.cell a0
              have A1 := fun x : Abv W27 => x.cell a1
              have A2 := fun x : Abv W27 => x.cell a2
              have B0 := fun x : Abv W27 => x.cell b0
              have B1 := fun x : Abv W27 => x.cell b1
              have B2 := fun x : Abv W27 => x.cell b2
              have C0 := fun x : Abv W27 => x.cell c0
              have C1 := fun x : Abv W27 => x.cell c1
              have C2 := fun x : Abv W27 => x.cell c2
              refine wp_region_above (by kernel_rfl) (by kernel_rfl) ?_
              repeat (go_big_quiet_step (fail))
              refine wpQuiet_nil ?_
              rintro w28 ⟨⟨_, hb28⟩, rfl⟩
              clear NE Y0 Y2 A0 A1 A2 B0 B1 B2 C0 C1 C2 y0 y2 a0 a1 a2 b0 b1 b2 c0 c1 c2
              go_wp2
              go_roundw
              case rel => exact ⟨i + 1, by omega, by go_num, HXS.out _ _ HS27.out hb28⟩
              case measure => simp [intOf]; omega
            · have hcases := ent_ne hE
              clear hE
              simp only at hcases
              rcases hcases with r0 | ⟨r0, r1 | ⟨r1, r2⟩⟩
              · have s0 : (p == X.term) = false := beq_eq_false_iff_ne.2 r0
                clear r0
                have NE := Abv.ne W27
                have Y0 := fun x : Abv W27 => x.cell y0
                have Y2 := fun x : Abv W27 => x.cell y2
                have A0 := fun x : Abv W27 => x.cell a0
                have A1 := fun x : Abv W27 => x.cell a1
                have A2 := fun x : Abv W27 => x.cell a2
                have B0 := fun x : Abv W27 => x.cell b0
                have B1 := fun x : Abv W27 => x.cell b1
                have B2 := fun x : Abv W27 => x.cell b2
                have C0 := fun x : Abv W27 => x.cell c0
                have C1 := fun x : Abv W27 => x.cell c1
                have C2 := fun x : Abv W27 => x.cell c2
                refine wp_region_above (by kernel_rfl) (by kernel_rfl) ?_
                repeat (go_big_quiet_step (fail))
                refine wpQuiet_nil ?_
                rintro w28 ⟨⟨_, hb28⟩, rfl⟩
                clear NE Y0 Y2 A0 A1 A2 B0 B1 B2 C0 C1 C2 y0 y2 a0 a1 a2 b0 b1 b2 c0 c1 c2
                go_wp2
                go_roundw
                case rel => exact ⟨i + 1, by omega, by go_num, HXS.out _ _ HS27.out hb28⟩
                case measure => simp [intOf]; omega
              · have s0 : (p == X.term) = true := beq_iff_eq.2 r0
                have s1 : (q == X.kind) = false := beq_eq_false_iff_ne.2 r1
                clear r0 r1
                have NE := Abv.ne W27
                have Y0 := fun x : Abv W27 => x.cell y0
                have Y2 := fun x : Abv W27 => x.cell y2
                have A0 := fun x : Abv W27 => x.cell a0
                have A1 := fun x : Abv W27 => x.cell a1
                have A2 := fun x : Abv W27 => x.cell a2
                have B0 := fun x : Abv W27 => x.cell b0
                have B1 := fun x : Abv W27 => x.cell b1
                have B2 := fun x : Abv W27 => x.cell b2
                have C0 := fun x : Abv W27 => x.cell c0
                have C1 := fun x : Abv W27 => x.cell c1
                have C2 := fun x : Abv W27 => x.cell c2
                refine wp_region_above (by kernel_rfl) (by kernel_rfl) ?_
                repeat (go_big_quiet_step (fail))
                refine wpQuiet_nil ?_
                rintro w28 ⟨⟨_, hb28⟩, rfl⟩
                clear NE Y0 Y2 A0 A1 A2 B0 B1 B2 C0 C1 C2 y0 y2 a0 a1 a2 b0 b1 b2 c0 c1 c2
                go_wp2
                go_roundw
                case rel => exact ⟨i + 1, by omega, by go_num, HXS.out _ _ HS27.out hb28⟩
                case measure => simp [intOf]; omega
              · have s0 : (p == X.term) = true := beq_iff_eq.2 r0
                have s1 : (q == X.kind) = true := beq_iff_eq.2 r1
                have s2 := toList_ne r2
                clear r0 r1 r2
                have NE := Abv.ne W27
                have Y0 := fun x : Abv W27 => x.cell y0
                have Y2 := fun x : Abv W27 => x.cell y2
                have A0 := fun x : Abv W27 => x.cell a0
                have A1 := fun x : Abv W27 => x.cell a1
                have A2 := fun x : Abv W27 => x.cell a2
                have B0 := fun x : Abv W27 => x.cell b0
                have B1 := fun x : Abv W27 => x.cell b1
                have B2 := fun x : Abv W27 => x.cell b2
                have C0 := fun x : Abv W27 => x.cell c0
                have C1 := fun x : Abv W27 => x.cell c1
                have C2 := fun x : Abv W27 => x.cell c2
                refine wp_region_above (by kernel_rfl) (by kernel_rfl) ?_
                repeat (go_big_quiet_step (fail))
                refine wpQuiet_nil ?_
                rintro w28 ⟨⟨_, hb28⟩, rfl⟩
                clear NE Y0 Y2 A0 A1 A2 B0 B1 B2 C0 C1 C2 y0 y2 a0 a1 a2 b0 b1 b2 c0 c1 c2
                go_wp2
                go_roundw
                case rel => exact ⟨i + 1, by omega, by go_num, HXS.out _ _ HS27.out hb28⟩
                case measure => simp [intOf]; omega
      · have hge : ¬ (i : Int) < (x.ents.length : Int) := by omega
        have x0 := cell_of_row _ _ 0 _ _ _ HS.out.1.xl
        have z0 := cell_of_row _ _ 0 _ _ _ HS.out.1.xm
        simp at x0 z0
        have HB : Hid (Below w.heap.size w wr) := HS.out.1.bel
        have hst : x.start = old.start ∨ x.start = now.start := by
          rcases HMID.out.2 with h | ⟨j, h⟩
          · left; rw [h]
          · right; rw [h]
        clear HS
        by_cases h1 : x.start = old.start
        · have h1b : (x.start == old.start) = true := by simpa using h1
          clear h1 hst
          go_wp2
          go_ret
          exact ⟨rfl, HB.out⟩
        · have h1b : (x.start == old.start) = false := by simpa using h1
          have h2b : (x.start == now.start) = true := by
            rcases hst with h | h
            · exact absurd h h1
            · simpa using h
          clear h1 hst
          go_wp2
          go_ret
          exact ⟨rfl, HB.out⟩
set_option maxHeartbeats 1000000 in
set_option maxRecDepth 100000 in
theorem lawLogs_big {cap len : Nat} {a : Option Addr} (w : World) (hl : 1048576 < len) :
    Calls Tryz.prog 3 #[.slice a len cap] w fun en w' => en = .returned (.bool true) ∧ Below w.heap.size w w' := by
  go_enter Tryz.func3, Tryz.ntmps3
  go_wp2_with fail
  refine (big_yes a len cap hl _).mono ?_
  rintro e w0 ⟨rfl, rfl⟩
  go_wp2
  go_ret
  exact ⟨rfl, Below.refl _ _⟩
end Go.Proofs.YtahpoemmlpbgdaaGreat
