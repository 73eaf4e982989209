/- The law FnTorn, walked: of drawn raw writes cut within one that puts or adds, each other file is as it was, and this one a beginning of what it would be. -/
import Derived.Test.YtpkkejpidlkmnaaFnRawsLaw
import Derived.Test.YtpkkejpidlkmnaaImplAt
import Derived.Test.YtpkkejpidlkmnaaTorn
import Derived.Deep.DeepCutAuto
namespace Go.Proofs.Ytpkkejpidlkmnaa
open Go.RowKit
set_option linter.unusedVariables false
set_option maxHeartbeats 400000 in
theorem begins_yes (A T : ByteArray) (h : A.size ≤ T.size) (he : T.extract 0 A.size = A) (hs : T.size ≤ 20000) (w : World) :
    Calls Try.prog 44 #[.string A, .string T] w fun e w' => e = .returned (.bool true) ∧ w = w' := by
  have hsl : ∀ wx, (Instr.slice 9 (.string T) none (some (.int .i64 (A.size : Int))) none).run Try.prog wx = .ok (.string A) wx := fun wx => by
    rw [run_slice_string_h wx 9 T Try.underlying9 .i64 _ (by omega) (by omega)]; simp [he]
  have h1 : decide ((A.size : Int) ≤ (T.size : Int)) = true := decide_eq_true (by omega)
  clear he
  go_enter Try.func44, Try.ntmps44
  go_wp2
  go_ret
  exact ⟨rfl, rfl⟩
theorem below_drewN' {b : Nat} {w w' : World} (h : Below b w w') : ∀ n, Below b w (w'.drewN n)
  | 0 => h
  | n + 1 => (below_drewN' h n).drew
theorem lawS_drewN {w W : World} {bs : List (Nat × Obj)} {rows : List RowD} (h : LawS w bs rows W) : ∀ n, LawS w bs rows (W.drewN n)
  | 0 => h
  | n + 1 => (lawS_drewN h n).drew
set_option maxHeartbeats 4000000 in
set_option maxRecDepth 100000 in
theorem fnTorn_any {cap len b off : Nat} {a : Option Addr} {z : Nat → Int} (w : World) (hc : Code w.heap.size w a len b off z) :
    Calls Try.prog 12 #[.slice a len cap] w fun e w' => e = .returned (.bool true) ∧ Below w.heap.size w w' := by
  have HC : Hid (Code w.heap.size w a len b off z) := hc
  have hlen := hc.2.1
  clear hc
  go_enter Try.func12, Try.ntmps12
  go_wp2_with fail
  refine (big_no a len cap hlen _).mono ?_
  rintro e w0 ⟨rfl, rfl⟩
  go_wp2_with fail
  refine (drawRightDisk_any w (Nat.le_refl _) HC.out).mono ?_
  rintro e w1 ⟨v1, u1, l, rs, rfl, hok, hrl, hrun, hrs, hownV, hownU, hb1⟩
  obtain ⟨va, vc, rfl⟩ := own_slice hownV
  obtain ⟨ua, uc, rfl⟩ := own_slice hownU
  obtain ⟨L, hL⟩ : ∃ L, L = (Disks.run l rs).1 := ⟨_, rfl⟩
  have HRUN : Hid (Disks.run l rs = (L, rs.length)) := Prod.ext hL.symm hrun
  have HVN : Hid (va = none → vc = 0) := own_nil hownV
  have HUN : Hid (ua = none → uc = 0) := own_nil hownU
  have HUC : Hid (rs.length ≤ uc ∧ uc ≤ 9223372036854775807) := by
    rcases hownU.2 with ⟨e1, e2⟩ | ⟨g, cap, cur, e1, _, _, e3, e4, _⟩
    · injection e1 with h1 h2 h3; exact ⟨by omega, by omega⟩
    · cases e1; exact ⟨e3, by unfold maxLen at e4; omega⟩
  have hst : LawS w [] [⟨.slice va l.length vc, 68, 2, l.length, cellsF l⟩, ⟨.slice ua rs.length uc, 45, 4, rs.length, cellsRaw rs⟩] w1 := by
    refine ⟨hb1, fun p hp => (List.not_mem_nil hp).elim, fun r hr => ?_, fun p hp => (List.not_mem_nil hp).elim, ?_, List.Pairwise.nil, fun p hp => (List.not_mem_nil hp).elim⟩
    · simp only [List.mem_cons, List.not_mem_nil, or_false] at hr
      rcases hr with rfl | rfl
      · exact hownV
      · exact hownU
    · simp only [List.pairwise_cons, List.mem_cons, List.not_mem_nil, or_false, forall_eq, false_implies, implies_true, List.Pairwise.nil, and_true]
      exact own_apart hownV hownU (by decide)
  have HST1 : Hid (LawS w _ _ (w1.alloc (.cells #[.slice va l.length vc] 34))) := hst.alloc (.cells #[.slice va l.length vc] 34)
  have HOK : Hid (Disks.ok l) := hok
  have HRB : Hid (∀ r ∈ rs, r.name.size ≤ 13 ∧ r.to.size ≤ 13 ∧ r.text.size ≤ 13) := hrs
  have hl30 : l.length ≤ 30 := hok.1
  have HLOK : Hid (Disks.ok L) := by show Disks.ok L; rw [hL]; exact Disks.run_ok rs hok
  clear hownV hownU hb1 hst hok hrs hrun hL
  go_wp2_with fail
  refine (drawPlaces_any _ HST1.out.below.size (HC.out.below HST1.out.below)).mono ?_
  rintro e w2 ⟨v2, p2, rfl, hp2, hpb2, hown2, hb2⟩
  obtain ⟨pg, pc, rfl⟩ : ∃ pg pc, v2 = .slice (some ⟨pg, 0, none⟩) 12 pc := by
    rcases hown2.2 with ⟨_, h⟩ | ⟨g, cp, cu, h1, _⟩
    · omega
    · exact ⟨g, cp, h1⟩
  have HST2 : Hid (LawS w [(w1.heap.size, .cells #[.slice va l.length vc] 34)] [⟨.slice (some ⟨pg, 0, none⟩) 12 pc, 3, 1, 12, cellsI p2⟩, ⟨.slice va l.length vc, 68, 2, l.length, cellsF l⟩, ⟨.slice ua rs.length uc, 45, 4, rs.length, cellsRaw rs⟩] w2) := HST1.out.call hb2 hown2
  have HP2 : Hid (p2.length = 12 ∧ ∀ x ∈ p2, 0 ≤ x ∧ x < 10000) := ⟨hp2, hpb2⟩
  clear hp2 hpb2 hown2 hb2 HST1
  go_wp2
  go_loopw [6] (fun i wr => ∃ k : Nat, k ≤ rs.length ∧ i = .int .i64 (k : Int) ∧ LawS w [(w1.heap.size, .cells #[.slice va l.length vc] 34)] [⟨.slice (some ⟨pg, 0, none⟩) 12 pc, 3, 1, 12, cellsI p2⟩, ⟨.slice va l.length vc, 68, 2, l.length, cellsF l⟩, ⟨.slice ua rs.length uc, 45, 4, rs.length, cellsRaw rs⟩] wr)
    (fun i _ => rs.length - (intOf i).toNat)
  case atStart => exact ⟨0, Nat.zero_le _, rfl, HST2.out⟩
  case round =>
    obtain ⟨k, hk, rfl, hst⟩ := hrel
    have HSTK : Hid (LawS w [(w1.heap.size, .cells #[.slice va l.length vc] 34)] [⟨.slice (some ⟨pg, 0, none⟩) 12 pc, 3, 1, 12, cellsI p2⟩, ⟨.slice va l.length vc, 68, 2, l.length, cellsF l⟩, ⟨.slice ua rs.length uc, 45, 4, rs.length, cellsRaw rs⟩] wr) := hst
    have hdd := hst.cell (b := w1.heap.size) (x := .slice va l.length vc) (t := 34) (by simp)
    clear hst HST2
    by_cases hlt : k < rs.length
    · obtain ⟨rg, hra⟩ := HSTK.out.raws 2 rfl rfl
      have ea := hra.1 (by omega)
      subst ea
      obtain ⟨Q, hQ⟩ : ∃ Q, Q = rs[k] := ⟨_, rfl⟩
      have hQr := HRB.out rs[k] (List.getElem_mem _)
      rw [← hQ] at hQr
      have hra2 := hra.2 k hlt
      rw [← hQ] at hra2
      have HTK : Hid (rs.take (k + 1) = rs.take k ++ [Q]) := by show _ = _; rw [hQ]; exact List.take_succ_eq_append_getElem hlt
      have HQ : Hid (Q = rs[k]) := hQ
      clear hQ
      obtain ⟨K, N, O, X⟩ := Q
      simp only [Nat.zero_add] at hra2
      have hrgl := World.block_lt_of_cell? wr _ hra2.1
      have hdl := World.block_lt_of_cell? wr _ hdd
      have HRC : Hid (∀ wx : World, Below wr.heap.size wr wx → wx.cell? ⟨w1.heap.size, 0, none⟩ = some (.slice va l.length vc) ∧ wx.cell? ⟨rg, k * 4, none⟩ = some (.int .i64 K) ∧ wx.cell? ⟨rg, k * 4 + 1, none⟩ = some (.string N) ∧ wx.cell? ⟨rg, k * 4 + 2, none⟩ = some (.string O) ∧ wx.cell? ⟨rg, k * 4 + 3, none⟩ = some (.string X)) := fun wx h =>
        ⟨(h.cell (p := ⟨w1.heap.size, 0, none⟩) hdl).trans hdd, (h.cell (p := ⟨rg, k * 4, none⟩) hrgl).trans hra2.1, (h.cell (p := ⟨rg, k * 4 + 1, none⟩) hrgl).trans hra2.2.1, (h.cell (p := ⟨rg, k * 4 + 2, none⟩) hrgl).trans hra2.2.2.1, (h.cell (p := ⟨rg, k * 4 + 3, none⟩) hrgl).trans hra2.2.2.2⟩
      obtain ⟨e0, e1, e2, e3⟩ := hra2
      have hk0 : (0 : Int) ≤ (k : Int) := by omega
      have hk1 : (k : Int) < (rs.length : Int) := by omega
      by_cases k1 : 2 < K
      · have hk1' : decide (2 < K) = true := decide_eq_true k1
        clear hra
        go_wp2
        go_roundw
        case rel => exact ⟨k + 1, by omega, by go_num, HSTK.out⟩
        case measure => simp [intOf]; omega
      have hk1' : decide (2 < K) = false := decide_eq_false k1
      by_cases x1 : X.size = 0
      · have hx1' : ((X.size : Int) == 0) = true := by simp [x1]
        clear hra
        go_wp2
        go_roundw
        case rel => exact ⟨k + 1, by omega, by go_num, HSTK.out⟩
        case measure => simp [intOf]; omega
      have hx1' : ((X.size : Int) == 0) = false := beq_eq_false_iff_ne.2 (by omega)
      obtain ⟨P0, hP0, hP1, hP2⟩ : ∃ P0 : Nat, wr.cell? ⟨pg, k, none⟩ = some (.int .i64 (P0 : Int)) ∧ 0 ≤ P0 ∧ P0 < 10000 := by
        have hown := HSTK.out.row 0 rfl
        have hp := HP2.out.1
        have h := HP2.out.2 p2[k] (List.getElem_mem _)
        refine ⟨p2[k].toNat, ?_, by omega, by omega⟩
        rw [hown.cellAt k (by simp only; omega), Int.toNat_of_nonneg h.1]
        simp [cellsI, show k < p2.length by omega]
      have hm12 : Int.tmod (k : Int) 12 = (k : Int) := by rw [Int.tmod_eq_emod_of_nonneg (by omega)]; omega
      obtain ⟨t, ht⟩ : ∃ t, t = P0 % X.size := ⟨_, rfl⟩
      have ht1 : t < X.size := by rw [ht]; exact Nat.mod_lt _ (by omega)
      have hX13 : X.size ≤ 13 := hQr.2.2
      have hmod : Int.tmod (P0 : Int) (X.size : Int) = (t : Int) := by rw [ht, Int.tmod_eq_emod_of_nonneg (by omega), Int.natCast_emod]
      have hx0 : ¬ (X.size : Int) = 0 := by omega
      have hk12 : (k : Int) < 12 := by omega
      obtain ⟨pt, hpt⟩ : ∃ pt, pt = t + 1 := ⟨_, rfl⟩
      have hwr : IntKind.i64.wrap (1 + (t : Int)) = (pt : Int) := by rw [IntKind.wrap_i64]; omega
      have hpt1 : 1 ≤ pt ∧ pt ≤ X.size := by omega
      obtain ⟨Bf, hBf⟩ : ∃ Bf, Bf = (Disks.run l (rs.take k)).1 := ⟨_, rfl⟩
      have hpre := Disks.run_pre HRUN.out k (by omega)
      have hBr : Disks.run l (rs.take k) = (Bf, k) := Prod.ext hBf.symm hpre
      have hBok : Disks.ok Bf := by rw [hBf]; exact Disks.run_ok _ HOK.out
      have htl : (rs.take k).length = k := by rw [List.length_take]; omega
      obtain ⟨Af, hput⟩ : ∃ Af, Disks.putRaw Bf ⟨K, N, O, X⟩ = some Af := by
        have h1 := Disks.run_pre HRUN.out (k + 1) (by omega)
        rw [HTK.out, Disks.run_snoc, hBr] at h1
        simp only [htl, if_true] at h1
        cases e : Disks.putRaw Bf ⟨K, N, O, X⟩ with
        | some L2 => exact ⟨L2, rfl⟩
        | none => rw [e] at h1; simp only at h1; omega
      have hAr : Disks.run l (rs.take (k + 1)) = (Af, k + 1) := by rw [HTK.out, Disks.run_snoc, hBr]; simp only [htl, if_true, hput]
      have hAok : Disks.ok Af := Disks.put_ok hput
      obtain ⟨P, Y, C, hc1, hc2, hc3, hc4, hc5, hc6, hc7, hc8, hc9, hc10⟩ := Disks.torn hBok hput (by show K ≤ 2; omega) hpt1.1 hpt1.2
      have htl1 : (rs.take (k + 1)).length = k + 1 := by rw [List.length_take]; omega
      obtain ⟨SB, hsb, hSB⟩ := to_any (ua := some ⟨rg, 0, none⟩) (uc := uc) rs k (by omega) HUC.out.1
      obtain ⟨kn, hkn⟩ : ∃ kn, kn = k + 1 := ⟨_, rfl⟩
      have hwk : IntKind.i64.wrap ((k : Int) + 1) = (kn : Int) := by rw [IntKind.wrap_i64]; omega
      have HKN : Hid (((kn : Int) == (k : Int) + 1) = true ∧ (kn : Int) = (k : Int) + 1) := ⟨by simp [hkn], by omega⟩
      obtain ⟨SA, hsa, hSA⟩ := to_any (ua := some ⟨rg, 0, none⟩) (uc := uc) rs kn (by omega) HUC.out.1
      rw [htl] at hsb
      rw [hkn, htl1, ← hkn] at hsa
      have HBR : Hid (∀ r ∈ rs, smallRaw 1048576 r) := fun r hr => by have := HRB.out r hr; exact ⟨by omega, by omega, by omega⟩
      have HPB : Hid (∀ (wx : World) (gx qx : Nat), FilesAt wx va gx 0 l → RawsAt wx (some ⟨rg, 0, none⟩) qx 0 rs → Calls Try.prog 35 #[.agg #[.slice va l.length vc], .slice SB k uc] wx fun e w' => ∃ v : Value, e = .returned (.tuple #[.agg #[v], .int .i64 (k : Int)]) ∧ w'.ownsRow wx.heap.size 68 2 v Bf.length (cellsF Bf) ∧ Below wx.heap.size wx w') := fun wx gx qx h1 h2 => by
        have := implPutRaws_yes (cap := vc) (rcap := uc) l (rs.take k) HOK.out (by omega) (fun r hr => HBR.out r (List.mem_of_mem_take hr)) wx h1 (hSB wx qx h2)
        rw [htl, hBr] at this
        exact this
      have HPA : Hid (∀ (wx : World) (gx qx : Nat), FilesAt wx va gx 0 l → RawsAt wx (some ⟨rg, 0, none⟩) qx 0 rs → Calls Try.prog 35 #[.agg #[.slice va l.length vc], .slice SA kn uc] wx fun e w' => ∃ v : Value, e = .returned (.tuple #[.agg #[v], .int .i64 (kn : Int)]) ∧ w'.ownsRow wx.heap.size 68 2 v Af.length (cellsF Af) ∧ Below wx.heap.size wx w') := fun wx gx qx h1 h2 => by
        have := implPutRaws_yes (cap := vc) (rcap := uc) l (rs.take (k + 1)) HOK.out (by omega) (fun r hr => HBR.out r (List.mem_of_mem_take hr)) wx h1 (by rw [← hkn]; exact hSA wx qx h2)
        rw [htl1, hAr, ← hkn] at this
        exact this
      have HCT : Hid (∀ (wx : World) (gx qx : Nat), FilesAt wx va gx 0 l → RawsAt wx (some ⟨rg, 0, none⟩) qx 0 rs → Calls Try.prog 39 #[.agg #[.slice va l.length vc], .slice (some ⟨rg, 0, none⟩) rs.length uc, .int .i64 (k : Int), .int .i64 (pt : Int)] wx fun e w' => ∃ v : Value, e = .returned (.tuple #[.agg #[v], .bool true]) ∧ w'.ownsRow wx.heap.size 68 2 v C.length (cellsF C) ∧ Below wx.heap.size wx w') := fun wx gx qx h1 h2 => by
        have hroom : Disks.room rs k = X.size := by
          have hkind := (Disks.putRaw_some hput).1.2.1.1
          rw [Disks.room_at hlt, ← HQ.out]; unfold Disks.part; rw [if_pos ⟨hkind, by show K ≤ 2; omega⟩]
        have := Wide.implCutRaws_is (cap := vc) (rcap := uc) l rs (k : Int) (pt : Int) (by omega) (fun f hf => by have := ok_sizes HOK.out f hf; omega) (by omega) (fun r hr => HBR.out r hr) HUC.out.1 HUC.out.2 (fun h => by cases h) wx h1 h2
        rw [Disks.cutAll_in ⟨HOK.out, by omega, ⟨by omega, by omega⟩, by omega, by rw [Int.toNat_natCast, hroom]; omega⟩, Int.toNat_natCast, Int.toNat_natCast, Disks.cutDone_part hlt (by omega), Disks.whole_snoc, Disks.whole, if_pos (by rw [htl]; exact hpre), hBr, ← HQ.out] at this
        simp only [Option.bind_some, hc1] at this
        exact this
      have HTORN : Hid (Disks.ok Bf ∧ Disks.ok Af ∧ Disks.ok C ∧ Disks.look C N = ((N, P), true) ∧ Disks.look Af N = ((N, Y), true) ∧ P.size ≤ Y.size ∧ Y.extract 0 P.size = P ∧ 0 < P.size ∧ Y.size ≤ 20000 ∧ (K = 2 → (Disks.textOf Bf N).size ≤ P.size ∧ P.extract 0 (Disks.textOf Bf N).size = Disks.textOf Bf N) ∧ ∀ f ∈ Af, f.1 ≠ N → Disks.look C f.1 = (f, true)) := ⟨hBok, hAok, hc2, hc3, hc4, hc5, hc6, hc7, hc8, hc9, hc10⟩
      clear hkn ht hpt hBf hpre hBr hBok htl hput hAr hAok hc1 hc2 hc3 hc4 hc5 hc6 hc7 hc8 hc9 hc10 htl1 hSB hSA hra
      go_wp2
      go_region_held3 (fun wx => wx.cell? ⟨pg, k, none⟩ = some (.int .i64 (P0 : Int)) ∧ wx.cell? ⟨rg, k * 4 + 3, none⟩ = some (.string X)) (go_keep) (fail)
      have HSTD : Hid (LawS w [(w1.heap.size, .cells #[.slice va l.length vc] 34)] [⟨.slice (some ⟨pg, 0, none⟩) 12 pc, 3, 1, 12, cellsI p2⟩, ⟨.slice va l.length vc, 68, 2, l.length, cellsF l⟩, ⟨.slice (some ⟨rg, 0, none⟩) rs.length uc, 45, 4, rs.length, cellsRaw rs⟩] wr.drew) := HSTK.out.drew
      go_upto_region 10 with fail
      go_cut [8, 9] (fun sa sb wx => ∃ (b8 : Nat) (a8 : Option Addr) (c8 : Nat), sa = .pointer (some ⟨b8, 0, none⟩) ∧ sb = .int .i64 (k : Int) ∧ Below wr.heap.size wr wx ∧ LawS w [(b8, .cells #[.slice a8 Bf.length c8] 34), (w1.heap.size, .cells #[.slice va l.length vc] 34)] [⟨.slice a8 Bf.length c8, 68, 2, Bf.length, cellsF Bf⟩, ⟨.slice (some ⟨pg, 0, none⟩) 12 pc, 3, 1, 12, cellsI p2⟩, ⟨.slice va l.length vc, 68, 2, l.length, cellsF l⟩, ⟨.slice (some ⟨rg, 0, none⟩) rs.length uc, 45, 4, rs.length, cellsRaw rs⟩] wx)
      case first => as_aux_lemma =>
        go_region_held3 (fun wx => wx.cell? ⟨w1.heap.size, 0, none⟩ = some (.slice va l.length vc)) (first | go_keep | exact (HRC.out _ hBP).1 | exact (HRC.out _ (hBP.alloc hBP.size _)).1 | exact (HRC.out _ (hBP.setCell (Below.refl wr.heap.size wr).drew.size _)).1 | exact (HRC.out _ ((Below.refl wr.heap.size wr).drew.drew.alloc (Below.refl wr.heap.size wr).drew.drew.size _)).1) (first | (go_at_call 35; obtain ⟨gF, hfF⟩ := LawS.files HSTD.out.drew 1 rfl rfl; obtain ⟨qF, hrF⟩ := LawS.raws HSTD.out.drew 2 rfl rfl; refine (HPB.out _ _ _ hfF hrF).mono ?_; rintro e wP ⟨v6, rfl, hown6, hbP⟩; obtain ⟨av, cv, rfl⟩ := own_slice hown6; have hstP := LawS.call HSTD.out.drew hbP hown6; have hBP : Below wr.heap.size wr wP := (Below.refl wr.heap.size wr).drew.drew.trans (hbP.mono (Below.refl wr.heap.size wr).drew.drew.size); first | (have hc6 := hstP.cell (b := wr.heap.size) (x := .slice none 0 0) (t := 34) (List.Mem.head _); have hz6 := hstP.frozen (b := wr.heap.size) (x := .slice none 0 0) (t := 34) (List.Mem.head _)) | skip) | (go_at_call 35; obtain ⟨gF, hfF⟩ := LawS.files (HSTD.out.drew.alloc _) 1 rfl rfl; obtain ⟨qF, hrF⟩ := LawS.raws (HSTD.out.drew.alloc _) 2 rfl rfl; refine (HPB.out _ _ _ hfF hrF).mono ?_; rintro e wP ⟨v6, rfl, hown6, hbP⟩; obtain ⟨av, cv, rfl⟩ := own_slice hown6; have hstP := LawS.call (HSTD.out.drew.alloc _) hbP hown6; have hBP : Below wr.heap.size wr wP := ((Below.refl wr.heap.size wr).drew.drew.alloc (Below.refl wr.heap.size wr).drew.drew.size _).trans (hbP.mono ((Below.refl wr.heap.size wr).drew.drew.alloc (Below.refl wr.heap.size wr).drew.drew.size _).size); first | (have hc6 := hstP.cell (b := wr.heap.size) (x := .slice none 0 0) (t := 34) (List.Mem.head _); have hz6 := hstP.frozen (b := wr.heap.size) (x := .slice none 0 0) (t := 34) (List.Mem.head _)) | skip))
        all_goals
          go_wp2_with fail
          go_meet
          case rel => first | exact ⟨_, av, cv, rfl, rfl, hBP.alloc hBP.size _, hstP.alloc _⟩ | exact ⟨_, av, cv, rfl, rfl, hBP.setCell (Below.refl wr.heap.size wr).drew.size _, hstP.set _⟩
      case rest =>
        obtain ⟨b8, a8, c8, rfl, rfl, hbx8, hst8⟩ := hcut
        have HST8 : Hid (LawS w [(b8, .cells #[.slice a8 Bf.length c8] 34), (w1.heap.size, .cells #[.slice va l.length vc] 34)] [⟨.slice a8 Bf.length c8, 68, 2, Bf.length, cellsF Bf⟩, ⟨.slice (some ⟨pg, 0, none⟩) 12 pc, 3, 1, 12, cellsI p2⟩, ⟨.slice va l.length vc, 68, 2, l.length, cellsF l⟩, ⟨.slice (some ⟨rg, 0, none⟩) rs.length uc, 45, 4, rs.length, cellsRaw rs⟩] wc) := hst8
        have HB8 : Hid (Below wr.heap.size wr wc) := hbx8
        have hd8 := (HRC.out _ hbx8).1
        have hW8 : ∃ W8, W8 = wc := ⟨_, rfl⟩
        obtain ⟨W8, rfl⟩ := hW8
        clear hst8 hbx8
        go_upto_region 11 with fail
        go_cut [10, 11] (fun sa sb wx => ∃ (b9 : Nat) (a9 : Option Addr) (c9 : Nat), sa = .pointer (some ⟨b9, 0, none⟩) ∧ sb = .int .i64 (kn : Int) ∧ Below wr.heap.size wr wx ∧ LawS w [(b9, .cells #[.slice a9 Af.length c9] 34), (b8, .cells #[.slice a8 Bf.length c8] 34), (w1.heap.size, .cells #[.slice va l.length vc] 34)] [⟨.slice a9 Af.length c9, 68, 2, Af.length, cellsF Af⟩, ⟨.slice a8 Bf.length c8, 68, 2, Bf.length, cellsF Bf⟩, ⟨.slice (some ⟨pg, 0, none⟩) 12 pc, 3, 1, 12, cellsI p2⟩, ⟨.slice va l.length vc, 68, 2, l.length, cellsF l⟩, ⟨.slice (some ⟨rg, 0, none⟩) rs.length uc, 45, 4, rs.length, cellsRaw rs⟩] wx)
        case first => as_aux_lemma =>
          go_region_held3 (fun wx => wx.cell? ⟨w1.heap.size, 0, none⟩ = some (.slice va l.length vc)) (first | go_keep | exact (HRC.out _ hBP).1 | exact (HRC.out _ (hBP.alloc hBP.size _)).1 | exact (HRC.out _ (hBP.setCell HB8.out.size _)).1 | exact (HRC.out _ (HB8.out.drew.alloc HB8.out.drew.size _)).1) (first | (go_at_call 35; obtain ⟨gF, hfF⟩ := LawS.files HST8.out.drew 2 rfl rfl; obtain ⟨qF, hrF⟩ := LawS.raws HST8.out.drew 3 rfl rfl; refine (HPA.out _ _ _ hfF hrF).mono ?_; rintro e wP ⟨v6, rfl, hown6, hbP⟩; obtain ⟨av, cv, rfl⟩ := own_slice hown6; have hstP := LawS.call HST8.out.drew hbP hown6; have hBP : Below wr.heap.size wr wP := HB8.out.drew.trans (hbP.mono HB8.out.drew.size); first | (have hc6 := hstP.cell (b := W8.heap.size) (x := .slice none 0 0) (t := 34) (List.Mem.head _); have hz6 := hstP.frozen (b := W8.heap.size) (x := .slice none 0 0) (t := 34) (List.Mem.head _)) | skip) | (go_at_call 35; obtain ⟨gF, hfF⟩ := LawS.files (HST8.out.drew.alloc _) 2 rfl rfl; obtain ⟨qF, hrF⟩ := LawS.raws (HST8.out.drew.alloc _) 3 rfl rfl; refine (HPA.out _ _ _ hfF hrF).mono ?_; rintro e wP ⟨v6, rfl, hown6, hbP⟩; obtain ⟨av, cv, rfl⟩ := own_slice hown6; have hstP := LawS.call (HST8.out.drew.alloc _) hbP hown6; have hBP : Below wr.heap.size wr wP := (HB8.out.drew.alloc HB8.out.drew.size _).trans (hbP.mono (HB8.out.drew.alloc HB8.out.drew.size _).size); first | (have hc6 := hstP.cell (b := W8.heap.size) (x := .slice none 0 0) (t := 34) (List.Mem.head _); have hz6 := hstP.frozen (b := W8.heap.size) (x := .slice none 0 0) (t := 34) (List.Mem.head _)) | skip))
          all_goals
            go_wp2_with fail
            go_meet
            case rel => first | exact ⟨_, av, cv, rfl, rfl, hBP.alloc hBP.size _, hstP.alloc _⟩ | exact ⟨_, av, cv, rfl, rfl, hBP.setCell HB8.out.size _, hstP.set _⟩
        case rest =>
          obtain ⟨b9, a9, c9, rfl, rfl, hbx9, hst9⟩ := hcut
          have HST9 : Hid (LawS w _ _ wc) := hst9
          have hd9 := (HRC.out _ hbx9).1
          have HB9 : Hid (Below wr.heap.size wr wc) := hbx9
          clear hst9 hbx9
          go_wp2_with fail
          obtain ⟨gF, hfF⟩ := HST9.out.files 3 rfl rfl
          obtain ⟨qF, hrF⟩ := HST9.out.raws 4 rfl rfl
          refine (HCT.out _ _ _ hfF hrF).mono ?_
          rintro e w10 ⟨v10, rfl, hown10, hb10⟩
          obtain ⟨a10, c10, rfl⟩ := own_slice hown10
          have HST10 : Hid (LawS w _ _ (w10.alloc (.cells #[.slice a10 C.length c10] 34))) := (HST9.out.call hb10 hown10).alloc (.cells #[.slice a10 C.length c10] 34)
          have hB10 : Below wr.heap.size wr (w10.alloc (.cells #[.slice a10 C.length c10] 34)) := ((HB9.out.trans (hb10.mono HB9.out.size)).alloc (HB9.out.trans (hb10.mono HB9.out.size)).size _)
          have HB10 : Hid (Below wr.heap.size wr (w10.alloc (.cells #[.slice a10 C.length c10] 34))) := hB10
          obtain ⟨r0, r1, r2, r3, r4⟩ := HRC.out _ hB10
          have hkn := HKN.out.1
          have hcc := HST10.out.cell (b := w10.heap.size) (x := .slice a10 C.length c10) (t := 34) (List.Mem.head _)
          clear hfF hrF hown10 hb10 hB10 HST9
          go_wp2
          obtain ⟨⟨⟨LA, LT⟩, LB⟩, hzl⟩ : ∃ x, x = Disks.look Bf N := ⟨_, rfl⟩
          have hLT : LT = Disks.textOf Bf N := by have := Disks.look_text Bf N; rw [← hzl] at this; exact this
          have HLT : Hid (LT.size ≤ 20000) := by show _ ≤ _; rw [hLT]; exact text_size (Disks.textOf_is Bf N) (ok_sizes HTORN.out.1)
          have HZL : Hid (Disks.look Bf N = ((LA, LT), LB)) := hzl.symm
          have HZB : Hid (K = 2 → LT.size ≤ P.size ∧ P.extract 0 LT.size = LT) := by show _ → _; rw [hLT]; exact HTORN.out.2.2.2.2.2.2.2.2.2.1
          have hc9' := HST10.out.cell (b := b9) (x := .slice a9 Af.length c9) (t := 34) (by simp)
          have hc8' := HST10.out.cell (b := b8) (x := .slice a8 Bf.length c8) (t := 34) (by simp)
          clear hzl hLT
          go_region_held3 (fun wx => wx.cell? ⟨w10.heap.size, 0, none⟩ = some (.slice a10 C.length c10) ∧ wx.cell? ⟨rg, k * 4 + 1, none⟩ = some (.string N)) (first | go_keep | exact ⟨hstX.cell (b := w10.heap.size) (x := .slice a10 C.length c10) (t := 34) (by simp), (HRC.out _ hBX).2.2.1⟩) (first | (go_at_call 25; obtain ⟨gF, hfF⟩ := LawS.files HST10.out.drew 0 rfl rfl; refine (implFileAt_yes C HTORN.out.2.2.1 N (Nat.le_trans hQr.1 (by omega)) _ _ _ HTORN.out.2.2.2.1 (by have h := HTORN.out; omega) _ hfF).mono ?_; rintro e wX ⟨rfl, hbX⟩; have hstX := HST10.out.drew.step hbX; have hBX : Below wr.heap.size wr wX := HB10.out.drew.trans (hbX.mono HB10.out.drew.size)))
          have HSTX : Hid (LawS w _ _ wX) := hstX
          have HBX : Hid (Below wr.heap.size wr wX) := hBX
          obtain ⟨r0, r1, r2, r3, r4⟩ := HRC.out _ hBX
          have hc9' := hstX.cell (b := b9) (x := .slice a9 Af.length c9) (t := 34) (by simp)
          clear hstX hBX hbX hfF
          go_wp2
          go_region_held3 (fun wx => wx.cell? ⟨b9, 0, none⟩ = some (.slice a9 Af.length c9) ∧ wx.cell? ⟨rg, k * 4 + 1, none⟩ = some (.string N)) (first | go_keep | exact ⟨hstY.cell (b := b9) (x := .slice a9 Af.length c9) (t := 34) (by simp), (HRC.out _ hBY).2.2.1⟩) (first | (go_at_call 25; obtain ⟨gF, hfF⟩ := LawS.files HSTX.out.drew 1 rfl rfl; refine (implFileAt_yes Af HTORN.out.2.1 N (Nat.le_trans hQr.1 (by omega)) _ _ _ HTORN.out.2.2.2.2.1 (by have h := HTORN.out; omega) _ hfF).mono ?_; rintro e wY ⟨rfl, hbY⟩; have hstY := HSTX.out.drew.step hbY; have hBY : Below wr.heap.size wr wY := HBX.out.drew.trans (hbY.mono HBX.out.drew.size)))
          have HSTY : Hid (LawS w _ _ wY) := hstY
          have HBY : Hid (Below wr.heap.size wr wY) := hBY
          obtain ⟨r0, r1, r2, r3, r4⟩ := HRC.out _ hBY
          have hc8' := hstY.cell (b := b8) (x := .slice a8 Bf.length c8) (t := 34) (by simp)
          clear hstY hBY hbY hfF
          go_wp2
          go_region_held3 (fun wx => wx.cell? ⟨b8, 0, none⟩ = some (.slice a8 Bf.length c8) ∧ wx.cell? ⟨rg, k * 4 + 1, none⟩ = some (.string N)) (first | go_keep | exact ⟨hstZ.cell (b := b8) (x := .slice a8 Bf.length c8) (t := 34) (by simp), (HRC.out _ hBZ).2.2.1⟩) (first | (go_at_call 25; obtain ⟨gF, hfF⟩ := LawS.files HSTY.out.drew 2 rfl rfl; refine (implFileAt_yes Bf HTORN.out.1 N (Nat.le_trans hQr.1 (by omega)) _ _ _ HZL.out HLT.out _ hfF).mono ?_; rintro e wZ ⟨rfl, hbZ⟩; have hstZ := HSTY.out.drew.step hbZ; have hBZ : Below wr.heap.size wr wZ := HBY.out.drew.trans (hbZ.mono HBY.out.drew.size)))
          have HSTZ : Hid (LawS w _ _ wZ) := hstZ
          have HBZ : Hid (Below wr.heap.size wr wZ) := hBZ
          obtain ⟨r0, r1, r2, r3, r4⟩ := HRC.out _ hBZ
          clear hstZ hBZ hbZ hfF
          go_wp2_with fail
          refine (begins_yes P Y HTORN.out.2.2.2.2.2.1 HTORN.out.2.2.2.2.2.2.1 HTORN.out.2.2.2.2.2.2.2.2.1 _).mono ?_
          rintro e wB ⟨rfl, rfl⟩
          have hPn : ((P.size : Int) == 0) = false := beq_eq_false_iff_ne.2 (by have := HTORN.out.2.2.2.2.2.2.2.1; omega)
          by_cases hK2 : K = 2
          · have hK : (K == 2) = true := by simp [hK2]
            have hzb := HZB.out hK2
            have HZ2 : Hid (LT.size ≤ P.size ∧ P.extract 0 LT.size = LT) := hzb
            clear hK2 hzb
            go_wp2_with fail
            refine (begins_yes LT P HZ2.out.1 HZ2.out.2 (by have h := HTORN.out; omega) _).mono ?_
            rintro e wB ⟨rfl, rfl⟩
            go_wp2
            obtain ⟨WO, rfl⟩ : ∃ WO, WO = wr := ⟨_, rfl⟩
            go_loopw [20] (fun i wi => ∃ j : Nat, j ≤ Af.length ∧ i = .int .i64 (j : Int) ∧ Below WO.heap.size WO wi ∧ LawS w [(w10.heap.size, .cells #[.slice a10 C.length c10] 34), (b9, .cells #[.slice a9 Af.length c9] 34), (b8, .cells #[.slice a8 Bf.length c8] 34), (w1.heap.size, .cells #[.slice va l.length vc] 34)] [⟨.slice a10 C.length c10, 68, 2, C.length, cellsF C⟩, ⟨.slice a9 Af.length c9, 68, 2, Af.length, cellsF Af⟩, ⟨.slice a8 Bf.length c8, 68, 2, Bf.length, cellsF Bf⟩, ⟨.slice (some ⟨pg, 0, none⟩) 12 pc, 3, 1, 12, cellsI p2⟩, ⟨.slice va l.length vc, 68, 2, l.length, cellsF l⟩, ⟨.slice (some ⟨rg, 0, none⟩) rs.length uc, 45, 4, rs.length, cellsRaw rs⟩] wi) (fun i _ => Af.length - (intOf i).toNat)
            case atStart => exact ⟨0, Nat.zero_le _, rfl, HBZ.out, HSTZ.out⟩
            case round => as_aux_lemma =>
              obtain ⟨j, hj, rfl, hbi, hsti⟩ := hrel
              have HSTI : Hid (LawS w _ _ wr) := hsti
              have HBI : Hid (Below WO.heap.size WO wr) := hbi
              have q1 := hsti.cell (b := w10.heap.size) (x := .slice a10 C.length c10) (t := 34) (by simp)
              have q2 := hsti.cell (b := b9) (x := .slice a9 Af.length c9) (t := 34) (by simp)
              obtain ⟨r0, r1, r2, r3, r4⟩ := HRC.out _ hbi
              clear hsti hbi HSTZ HBZ
              by_cases hjl : j < Af.length
              · obtain ⟨gA, hfA⟩ := HSTI.out.files 1 rfl rfl
                have ea := hfA.1 (by omega)
                subst ea
                have hn01 := hfA.2 j hjl
                simp only [Nat.zero_add] at hn01
                have hA30 := HTORN.out.2.1.1
                have hAs := ok_sizes HTORN.out.2.1 Af[j] (List.getElem_mem _)
                have hlk : ∃ LA2 LT2, Disks.look C Af[j].1 = ((LA2, LT2), true) ∧ LT2.size ≤ 20000 ∧ (Af[j].1 ≠ N → LT2 = Af[j].2) := by
                  by_cases h : Af[j].1 = N
                  · exact ⟨N, P, by rw [h]; exact HTORN.out.2.2.2.1, by have h := HTORN.out; omega, fun h2 => absurd h h2⟩
                  · exact ⟨_, _, HTORN.out.2.2.2.2.2.2.2.2.2.2 Af[j] (List.getElem_mem _) h, hAs.2, fun _ => rfl⟩
                obtain ⟨Nm, hNm⟩ : ∃ Nm, Nm = Af[j].1 := ⟨_, rfl⟩
                obtain ⟨Tx, hTx⟩ : ∃ Tx, Tx = Af[j].2 := ⟨_, rfl⟩
                rw [← hNm, ← hTx] at hn01 hlk hAs
                clear hNm hTx hfA
                obtain ⟨n0, n1⟩ := hn01
                obtain ⟨LA2, LT2, hlk1, hlk2, hlk3⟩ := hlk
                have HLK : Hid (Disks.look C Nm = ((LA2, LT2), true) ∧ LT2.size ≤ 20000 ∧ Nm.size ≤ 1048576) := ⟨hlk1, hlk2, by omega⟩
                have HL3 : Hid (Nm ≠ N → LT2 = Tx) := hlk3
                have hgAl := World.block_lt_of_cell? wr _ n0
                have hj0 : (0 : Int) ≤ (j : Int) := by omega
                have hj1 : (j : Int) < (Af.length : Int) := by omega
                clear hlk1 hlk2 hlk3
                go_wp2
                go_region_held3 (fun wx => wx.cell? ⟨w10.heap.size, 0, none⟩ = some (.slice a10 C.length c10) ∧ wx.cell? ⟨b9, 0, none⟩ = some (.slice (some ⟨gA, 0, none⟩) Af.length c9) ∧ wx.cell? ⟨gA, j * 2, none⟩ = some (.string Nm)) (first | go_keep | exact ⟨hstV.cell (b := w10.heap.size) (x := .slice a10 C.length c10) (t := 34) (by simp), hstV.cell (b := b9) (x := .slice (some ⟨gA, 0, none⟩) Af.length c9) (t := 34) (by simp), (hbV.cell (p := ⟨gA, j * 2, none⟩) hgAl).trans n0⟩) (first | (go_at_call 25; obtain ⟨gF, hfF⟩ := LawS.files HSTI.out.drew 0 rfl rfl; refine (implFileAt_yes C HTORN.out.2.2.1 Nm HLK.out.2.2 _ _ _ HLK.out.1 HLK.out.2.1 _ hfF).mono ?_; rintro e wV ⟨rfl, hbV⟩; have hstV := HSTI.out.drew.step hbV; have hBV : Below WO.heap.size WO wV := HBI.out.drew.trans (hbV.mono HBI.out.drew.size)))
                have HSTV : Hid (LawS w _ _ wV) := hstV
                have HBV : Hid (Below WO.heap.size WO wV) := hBV
                have s2 := hstV.cell (b := b9) (x := .slice (some ⟨gA, 0, none⟩) Af.length c9) (t := 34) (by simp)
                have s3 : wV.cell? ⟨gA, j * 2, none⟩ = some (.string Nm) := (hbV.cell (p := ⟨gA, j * 2, none⟩) hgAl).trans n0
                have s4 : wV.cell? ⟨gA, j * 2 + 1, none⟩ = some (.string Tx) := (hbV.cell (p := ⟨gA, j * 2 + 1, none⟩) hgAl).trans n1
                have s5 := (HRC.out _ hBV).2.2.1
                clear hstV hBV hbV hfF
                by_cases hNN : Nm = N
                · subst hNN
                  go_wp2
                  go_quiet (fail)
                  go_wp2
                  go_roundw
                  case rel => exact ⟨j + 1, by omega, by go_num, below_drewN' HBV.out _, lawS_drewN HSTV.out _⟩
                  case measure => simp [intOf]; omega
                · have hLT2 := HL3.out hNN
                  subst hLT2
                  have hNe : (Nm.toList == N.toList) = false := by rw [beq_eq_false_iff_ne, ByteArray.toList_eq, ByteArray.toList_eq]; exact fun e => hNN (ByteArray.ext (Array.toList_inj.1 e))
                  clear hNN
                  go_wp2
                  go_quiet (fail)
                  go_wp2
                  go_roundw
                  case rel => exact ⟨j + 1, by omega, by go_num, below_drewN' HBV.out _, lawS_drewN HSTV.out _⟩
                  case measure => simp [intOf]; omega
              · have hj1 : ¬ (j : Int) < (Af.length : Int) := by omega
                go_wp2
                go_roundw
                case rel => exact ⟨kn, by have := HKN.out.2; omega, rfl, HSTI.out.drop1.drop1.drop1.tail.tail.tail⟩
                case measure => have := HKN.out.2; simp [intOf]; omega
          · have hK : (K == 2) = false := by simp [hK2]
            clear hK2
            go_wp2
            obtain ⟨WO, rfl⟩ : ∃ WO, WO = wr := ⟨_, rfl⟩
            go_loopw [20] (fun i wi => ∃ j : Nat, j ≤ Af.length ∧ i = .int .i64 (j : Int) ∧ Below WO.heap.size WO wi ∧ LawS w [(w10.heap.size, .cells #[.slice a10 C.length c10] 34), (b9, .cells #[.slice a9 Af.length c9] 34), (b8, .cells #[.slice a8 Bf.length c8] 34), (w1.heap.size, .cells #[.slice va l.length vc] 34)] [⟨.slice a10 C.length c10, 68, 2, C.length, cellsF C⟩, ⟨.slice a9 Af.length c9, 68, 2, Af.length, cellsF Af⟩, ⟨.slice a8 Bf.length c8, 68, 2, Bf.length, cellsF Bf⟩, ⟨.slice (some ⟨pg, 0, none⟩) 12 pc, 3, 1, 12, cellsI p2⟩, ⟨.slice va l.length vc, 68, 2, l.length, cellsF l⟩, ⟨.slice (some ⟨rg, 0, none⟩) rs.length uc, 45, 4, rs.length, cellsRaw rs⟩] wi) (fun i _ => Af.length - (intOf i).toNat)
            case atStart => exact ⟨0, Nat.zero_le _, rfl, HBZ.out, HSTZ.out⟩
            case round => as_aux_lemma =>
              obtain ⟨j, hj, rfl, hbi, hsti⟩ := hrel
              have HSTI : Hid (LawS w _ _ wr) := hsti
              have HBI : Hid (Below WO.heap.size WO wr) := hbi
              have q1 := hsti.cell (b := w10.heap.size) (x := .slice a10 C.length c10) (t := 34) (by simp)
              have q2 := hsti.cell (b := b9) (x := .slice a9 Af.length c9) (t := 34) (by simp)
              obtain ⟨r0, r1, r2, r3, r4⟩ := HRC.out _ hbi
              clear hsti hbi HSTZ HBZ
              by_cases hjl : j < Af.length
              · obtain ⟨gA, hfA⟩ := HSTI.out.files 1 rfl rfl
                have ea := hfA.1 (by omega)
                subst ea
                have hn01 := hfA.2 j hjl
                simp only [Nat.zero_add] at hn01
                have hA30 := HTORN.out.2.1.1
                have hAs := ok_sizes HTORN.out.2.1 Af[j] (List.getElem_mem _)
                have hlk : ∃ LA2 LT2, Disks.look C Af[j].1 = ((LA2, LT2), true) ∧ LT2.size ≤ 20000 ∧ (Af[j].1 ≠ N → LT2 = Af[j].2) := by
                  by_cases h : Af[j].1 = N
                  · exact ⟨N, P, by rw [h]; exact HTORN.out.2.2.2.1, by have h := HTORN.out; omega, fun h2 => absurd h h2⟩
                  · exact ⟨_, _, HTORN.out.2.2.2.2.2.2.2.2.2.2 Af[j] (List.getElem_mem _) h, hAs.2, fun _ => rfl⟩
                obtain ⟨Nm, hNm⟩ : ∃ Nm, Nm = Af[j].1 := ⟨_, rfl⟩
                obtain ⟨Tx, hTx⟩ : ∃ Tx, Tx = Af[j].2 := ⟨_, rfl⟩
                rw [← hNm, ← hTx] at hn01 hlk hAs
                clear hNm hTx hfA
                obtain ⟨n0, n1⟩ := hn01
                obtain ⟨LA2, LT2, hlk1, hlk2, hlk3⟩ := hlk
                have HLK : Hid (Disks.look C Nm = ((LA2, LT2), true) ∧ LT2.size ≤ 20000 ∧ Nm.size ≤ 1048576) := ⟨hlk1, hlk2, by omega⟩
                have HL3 : Hid (Nm ≠ N → LT2 = Tx) := hlk3
                have hgAl := World.block_lt_of_cell? wr _ n0
                have hj0 : (0 : Int) ≤ (j : Int) := by omega
                have hj1 : (j : Int) < (Af.length : Int) := by omega
                clear hlk1 hlk2 hlk3
                go_wp2
                go_region_held3 (fun wx => wx.cell? ⟨w10.heap.size, 0, none⟩ = some (.slice a10 C.length c10) ∧ wx.cell? ⟨b9, 0, none⟩ = some (.slice (some ⟨gA, 0, none⟩) Af.length c9) ∧ wx.cell? ⟨gA, j * 2, none⟩ = some (.string Nm)) (first | go_keep | exact ⟨hstV.cell (b := w10.heap.size) (x := .slice a10 C.length c10) (t := 34) (by simp), hstV.cell (b := b9) (x := .slice (some ⟨gA, 0, none⟩) Af.length c9) (t := 34) (by simp), (hbV.cell (p := ⟨gA, j * 2, none⟩) hgAl).trans n0⟩) (first | (go_at_call 25; obtain ⟨gF, hfF⟩ := LawS.files HSTI.out.drew 0 rfl rfl; refine (implFileAt_yes C HTORN.out.2.2.1 Nm HLK.out.2.2 _ _ _ HLK.out.1 HLK.out.2.1 _ hfF).mono ?_; rintro e wV ⟨rfl, hbV⟩; have hstV := HSTI.out.drew.step hbV; have hBV : Below WO.heap.size WO wV := HBI.out.drew.trans (hbV.mono HBI.out.drew.size)))
                have HSTV : Hid (LawS w _ _ wV) := hstV
                have HBV : Hid (Below WO.heap.size WO wV) := hBV
                have s2 := hstV.cell (b := b9) (x := .slice (some ⟨gA, 0, none⟩) Af.length c9) (t := 34) (by simp)
                have s3 : wV.cell? ⟨gA, j * 2, none⟩ = some (.string Nm) := (hbV.cell (p := ⟨gA, j * 2, none⟩) hgAl).trans n0
                have s4 : wV.cell? ⟨gA, j * 2 + 1, none⟩ = some (.string Tx) := (hbV.cell (p := ⟨gA, j * 2 + 1, none⟩) hgAl).trans n1
                have s5 := (HRC.out _ hBV).2.2.1
                clear hstV hBV hbV hfF
                by_cases hNN : Nm = N
                · subst hNN
                  go_wp2
                  go_quiet (fail)
                  go_wp2
                  go_roundw
                  case rel => exact ⟨j + 1, by omega, by go_num, below_drewN' HBV.out _, lawS_drewN HSTV.out _⟩
                  case measure => simp [intOf]; omega
                · have hLT2 := HL3.out hNN
                  subst hLT2
                  have hNe : (Nm.toList == N.toList) = false := by rw [beq_eq_false_iff_ne, ByteArray.toList_eq, ByteArray.toList_eq]; exact fun e => hNN (ByteArray.ext (Array.toList_inj.1 e))
                  clear hNN
                  go_wp2
                  go_quiet (fail)
                  go_wp2
                  go_roundw
                  case rel => exact ⟨j + 1, by omega, by go_num, below_drewN' HBV.out _, lawS_drewN HSTV.out _⟩
                  case measure => simp [intOf]; omega
              · have hj1 : ¬ (j : Int) < (Af.length : Int) := by omega
                go_wp2
                go_roundw
                case rel => exact ⟨kn, by have := HKN.out.2; omega, rfl, HSTI.out.drop1.drop1.drop1.tail.tail.tail⟩
                case measure => have := HKN.out.2; simp [intOf]; omega
    · have hk1 : ¬ (k : Int) < (rs.length : Int) := by omega
      go_wp2_with fail
      obtain ⟨g2, hf2⟩ := HSTK.out.files 1 rfl rfl
      obtain ⟨q2, hr2⟩ := HSTK.out.raws 2 rfl rfl
      refine (implPutRaws_yes l rs HOK.out (by omega) (fun r hr => by have := HRB.out r hr; omega) _ hf2 hr2).mono ?_
      rintro e w3 ⟨v3, rfl, hown3, hb3⟩
      rw [HRUN.out] at hown3
      simp only at hown3
      obtain ⟨va3, vc3, rfl⟩ := own_slice hown3
      have HST3 : Hid (LawS w _ _ (w3.alloc (.cells #[.slice va3 L.length vc3] 34))) := (HSTK.out.call hb3 hown3).alloc (.cells #[.slice va3 L.length vc3] 34)
      clear hf2 hr2 hown3 hb3
      simp only [HRUN.out]
      go_wp2_with fail
      obtain ⟨g3, hf3⟩ := HST3.out.files 0 rfl rfl
      refine (implDiskOk_any true L (by have := HLOK.out.1; omega) _ hf3 (fun f h => by have := ok_sizes HLOK.out f h; omega) ⟨fun _ => HLOK.out, fun _ => rfl⟩).mono ?_
      rintro e w5 ⟨rfl, hb5⟩
      have hfin := (HST3.out.step hb5).below
      clear hf3 hb5
      go_wp2
      go_ret
      exact ⟨rfl, hfin⟩
set_option maxHeartbeats 1000000 in
set_option maxRecDepth 100000 in
theorem fnTorn_big {cap len : Nat} {a : Option Addr} (w : World) (h : 1048576 < len) :
    Calls Try.prog 12 #[.slice a len cap] w fun e w' => e = .returned (.bool true) ∧ Below w.heap.size w w' := by
  go_enter Try.func12, Try.ntmps12
  go_wp2_with fail
  refine (big_yes a len cap h _).mono ?_
  rintro e w0 ⟨rfl, rfl⟩
  go_wp2
  go_ret
  exact ⟨rfl, Below.refl _ _⟩
end Go.Proofs.Ytpkkejpidlkmnaa
