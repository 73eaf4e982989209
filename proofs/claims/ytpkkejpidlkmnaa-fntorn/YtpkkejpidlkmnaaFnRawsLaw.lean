/- The law FnRaws, walked: it answers true at all bytes. -/
import Derived.Test.YtpkkejpidlkmnaaDrawDisk
import Derived.Test.YtpkkejpidlkmnaaDrawPlaces
import Derived.Test.YtpkkejpidlkmnaaSame
import Derived.Test.YtpkkejpidlkmnaaCutWide
import Derived.Test.YtpkkejpidlkmnaaImplOk
import Derived.Test.YtpkkejpidlkmnaaImplRaw
namespace Go.Proofs.Ytpkkejpidlkmnaa
open Go.RowKit
set_option linter.unusedVariables false
theorem LawS.drop1 {w W : World} {p : Nat × Obj} {bs : List (Nat × Obj)} {rows : List RowD} (h : LawS w (p :: bs) rows W) : LawS w bs rows W :=
  ⟨h.below, fun q hq => h.has q (List.mem_cons_of_mem _ hq), h.own, fun q hq => h.sep q (List.mem_cons_of_mem _ hq), h.apart, (List.pairwise_cons.1 h.dist).2, fun q hq => h.up q (List.mem_cons_of_mem _ hq)⟩
theorem LawS.set {w W : World} {bs : List (Nat × Obj)} {rows : List RowD} {b : Nat} {x : Value} {t : TypeId} (h : LawS w ((b, Obj.cells #[x] t (0, 0)) :: bs) rows W) (v : Value) : LawS w ((b, .cells #[v] t (0, 0)) :: bs) rows (W.setCell ⟨b, 0, none⟩ v) := by
  have hd := (List.pairwise_cons.1 h.dist)
  refine ⟨h.below.setCell (h.up _ (List.Mem.head _)) _, fun p hp => ?_, fun r hr => own_set (h.own r hr) b 0 v (h.sep _ (List.Mem.head _) r hr), fun p hp r hr => ?_, h.apart, List.Pairwise.cons (fun q hq => hd.1 q hq) hd.2, fun p hp => ?_⟩
  · rcases List.mem_cons.1 hp with rfl | hp
    · have := heap_setCell_same W b 0 _ t v (h.has _ (List.Mem.head _)); simpa using this
    · exact set_far (h.has p (List.mem_cons_of_mem _ hp)) (fun e => hd.1 p hp e.symm) 0 v
  · rcases List.mem_cons.1 hp with rfl | hp
    · exact h.sep (b, Obj.cells #[x] t (0, 0)) (List.Mem.head _) r hr
    · exact h.sep p (List.mem_cons_of_mem _ hp) r hr
  · rcases List.mem_cons.1 hp with rfl | hp
    · exact h.up (b, Obj.cells #[x] t (0, 0)) (List.Mem.head _)
    · exact h.up p (List.mem_cons_of_mem _ hp)
theorem LawS.tail {w W : World} {bs : List (Nat × Obj)} {r : RowD} {rows : List RowD} (h : LawS w bs (r :: rows) W) : LawS w bs rows W :=
  ⟨h.below, h.has, fun p hp => h.own p (List.mem_cons_of_mem _ hp), fun p hp q hq => h.sep p hp q (List.mem_cons_of_mem _ hq), (List.pairwise_cons.1 h.apart).2, h.dist, h.up⟩
theorem own_file {w : World} {base : Nat} {a : Option Addr} {c : Nat} {l : List FileL} (h : w.ownsRow base 68 2 (.slice a l.length c) l.length (cellsF l)) : ∃ g, FilesAt w a g 0 l := by
  obtain ⟨a', g', c', e, hf⟩ := own_filesAt h
  have e1 : a = a' := by simpa using congrArg (fun v => match v with | Value.slice x _ _ => x | _ => none) e
  subst e1
  exact ⟨g', hf⟩
theorem to_any {ua : Option Addr} {uc : Nat} (rs : List Disks.RawL) (kk : Nat) (hw : kk ≤ rs.length) (hcap : rs.length ≤ uc) : ∃ SB : Option Addr, (∀ wx, (Instr.slice 53 (.slice ua rs.length uc) none (some (.int .i64 (kk : Int))) none).run Try.prog wx = .ok (.slice SB (rs.take kk).length uc) wx) ∧ ∀ (w : World) (qg : Nat), RawsAt w ua qg 0 rs → RawsAt w SB qg 0 (rs.take kk) := by
  refine ⟨_, fun wx => by rw [slice_to ua rs.length uc kk (by omega) wx, List.length_take, Nat.min_eq_left hw], fun w qg h => ⟨fun hp => ?_, (h.take kk).2⟩⟩
  have hp' : 0 < rs.length := by rw [List.length_take] at hp; omega
  rw [if_neg (by omega), h.1 hp', Option.map_some, Addr.add_lit]
/-- Of raw writes that all go through, the first ones do. -/
theorem Disks.run_pre : ∀ {rs : List Disks.RawL} {l L : List FileL}, Disks.run l rs = (L, rs.length) → ∀ k, k ≤ rs.length → (Disks.run l (rs.take k)).2 = k
  | [], l, L, _, k, hk => by simp at hk; subst hk; rfl
  | q :: rs, l, L, h, 0, _ => rfl
  | q :: rs, l, L, h, k + 1, hk => by
    cases e : Disks.putRaw l q with
    | none => rw [Disks.run_none e] at h; simp at h
    | some l' =>
      rw [Disks.run_some e] at h
      simp only [List.length_cons, Prod.mk.injEq, Nat.add_right_cancel_iff] at h
      rw [List.take_succ_cons, Disks.run_some e]
      have := Disks.run_pre (rs := rs) (l := l') (L := L) (Prod.ext h.1 h.2) k (by simpa using hk)
      simp only [this]
set_option maxHeartbeats 4000000 in
set_option maxRecDepth 100000 in
theorem fnRaws_any {cap len b off : Nat} {a : Option Addr} {z : Nat → Int} (w : World) (hc : Code w.heap.size w a len b off z) :
    Calls Try.prog 11 #[.slice a len cap] w fun e w' => e = .returned (.bool true) ∧ Below w.heap.size w w' := by
  have HC : Hid (Code w.heap.size w a len b off z) := hc
  have hlen := hc.2.1
  clear hc
  go_enter Try.func11, Try.ntmps11
  go_wp2_with fail
  refine (big_no a len cap hlen _).mono ?_
  rintro e w0 ⟨rfl, rfl⟩
  go_wp2_with fail
  refine (drawRightDisk_any w (Nat.le_refl _) HC.out).mono ?_
  rintro e w1 ⟨v1, u1, l, rs, rfl, hok, hrl, hrun, hrs, hownV, hownU, hb1⟩
  obtain ⟨va, vc, rfl⟩ := own_slice hownV
  obtain ⟨ua, uc, rfl⟩ := own_slice hownU
  obtain ⟨L, hL⟩ : ∃ L, L = (Disks.run l rs).1 := ⟨_, rfl⟩
  have HRUN : Hid (Disks.run l rs = (L, rs.length)) := by show _ = _; rw [hL, ← hrun]
  have HVN : Hid (va = none → vc = 0) := own_nil hownV
  have HUN : Hid (ua = none → uc = 0) := own_nil hownU
  have HUC : Hid (rs.length ≤ uc ∧ uc ≤ 9223372036854775807) := by
    rcases hownU.2 with ⟨e1, e2⟩ | ⟨g, cap, cur, e1, _, _, e3, e4, _⟩
    · injection e1 with h1 h2 h3; exact ⟨by omega, by omega⟩
    · cases e1; exact ⟨e3, by unfold maxLen at e4; omega⟩
  have hst : LawS w [] [⟨.slice va l.length vc, 68, 2, l.length, cellsF l⟩, ⟨.slice ua rs.length uc, 45, 4, rs.length, cellsRaw rs⟩] w1 := by
    refine ⟨hb1, fun p hp => (List.not_mem_nil hp).elim, fun r hr => ?_, fun p hp => (List.not_mem_nil hp).elim, ?_, List.Pairwise.nil, fun p hp => (List.not_mem_nil hp).elim⟩
    · simp only [List.mem_cons, List.not_mem_nil, or_false] at hr
      rcases hr with rfl | rfl
      · exact hownV
      · exact hownU
    · simp only [List.pairwise_cons, List.mem_cons, List.not_mem_nil, or_false, forall_eq, false_implies, implies_true, List.Pairwise.nil, and_true]
      exact own_apart hownV hownU (by decide)
  have HST1 : Hid (LawS w _ _ (w1.alloc (.cells #[.slice va l.length vc] 34))) := hst.alloc (.cells #[.slice va l.length vc] 34)
  have HOK : Hid (Disks.ok l) := hok
  have HRS : Hid (∀ r ∈ rs, smallRaw 13 r) := hrs
  have HRB : Hid (∀ r ∈ rs, r.name.size ≤ 1048576 ∧ r.to.size ≤ 1048576 ∧ r.text.size ≤ 1048576) := fun r hr => by have h := hrs r hr; exact ⟨Nat.le_trans h.1 (by omega), Nat.le_trans h.2.1 (by omega), Nat.le_trans h.2.2 (by omega)⟩
  have hl30 : l.length ≤ 30 := hok.1
  have HLOK : Hid (Disks.ok L) := by show Disks.ok L; rw [hL]; exact Disks.run_ok rs hok
  have hL30 : L.length ≤ 30 := HLOK.out.1
  clear hownV hownU hb1 hst hok hrs hrun hL
  go_wp2_with fail
  obtain ⟨g2, hf2⟩ := HST1.out.files 0 rfl rfl
  obtain ⟨q2, hr2⟩ := HST1.out.raws 1 rfl rfl
  refine (implPutRaws_yes l rs HOK.out (by omega) HRB.out _ hf2 hr2).mono ?_
  rintro e w2 ⟨v2, rfl, hown2, hb2⟩
  rw [HRUN.out] at hown2
  simp only at hown2
  obtain ⟨va2, vc2, rfl⟩ := own_slice hown2
  have HST2 : Hid (LawS w _ _ (w2.alloc (.cells #[.slice va2 L.length vc2] 34))) := (HST1.out.call hb2 hown2).alloc (.cells #[.slice va2 L.length vc2] 34)
  have hd2 := (HST1.out.call hb2 hown2).cell (b := w1.heap.size) (x := .slice va l.length vc) (t := 34) (by simp)
  have hd2a := HST2.out.cell (b := w1.heap.size) (x := .slice va l.length vc) (t := 34) (by simp)
  clear hf2 hr2 hown2 hb2 HST1
  simp only [HRUN.out]
  go_wp2_with fail
  obtain ⟨g2, hf2⟩ := HST2.out.files 1 rfl rfl
  obtain ⟨q2, hr2⟩ := HST2.out.raws 2 rfl rfl
  refine (specPutRaws_yes l rs HOK.out (by omega) HVN.out HRB.out _ hf2 hr2).mono ?_
  rintro e w3 ⟨v3, rfl, hown3, hb3⟩
  rw [HRUN.out] at hown3
  simp only at hown3
  obtain ⟨va3, vc3, rfl⟩ := own_slice hown3
  have HST3 : Hid (LawS w _ _ (w3.alloc (.cells #[.slice va3 L.length vc3] 34))) := (HST2.out.call hb3 hown3).alloc (.cells #[.slice va3 L.length vc3] 34)
  have hd3 := HST3.out.cell (b := w1.heap.size) (x := .slice va l.length vc) (t := 34) (by simp)
  have ha3 := HST3.out.cell (b := w2.heap.size) (x := .slice va2 L.length vc2) (t := 34) (by simp)
  clear hf2 hr2 hown3 hb3 HST2 hd2 hd2a
  simp only [HRUN.out]
  go_wp2_with fail
  obtain ⟨g2, hf2⟩ := HST3.out.files 0 rfl rfl
  obtain ⟨g3, hf3⟩ := HST3.out.files 1 rfl rfl
  refine (sameDisk_yes L (by omega) _ hf3 hf2).mono ?_
  rintro e w4 ⟨rfl, hb4⟩
  have HST4 : Hid (LawS w _ _ w4) := HST3.out.step hb4
  have hd4 := HST4.out.cell (b := w1.heap.size) (x := .slice va l.length vc) (t := 34) (by simp)
  have ha4 := HST4.out.cell (b := w2.heap.size) (x := .slice va2 L.length vc2) (t := 34) (by simp)
  clear hf2 hf3 hb4 HST3 hd3 ha3
  go_wp2_with fail
  obtain ⟨g3, hf3⟩ := HST4.out.files 1 rfl rfl
  refine (implDiskOk_any true L (by omega) _ hf3 (fun f h => by have := ok_sizes HLOK.out f h; omega) ⟨fun _ => HLOK.out, fun _ => rfl⟩).mono ?_
  rintro e w5 ⟨rfl, hb5⟩
  have hst5 := HST4.out.step hb5
  have HST6 : Hid (LawS w _ _ (w5.alloc (.cells #[.slice va l.length vc] 34))) := hst5.alloc (.cells #[.slice va l.length vc] 34)
  have hd5 := hst5.cell (b := w1.heap.size) (x := .slice va l.length vc) (t := 34) (by simp)
  clear hf3 hb5 HST4 hd4 ha4 hst5
  go_wp2
  have hLS5 := HST6.out.row 2 rfl
  have HON0 : Hid ((w5.alloc (.cells #[.slice va l.length vc] 34)).ownsRow w.heap.size 68 2 (.slice va l.length vc) l.length (cellsF l)) := hLS5
  clear hLS5 hd5
  go_loopw [10] (fun i wr => ∃ (k : Nat) (cur : List FileL) (na : Option Addr) (nc : Nat), k ≤ rs.length ∧ i = .int .i64 (k : Int) ∧ Disks.ok cur ∧ (na = none → nc = 0) ∧ Disks.run l (rs.take k) = (cur, k) ∧ wr.ownsRow w.heap.size 68 2 (.slice na cur.length nc) cur.length (cellsF cur) ∧
      LawS w [(w5.heap.size, .cells #[.slice na cur.length nc] 34), (w3.heap.size, .cells #[.slice va3 L.length vc3] 34), (w2.heap.size, .cells #[.slice va2 L.length vc2] 34), (w1.heap.size, .cells #[.slice va l.length vc] 34)] [⟨.slice va3 L.length vc3, 68, 2, L.length, cellsF L⟩, ⟨.slice va2 L.length vc2, 68, 2, L.length, cellsF L⟩, ⟨.slice va l.length vc, 68, 2, l.length, cellsF l⟩, ⟨.slice ua rs.length uc, 45, 4, rs.length, cellsRaw rs⟩] wr)
    (fun i _ => rs.length - (intOf i).toNat)
  case atStart => exact ⟨0, l, va, vc, Nat.zero_le _, rfl, HOK.out, HVN.out, rfl, HON0.out, HST6.out⟩
  case round =>
    obtain ⟨k, cur, na, nc, hk, rfl, hcok, hcnil, hrun, hon, hst⟩ := hrel
    have HSTK : Hid (LawS w [(w5.heap.size, .cells #[.slice na cur.length nc] 34), (w3.heap.size, .cells #[.slice va3 L.length vc3] 34), (w2.heap.size, .cells #[.slice va2 L.length vc2] 34), (w1.heap.size, .cells #[.slice va l.length vc] 34)] [⟨.slice va3 L.length vc3, 68, 2, L.length, cellsF L⟩, ⟨.slice va2 L.length vc2, 68, 2, L.length, cellsF L⟩, ⟨.slice va l.length vc, 68, 2, l.length, cellsF l⟩, ⟨.slice ua rs.length uc, 45, 4, rs.length, cellsRaw rs⟩] wr) := hst
    have HON : Hid (wr.ownsRow w.heap.size 68 2 (.slice na cur.length nc) cur.length (cellsF cur)) := hon
    have HOND : Hid (wr.drew.ownsRow w.heap.size 68 2 (.slice na cur.length nc) cur.length (cellsF cur)) := hon
    have HCOK : Hid (Disks.ok cur) := hcok
    have HCNIL : Hid (na = none → nc = 0) := hcnil
    have HRK : Hid (Disks.run l (rs.take k) = (cur, k)) := hrun
    have hnow := hst.cell (b := w5.heap.size) (x := .slice na cur.length nc) (t := 34) (by simp)
    have hc30 := hcok.1
    have HBZ : Hid (w.heap.size ≤ wr.heap.size) := hst.below.size
    clear hst hon hcok hcnil hrun HST6 HON0
    by_cases hlt : k < rs.length
    · obtain ⟨rg, hra⟩ := HSTK.out.raws 3 rfl rfl
      have ea := hra.1 (by omega)
      subst ea
      obtain ⟨Q, hQ⟩ : ∃ Q, Q = rs[k] := ⟨_, rfl⟩
      have hQr := HRB.out rs[k] (List.getElem_mem _)
      rw [← hQ] at hQr
      have hra2 := hra.2 k hlt
      rw [← hQ] at hra2
      have HTK : Hid (rs.take (k + 1) = rs.take k ++ [Q]) := by show _ = _; rw [hQ]; exact List.take_succ_eq_append_getElem hlt
      clear hQ
      obtain ⟨K, N, O, X⟩ := Q
      simp only [Nat.zero_add] at hra2
      have hrgl := World.block_lt_of_cell? wr _ hra2.1
      have HRC : Hid (∀ wx : World, Below wr.heap.size wr wx → wx.cell? ⟨w5.heap.size, 0, none⟩ = some (.slice na cur.length nc) ∧ wx.cell? ⟨rg, k * 4, none⟩ = some (.int .i64 K) ∧ wx.cell? ⟨rg, k * 4 + 1, none⟩ = some (.string N) ∧ wx.cell? ⟨rg, k * 4 + 2, none⟩ = some (.string O) ∧ wx.cell? ⟨rg, k * 4 + 3, none⟩ = some (.string X)) := fun wx h =>
        ⟨(h.cell (p := ⟨w5.heap.size, 0, none⟩) (World.block_lt_of_cell? wr _ hnow)).trans hnow, (h.cell (p := ⟨rg, k * 4, none⟩) hrgl).trans hra2.1, (h.cell (p := ⟨rg, k * 4 + 1, none⟩) hrgl).trans hra2.2.1, (h.cell (p := ⟨rg, k * 4 + 2, none⟩) hrgl).trans hra2.2.2.1, (h.cell (p := ⟨rg, k * 4 + 3, none⟩) hrgl).trans hra2.2.2.2⟩
      obtain ⟨e0, e1, e2, e3⟩ := hra2
      have hk0 : (0 : Int) ≤ (k : Int) := by omega
      have hk1 : (k : Int) < (rs.length : Int) := by omega
      obtain ⟨L2, hput⟩ : ∃ L2, Disks.putRaw cur ⟨K, N, O, X⟩ = some L2 := by
        have h1 := Disks.run_pre HRUN.out (k + 1) (by omega)
        rw [HTK.out, Disks.run_snoc, HRK.out] at h1
        have hlk : (rs.take k).length = k := by rw [List.length_take]; omega
        simp only [hlk, if_true] at h1
        cases e : Disks.putRaw cur ⟨K, N, O, X⟩ with
        | some L2 => exact ⟨L2, rfl⟩
        | none => rw [e] at h1; simp only at h1; omega
      have HPUT : Hid (∀ (wx : World) (gx : Nat), FilesAt wx na gx 0 cur → Calls Try.prog 29 #[.agg #[.slice na cur.length nc], .agg #[.int .i64 K, .string N, .string O, .string X]] wx fun e w' => ∃ v : Value, e = .returned (.tuple #[.agg #[v], .bool true]) ∧ w'.ownsRow wx.heap.size 68 2 v L2.length (cellsF L2) ∧ Below wx.heap.size wx w') := fun wx gx h => by
        have := implPutRaw na gx 0 nc cur ⟨K, N, O, X⟩ wx (by omega) (fun f hf => by have := ok_sizes HCOK.out f hf; omega) HCNIL.out hQr h
        rw [hput] at this
        exact this
      have HL2 : Hid (Disks.ok L2) := Disks.put_ok hput
      have HRUN2 : Hid (Disks.run l (rs.take (k + 1)) = (L2, k + 1)) := by
        show _ = _
        have hlk : (rs.take k).length = k := by rw [List.length_take]; omega
        rw [HTK.out, Disks.run_snoc, HRK.out]
        simp only [hlk, if_true, hput]
      clear hput hra
      go_wp2
      go_region_held3 (fun wx => wx.cell? ⟨w5.heap.size, 0, none⟩ = some (.slice na cur.length nc) ∧ wx.cell? ⟨rg, k * 4, none⟩ = some (.int .i64 K) ∧ wx.cell? ⟨rg, k * 4 + 1, none⟩ = some (.string N) ∧ wx.cell? ⟨rg, k * 4 + 2, none⟩ = some (.string O) ∧ wx.cell? ⟨rg, k * 4 + 3, none⟩ = some (.string X)) (first | go_keep | exact HRC.out _ hBP | exact HRC.out _ (hBP.alloc hBP.size _) | exact HRC.out _ (hBP.setCell (Nat.le_refl _) _) | exact HRC.out _ ((Below.refl wr.heap.size wr).drew.alloc (Nat.le_refl _) _)) (first | (go_at_call 29; obtain ⟨gF, hfF⟩ := own_file HOND.out; refine (HPUT.out _ _ hfF).mono ?_; rintro e wP ⟨v6, rfl, hown6, hbP⟩; obtain ⟨av, cv, rfl⟩ := own_slice hown6; have hown6 := own_mono (base' := w.heap.size) hown6 (by first | exact HBZ.out | (simp; have := HBZ.out; omega)); have hBP : Below wr.heap.size wr wP := (Below.refl wr.heap.size wr).drew.trans (hbP.mono (Nat.le_refl _)); have hstP := HSTK.out.drew.step hbP; have HNI : Hid (av = none → cv = 0) := own_nil hown6; first | (have hc6 := hstP.cell (b := wr.heap.size) (x := .slice none 0 0) (t := 34) (List.Mem.head _); have hz6 := hstP.frozen (b := wr.heap.size) (x := .slice none 0 0) (t := 34) (List.Mem.head _)) | skip) | (go_at_call 29; obtain ⟨gF, hfF⟩ := own_file (HOND.out.alloc _); refine (HPUT.out _ _ hfF).mono ?_; rintro e wP ⟨v6, rfl, hown6, hbP⟩; obtain ⟨av, cv, rfl⟩ := own_slice hown6; have hown6 := own_mono (base' := w.heap.size) hown6 (by first | exact HBZ.out | (simp; have := HBZ.out; omega)); have hBP : Below wr.heap.size wr wP := ((Below.refl wr.heap.size wr).drew.alloc (Nat.le_refl _) _).trans (hbP.mono (by simp)); have hstP := (HSTK.out.drew.alloc _).step hbP; have HNI : Hid (av = none → cv = 0) := own_nil hown6; first | (have hc6 := hstP.cell (b := wr.heap.size) (x := .slice none 0 0) (t := 34) (List.Mem.head _); have hz6 := hstP.frozen (b := wr.heap.size) (x := .slice none 0 0) (t := 34) (List.Mem.head _)) | skip))
      all_goals first | (have hpin := hc6; have hstQ : LawS w ((wr.heap.size, .cells #[.slice av L2.length cv] 34) :: _) _ (wP.setCell ⟨wr.heap.size, 0, none⟩ (.slice av L2.length cv)) := hstP.set (.slice av L2.length cv); have hownQ := own_set hown6 wr.heap.size 0 (.slice av L2.length cv) (own_not hown6 (hstP.has (wr.heap.size, .cells #[.slice none 0 0] 34) (List.Mem.head _)) (by decide)); have x8 := hstQ.cell (b := wr.heap.size) (x := .slice av L2.length cv) (t := 34) (List.Mem.head _); have x6 := hstQ.cell (b := w5.heap.size) (x := .slice na cur.length nc) (t := 34) (by simp); have x6f := hstQ.frozen (b := w5.heap.size) (x := .slice na cur.length nc) (t := 34) (by simp); have HFIN : Hid (_ ∧ _) := ⟨own_set hownQ w5.heap.size 0 (.slice av L2.length cv) (own_not hownQ (hstQ.has (w5.heap.size, .cells #[.slice na cur.length nc] 34) (by simp)) (by decide)), hstQ.drop1.set (.slice av L2.length cv)⟩; clear hownQ hstQ hown6 hstP hbP hBP; go_wp2; go_roundw; (case rel => exact ⟨k + 1, L2, av, cv, by omega, by go_num, HL2.out, HNI.out, HRUN2.out, HFIN.out.1, HFIN.out.2⟩); (case measure => (simp [intOf]; omega))) | (have hstQ := hstP.alloc (.cells #[.slice av L2.length cv] 34); have hownQ := hown6.alloc (.cells #[.slice av L2.length cv] 34); have x8 := hstQ.cell (b := wP.heap.size) (x := .slice av L2.length cv) (t := 34) (List.Mem.head _); have x6 := hstQ.cell (b := w5.heap.size) (x := .slice na cur.length nc) (t := 34) (by simp); have x6f := hstQ.frozen (b := w5.heap.size) (x := .slice na cur.length nc) (t := 34) (by simp); have HFIN : Hid (_ ∧ _) := ⟨own_set hownQ w5.heap.size 0 (.slice av L2.length cv) (own_not hownQ (hstQ.has (w5.heap.size, .cells #[.slice na cur.length nc] 34) (by simp)) (by decide)), hstQ.drop1.set (.slice av L2.length cv)⟩; clear hownQ hstQ hown6 hstP hbP hBP; go_wp2; go_roundw; (case rel => exact ⟨k + 1, L2, av, cv, by omega, by go_num, HL2.out, HNI.out, HRUN2.out, HFIN.out.1, HFIN.out.2⟩); (case measure => (simp [intOf]; omega)))
    · have hk1 : ¬ (k : Int) < (rs.length : Int) := by omega
      have hkl : k = rs.length := by omega
      have hcl : cur = L := by
        have := HRK.out
        rw [List.take_of_length_le (by omega), HRUN.out] at this
        exact (Prod.mk.inj this).1.symm
      subst hcl
      go_wp2_with fail
      refine (drawPlaces_any wr HSTK.out.below.size (HC.out.below HSTK.out.below)).mono ?_
      rintro e w7 ⟨v7, p7, rfl, hp7, hpb7, hown7, hb7⟩
      have hst7 := HSTK.out.step hb7
      have HST7 : Hid (LawS w _ _ w7) := hst7
      have HON7 : Hid (w7.ownsRow w.heap.size 68 2 (.slice na cur.length nc) cur.length (cellsF cur)) := own_kept HON.out hb7
      have hd7 := hst7.cell (b := w1.heap.size) (x := .slice va l.length vc) (t := 34) (by simp)
      obtain ⟨pg, pc, rfl, P0, hP0, hP1, hP2⟩ : ∃ pg pc, v7 = .slice (some ⟨pg, 0, none⟩) 12 pc ∧ ∃ P0 : Nat, w7.cell? ⟨pg, 0, none⟩ = some (.int .i64 (P0 : Int)) ∧ 0 ≤ P0 ∧ P0 < 10000 := by
        rcases hown7.2 with ⟨_, h⟩ | ⟨g, cp, cu, h1, h2, h3, h4⟩
        · omega
        · refine ⟨g, cp, h1, ?_⟩
          rw [h1] at hown7
          have h := hpb7 p7[0] (List.getElem_mem _)
          refine ⟨p7[0].toNat, ?_, by omega, by omega⟩
          rw [hown7.cellAt 0 (by omega), Int.toNat_of_nonneg h.1]
          simp [cellsI, hp7]
      obtain ⟨kk, hkk⟩ : ∃ kk, kk = P0 % (rs.length + 1) := ⟨_, rfl⟩
      have hkk1 : kk ≤ rs.length := by have := Nat.mod_lt P0 (show 0 < rs.length + 1 by omega); omega
      have hmod : Int.tmod (P0 : Int) ((rs.length : Int) + 1) = (kk : Int) := by rw [hkk, Int.tmod_eq_emod_of_nonneg (by omega), Int.natCast_emod]; simp
      have hr0 : ((rs.length : Int) + 1) ≠ 0 := by omega
      clear hown7 hb7 hst7 hpb7 hp7 hkk
      have hpre := Disks.run_pre HRUN.out kk hkk1
      obtain ⟨M, hM⟩ : ∃ M, M = (Disks.run l (rs.take kk)).1 := ⟨_, rfl⟩
      have hMr : Disks.run l (rs.take kk) = (M, kk) := Prod.ext hM.symm hpre
      have HM30 : Hid (M.length ≤ 30) := by show _ ≤ _; rw [hM]; exact (Disks.run_ok _ HOK.out).1
      have htl : (rs.take kk).length = kk := by rw [List.length_take]; omega
      obtain ⟨SB, hsb, hSB⟩ := to_any (ua := ua) (uc := uc) rs kk hkk1 HUC.out.1
      have HSB : Hid (∀ (w : World) (qg : Nat), RawsAt w ua qg 0 rs → RawsAt w SB qg 0 (rs.take kk)) := hSB
      rw [htl] at hsb
      have HPS : Hid (∀ (wx : World) (gx qx : Nat), FilesAt wx va gx 0 l → RawsAt wx ua qx 0 rs → Calls Try.prog 35 #[.agg #[.slice va l.length vc], .slice SB kk uc] wx fun e w' => ∃ v : Value, e = .returned (.tuple #[.agg #[v], .int .i64 (kk : Int)]) ∧ w'.ownsRow wx.heap.size 68 2 v M.length (cellsF M) ∧ Below wx.heap.size wx w') := fun wx gx qx h1 h2 => by
        have := implPutRaws_yes (cap := vc) (rcap := uc) l (rs.take kk) HOK.out (by omega) (fun r hr => HRB.out r (List.mem_of_mem_take hr)) wx h1 (HSB.out wx qx h2)
        rw [htl, hMr] at this
        exact this
      have HCUT : Hid (∀ (wx : World) (gx qx : Nat), FilesAt wx va gx 0 l → RawsAt wx ua qx 0 rs → Calls Try.prog 39 #[.agg #[.slice va l.length vc], .slice ua rs.length uc, .int .i64 (kk : Int), .int .i64 0] wx fun e w' => ∃ v : Value, e = .returned (.tuple #[.agg #[v], .bool true]) ∧ w'.ownsRow wx.heap.size 68 2 v M.length (cellsF M) ∧ Below wx.heap.size wx w') := fun wx gx qx h1 h2 => by
        have := Wide.implCutRaws_is (cap := vc) (rcap := uc) l rs (kk : Int) 0 (by omega) (fun f hf => by have := ok_sizes HOK.out f hf; omega) (by omega) (fun r hr => HRB.out r hr) HUC.out.1 HUC.out.2 HUN.out wx h1 h2
        rw [Disks.cutAll_in ⟨HOK.out, by omega, ⟨by omega, by omega⟩, by omega, by omega⟩, Int.toNat_natCast, show (0 : Int).toNat = 0 from rfl, Disks.cutDone_zero, Disks.whole, if_pos (by rw [htl]; exact hpre), hMr] at this
        exact this
      have HDC : Hid (∀ wx : World, Below w7.heap.size w7 wx → wx.cell? ⟨w1.heap.size, 0, none⟩ = some (.slice va l.length vc)) := fun wx h => (h.cell (p := ⟨w1.heap.size, 0, none⟩) (World.block_lt_of_cell? w7 _ hd7)).trans hd7
      have HST7D : Hid (LawS w _ _ w7.drew) := HST7.out.drew
      clear hMr hM hpre htl hSB
      go_wp2
      go_region_held3 (fun wx => wx.cell? ⟨w1.heap.size, 0, none⟩ = some (.slice va l.length vc)) (first | go_keep | exact HDC.out _ hBP | exact HDC.out _ (hBP.alloc hBP.size _) | exact HDC.out _ (hBP.setCell (Nat.le_refl _) _) | exact HDC.out _ ((Below.refl w7.heap.size w7).drew.alloc (Nat.le_refl _) _)) (first | (go_at_call 35; obtain ⟨gF, hfF⟩ := LawS.files HST7D.out 2 rfl rfl; obtain ⟨qF, hrF⟩ := LawS.raws HST7D.out 3 rfl rfl; refine (HPS.out _ _ _ hfF hrF).mono ?_; rintro e wP ⟨v6, rfl, hown6, hbP⟩; obtain ⟨av, cv, rfl⟩ := own_slice hown6; have hstP := LawS.call HST7D.out hbP hown6; have hBP : Below w7.heap.size w7 wP := (Below.refl w7.heap.size w7).drew.trans (hbP.mono (Nat.le_refl _)); have hoN : wP.ownsRow w.heap.size 68 2 (.slice na cur.length nc) cur.length (cellsF cur) := own_kept HON7.out hBP; first | (have hc6 := hstP.cell (b := w7.heap.size) (x := .slice none 0 0) (t := 34) (List.Mem.head _); have hz6 := hstP.frozen (b := w7.heap.size) (x := .slice none 0 0) (t := 34) (List.Mem.head _)) | skip) | (go_at_call 35; obtain ⟨gF, hfF⟩ := LawS.files (HST7D.out.alloc _) 2 rfl rfl; obtain ⟨qF, hrF⟩ := LawS.raws (HST7D.out.alloc _) 3 rfl rfl; refine (HPS.out _ _ _ hfF hrF).mono ?_; rintro e wP ⟨v6, rfl, hown6, hbP⟩; obtain ⟨av, cv, rfl⟩ := own_slice hown6; have hstP := LawS.call (HST7D.out.alloc _) hbP hown6; have hBP : Below w7.heap.size w7 wP := ((Below.refl w7.heap.size w7).drew.alloc (Nat.le_refl _) _).trans (hbP.mono (by simp)); have hoN : wP.ownsRow w.heap.size 68 2 (.slice na cur.length nc) cur.length (cellsF cur) := own_kept HON7.out hBP; first | (have hc6 := hstP.cell (b := w7.heap.size) (x := .slice none 0 0) (t := 34) (List.Mem.head _); have hz6 := hstP.frozen (b := w7.heap.size) (x := .slice none 0 0) (t := 34) (List.Mem.head _)) | skip))
      all_goals first | (have hpin := hc6; have hstQ : LawS w ((w7.heap.size, .cells #[.slice av M.length cv] 34) :: _) _ (wP.setCell ⟨w7.heap.size, 0, none⟩ (.slice av M.length cv)) := hstP.set (.slice av M.length cv); have hoQ := own_set hoN w7.heap.size 0 (.slice av M.length cv) (own_not hoN (hstP.has (w7.heap.size, .cells #[.slice none 0 0] 34) (List.Mem.head _)) (by decide)); have xd := hstQ.cell (b := w1.heap.size) (x := .slice va l.length vc) (t := 34) (by simp); have HSQ : Hid (LawS w _ _ _) := hstQ; have HOQ : Hid (World.ownsRow _ _ _ _ _ _ _) := hoQ; clear hstQ hoQ hstP hoN hbP hown6 hBP; go_wp2_with fail; obtain ⟨g8, hf8⟩ := HSQ.out.files 3 rfl rfl; obtain ⟨q8, hr8⟩ := HSQ.out.raws 4 rfl rfl; refine (HCUT.out _ _ _ hf8 hr8).mono ?_; rintro e w9 ⟨v9, rfl, hown9, hb9⟩; obtain ⟨a9, c9, rfl⟩ := own_slice hown9; have HST9 : Hid (LawS w _ _ (w9.alloc (.cells #[.slice a9 M.length c9] 34))) := (HSQ.out.call hb9 hown9).alloc (.cells #[.slice a9 M.length c9] 34); have HON9 : Hid ((w9.alloc (.cells #[.slice a9 M.length c9] 34)).ownsRow w.heap.size 68 2 (.slice na cur.length nc) cur.length (cellsF cur)) := (own_kept HOQ.out hb9).alloc _; have y1 := (HSQ.out.call hb9 hown9).cell (b := w5.heap.size) (x := .slice na cur.length nc) (t := 34) (by simp); have y2 := (HSQ.out.call hb9 hown9).cell (b := w2.heap.size) (x := .slice va2 cur.length vc2) (t := 34) (by simp); have y3 := HST9.out.cell (b := w5.heap.size) (x := .slice na cur.length nc) (t := 34) (by simp); have y4 := HST9.out.cell (b := w2.heap.size) (x := .slice va2 cur.length vc2) (t := 34) (by simp); clear hown9 hb9 hf8 hr8 HSQ HOQ; go_wp2_with fail; obtain ⟨gn, hfn⟩ := own_file HON9.out; obtain ⟨ga, hfa⟩ := HST9.out.files 3 rfl rfl; refine (sameDisk_yes cur (by omega) _ hfn hfa).mono ?_; rintro e w10 ⟨rfl, hb10⟩; have HST10 : Hid (LawS w _ _ w10) := HST9.out.step hb10; have y5 := HST10.out.cell (b := w9.heap.size) (x := .slice a9 M.length c9) (t := 34) (List.Mem.head _); have y6 := HST10.out.cell (b := w7.heap.size) (x := .slice av M.length cv) (t := 34) (by simp); clear hb10 hfn hfa y1 y2 y3 y4 HST9 HON9; go_wp2_with fail; obtain ⟨gn, hfn⟩ := HST10.out.files 0 rfl rfl; obtain ⟨ga, hfa⟩ := HST10.out.files 1 rfl rfl; refine (sameDisk_yes M (by have := HM30.out; omega) _ hfn hfa).mono ?_; rintro e w11 ⟨rfl, hb11⟩; have hfin := (HST10.out.step hb11).below; clear hb11 hfn hfa; go_wp2; go_ret; exact ⟨rfl, hfin⟩) | (have hstQ := hstP.alloc (.cells #[.slice av M.length cv] 34); have hoQ := hoN.alloc (.cells #[.slice av M.length cv] 34); have xd := hstQ.cell (b := w1.heap.size) (x := .slice va l.length vc) (t := 34) (by simp); have HSQ : Hid (LawS w _ _ _) := hstQ; have HOQ : Hid (World.ownsRow _ _ _ _ _ _ _) := hoQ; clear hstQ hoQ hstP hoN hbP hown6 hBP; go_wp2_with fail; obtain ⟨g8, hf8⟩ := HSQ.out.files 3 rfl rfl; obtain ⟨q8, hr8⟩ := HSQ.out.raws 4 rfl rfl; refine (HCUT.out _ _ _ hf8 hr8).mono ?_; rintro e w9 ⟨v9, rfl, hown9, hb9⟩; obtain ⟨a9, c9, rfl⟩ := own_slice hown9; have HST9 : Hid (LawS w _ _ (w9.alloc (.cells #[.slice a9 M.length c9] 34))) := (HSQ.out.call hb9 hown9).alloc (.cells #[.slice a9 M.length c9] 34); have HON9 : Hid ((w9.alloc (.cells #[.slice a9 M.length c9] 34)).ownsRow w.heap.size 68 2 (.slice na cur.length nc) cur.length (cellsF cur)) := (own_kept HOQ.out hb9).alloc _; have y1 := (HSQ.out.call hb9 hown9).cell (b := w5.heap.size) (x := .slice na cur.length nc) (t := 34) (by simp); have y2 := (HSQ.out.call hb9 hown9).cell (b := w2.heap.size) (x := .slice va2 cur.length vc2) (t := 34) (by simp); have y3 := HST9.out.cell (b := w5.heap.size) (x := .slice na cur.length nc) (t := 34) (by simp); have y4 := HST9.out.cell (b := w2.heap.size) (x := .slice va2 cur.length vc2) (t := 34) (by simp); clear hown9 hb9 hf8 hr8 HSQ HOQ; go_wp2_with fail; obtain ⟨gn, hfn⟩ := own_file HON9.out; obtain ⟨ga, hfa⟩ := HST9.out.files 3 rfl rfl; refine (sameDisk_yes cur (by omega) _ hfn hfa).mono ?_; rintro e w10 ⟨rfl, hb10⟩; have HST10 : Hid (LawS w _ _ w10) := HST9.out.step hb10; have y5 := HST10.out.cell (b := w9.heap.size) (x := .slice a9 M.length c9) (t := 34) (List.Mem.head _); have y6 := HST10.out.cell (b := wP.heap.size) (x := .slice av M.length cv) (t := 34) (by simp); clear hb10 hfn hfa y1 y2 y3 y4 HST9 HON9; go_wp2_with fail; obtain ⟨gn, hfn⟩ := HST10.out.files 0 rfl rfl; obtain ⟨ga, hfa⟩ := HST10.out.files 1 rfl rfl; refine (sameDisk_yes M (by have := HM30.out; omega) _ hfn hfa).mono ?_; rintro e w11 ⟨rfl, hb11⟩; have hfin := (HST10.out.step hb11).below; clear hb11 hfn hfa; go_wp2; go_ret; exact ⟨rfl, hfin⟩)
set_option maxHeartbeats 1000000 in
set_option maxRecDepth 100000 in
theorem fnRaws_big {cap len : Nat} {a : Option Addr} (w : World) (h : 1048576 < len) :
    Calls Try.prog 11 #[.slice a len cap] w fun e w' => e = .returned (.bool true) ∧ Below w.heap.size w w' := by
  go_enter Try.func11, Try.ntmps11
  go_wp2_with fail
  refine (big_yes a len cap h _).mono ?_
  rintro e w0 ⟨rfl, rfl⟩
  go_wp2
  go_ret
  exact ⟨rfl, Below.refl _ _⟩
end Go.Proofs.Ytpkkejpidlkmnaa
