/- The call of (*scan).take, walked. -/
import Derived.Test.YtinhgonmdnbdiaaScanCh
namespace Go.Proofs.Ytinhgonmdnbdiaa
open Go.RowKit
set_option linter.unusedVariables false

theorem rec_size (r : List UInt8) : (⟨r.toArray⟩ : ByteArray).size = r.length := by show r.toArray.size = _; simp
set_option maxHeartbeats 1000000 in
set_option maxRecDepth 100000 in
theorem take_no {B sb : Nat} {seg : Int} {v1 v2 : Value} {sp : List SpotL} {tx : List (List UInt8)} {stamp : Int} {e : Nat} (r : List UInt8) (hr : r.length ≤ 9000) (w : World) (hS : Sc B sb seg v1 sp v2 tx stamp e w) (hg : ∀ st l, ¬ Batches.Got ⟨r.toArray⟩ st l) :
    Calls Try.prog 60 #[.pointer (some ⟨sb, 0, none⟩), .string ⟨r.toArray⟩] w fun en w' => en = .returned (.bool false) ∧ Sc B sb seg v1 sp v2 tx stamp e w' ∧ Kp B sb w w' := by
  have HS : Hid (Sc B sb seg v1 sp v2 tx stamp e w) := hS
  have HG : Hid (∀ st l, ¬ Batches.Got ⟨r.toArray⟩ st l) := hg
  have hrs := rec_size r
  clear hS hg
  go_enter Try.func60, Try.ntmps60
  go_wp2_with (go_at_call 76; refine (implReadB_no (by omega) _ HG.out).mono ?_; rintro en w1 ⟨rfl, hb1⟩)
  go_ret
  have hb2 := hb1.alloc hb1.size (Obj.cells #[Value.int .i64 0, Value.slice none 0 0] 47)
  exact ⟨rfl, HS.out.same hb2, Kp.of_below HS.out.up hb2⟩
set_option maxHeartbeats 4000000 in
set_option maxRecDepth 100000 in
theorem take_yes {B sb : Nat} {seg : Int} {v1 v2 : Value} {sp : List SpotL} {tx : List (List UInt8)} {stamp : Int} {e : Nat} (x : Scan.It) (hr : x.bytes.length ≤ 9000) (he : e ≤ 900000000) (hsp : sp.length ≤ 1300000) (htx : tx.length ≤ 20000) (w : World) (hS : Sc B sb seg v1 sp v2 tx stamp e w) (hg : Batches.Got ⟨x.bytes.toArray⟩ x.st x.ch) :
    Calls Try.prog 60 #[.pointer (some ⟨sb, 0, none⟩), .string ⟨x.bytes.toArray⟩] w fun en w' => en = .returned (.bool true) ∧ ∃ v1' v2', Sc B sb seg v1' (sp ++ Scan.chSpots seg (Scan.itFrom e x) x.ch) v2' (tx ++ [x.bytes]) (if stamp < (x.st : Int) then (x.st : Int) else stamp) (Scan.itNext e x) w' ∧ Kp B sb w w' := by
  obtain ⟨i0, hi, hz0, hz1, hz2⟩ := info_parts Try.info9
  obtain ⟨r, st, l⟩ := x
  simp only at hr hg ⊢
  obtain ⟨S', hS'⟩ : ∃ S', S' = (if stamp < (st : Int) then (st : Int) else stamp) := ⟨_, rfl⟩
  have HS' : Hid (S' = (if stamp < (st : Int) then (st : Int) else stamp)) := hS'
  rw [← hS']
  clear hS'
  have HS : Hid (Sc B sb seg v1 sp v2 tx stamp e w) := hS
  have HG : Hid (Batches.Got ⟨r.toArray⟩ st l) := hg
  have hrs := rec_size r
  have hst : st ≤ 100000 := by have := hg.2.1.2; omega
  have hl : l.length ≤ 60 := hg.2.2.1
  have HOK : Hid (∀ c ∈ l, Batches.changeOk c) := fun c hc => by
    obtain ⟨j, hj, rfl⟩ := List.getElem_of_mem hc
    obtain ⟨_, q, _⟩ := hg.2.2.2 j hj
    exact q
  clear hS hg
  obtain ⟨T, hT⟩ : ∃ T : ByteArray, T = ⟨r.toArray⟩ := ⟨_, rfl⟩
  rw [← hT] at HG hrs ⊢
  have HT : Hid (T = ⟨r.toArray⟩) := hT
  have HTS : Hid (T.size = r.length) := hrs
  have hTs : T.size ≤ 9000 := by omega
  clear hT hrs
  obtain ⟨bg, hbg⟩ : ∃ bg, bg = e + Scan.hdr r := ⟨_, rfl⟩
  have hh := Scan.hdr_le r hr
  have HBG : Hid (bg = e + (varS (T.size : Int)).size + 4) := by show _ = _; rw [hbg, varS_len, HTS.out, Scan.hdr]; omega
  have hbgb : bg ≤ 900000100 := by omega
  have HFR : Hid (Scan.itFrom e ⟨r, st, l⟩ = bg + (Words.var st).length + (Words.var l.length).length) := by show _ = _; rw [hbg]; rfl
  have HNX : Hid (Scan.itNext e ⟨r, st, l⟩ = bg + T.size) := by show _ = _; rw [hbg, HTS.out]; rfl
  clear hbg hh
  go_enter Try.func60, Try.ntmps60
  go_wp2_with fail
  refine (implReadB_yes (by omega) _ HG.out).mono ?_
  rintro en w1 ⟨cv, rfl, ho1, hb1⟩
  obtain ⟨ca, cc, hcv⟩ := own_slice ho1
  subst hcv
  obtain ⟨W2, hW2⟩ : ∃ W2, W2 = w1.alloc (Obj.cells #[Value.int .i64 (st : Int), Value.slice ca l.length cc] 47) := ⟨_, rfl⟩
  obtain ⟨bb, hbb⟩ : ∃ bb, bb = w1.heap.size := ⟨_, rfl⟩
  have hb2 : Below w.heap.size w W2 := by rw [hW2]; exact hb1.alloc hb1.size _
  have hx2 : W2.heap[bb]? = some (.cells #[Value.int .i64 (st : Int), Value.slice ca l.length cc] 47 (0, 0)) := by rw [hW2, hbb]; exact heap_alloc_new w1 _
  have HS2 : Hid (Sc B sb seg v1 sp v2 tx stamp e W2) := HS.out.same hb2
  have HC2 : Hid (W2.ownsRow w.heap.size 53 3 (.slice ca l.length cc) l.length (cellsChange l)) := by rw [hW2]; exact ho1.alloc _
  have HK2 : Hid (Kp B sb w W2) := Kp.of_below HS.out.up hb2
  have hbs : sb ≠ bb := by have := HS.out.lo; have := HS.out.up; have := hb1.size; omega
  have HX2 : Hid (W2.heap[bb]? = some (.cells #[Value.int .i64 (st : Int), Value.slice ca l.length cc] 47 (0, 0))) := hx2
  go_wp2_with fail
  rw [← hW2, ← hbb]
  have s4 := HS2.out.c4
  have y1 := varS_size (T.size : Int) 9000 (by omega)
  have hw1 : IntKind.i64.wrap ((e : Int) + ((varS (T.size : Int)).size : Int)) = (e : Int) + ((varS (T.size : Int)).size : Int) := IntWalk.i64_in _ (by omega)
  have hw2 : IntKind.i64.wrap ((e : Int) + ((varS (T.size : Int)).size : Int) + 4) = (bg : Int) := by have := HBG.out; rw [IntWalk.i64_in _ (by omega)]; omega
  clear hW2 hbb hb1 ho1 hb2 hx2 HS
  have NE := Abv.ne W2
  have F0 := fun x : Abv W2 => x.cell s4
  refine wp_region_above (by kernel_rfl) (by kernel_rfl) ?_
  repeat (go_big_quiet_step (first | (go_at_call 43; exact calls_above (varOf_q _ (by omega) (by omega) _))))
  refine wpQuiet_nil ?_
  rintro w3 ⟨⟨_, hb3⟩, rfl⟩
  have HS3 : Hid (Sc B sb seg v1 sp v2 tx stamp e w3) := HS2.out.same hb3
  have HC3 : Hid (w3.ownsRow w.heap.size 53 3 (.slice ca l.length cc) l.length (cellsChange l)) := own_kept HC2.out hb3
  have HK3 : Hid (Kp B sb w w3) := HK2.out.trans (Kp.of_below HS2.out.up hb3)
  have hx3 := (hb3.block bb (Array.getElem?_eq_some_iff.1 HX2.out).1).trans HX2.out
  have HX3 : Hid (w3.heap[bb]? = some (.cells #[Value.int .i64 (st : Int), Value.slice ca l.length cc] 47 (0, 0))) := hx3
  have g0 := cell_of_row _ _ 0 _ _ _ hx3
  have g1 := cell_of_row _ _ 1 _ _ _ hx3
  simp at g0 g1
  clear NE F0 hb3 hx3 s4 y1 hw1 hw2 HS2 HC2 HK2 HX2
  go_wp2_with fail
  refine (takeCh_is l st hl HOK.out hst bg (by omega) hsp w3 HS3.out HC3.out).mono ?_
  rintro en w4 ⟨rfl, v1', hS4, hK4⟩
  rw [← HFR.out] at hS4
  obtain ⟨sp', hsp'⟩ : ∃ sp', sp' = sp ++ Scan.chSpots seg (Scan.itFrom e ⟨r, st, l⟩) l := ⟨_, rfl⟩
  rw [← hsp'] at hS4
  have HSP : Hid (sp' = sp ++ Scan.chSpots seg (Scan.itFrom e ⟨r, st, l⟩) l) := hsp'
  have HS4 : Hid (Sc B sb seg v1' sp' v2 tx stamp e w4) := hS4
  have HK4 : Hid (Kp B sb w w4) := HK3.out.trans hK4
  have hx4 := hK4.typ bb _ _ HX3.out (by decide) (by decide) (fun e => hbs e.symm)
  have HX4 : Hid (w4.heap[bb]? = some (.cells #[Value.int .i64 (st : Int), Value.slice ca l.length cc] 47 (0, 0))) := hx4
  clear hS4 hK4 hx4 HS3 HK3 HX3 HC3 g0 g1 hsp'
  obtain ⟨va, vc, hva⟩ := own_slice HS4.out.own2
  subst hva
  have s2 := HS4.out.c2
  have sf2 := HS4.out.fz 2
  have hown := HS4.out.own2
  have hupz := HS4.out.up
  go_wp2_with (at_builtin; refine wpList_append_own _ rfl _ _ 23 rfl B 9 i0 (.string ⟨#[]⟩) 1 16 Try.underlying23 hi hz0 hz1 hz2 rfl (by decide) _ _ _ rfl (hown.alloc _) ⟨w4.heap.size, 0, none⟩ 1 1 [.string T] rfl rfl ?c1 ?c2 ?c3 ?c4 ?c5 ?_)
  case c1 =>
    intro j u hj
    match j, hj with
    | 0, hj => simp at hj; subst hj; simp [Addr.add]
  case c2 => intro u hu; simp at hu; subst hu; rfl
  case c3 => unfold maxLen; omega
  case c4 => omega
  case c5 => simp; omega
  intro v' w5 hown5 hgrow5 _
  obtain ⟨va', vc', hva'⟩ := own_slice hown5
  subst hva'
  have hB5 := grown_keep' (HS4.out.alloc (Obj.cells #[Value.string T] 9)).blk hgrow5 HS4.out.nb2
  have q2 := cell_of_row _ _ 2 _ _ _ hB5
  have qf2 := frozen_of_row _ _ 2 _ _ hB5
  simp at q2
  have HS5 : Hid (Sc B sb seg v1' sp' (.slice va' (tx.length + 1) vc') (tx ++ [r]) stamp e (w5.setCell ⟨sb, 2, none⟩ (.slice va' (tx.length + 1) vc'))) := (HS4.out.alloc _).app2 hgrow5 (by rw [← HT.out]; exact hown5)
  have hK5 : Kp B sb w4 (w5.setCell ⟨sb, 2, none⟩ (.slice va' (tx.length + 1) vc')) := ((Kp.of_below HS4.out.up ((Below.refl _ _).alloc (Nat.le_refl _) (Obj.cells #[Value.string T] 9))).trans (Kp.of_row (HS4.out.alloc _).up (HS4.out.alloc _).own2 (Or.inr rfl) hgrow5)).trans (Kp.of_set _ _)
  have HK5 : Hid (Kp B sb w (w5.setCell ⟨sb, 2, none⟩ (.slice va' (tx.length + 1) vc'))) := HK4.out.trans hK5
  have hx5 := hK5.typ bb _ _ HX4.out (by decide) (by decide) (fun e => hbs e.symm)
  have HX5 : Hid ((w5.setCell ⟨sb, 2, none⟩ (.slice va' (tx.length + 1) vc')).heap[bb]? = some (.cells #[Value.int .i64 (st : Int), Value.slice ca l.length cc] 47 (0, 0))) := hx5
  clear hown hown5 hgrow5 hB5 hK5 hx5 HS4 HK4 HX4 s2 sf2
  go_wp2_with fail
  obtain ⟨W6, hW6⟩ : ∃ W6, W6 = w5.setCell ⟨sb, 2, none⟩ (.slice va' (tx.length + 1) vc') := ⟨_, rfl⟩
  rw [← hW6] at HS5 HK5 HX5 ⊢
  clear hW6 q2 qf2
  have s3 := HS5.out.c3
  have sf3 := HS5.out.fz 3
  have b0 := cell_of_row _ _ 0 _ _ _ HX5.out
  simp at b0
  have hmax : ∀ ts t w, (Builtin.max_ ts t #[.int .i64 stamp, .int .i64 (st : Int)]).run Try.prog w = .ok (.int .i64 S') w := fun ts t w => by rw [run_max_int2, HS'.out]
  go_region
  all_goals
    have HS6 := HS5.out.stamped S'
    have HK6 : Kp B sb w (W6.setCell ⟨sb, 3, none⟩ (.int .i64 S')) := HK5.out.trans (Kp.of_set _ _)
    have HS7 : Hid (Sc B sb seg v1' sp' (.slice va' (tx.length + 1) vc') (tx ++ [r]) S' e (W6.setCell ⟨sb, 3, none⟩ (.int .i64 S')).drew) := HS6.drew
    have HK7 : Hid (Kp B sb w (W6.setCell ⟨sb, 3, none⟩ (.int .i64 S')).drew) := HK6.trans (Kp.of_below HS6.up ((Below.refl _ _).drew))
    obtain ⟨W7, hW7⟩ : ∃ W7, W7 = (W6.setCell ⟨sb, 3, none⟩ (.int .i64 S')).drew := ⟨_, rfl⟩
    rw [← hW7] at HS7 HK7 ⊢
    clear hW7 HS6 HK6
    have t4 := HS7.out.c4
    have tf4 := HS7.out.fz 4
    clear s3 sf3 b0 HS5 HK5 HX5 hmax
    go_wp2
    go_ret
    refine ⟨rfl, v1', .slice va' (tx.length + 1) vc', ?_, HK7.out.trans (Kp.of_set _ _)⟩
    rw [HNX.out, ← HSP.out]
    have := HS7.out.ended (bg + T.size)
    simpa using this
end Go.Proofs.Ytinhgonmdnbdiaa
