/- The call of (*scan).take, walked. The calls of the program's scanOf and ScanSeg, walked. -/
import Derived.Test.YtbcfiiilikkkeaaGreatDoorScan
import Derived.Test.YtbcfiiilikkkeaaGreatDoorYield
import Derived.Test.YtbcfiiilikkkeaaGreatDoorUnLaw
namespace Go.Proofs.YtbcfiiilikkkeaaGreatDoor
open Go.RowKit
set_option linter.unusedVariables false

theorem rec_size (r : List UInt8) : (⟨r.toArray⟩ : ByteArray).size = r.length := by show r.toArray.size = _; simp
set_option maxHeartbeats 1000000 in
set_option maxRecDepth 100000 in
theorem take_no {B sb : Nat} {seg : Int} {v1 v2 : Value} {sp : List SpotL} {tx : List (List UInt8)} {stamp : Int} {e : Nat} (r : List UInt8) (hr : r.length ≤ 9000) (w : World) (hS : Sc B sb seg v1 sp v2 tx stamp e w) (hg : ∀ st l, ¬ Batches.Got ⟨r.toArray⟩ st l) :
    Calls Tryz.prog 247 #[.pointer (some ⟨sb, 0, none⟩), .string ⟨r.toArray⟩] w fun en w' => en = .returned (.bool false) ∧ Sc B sb seg v1 sp v2 tx stamp e w' ∧ Kp B sb w w' := by
  have HS : Hid (Sc B sb seg v1 sp v2 tx stamp e w) := hS
  have HG : Hid (∀ st l, ¬ Batches.Got ⟨r.toArray⟩ st l) := hg
  have hrs := rec_size r
  clear hS hg
  go_enter Tryz.func247, Tryz.ntmps247
  go_wp2_with (go_at_call 171; refine (implReadB_no (by omega) _ HG.out).mono ?_; rintro en w1 ⟨rfl, hb1⟩)
  go_ret
  have hb2 := hb1.alloc hb1.size (Obj.cells #[Value.int .i64 0, Value.slice none 0 0] 51)
  exact ⟨rfl, HS.out.same hb2, Kp.of_below HS.out.up hb2⟩
set_option maxHeartbeats 4000000 in
set_option maxRecDepth 100000 in
theorem take_yes {B sb : Nat} {seg : Int} {v1 v2 : Value} {sp : List SpotL} {tx : List (List UInt8)} {stamp : Int} {e : Nat} (x : Scan.It) (hr : x.bytes.length ≤ 9000) (he : e ≤ 900000000) (hsp : sp.length ≤ 1300000) (htx : tx.length ≤ 20000) (w : World) (hS : Sc B sb seg v1 sp v2 tx stamp e w) (hg : Batches.Got ⟨x.bytes.toArray⟩ x.st x.ch) :
    Calls Tryz.prog 247 #[.pointer (some ⟨sb, 0, none⟩), .string ⟨x.bytes.toArray⟩] w fun en w' => en = .returned (.bool true) ∧ ∃ v1' v2', Sc B sb seg v1' (sp ++ Scan.chSpots seg (Scan.itFrom e x) x.ch) v2' (tx ++ [x.bytes]) (if stamp < (x.st : Int) then (x.st : Int) else stamp) (Scan.itNext e x) w' ∧ Kp B sb w w' := by
  obtain ⟨i0, hi, hz0, hz1, hz2⟩ := info_parts Tryz.info9
  obtain ⟨r, st, l⟩ := x
  simp only at hr hg ⊢
  obtain ⟨S', hS'⟩ : ∃ S', S' = (if stamp < (st : Int) then (st : Int) else stamp) := ⟨_, rfl⟩
  have HS' : Hid (S' = (if stamp < (st : Int) then (st : Int) else stamp)) := hS'
  rw [← hS']
  clear hS'
  have HS : Hid (Sc B sb seg v1 sp v2 tx stamp e w) := hS
  have HG : Hid (Batches.Got ⟨r.toArray⟩ st l) := hg
  have hrs := rec_size r
  have hst : st ≤ 100000 := by have := hg.2.1.2; omega
  have hl : l.length ≤ 60 := hg.2.2.1
  have HOK : Hid (∀ c ∈ l, Batches.changeOk c) := fun c hc => by
    obtain ⟨j, hj, rfl⟩ := List.getElem_of_mem hc
    obtain ⟨_, q, _⟩ := hg.2.2.2 j hj
    exact q
  clear hS hg
  obtain ⟨T, hT⟩ : ∃ T : ByteArray, T = ⟨r.toArray⟩ := ⟨_, rfl⟩
  rw [← hT] at HG hrs ⊢
  have HT : Hid (T = ⟨r.toArray⟩) := hT
  have HTS : Hid (T.size = r.length) := hrs
  have hTs : T.size ≤ 9000 := by omega
  clear hT hrs
  obtain ⟨bg, hbg⟩ : ∃ bg, bg = e + Scan.hdr r := ⟨_, rfl⟩
  have hh := Scan.hdr_le r hr
  have HBG : Hid (bg = e + (varS (T.size : Int)).size + 4) := by show _ = _; rw [hbg, varS_len, HTS.out, Scan.hdr]; omega
  have hbgb : bg ≤ 900000100 := by omega
  have HFR : Hid (Scan.itFrom e ⟨r, st, l⟩ = bg + (Words.var st).length + (Words.var l.length).length) := by show _ = _; rw [hbg]; rfl
  have HNX : Hid (Scan.itNext e ⟨r, st, l⟩ = bg + T.size) := by show _ = _; rw [hbg, HTS.out]; rfl
  clear hbg hh
  go_enter Tryz.func247, Tryz.ntmps247
  go_wp2_with fail
  refine (implReadB_yes (by omega) _ HG.out).mono ?_
  rintro en w1 ⟨cv, rfl, ho1, hb1⟩
  obtain ⟨ca, cc, hcv⟩ := own_slice ho1
  subst hcv
  obtain ⟨W2, hW2⟩ : ∃ W2, W2 = w1.alloc (Obj.cells #[Value.int .i64 (st : Int), Value.slice ca l.length cc] 51) := ⟨_, rfl⟩
  obtain ⟨bb, hbb⟩ : ∃ bb, bb = w1.heap.size := ⟨_, rfl⟩
  have hb2 : Below w.heap.size w W2 := by rw [hW2]; exact hb1.alloc hb1.size _
  have hx2 : W2.heap[bb]? = some (.cells #[Value.int .i64 (st : Int), Value.slice ca l.length cc] 51 (0, 0)) := by rw [hW2, hbb]; exact heap_alloc_new w1 _
  have HS2 : Hid (Sc B sb seg v1 sp v2 tx stamp e W2) := HS.out.same hb2
  have HC2 : Hid (W2.ownsRow w.heap.size 149 3 (.slice ca l.length cc) l.length (cellsChange l)) := by rw [hW2]; exact ho1.alloc _
  have HK2 : Hid (Kp B sb w W2) := Kp.of_below HS.out.up hb2
  have hbs : sb ≠ bb := by have := HS.out.lo; have := HS.out.up; have := hb1.size; omega
  have HX2 : Hid (W2.heap[bb]? = some (.cells #[Value.int .i64 (st : Int), Value.slice ca l.length cc] 51 (0, 0))) := hx2
  go_wp2_with fail
  rw [← hW2, ← hbb]
  have s4 := HS2.out.c4
  have y1 := varS_size (T.size : Int) 9000 (by omega)
  have hw1 : IntKind.i64.wrap ((e : Int) + ((varS (T.size : Int)).size : Int)) = (e : Int) + ((varS (T.size : Int)).size : Int) := IntWalk.i64_in _ (by omega)
  have hw2 : IntKind.i64.wrap ((e : Int) + ((varS (T.size : Int)).size : Int) + 4) = (bg : Int) := by have := HBG.out; rw [IntWalk.i64_in _ (by omega)]; omega
  clear hW2 hbb hb1 ho1 hb2 hx2 HS
  have NE := Abv.ne W2
  have F0 := fun x : Abv W2 => x.cell s4
  refine wp_region_above (by kernel_rfl) (by kernel_rfl) ?_
  repeat (go_big_quiet_step (first | (go_at_call 138; exact calls_above (varOf_q _ (by omega) (by omega) _))))
  refine wpQuiet_nil ?_
  rintro w3 ⟨⟨_, hb3⟩, rfl⟩
  have HS3 : Hid (Sc B sb seg v1 sp v2 tx stamp e w3) := HS2.out.same hb3
  have HC3 : Hid (w3.ownsRow w.heap.size 149 3 (.slice ca l.length cc) l.length (cellsChange l)) := own_kept HC2.out hb3
  have HK3 : Hid (Kp B sb w w3) := HK2.out.trans (Kp.of_below HS2.out.up hb3)
  have hx3 := (hb3.block bb (Array.getElem?_eq_some_iff.1 HX2.out).1).trans HX2.out
  have HX3 : Hid (w3.heap[bb]? = some (.cells #[Value.int .i64 (st : Int), Value.slice ca l.length cc] 51 (0, 0))) := hx3
  have g0 := cell_of_row _ _ 0 _ _ _ hx3
  have g1 := cell_of_row _ _ 1 _ _ _ hx3
  simp at g0 g1
  clear NE F0 hb3 hx3 s4 y1 hw1 hw2 HS2 HC2 HK2 HX2
  go_wp2_with fail
  refine (takeCh_is l st hl HOK.out hst bg (by omega) hsp w3 HS3.out HC3.out).mono ?_
  rintro en w4 ⟨rfl, v1', hS4, hK4⟩
  rw [← HFR.out] at hS4
  obtain ⟨sp', hsp'⟩ : ∃ sp', sp' = sp ++ Scan.chSpots seg (Scan.itFrom e ⟨r, st, l⟩) l := ⟨_, rfl⟩
  rw [← hsp'] at hS4
  have HSP : Hid (sp' = sp ++ Scan.chSpots seg (Scan.itFrom e ⟨r, st, l⟩) l) := hsp'
  have HS4 : Hid (Sc B sb seg v1' sp' v2 tx stamp e w4) := hS4
  have HK4 : Hid (Kp B sb w w4) := HK3.out.trans hK4
  have hx4 := hK4.typ bb _ _ HX3.out (by decide) (by decide) (fun e => hbs e.symm)
  have HX4 : Hid (w4.heap[bb]? = some (.cells #[Value.int .i64 (st : Int), Value.slice ca l.length cc] 51 (0, 0))) := hx4
  clear hS4 hK4 hx4 HS3 HK3 HX3 HC3 g0 g1 hsp'
  obtain ⟨va, vc, hva⟩ := own_slice HS4.out.own2
  subst hva
  have s2 := HS4.out.c2
  have sf2 := HS4.out.fz 2
  have hown := HS4.out.own2
  have hupz := HS4.out.up
  go_wp2_with (at_builtin; refine wpList_append_own _ rfl _ _ 158 rfl B 9 i0 (.string ⟨#[]⟩) 1 16 Tryz.underlying158 hi hz0 hz1 hz2 rfl (by decide) _ _ _ rfl (hown.alloc _) ⟨w4.heap.size, 0, none⟩ 1 1 [.string T] rfl rfl ?c1 ?c2 ?c3 ?c4 ?c5 ?_)
  case c1 =>
    intro j u hj
    match j, hj with
    | 0, hj => simp at hj; subst hj; simp [Addr.add]
  case c2 => intro u hu; simp at hu; subst hu; rfl
  case c3 => unfold maxLen; omega
  case c4 => omega
  case c5 => simp; omega
  intro v' w5 hown5 hgrow5 _
  obtain ⟨va', vc', hva'⟩ := own_slice hown5
  subst hva'
  have hB5 := grown_keep' (HS4.out.alloc (Obj.cells #[Value.string T] 9)).blk hgrow5 HS4.out.nb2
  have q2 := cell_of_row _ _ 2 _ _ _ hB5
  have qf2 := frozen_of_row _ _ 2 _ _ hB5
  simp at q2
  have HS5 : Hid (Sc B sb seg v1' sp' (.slice va' (tx.length + 1) vc') (tx ++ [r]) stamp e (w5.setCell ⟨sb, 2, none⟩ (.slice va' (tx.length + 1) vc'))) := (HS4.out.alloc _).app2 hgrow5 (by rw [← HT.out]; exact hown5)
  have hK5 : Kp B sb w4 (w5.setCell ⟨sb, 2, none⟩ (.slice va' (tx.length + 1) vc')) := ((Kp.of_below HS4.out.up ((Below.refl _ _).alloc (Nat.le_refl _) (Obj.cells #[Value.string T] 9))).trans (Kp.of_row (HS4.out.alloc _).up (HS4.out.alloc _).own2 (Or.inr rfl) hgrow5)).trans (Kp.of_set _ _)
  have HK5 : Hid (Kp B sb w (w5.setCell ⟨sb, 2, none⟩ (.slice va' (tx.length + 1) vc'))) := HK4.out.trans hK5
  have hx5 := hK5.typ bb _ _ HX4.out (by decide) (by decide) (fun e => hbs e.symm)
  have HX5 : Hid ((w5.setCell ⟨sb, 2, none⟩ (.slice va' (tx.length + 1) vc')).heap[bb]? = some (.cells #[Value.int .i64 (st : Int), Value.slice ca l.length cc] 51 (0, 0))) := hx5
  clear hown hown5 hgrow5 hB5 hK5 hx5 HS4 HK4 HX4 s2 sf2
  go_wp2_with fail
  obtain ⟨W6, hW6⟩ : ∃ W6, W6 = w5.setCell ⟨sb, 2, none⟩ (.slice va' (tx.length + 1) vc') := ⟨_, rfl⟩
  rw [← hW6] at HS5 HK5 HX5 ⊢
  clear hW6 q2 qf2
  have s3 := HS5.out.c3
  have sf3 := HS5.out.fz 3
  have b0 := cell_of_row _ _ 0 _ _ _ HX5.out
  simp at b0
  have hmax : ∀ ts t w, (Builtin.max_ ts t #[.int .i64 stamp, .int .i64 (st : Int)]).run Tryz.prog w = .ok (.int .i64 S') w := fun ts t w => by rw [run_max_int2, HS'.out]
  go_region
  all_goals
    have HS6 := HS5.out.stamped S'
    have HK6 : Kp B sb w (W6.setCell ⟨sb, 3, none⟩ (.int .i64 S')) := HK5.out.trans (Kp.of_set _ _)
    have HS7 : Hid (Sc B sb seg v1' sp' (.slice va' (tx.length + 1) vc') (tx ++ [r]) S' e (W6.setCell ⟨sb, 3, none⟩ (.int .i64 S')).drew) := HS6.drew
    have HK7 : Hid (Kp B sb w (W6.setCell ⟨sb, 3, none⟩ (.int .i64 S')).drew) := HK6.trans (Kp.of_below HS6.up ((Below.refl _ _).drew))
    obtain ⟨W7, hW7⟩ : ∃ W7, W7 = (W6.setCell ⟨sb, 3, none⟩ (.int .i64 S')).drew := ⟨_, rfl⟩
    rw [← hW7] at HS7 HK7 ⊢
    clear hW7 HS6 HK6
    have t4 := HS7.out.c4
    have tf4 := HS7.out.fz 4
    clear s3 sf3 b0 HS5 HK5 HX5 hmax
    go_wp2
    go_ret
    refine ⟨rfl, v1', .slice va' (tx.length + 1) vc', ?_, HK7.out.trans (Kp.of_set _ _)⟩
    rw [HNX.out, ← HSP.out]
    have := HS7.out.ended (bg + T.size)
    simpa using this
open Go.RowKit
set_option linter.unusedVariables false

theorem stop_le : ∀ (f : Nat) (l : List UInt8) (a : Nat), a ≤ l.length → Words.stop f l a ≤ l.length
  | 0, l, a, h => h
  | f + 1, l, a, h => by
    cases q : Words.fr l a with
    | none => rw [(Words.un_end (f + 1) q).2]; exact h
    | some p =>
      obtain ⟨r, e⟩ := p
      rw [(Words.un_more f q).2]
      exact stop_le f l e (Words.fr_some q).2
theorem unE_rec (s : ByteArray) : unE s = Scan.recEnd 0 (unS s) := by
  unfold unE unS
  split
  · exact Scan.stop_rec _ _ _
  · rfl
theorem unE_le (s : ByteArray) : unE s ≤ 20000 := by
  unfold unE
  split
  · rename_i h
    have := stop_le (s.size + 1) s.data.toList 0 (Nat.zero_le _)
    rw [Words.size_list] at this
    omega
  · omega
theorem unS_size (s : ByteArray) : ∀ r ∈ unS s, 1 ≤ r.length ∧ r.length ≤ 9000 := by
  unfold unS
  split
  · exact Scan.un_size _ _ _
  · intro r hr; exact (List.not_mem_nil hr).elim
theorem own_low {B sb b t z n : Nat} {W W' : World} {v : Value} {xs : List Value} (h : W.ownsRow b t z v n xs) (hk : Kp B sb W W') (hB : W.heap.size ≤ B) (hs : sb < b) : W'.ownsRow b t z v n xs := by
  obtain ⟨h1, h2 | ⟨g, cap, cur, e1, e2, e3, e4⟩⟩ := h
  · exact ⟨h1, Or.inl h2⟩
  · exact ⟨h1, Or.inr ⟨g, cap, cur, e1, e2, (hk.low g (by have := (Array.getElem?_eq_some_iff.1 e3).1; omega) (by omega)).trans e3, e4⟩⟩
theorem five_set {W : World} {Z : Nat} {a0 a1 a2 a3 a4 : Value} {t : TypeId} (h : W.heap[Z]? = some (.cells #[a0, a1, a2, a3, a4] t (0, 0))) (v0 v1 v2 v3 v4 : Value) :
    (((((W.setCell ⟨Z, 0, none⟩ v0).setCell ⟨Z, 1, none⟩ v1).setCell ⟨Z, 2, none⟩ v2).setCell ⟨Z, 3, none⟩ v3).setCell ⟨Z, 4, none⟩ v4).heap[Z]? = some (.cells #[v0, v1, v2, v3, v4] t (0, 0)) := by
  have h1 := heap_setCell_same W Z 0 _ t v0 h
  have h2 := heap_setCell_same _ Z 1 _ t v1 h1
  have h3 := heap_setCell_same _ Z 2 _ t v2 h2
  have h4 := heap_setCell_same _ Z 3 _ t v3 h3
  have h5 := heap_setCell_same _ Z 4 _ t v4 h4
  simpa using h5
def lenC : Option Value → Nat
  | some (.slice _ n _) => n
  | _ => 0
/-- What is to be told of a segment. -/
def ScanPost (w : World) (seg : Int) (items : List Scan.It) (v1 v2 : Value) (w' : World) : Prop :=
  w'.ownsRow w.heap.size 134 4 v1 (Scan.itSpots seg 0 items).length (cellsSpot (Scan.itSpots seg 0 items)) ∧ w'.ownsRow w.heap.size 9 1 v2 items.length (cellsS (items.map fun x => x.bytes)) ∧ Below w.heap.size w w'
theorem ch_len {recs : List (List UInt8)} {items : List Scan.It} (h : Scan.Reads recs items) : ∀ x ∈ items, x.ch.length ≤ 60 ∧ x.bytes ∈ recs := by
  intro x hx
  obtain ⟨i, hi, rfl⟩ := List.getElem_of_mem hx
  obtain ⟨q1, q2⟩ := h.2.1 i hi (by have := h.1; omega)
  exact ⟨q2.2.2.1, by rw [q1]; exact List.getElem_mem _⟩
set_option maxHeartbeats 4000000 in
set_option maxRecDepth 100000 in
theorem scanOf_is (s : ByteArray) (hs : s.size ≤ maxLen) (seg : Int) (items : List Scan.It) (hR : Scan.Reads (unS s) items) (w : World) :
    Calls Tryz.prog 205 #[.string s, .int .i64 seg] w fun en w' => ∃ v1 v2, en = .returned (.agg #[.int .i64 seg, v1, v2, .int .i64 (Scan.itStamp (-1) items), .int .i64 ((Scan.itEnd 0 items : Nat) : Int)]) ∧ ScanPost w seg items v1 v2 w' := by
  obtain ⟨recs, hrecs⟩ : ∃ recs, recs = unS s := ⟨_, rfl⟩
  obtain ⟨z, hz⟩ : ∃ z, z = unE s := ⟨_, rfl⟩
  have HUN : Hid (∀ w : World, Calls Tryz.prog 170 #[.string s] w fun e w' => UnPost recs z w e w') := fun w => by rw [hrecs, hz]; exact implUn_any s hs w
  have HZ : Hid (z = Scan.recEnd 0 recs) := by show _ = _; rw [hz, hrecs]; exact unE_rec s
  have hzb : z ≤ 20000 := by rw [hz]; exact unE_le s
  have hrl : recs.length ≤ 20000 := by rw [hrecs]; exact unS_len s
  have HRS : Hid (∀ r ∈ recs, 1 ≤ r.length ∧ r.length ≤ 9000) := by rw [hrecs]; exact unS_size s
  rw [← hrecs] at hR
  have HR : Hid (Scan.Reads recs items) := hR
  have hil := hR.1
  clear hrecs hz hR
  obtain ⟨W1, hW1⟩ : ∃ W1, W1 = (w.alloc (Obj.cells #[Value.int .i64 0, Value.slice none 0 0, Value.slice none 0 0, Value.int .i64 0, Value.int .i64 0] 213)).alloc (Obj.cells #[Value.int .i64 seg, Value.slice none 0 0, Value.slice none 0 0, Value.int .i64 (-1), Value.int .i64 0] 213) := ⟨_, rfl⟩
  obtain ⟨sb, hsb⟩ : ∃ sb, sb = w.heap.size + 1 := ⟨_, rfl⟩
  have hb1 : Below w.heap.size w W1 := by rw [hW1]; exact ((Below.refl _ _).alloc (Nat.le_refl _) _).alloc (by simp) _
  have h0 : W1.heap[w.heap.size]? = some (.cells #[Value.int .i64 0, Value.slice none 0 0, Value.slice none 0 0, Value.int .i64 0, Value.int .i64 0] 213 (0, 0)) := by
    rw [hW1, Below.heap_alloc _ _ _ (by simp)]; exact heap_alloc_new w _
  have h1 : W1.heap[sb]? = some (.cells #[Value.int .i64 seg, Value.slice none 0 0, Value.slice none 0 0, Value.int .i64 (-1), Value.int .i64 0] 213 (0, 0)) := by
    have := heap_alloc_new (w.alloc (Obj.cells #[Value.int .i64 0, Value.slice none 0 0, Value.slice none 0 0, Value.int .i64 0, Value.int .i64 0] 213)) (Obj.cells #[Value.int .i64 seg, Value.slice none 0 0, Value.slice none 0 0, Value.int .i64 (-1), Value.int .i64 0] 213)
    rw [hW1, hsb]; simpa using this
  have HRB1 : Hid (W1.heap[w.heap.size]? = some (.cells #[Value.int .i64 0, Value.slice none 0 0, Value.slice none 0 0, Value.int .i64 0, Value.int .i64 0] 213 (0, 0))) := h0
  have HSB1 : Hid (W1.heap[sb]? = some (.cells #[Value.int .i64 seg, Value.slice none 0 0, Value.slice none 0 0, Value.int .i64 (-1), Value.int .i64 0] 213 (0, 0))) := h1
  have hws : w.heap.size < sb := by omega
  clear h0 h1
  go_enter Tryz.func205, Tryz.ntmps205
  go_wp2_with fail
  rw [← hW1, ← hsb]
  clear hW1 hsb
  refine Calls.mono (HUN.out W1) ?_
  rintro en w2 ⟨rv, rfl, hor, hb2⟩
  obtain ⟨ra, rc, hrv⟩ := own_slice hor
  subst hrv
  have hsb1 : sb < W1.heap.size := (Array.getElem?_eq_some_iff.1 HSB1.out).1
  have HB2 : Hid (Below w.heap.size w w2) := hb1.trans (hb2.mono hb1.size)
  have HRB2 : Hid (w2.heap[w.heap.size]? = some (.cells #[Value.int .i64 0, Value.slice none 0 0, Value.slice none 0 0, Value.int .i64 0, Value.int .i64 0] 213 (0, 0))) := (hb2.block _ (by omega)).trans HRB1.out
  have HOR : Hid (w2.ownsRow W1.heap.size 9 1 (.slice ra recs.length rc) recs.length (cellsS recs)) := hor
  obtain ⟨B, hB⟩ : ∃ B, B = w2.heap.size := ⟨_, rfl⟩
  have HBB : Hid (B = w2.heap.size) := hB
  have HS2 : Hid (Sc B sb seg (.slice none 0 0) [] (.slice none 0 0) [] (-1) 0 w2) := ⟨(hb2.block _ hsb1).trans HSB1.out, World.ownsRow_nil _ _ _ _, World.ownsRow_nil _ _ _ _, by rw [hB]; have := hb2.size; omega, by rw [hB]; exact Nat.le_refl _⟩
  have hBw : w.heap.size < B := by have := HS2.out.lo; omega
  clear hb2 hor hB hb1 HRB1 HSB1 HUN
  go_wp2_with fail
  go_loopw [] (fun wr => ∃ (k : Nat) (v1 v2 : Value), k ≤ items.length ∧ Hid (Sc B sb seg v1 (Scan.itSpots seg 0 (items.take k)) v2 (recs.take k) (Scan.itStamp (-1) (items.take k)) (Scan.itEnd 0 (items.take k)) wr) ∧ Hid (Kp B sb w2 wr))
    (fun wr => recs.length - lenC (wr.cell? ⟨sb, 2, none⟩))
  case atStart => exact ⟨0, .slice none 0 0, .slice none 0 0, Nat.zero_le _, HS2, Kp.refl⟩
  case round =>
    obtain ⟨k, v1, v2, hk, HS, HK⟩ := hrel
    have HORw : Hid (wr.ownsRow W1.heap.size 9 1 (.slice ra recs.length rc) recs.length (cellsS recs)) := own_low HOR.out HK.out (by rw [HBB.out]; exact Nat.le_refl _) hsb1
    have HRBw : Hid (wr.heap[w.heap.size]? = some (.cells #[Value.int .i64 0, Value.slice none 0 0, Value.slice none 0 0, Value.int .i64 0, Value.int .i64 0] 213 (0, 0))) := (HK.out.low _ hBw (by omega)).trans HRB2.out
    have hbw : Below w.heap.size w wr := HK.out.below HB2.out (by omega) (by omega)
    have htl : (recs.take k).length = k := by rw [List.length_take]; omega
    have HEZ : Hid (Scan.itEnd 0 (items.take k) = Scan.recEnd 0 (recs.take k)) := Scan.reads_end HR.out k hk 0
    have hrt := Scan.recEnd_take (rs := recs) (a := 0) k
    obtain ⟨e, he⟩ : ∃ e, e = Scan.itEnd 0 (items.take k) := ⟨_, rfl⟩
    have hez : e ≤ z := by rw [he, HEZ.out, HZ.out]; omega
    have hezlt : k < recs.length → e < z := fun h => by rw [he, HEZ.out, HZ.out]; omega
    have hezeq : ¬ k < recs.length → e = z := fun h => by rw [he, HEZ.out, HZ.out, List.take_of_length_le (by omega)]
    have HEe : Hid (e = Scan.itEnd 0 (items.take k)) := he
    rw [← he] at HS
    clear he HEZ hrt
    have hspl : (Scan.itSpots seg 0 (items.take k)).length ≤ 1200000 := by
      have := Scan.itSpots_len (seg := seg) (items.take k) 0 (fun x hx => (ch_len HR.out x (List.mem_of_mem_take hx)).1)
      rw [List.length_take] at this
      omega
    obtain ⟨va, vc, hva⟩ := own_slice HS.out.own2
    subst hva
    obtain ⟨ua, uc, hua⟩ := own_slice HS.out.own1
    subst hua
    rw [htl] at HS
    have s0 := HS.out.c0
    have s1 := HS.out.c1
    have s2 := HS.out.c2
    have s3 := HS.out.c3
    have s4 := HS.out.c4
    obtain ⟨SP, hSP⟩ : ∃ SP, SP = Scan.itSpots seg 0 (items.take k) := ⟨_, rfl⟩
    obtain ⟨ST, hST⟩ : ∃ ST, ST = Scan.itStamp (-1) (items.take k) := ⟨_, rfl⟩
    have HSP : Hid (SP = Scan.itSpots seg 0 (items.take k)) := hSP
    have HST : Hid (ST = Scan.itStamp (-1) (items.take k)) := hST
    rw [← hSP] at HS hspl s1
    rw [← hST] at HS s3
    clear hSP hST
    by_cases hkr : k < recs.length
    · have hlt := hezlt hkr
      clear hezlt hezeq
      have hcell : ∃ g, ra = some ⟨g, 0, none⟩ ∧ wr.cell? ⟨g, k, none⟩ = some (.string ⟨recs[k].toArray⟩) := by
        rcases HORw.out.2 with ⟨h1, h2⟩ | ⟨g, cap, cur, h1, _⟩
        · omega
        · cases h1
          refine ⟨g, rfl, ?_⟩
          rw [HORw.out.cellAt k (by omega)]
          simp [cellsS, hkr]
      obtain ⟨g, hg, hcl⟩ := hcell
      subst hg
      obtain ⟨rk, hrk⟩ : ∃ rk, rk = recs[k] := ⟨_, rfl⟩
      have HRK : Hid (rk = recs[k]) := hrk
      rw [← hrk] at hcl
      have hrkl : rk.length ≤ 9000 := by rw [hrk]; exact (HRS.out _ (List.getElem_mem _)).2
      clear hrk
      have hk0 : (0 : Int) ≤ (k : Int) := by omega
      have hk1 : (k : Int) < (recs.length : Int) := by omega
      go_wp2_with fail
      refine (full_part (by omega) hzb hez wr s4).mono ?_
      rintro en w3 ⟨R, rfl, hord, hw3⟩
      rw [hw3]
      clear hw3
      have ho : (FloatKind.f64.format.order R 4607182418800017408 == some .lt) = true := by
        have := hord.2 hlt
        show (Ieee.double.order R Flt.one == some .lt) = true
        rw [this]; rfl
      clear hord
      go_wp2_with fail
      by_cases hki : k < items.length
      · obtain ⟨q1, q2⟩ := HR.out.2.1 k hki hkr
        obtain ⟨x, hx⟩ : ∃ x, x = items[k] := ⟨_, rfl⟩
        rw [← hx] at q1 q2
        rw [← HRK.out] at q1
        have HX : Hid (x = items[k]) := hx
        clear hx
        have HG : Hid (Batches.Got ⟨x.bytes.toArray⟩ x.st x.ch) := by show Batches.Got _ _ _; rw [q1, HRK.out]; exact q2
        have HXB : Hid (x.bytes = rk) := q1
        clear q1 q2
        have hcall := take_yes (B := B) (sb := sb) (seg := seg) x (by rw [HXB.out]; exact hrkl) (show e ≤ 900000000 by omega) (show SP.length ≤ 1300000 by omega) (show (recs.take k).length ≤ 20000 by omega) wr HS.out HG.out
        rw [HXB.out] at hcall
        refine hcall.mono ?_
        rintro en w4 ⟨rfl, v1', v2', hS4, hK4⟩
        have hnm : items.take (k + 1) = items.take k ++ [x] := by rw [List.take_succ_eq_append_getElem hki, HX.out]
        have hrm : recs.take (k + 1) = recs.take k ++ [rk] := by rw [List.take_succ_eq_append_getElem hkr, HRK.out]
        have HS4 : Hid (Sc B sb seg v1' (Scan.itSpots seg 0 (items.take (k + 1))) v2' (recs.take (k + 1)) (Scan.itStamp (-1) (items.take (k + 1))) (Scan.itEnd 0 (items.take (k + 1))) w4) := by
          show Sc _ _ _ _ _ _ _ _ _ _
          rw [hnm, hrm, Scan.itSpots_snoc, Scan.itStamp_snoc, Scan.itEnd_snoc, ← HSP.out, ← HST.out, ← HEe.out]
          exact hS4
        have HK4 : Hid (Kp B sb w2 w4) := HK.out.trans hK4
        clear hS4 hK4 hnm hrm hcall ho
        go_wp2_with fail
        go_roundw
        case rel => exact ⟨k + 1, v1', v2', by omega, HS4, HK4⟩
        case measure =>
          obtain ⟨va', vc', hv'⟩ := own_slice HS4.out.own2
          rw [HS4.out.c2, s2, hv', List.length_take]
          simp only [lenC]
          omega
      · have hke : k = items.length := by omega
        have HNG : Hid (∀ st l, ¬ Batches.Got ⟨rk.toArray⟩ st l) := by
          have := HR.out.2.2 (by omega)
          intro st l hg
          refine this st l ?_
          have e1 : recs[items.length] = rk := by rw [HRK.out]; congr 1; omega
          rw [e1]; exact hg
        refine (take_no rk hrkl wr HS.out HNG.out).mono ?_
        rintro en w4 ⟨rfl, hS4, hK4⟩
        have hb4 : Below w.heap.size w w4 := (HK.out.trans hK4).below HB2.out (by omega) (by omega)
        have hRB4 : w4.heap[w.heap.size]? = some (.cells #[Value.int .i64 0, Value.slice none 0 0, Value.slice none 0 0, Value.int .i64 0, Value.int .i64 0] 213 (0, 0)) := (hK4.low _ hBw (by omega)).trans HRBw.out
        clear s0 s1 s2 s3 s4 hK4 ho
        have t0 := hS4.c0
        have t1 := hS4.c1
        have t2 := hS4.c2
        have t3 := hS4.c3
        have t4 := hS4.c4
        have r0 := cell_of_row _ _ 0 _ _ _ hRB4
        have r1 := cell_of_row _ _ 1 _ _ _ hRB4
        have r2 := cell_of_row _ _ 2 _ _ _ hRB4
        have r3 := cell_of_row _ _ 3 _ _ _ hRB4
        have r4 := cell_of_row _ _ 4 _ _ _ hRB4
        have f0 := frozen_of_row _ _ 0 _ _ hRB4
        have f1 := frozen_of_row _ _ 1 _ _ hRB4
        have f2 := frozen_of_row _ _ 2 _ _ hRB4
        have f3 := frozen_of_row _ _ 3 _ _ hRB4
        have f4 := frozen_of_row _ _ 4 _ _ hRB4
        simp at r0 r1 r2 r3 r4
        have HS4 : Hid (Sc B sb seg (.slice ua SP.length uc) SP (.slice va k vc) (recs.take k) ST e w4) := hS4
        have HRB4 : Hid (w4.heap[w.heap.size]? = some (.cells #[Value.int .i64 0, Value.slice none 0 0, Value.slice none 0 0, Value.int .i64 0, Value.int .i64 0] 213 (0, 0))) := hRB4
        have HB4 : Hid (Below w.heap.size w w4) := hb4
        have HKE : Hid (k = items.length) := hke
        clear hS4 hRB4 hb4 hke
        go_wp2
        have h5 := five_set HRB4.out (.int .i64 seg) (.slice ua SP.length uc) (.slice va k vc) (.int .i64 ST) (.int .i64 (e : Int))
        have l0 := cell_of_row _ _ 0 _ _ _ h5
        have l1 := cell_of_row _ _ 1 _ _ _ h5
        have l2 := cell_of_row _ _ 2 _ _ _ h5
        have l3 := cell_of_row _ _ 3 _ _ _ h5
        have l4 := cell_of_row _ _ 4 _ _ _ h5
        simp at l0 l1 l2 l3 l4
        have fin1 : items.take k = items := List.take_of_length_le (by have := HKE.out; omega)
        refine bodyPost_ret (v := .agg #[.int .i64 seg, .slice ua SP.length uc, .slice va k vc, .int .i64 ST, .int .i64 (e : Int)]) (by simp [results, Tryz.results205, go_sem, l0, l1, l2, l3, l4]) rfl ⟨.slice ua SP.length uc, .slice va k vc, ?_, ?_, ?_, ?_⟩
        · rw [HST.out, HEe.out, fin1]
        · have h := own_mono HS4.out.own1 (show w.heap.size ≤ B by omega)
          rw [← fin1, ← HSP.out]
          exact own_set (own_set (own_set (own_set (own_set h _ _ _ (fun q => by have := (HS4.out.own1.lt _ q).1; omega)) _ _ _ (fun q => by have := (HS4.out.own1.lt _ q).1; omega)) _ _ _ (fun q => by have := (HS4.out.own1.lt _ q).1; omega)) _ _ _ (fun q => by have := (HS4.out.own1.lt _ q).1; omega)) _ _ _ (fun q => by have := (HS4.out.own1.lt _ q).1; omega)
        · have h := own_mono HS4.out.own2 (show w.heap.size ≤ B by omega)
          have em : items.map (fun x => x.bytes) = recs.take k := by rw [← fin1]; exact Scan.reads_map HR.out k hk
          have el : items.length = (recs.take k).length := by rw [htl]; exact HKE.out.symm
          rw [em, el]
          exact own_set (own_set (own_set (own_set (own_set h _ _ _ (fun q => by have := (HS4.out.own2.lt _ q).1; omega)) _ _ _ (fun q => by have := (HS4.out.own2.lt _ q).1; omega)) _ _ _ (fun q => by have := (HS4.out.own2.lt _ q).1; omega)) _ _ _ (fun q => by have := (HS4.out.own2.lt _ q).1; omega)) _ _ _ (fun q => by have := (HS4.out.own2.lt _ q).1; omega)
        · exact ((((HB4.out.setCell (by simp) _).setCell (by simp) _).setCell (by simp) _).setCell (by simp) _).setCell (by simp) _
    · have HKZ : Hid (e = z) := hezeq hkr
      clear hezlt hezeq
      have hke : k = items.length := by omega
      have hS4 := HS.out
      have hb4 := hbw
      have hRB4 := HRBw.out
      obtain ⟨w4, hw4⟩ : ∃ w4, w4 = wr := ⟨_, rfl⟩
      by_cases hz0 : z = 0
      · have hfn := full_nan sb wr
        rw [show (0 : Int) = (z : Int) by omega] at hfn
        clear hz0
        go_wp2_with fail
        refine hfn.mono ?_
        rintro en w3 ⟨rfl, hw3⟩
        rw [hw3]
        clear hw3 hfn
        have ho : (FloatKind.f64.format.order 9221120237041090561 4607182418800017408 == some .lt) = false := by
          show (Ieee.double.order 9221120237041090561 Flt.one == some .lt) = false
          rw [nan_order]; rfl
        rw [← hw4] at hS4 hb4 hRB4 ⊢
        clear s0 s1 s2 s3 s4 hw4
        have t0 := hS4.c0
        have t1 := hS4.c1
        have t2 := hS4.c2
        have t3 := hS4.c3
        have t4 := hS4.c4
        have r0 := cell_of_row _ _ 0 _ _ _ hRB4
        have r1 := cell_of_row _ _ 1 _ _ _ hRB4
        have r2 := cell_of_row _ _ 2 _ _ _ hRB4
        have r3 := cell_of_row _ _ 3 _ _ _ hRB4
        have r4 := cell_of_row _ _ 4 _ _ _ hRB4
        have f0 := frozen_of_row _ _ 0 _ _ hRB4
        have f1 := frozen_of_row _ _ 1 _ _ hRB4
        have f2 := frozen_of_row _ _ 2 _ _ hRB4
        have f3 := frozen_of_row _ _ 3 _ _ hRB4
        have f4 := frozen_of_row _ _ 4 _ _ hRB4
        simp at r0 r1 r2 r3 r4
        have HS4 : Hid (Sc B sb seg (.slice ua SP.length uc) SP (.slice va k vc) (recs.take k) ST e w4) := hS4
        have HRB4 : Hid (w4.heap[w.heap.size]? = some (.cells #[Value.int .i64 0, Value.slice none 0 0, Value.slice none 0 0, Value.int .i64 0, Value.int .i64 0] 213 (0, 0))) := hRB4
        have HB4 : Hid (Below w.heap.size w w4) := hb4
        have HKE : Hid (k = items.length) := hke
        clear hS4 hRB4 hb4 hke
        go_wp2
        have h5 := five_set HRB4.out (.int .i64 seg) (.slice ua SP.length uc) (.slice va k vc) (.int .i64 ST) (.int .i64 (e : Int))
        have l0 := cell_of_row _ _ 0 _ _ _ h5
        have l1 := cell_of_row _ _ 1 _ _ _ h5
        have l2 := cell_of_row _ _ 2 _ _ _ h5
        have l3 := cell_of_row _ _ 3 _ _ _ h5
        have l4 := cell_of_row _ _ 4 _ _ _ h5
        simp at l0 l1 l2 l3 l4
        have fin1 : items.take k = items := List.take_of_length_le (by have := HKE.out; omega)
        refine bodyPost_ret (v := .agg #[.int .i64 seg, .slice ua SP.length uc, .slice va k vc, .int .i64 ST, .int .i64 (e : Int)]) (by simp [results, Tryz.results205, go_sem, l0, l1, l2, l3, l4]) rfl ⟨.slice ua SP.length uc, .slice va k vc, ?_, ?_, ?_, ?_⟩
        · rw [HST.out, HEe.out, fin1]
        · have h := own_mono HS4.out.own1 (show w.heap.size ≤ B by omega)
          rw [← fin1, ← HSP.out]
          exact own_set (own_set (own_set (own_set (own_set h _ _ _ (fun q => by have := (HS4.out.own1.lt _ q).1; omega)) _ _ _ (fun q => by have := (HS4.out.own1.lt _ q).1; omega)) _ _ _ (fun q => by have := (HS4.out.own1.lt _ q).1; omega)) _ _ _ (fun q => by have := (HS4.out.own1.lt _ q).1; omega)) _ _ _ (fun q => by have := (HS4.out.own1.lt _ q).1; omega)
        · have h := own_mono HS4.out.own2 (show w.heap.size ≤ B by omega)
          have em : items.map (fun x => x.bytes) = recs.take k := by rw [← fin1]; exact Scan.reads_map HR.out k hk
          have el : items.length = (recs.take k).length := by rw [htl]; exact HKE.out.symm
          rw [em, el]
          exact own_set (own_set (own_set (own_set (own_set h _ _ _ (fun q => by have := (HS4.out.own2.lt _ q).1; omega)) _ _ _ (fun q => by have := (HS4.out.own2.lt _ q).1; omega)) _ _ _ (fun q => by have := (HS4.out.own2.lt _ q).1; omega)) _ _ _ (fun q => by have := (HS4.out.own2.lt _ q).1; omega)) _ _ _ (fun q => by have := (HS4.out.own2.lt _ q).1; omega)
        · exact ((((HB4.out.setCell (by simp) _).setCell (by simp) _).setCell (by simp) _).setCell (by simp) _).setCell (by simp) _
      · go_wp2_with fail
        refine (full_part (by omega) hzb hez wr s4).mono ?_
        rintro en w3 ⟨R, rfl, hord, hw3⟩
        rw [hw3]
        clear hw3
        have ho : (FloatKind.f64.format.order R 4607182418800017408 == some .lt) = false := by
          show (Ieee.double.order R Flt.one == some .lt) = false
          cases q : (Ieee.double.order R Flt.one == some .lt)
          · rfl
          · have := hord.1 (by simpa using q); have := HKZ.out; omega
        rw [← hw4] at hS4 hb4 hRB4 ⊢
        clear s0 s1 s2 s3 s4 hord hw4
        have t0 := hS4.c0
        have t1 := hS4.c1
        have t2 := hS4.c2
        have t3 := hS4.c3
        have t4 := hS4.c4
        have r0 := cell_of_row _ _ 0 _ _ _ hRB4
        have r1 := cell_of_row _ _ 1 _ _ _ hRB4
        have r2 := cell_of_row _ _ 2 _ _ _ hRB4
        have r3 := cell_of_row _ _ 3 _ _ _ hRB4
        have r4 := cell_of_row _ _ 4 _ _ _ hRB4
        have f0 := frozen_of_row _ _ 0 _ _ hRB4
        have f1 := frozen_of_row _ _ 1 _ _ hRB4
        have f2 := frozen_of_row _ _ 2 _ _ hRB4
        have f3 := frozen_of_row _ _ 3 _ _ hRB4
        have f4 := frozen_of_row _ _ 4 _ _ hRB4
        simp at r0 r1 r2 r3 r4
        have HS4 : Hid (Sc B sb seg (.slice ua SP.length uc) SP (.slice va k vc) (recs.take k) ST e w4) := hS4
        have HRB4 : Hid (w4.heap[w.heap.size]? = some (.cells #[Value.int .i64 0, Value.slice none 0 0, Value.slice none 0 0, Value.int .i64 0, Value.int .i64 0] 213 (0, 0))) := hRB4
        have HB4 : Hid (Below w.heap.size w w4) := hb4
        have HKE : Hid (k = items.length) := hke
        clear hS4 hRB4 hb4 hke
        go_wp2
        have h5 := five_set HRB4.out (.int .i64 seg) (.slice ua SP.length uc) (.slice va k vc) (.int .i64 ST) (.int .i64 (e : Int))
        have l0 := cell_of_row _ _ 0 _ _ _ h5
        have l1 := cell_of_row _ _ 1 _ _ _ h5
        have l2 := cell_of_row _ _ 2 _ _ _ h5
        have l3 := cell_of_row _ _ 3 _ _ _ h5
        have l4 := cell_of_row _ _ 4 _ _ _ h5
        simp at l0 l1 l2 l3 l4
        have fin1 : items.take k = items := List.take_of_length_le (by have := HKE.out; omega)
        refine bodyPost_ret (v := .agg #[.int .i64 seg, .slice ua SP.length uc, .slice va k vc, .int .i64 ST, .int .i64 (e : Int)]) (by simp [results, Tryz.results205, go_sem, l0, l1, l2, l3, l4]) rfl ⟨.slice ua SP.length uc, .slice va k vc, ?_, ?_, ?_, ?_⟩
        · rw [HST.out, HEe.out, fin1]
        · have h := own_mono HS4.out.own1 (show w.heap.size ≤ B by omega)
          rw [← fin1, ← HSP.out]
          exact own_set (own_set (own_set (own_set (own_set h _ _ _ (fun q => by have := (HS4.out.own1.lt _ q).1; omega)) _ _ _ (fun q => by have := (HS4.out.own1.lt _ q).1; omega)) _ _ _ (fun q => by have := (HS4.out.own1.lt _ q).1; omega)) _ _ _ (fun q => by have := (HS4.out.own1.lt _ q).1; omega)) _ _ _ (fun q => by have := (HS4.out.own1.lt _ q).1; omega)
        · have h := own_mono HS4.out.own2 (show w.heap.size ≤ B by omega)
          have em : items.map (fun x => x.bytes) = recs.take k := by rw [← fin1]; exact Scan.reads_map HR.out k hk
          have el : items.length = (recs.take k).length := by rw [htl]; exact HKE.out.symm
          rw [em, el]
          exact own_set (own_set (own_set (own_set (own_set h _ _ _ (fun q => by have := (HS4.out.own2.lt _ q).1; omega)) _ _ _ (fun q => by have := (HS4.out.own2.lt _ q).1; omega)) _ _ _ (fun q => by have := (HS4.out.own2.lt _ q).1; omega)) _ _ _ (fun q => by have := (HS4.out.own2.lt _ q).1; omega)) _ _ _ (fun q => by have := (HS4.out.own2.lt _ q).1; omega)
        · exact ((((HB4.out.setCell (by simp) _).setCell (by simp) _).setCell (by simp) _).setCell (by simp) _).setCell (by simp) _
end Go.Proofs.YtbcfiiilikkkeaaGreatDoor
