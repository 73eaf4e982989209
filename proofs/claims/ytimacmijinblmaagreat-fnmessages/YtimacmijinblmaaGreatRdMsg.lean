/- The program's readers of a message's fields, walked. -/
import Derived.Test.YtimacmijinblmaaGreatRdEnts
import Derived.Test.YtimacmijinblmaaGreatFldC
import Derived.Test.YtimacmijinblmaaGreatSpecDec
namespace Go.Proofs.YtimacmijinblmaaGreat
open Go.RowKit
open Ents (okB)
open Batches (cut)
open Msgs (okM bt Got pos epos)
set_option linter.unusedVariables false
set_option linter.unusedSimpArgs false

/-- The first k fields of one are those of the other. -/
def agree (m u : MsgL) (k : Nat) : Prop := (0 < k → m.kind = u.kind) ∧ (1 < k → m.frm = u.frm) ∧ (2 < k → m.dst = u.dst) ∧ (3 < k → m.term = u.term) ∧ (4 < k → m.index = u.index) ∧ (5 < k → m.lterm = u.lterm) ∧ (6 < k → m.commit = u.commit) ∧ (7 < k → m.ok = u.ok) ∧ (8 < k → m.last = u.last) ∧ (9 < k → m.ents = u.ents) ∧ (10 < k → m.conf = u.conf) ∧ (11 < k → m.data = u.data)
theorem agree_all {m u : MsgL} (h : agree m u 12) : m = u := by
  obtain ⟨h0, h1, h2, h3, h4, h5, h6, h7, h8, h9, h10, h11⟩ := h
  cases m
  cases u
  simp only at h0 h1 h2 h3 h4 h5 h6 h7 h8 h9 h10 h11
  simp only [h0 (by decide), h1 (by decide), h2 (by decide), h3 (by decide), h4 (by decide), h5 (by decide), h6 (by decide), h7 (by decide), h8 (by decide), h9 (by decide), h10 (by decide), h11 (by decide)]
def cellsM (m : MsgL) (v8 v9 : Value) : Array Value := #[.int .i64 m.kind, .int .i64 m.frm, .int .i64 m.dst, .int .i64 m.term, .int .i64 m.index, .int .i64 m.lterm, .int .i64 m.commit, .bool m.ok, v8, v9, .string m.data, .bool m.last]
structure MS (w : World) (rb mb q : Nat) (t : ByteArray) (m : MsgL) (v8 v9 : Value) (a : Nat) (X : World) : Prop where
  cur : Rd X rb t a
  res : X.heap[w.heap.size]? = some (.cells zeroC 25 (0, 0))
  msg : X.heap[mb]? = some (.cells (cellsM m v8 v9) 25 (0, 0))
  tab : X.heap[q]? = some (.cells fieldsC 80 (0, 0))
  low : rb < w.heap.size ∧ q < w.heap.size ∧ w.heap.size < mb
  ent : X.ownsRow w.heap.size 44 3 v8 m.ents.length (cellsEn m.ents)
  cnf : X.ownsRow w.heap.size 3 1 v9 m.conf.length (cellsI m.conf)
  gr : w.grownBy X (some rb)
section
variable {w : World} {rb mb q : Nat} {t : ByteArray} {m : MsgL} {v8 v9 : Value} {a : Nat} {X : World}
theorem MS.qr (h : MS w rb mb q t m v8 v9 a X) : q ≠ rb := fun e => by
  have h1 := h.tab
  rw [e, h.cur.1] at h1
  simp [fieldsC] at h1
theorem MS.grown (h : MS w rb mb q t m v8 v9 a X) {X' : World} {a' : Nat} (hg : X.grownBy X' (some rb)) (hr : Rd X' rb t a') : MS w rb mb q t m v8 v9 a' X' :=
  ⟨hr, grown_keep h.res hg (by have := h.low; omega), grown_keep h.msg hg (by have := h.low; omega), grown_keep h.tab hg h.qr, h.low, h.ent.kept hg (Or.inr (own_not h.ent h.cur.1 (by decide))), h.cnf.kept hg (Or.inr (own_not h.cnf h.cur.1 (by decide))), h.gr.trans hg⟩
theorem MS.below (h : MS w rb mb q t m v8 v9 a X) {X' : World} (hb : Below X.heap.size X X') : MS w rb mb q t m v8 v9 a X' := h.grown (own_below' hb) (h.cur.below hb)
theorem MS.set (h : MS w rb mb q t m v8 v9 a X) (j : Nat) (val : Value) {m' : MsgL} (hA : (cellsM m v8 v9).setIfInBounds j val = cellsM m' v8 v9) (he : m'.ents = m.ents) (hc : m'.conf = m.conf) : MS w rb mb q t m' v8 v9 a (X.setCell ⟨mb, j, none⟩ val) := by
  have hg := grown_set X mb j val
  have hlow := h.low
  have hm := heap_setCell_same X mb j (cellsM m v8 v9) 25 val h.msg
  rw [hA] at hm
  exact ⟨h.cur.setNew (by omega) j val, set_far h.res (by omega) j val, hm, set_far h.tab (by omega) j val, h.low, by rw [he]; exact h.ent.kept hg (Or.inr (own_not h.ent h.msg (by decide))), by rw [hc]; exact h.cnf.kept hg (Or.inr (own_not h.cnf h.msg (by decide))), grown_new h.gr (by omega) j val⟩
theorem MS.setE (h : MS w rb mb q t m v8 v9 a X) {l : List EntL} {v : Value} (ho : X.ownsRow w.heap.size 44 3 v l.length (cellsEn l)) : MS w rb mb q t { m with ents := l } v v9 a (X.setCell ⟨mb, 8, none⟩ v) := by
  have hg := grown_set X mb 8 v
  have hlow := h.low
  have hm := heap_setCell_same X mb 8 (cellsM m v8 v9) 25 v h.msg
  exact ⟨h.cur.setNew (by omega) 8 v, set_far h.res (by omega) 8 v, hm, set_far h.tab (by omega) 8 v, h.low, ho.kept hg (Or.inr (own_not ho h.msg (by decide))), h.cnf.kept hg (Or.inr (own_not h.cnf h.msg (by decide))), grown_new h.gr (by omega) 8 v⟩
theorem MS.setC (h : MS w rb mb q t m v8 v9 a X) {c : List Int} {v : Value} (ho : X.ownsRow w.heap.size 3 1 v c.length (cellsI c)) : MS w rb mb q t { m with conf := c } v8 v a (X.setCell ⟨mb, 9, none⟩ v) := by
  have hg := grown_set X mb 9 v
  have hlow := h.low
  have hm := heap_setCell_same X mb 9 (cellsM m v8 v9) 25 v h.msg
  exact ⟨h.cur.setNew (by omega) 9 v, set_far h.res (by omega) 9 v, hm, set_far h.tab (by omega) 9 v, h.low, h.ent.kept hg (Or.inr (own_not h.ent h.msg (by decide))), ho.kept hg (Or.inr (own_not ho h.msg (by decide))), grown_new h.gr (by omega) 9 v⟩
end
/-- What reading one field tells. -/
structure Step (t : ByteArray) (k : Nat) (m m' : MsgL) (a b : Nat) : Prop where
  le : a ≤ b
  fld : (fieldsL m')[k]? = some (cut t a b)
  old : parts m' k = parts m k
  ok : ∀ u, Got t u → a = pos u k → b = pos u (k + 1) ∧ (agree m u k → agree m' u (k + 1))
def FP (w : World) (rb mb q : Nat) (t : ByteArray) (k : Nat) (m : MsgL) (a : Nat) (en : Ending) (X' : World) : Prop :=
  (∃ m' v8 v9 b, en = .returned (.tuple #[]) ∧ MS w rb mb q t m' v8 v9 b X' ∧ Step t k m m' a b) ∨ (en = .panicked thrown ∧ (∀ u, Got t u → a ≠ pos u k) ∧ w.grownBy X' (some rb))
theorem bt_byte (x : UInt8) : bt ((x.toNat : Nat) : Int) = x := by
  unfold bt
  rw [Int.toNat_natCast]
  simp
theorem flag_at {t : ByteArray} {a : Nat} {g : Bool} (h : (Batches.by_ t)[a]? = some (Batches.flag g)) : Batches.rdFlag t a = some (g, a + 1) := by
  unfold Batches.rdFlag
  rw [h]
  cases g <;> rfl
theorem flag_cut {t : ByteArray} {a b : Nat} {g : Bool} (h : Batches.rdFlag t a = some (g, b)) : b = a + 1 ∧ cut t a b = [Batches.flag g] := by
  unfold Batches.rdFlag at h
  split at h
  · cases h
  · rename_i x hx
    split at h
    · rename_i hle
      simp only [Option.some.injEq, Prod.mk.injEq] at h
      obtain ⟨h1, h2⟩ := h
      refine ⟨h2.symm, ?_⟩
      rw [← h2, (Ents.cut_one hx).2]
      have : x.toNat = 0 ∨ x.toNat = 1 := by omega
      rcases this with e | e
      · rw [e] at h1
        rw [← h1]
        have : x = 0 := UInt8.toNat_inj.1 e
        rw [this]; rfl
      · rw [e] at h1
        rw [← h1]
        have : x = 1 := UInt8.toNat_inj.1 e
        rw [this]; rfl
    · cases h
set_option maxHeartbeats 2000000 in
set_option maxRecDepth 100000 in
theorem read0_is {w : World} {rb mb q : Nat} {t : ByteArray} {m : MsgL} {v8 v9 : Value} {a : Nat} {X : World} (hs : t.size ≤ 1048576) (h : MS w rb mb q t m v8 v9 a X) :
    Calls Tryz.prog 50 #[.pointer (some ⟨rb, 0, none⟩), .pointer (some ⟨mb, 0, none⟩)] X (FP w rb mb q t 0 m a) := by
  have HM : Hid (MS w rb mb q t m v8 v9 a X) := h
  clear h
  cases hx : (Batches.by_ t)[a]? with
  | none =>
    have HN : Hid (∀ u, Got t u → a ≠ pos u 0) := fun u hu e => by
      have := (Msgs.at_byte hu (k := 0) rfl).1
      rw [← e, hx] at this
      cases this
    have hna := at_none hx
    clear hx
    go_enter Tryz.func50, Tryz.ntmps50
    go_wp2_with (go_at_call 51; refine (one_none hs _ HM.out.cur hna).mono ?_; rintro e w1 ⟨rfl, hg1⟩)
    exact ⟨rfl, Or.inr ⟨rfl, HN.out, HM.out.gr.trans hg1⟩⟩
  | some x =>
    have HST : Hid (Step t 0 m { m with kind := ((x.toNat : Nat) : Int) } a (a + 1)) := by
      obtain ⟨c1, c2⟩ := Ents.cut_one hx
      refine ⟨by omega, ?_, rfl, fun u hu e => ?_⟩
      · rw [c2]
        show some [bt ((x.toNat : Nat) : Int)] = some [x]
        rw [bt_byte]
      · obtain ⟨p1, p2⟩ := Msgs.at_byte hu (k := 0) rfl
        rw [← e, hx] at p1
        have Fu := Msgs.fits hu.2
        have hv : ((x.toNat : Nat) : Int) = u.kind := by
          cases p1
          exact Msgs.bt_back Fu.kind.1 (by have := Fu.kind; omega)
        exact ⟨by rw [p2, ← e], fun hag => ⟨fun _ => hv, fun x => absurd x (by omega), fun x => absurd x (by omega), fun x => absurd x (by omega), fun x => absurd x (by omega), fun x => absurd x (by omega), fun x => absurd x (by omega), fun x => absurd x (by omega), fun x => absurd x (by omega), fun x => absurd x (by omega), fun x => absurd x (by omega), fun x => absurd x (by omega)⟩⟩
    have HX : Hid ((Batches.by_ t)[a]? = some x) := hx
    have wv : wrap64 ((x.toNat : Nat) : Int) = ((x.toNat : Nat) : Int) := wrap_byte x
    have HWV : Hid (wrap64 ((x.toNat : Nat) : Int) = ((x.toNat : Nat) : Int)) := wv
    clear hx wv
    go_enter Tryz.func50, Tryz.ntmps50
    go_wp2_with fail
    refine (one_at hs _ HM.out.cur HX.out).mono ?_
    rintro e X1 ⟨rfl, hr1, hg1⟩
    have hM1 := HM.out.grown hg1 hr1
    have x1 := cell_of_row _ _ 0 _ _ _ hM1.msg
    have xf := frozen_of_row _ _ 0 _ _ hM1.msg
    simp [cellsM] at x1
    have HP : Hid (FP w rb mb q t 0 m a (.returned (.tuple #[])) (X1.setCell ⟨mb, 0, none⟩ (.int .i64 ((x.toNat : Nat) : Int)))) := Or.inl ⟨{ m with kind := ((x.toNat : Nat) : Int) }, v8, v9, _, rfl, hM1.set 0 _ rfl rfl rfl, HST.out⟩
    clear hM1 hr1 hg1 HM HST
    have wv := (wrap_i64 ((x.toNat : Nat) : Int)).trans HWV.out
    go_wp2
    go_end0
    exact HP.out
set_option maxHeartbeats 2000000 in
set_option maxRecDepth 100000 in
theorem read1_is {w : World} {rb mb q : Nat} {t : ByteArray} {m : MsgL} {v8 v9 : Value} {a : Nat} {X : World} (hs : t.size ≤ 1048576) (h : MS w rb mb q t m v8 v9 a X) :
    Calls Tryz.prog 53 #[.pointer (some ⟨rb, 0, none⟩), .pointer (some ⟨mb, 0, none⟩)] X (FP w rb mb q t 1 m a) := by
  have HM : Hid (MS w rb mb q t m v8 v9 a X) := h
  clear h
  cases hx : (Batches.by_ t)[a]? with
  | none =>
    have HN : Hid (∀ u, Got t u → a ≠ pos u 1) := fun u hu e => by
      have := (Msgs.at_byte hu (k := 1) rfl).1
      rw [← e, hx] at this
      cases this
    have hna := at_none hx
    clear hx
    go_enter Tryz.func53, Tryz.ntmps53
    go_wp2_with (go_at_call 51; refine (one_none hs _ HM.out.cur hna).mono ?_; rintro e w1 ⟨rfl, hg1⟩)
    exact ⟨rfl, Or.inr ⟨rfl, HN.out, HM.out.gr.trans hg1⟩⟩
  | some x =>
    have HST : Hid (Step t 1 m { m with frm := ((x.toNat : Nat) : Int) } a (a + 1)) := by
      obtain ⟨c1, c2⟩ := Ents.cut_one hx
      refine ⟨by omega, ?_, rfl, fun u hu e => ?_⟩
      · rw [c2]
        show some [bt ((x.toNat : Nat) : Int)] = some [x]
        rw [bt_byte]
      · obtain ⟨p1, p2⟩ := Msgs.at_byte hu (k := 1) rfl
        rw [← e, hx] at p1
        have Fu := Msgs.fits hu.2
        have hv : ((x.toNat : Nat) : Int) = u.frm := by
          cases p1
          exact Msgs.bt_back Fu.frm.1 (by have := Fu.frm; omega)
        exact ⟨by rw [p2, ← e], fun hag => ⟨fun _ => hag.1 (by omega), fun _ => hv, fun x => absurd x (by omega), fun x => absurd x (by omega), fun x => absurd x (by omega), fun x => absurd x (by omega), fun x => absurd x (by omega), fun x => absurd x (by omega), fun x => absurd x (by omega), fun x => absurd x (by omega), fun x => absurd x (by omega), fun x => absurd x (by omega)⟩⟩
    have HX : Hid ((Batches.by_ t)[a]? = some x) := hx
    have wv : wrap64 ((x.toNat : Nat) : Int) = ((x.toNat : Nat) : Int) := wrap_byte x
    have HWV : Hid (wrap64 ((x.toNat : Nat) : Int) = ((x.toNat : Nat) : Int)) := wv
    clear hx wv
    go_enter Tryz.func53, Tryz.ntmps53
    go_wp2_with fail
    refine (one_at hs _ HM.out.cur HX.out).mono ?_
    rintro e X1 ⟨rfl, hr1, hg1⟩
    have hM1 := HM.out.grown hg1 hr1
    have x1 := cell_of_row _ _ 1 _ _ _ hM1.msg
    have xf := frozen_of_row _ _ 1 _ _ hM1.msg
    simp [cellsM] at x1
    have HP : Hid (FP w rb mb q t 1 m a (.returned (.tuple #[])) (X1.setCell ⟨mb, 1, none⟩ (.int .i64 ((x.toNat : Nat) : Int)))) := Or.inl ⟨{ m with frm := ((x.toNat : Nat) : Int) }, v8, v9, _, rfl, hM1.set 1 _ rfl rfl rfl, HST.out⟩
    clear hM1 hr1 hg1 HM HST
    have wv := (wrap_i64 ((x.toNat : Nat) : Int)).trans HWV.out
    go_wp2
    go_end0
    exact HP.out
set_option maxHeartbeats 2000000 in
set_option maxRecDepth 100000 in
theorem read2_is {w : World} {rb mb q : Nat} {t : ByteArray} {m : MsgL} {v8 v9 : Value} {a : Nat} {X : World} (hs : t.size ≤ 1048576) (h : MS w rb mb q t m v8 v9 a X) :
    Calls Tryz.prog 55 #[.pointer (some ⟨rb, 0, none⟩), .pointer (some ⟨mb, 0, none⟩)] X (FP w rb mb q t 2 m a) := by
  have HM : Hid (MS w rb mb q t m v8 v9 a X) := h
  clear h
  cases hx : (Batches.by_ t)[a]? with
  | none =>
    have HN : Hid (∀ u, Got t u → a ≠ pos u 2) := fun u hu e => by
      have := (Msgs.at_byte hu (k := 2) rfl).1
      rw [← e, hx] at this
      cases this
    have hna := at_none hx
    clear hx
    go_enter Tryz.func55, Tryz.ntmps55
    go_wp2_with (go_at_call 51; refine (one_none hs _ HM.out.cur hna).mono ?_; rintro e w1 ⟨rfl, hg1⟩)
    exact ⟨rfl, Or.inr ⟨rfl, HN.out, HM.out.gr.trans hg1⟩⟩
  | some x =>
    have HST : Hid (Step t 2 m { m with dst := ((x.toNat : Nat) : Int) } a (a + 1)) := by
      obtain ⟨c1, c2⟩ := Ents.cut_one hx
      refine ⟨by omega, ?_, rfl, fun u hu e => ?_⟩
      · rw [c2]
        show some [bt ((x.toNat : Nat) : Int)] = some [x]
        rw [bt_byte]
      · obtain ⟨p1, p2⟩ := Msgs.at_byte hu (k := 2) rfl
        rw [← e, hx] at p1
        have Fu := Msgs.fits hu.2
        have hv : ((x.toNat : Nat) : Int) = u.dst := by
          cases p1
          exact Msgs.bt_back Fu.dst.1 (by have := Fu.dst; omega)
        exact ⟨by rw [p2, ← e], fun hag => ⟨fun _ => hag.1 (by omega), fun _ => hag.2.1 (by omega), fun _ => hv, fun x => absurd x (by omega), fun x => absurd x (by omega), fun x => absurd x (by omega), fun x => absurd x (by omega), fun x => absurd x (by omega), fun x => absurd x (by omega), fun x => absurd x (by omega), fun x => absurd x (by omega), fun x => absurd x (by omega)⟩⟩
    have HX : Hid ((Batches.by_ t)[a]? = some x) := hx
    have wv : wrap64 ((x.toNat : Nat) : Int) = ((x.toNat : Nat) : Int) := wrap_byte x
    have HWV : Hid (wrap64 ((x.toNat : Nat) : Int) = ((x.toNat : Nat) : Int)) := wv
    clear hx wv
    go_enter Tryz.func55, Tryz.ntmps55
    go_wp2_with fail
    refine (one_at hs _ HM.out.cur HX.out).mono ?_
    rintro e X1 ⟨rfl, hr1, hg1⟩
    have hM1 := HM.out.grown hg1 hr1
    have x1 := cell_of_row _ _ 2 _ _ _ hM1.msg
    have xf := frozen_of_row _ _ 2 _ _ hM1.msg
    simp [cellsM] at x1
    have HP : Hid (FP w rb mb q t 2 m a (.returned (.tuple #[])) (X1.setCell ⟨mb, 2, none⟩ (.int .i64 ((x.toNat : Nat) : Int)))) := Or.inl ⟨{ m with dst := ((x.toNat : Nat) : Int) }, v8, v9, _, rfl, hM1.set 2 _ rfl rfl rfl, HST.out⟩
    clear hM1 hr1 hg1 HM HST
    have wv := (wrap_i64 ((x.toNat : Nat) : Int)).trans HWV.out
    go_wp2
    go_end0
    exact HP.out
set_option maxHeartbeats 2000000 in
set_option maxRecDepth 100000 in
theorem read3_is {w : World} {rb mb q : Nat} {t : ByteArray} {m : MsgL} {v8 v9 : Value} {a : Nat} {X : World} (hs : t.size ≤ 1048576) (h : MS w rb mb q t m v8 v9 a X) :
    Calls Tryz.prog 58 #[.pointer (some ⟨rb, 0, none⟩), .pointer (some ⟨mb, 0, none⟩)] X (FP w rb mb q t 3 m a) := by
  have HM : Hid (MS w rb mb q t m v8 v9 a X) := h
  clear h
  cases hx : Words.rd t.data.toList a with
  | none =>
    have HN : Hid (∀ u, Got t u → a ≠ pos u 3) := fun u hu e => by
      have := Msgs.at_var hu (k := 3) (n := u.term.toNat) (by have := (Msgs.fits hu.2).term; omega) rfl
      rw [← e] at this
      exact absurd (hx.symm.trans this) (by simp)
    have HX : Hid (Words.rd t.data.toList a = none) := hx
    clear hx
    go_enter Tryz.func58, Tryz.ntmps58
    go_wp2_with (go_at_call 59; refine (number_none hs _ HM.out.cur HX.out).mono ?_; rintro e w1 ⟨rfl, hg1⟩)
    exact ⟨rfl, Or.inr ⟨rfl, HN.out, HM.out.gr.trans hg1⟩⟩
  | some p =>
    obtain ⟨n, b⟩ := p
    have HST : Hid (Step t 3 m { m with term := (n : Int) } a b) := by
      obtain ⟨c1, c2, c3, c4⟩ := Batches.rd_cut hx
      refine ⟨by omega, ?_, rfl, fun u hu e => ?_⟩
      · rw [c3]
        rfl
      · have Fu := (Msgs.fits hu.2).term
        have p1 := Msgs.at_var hu (k := 3) (n := u.term.toNat) (by omega) rfl
        rw [← e] at p1
        have p2 := Option.some.inj (hx.symm.trans p1)
        simp only [Prod.mk.injEq] at p2
        have hv : (n : Int) = u.term := by omega
        exact ⟨p2.2, fun hag => ⟨fun _ => hag.1 (by omega), fun _ => hag.2.1 (by omega), fun _ => hag.2.2.1 (by omega), fun _ => hv, fun x => absurd x (by omega), fun x => absurd x (by omega), fun x => absurd x (by omega), fun x => absurd x (by omega), fun x => absurd x (by omega), fun x => absurd x (by omega), fun x => absurd x (by omega), fun x => absurd x (by omega)⟩⟩
    have HX : Hid (Words.rd t.data.toList a = some (n, b)) := hx
    clear hx
    go_enter Tryz.func58, Tryz.ntmps58
    go_wp2_with fail
    refine (number_some hs _ HM.out.cur HX.out).mono ?_
    rintro e X1 ⟨rfl, hr1, hg1⟩
    have hM1 := HM.out.grown hg1 hr1
    have x1 := cell_of_row _ _ 3 _ _ _ hM1.msg
    have xf := frozen_of_row _ _ 3 _ _ hM1.msg
    simp [cellsM] at x1
    have HP : Hid (FP w rb mb q t 3 m a (.returned (.tuple #[])) (X1.setCell ⟨mb, 3, none⟩ (.int .i64 (n : Int)))) := Or.inl ⟨{ m with term := (n : Int) }, v8, v9, _, rfl, hM1.set 3 _ rfl rfl rfl, HST.out⟩
    clear hM1 hr1 hg1 HM HST
    go_wp2
    go_end0
    exact HP.out
set_option maxHeartbeats 2000000 in
set_option maxRecDepth 100000 in
theorem read4_is {w : World} {rb mb q : Nat} {t : ByteArray} {m : MsgL} {v8 v9 : Value} {a : Nat} {X : World} (hs : t.size ≤ 1048576) (h : MS w rb mb q t m v8 v9 a X) :
    Calls Tryz.prog 61 #[.pointer (some ⟨rb, 0, none⟩), .pointer (some ⟨mb, 0, none⟩)] X (FP w rb mb q t 4 m a) := by
  have HM : Hid (MS w rb mb q t m v8 v9 a X) := h
  clear h
  cases hx : Words.rd t.data.toList a with
  | none =>
    have HN : Hid (∀ u, Got t u → a ≠ pos u 4) := fun u hu e => by
      have := Msgs.at_var hu (k := 4) (n := u.index.toNat) (by have := (Msgs.fits hu.2).index; omega) rfl
      rw [← e] at this
      exact absurd (hx.symm.trans this) (by simp)
    have HX : Hid (Words.rd t.data.toList a = none) := hx
    clear hx
    go_enter Tryz.func61, Tryz.ntmps61
    go_wp2_with (go_at_call 59; refine (number_none hs _ HM.out.cur HX.out).mono ?_; rintro e w1 ⟨rfl, hg1⟩)
    exact ⟨rfl, Or.inr ⟨rfl, HN.out, HM.out.gr.trans hg1⟩⟩
  | some p =>
    obtain ⟨n, b⟩ := p
    have HST : Hid (Step t 4 m { m with index := (n : Int) } a b) := by
      obtain ⟨c1, c2, c3, c4⟩ := Batches.rd_cut hx
      refine ⟨by omega, ?_, rfl, fun u hu e => ?_⟩
      · rw [c3]
        rfl
      · have Fu := (Msgs.fits hu.2).index
        have p1 := Msgs.at_var hu (k := 4) (n := u.index.toNat) (by omega) rfl
        rw [← e] at p1
        have p2 := Option.some.inj (hx.symm.trans p1)
        simp only [Prod.mk.injEq] at p2
        have hv : (n : Int) = u.index := by omega
        exact ⟨p2.2, fun hag => ⟨fun _ => hag.1 (by omega), fun _ => hag.2.1 (by omega), fun _ => hag.2.2.1 (by omega), fun _ => hag.2.2.2.1 (by omega), fun _ => hv, fun x => absurd x (by omega), fun x => absurd x (by omega), fun x => absurd x (by omega), fun x => absurd x (by omega), fun x => absurd x (by omega), fun x => absurd x (by omega), fun x => absurd x (by omega)⟩⟩
    have HX : Hid (Words.rd t.data.toList a = some (n, b)) := hx
    clear hx
    go_enter Tryz.func61, Tryz.ntmps61
    go_wp2_with fail
    refine (number_some hs _ HM.out.cur HX.out).mono ?_
    rintro e X1 ⟨rfl, hr1, hg1⟩
    have hM1 := HM.out.grown hg1 hr1
    have x1 := cell_of_row _ _ 4 _ _ _ hM1.msg
    have xf := frozen_of_row _ _ 4 _ _ hM1.msg
    simp [cellsM] at x1
    have HP : Hid (FP w rb mb q t 4 m a (.returned (.tuple #[])) (X1.setCell ⟨mb, 4, none⟩ (.int .i64 (n : Int)))) := Or.inl ⟨{ m with index := (n : Int) }, v8, v9, _, rfl, hM1.set 4 _ rfl rfl rfl, HST.out⟩
    clear hM1 hr1 hg1 HM HST
    go_wp2
    go_end0
    exact HP.out
set_option maxHeartbeats 2000000 in
set_option maxRecDepth 100000 in
theorem read5_is {w : World} {rb mb q : Nat} {t : ByteArray} {m : MsgL} {v8 v9 : Value} {a : Nat} {X : World} (hs : t.size ≤ 1048576) (h : MS w rb mb q t m v8 v9 a X) :
    Calls Tryz.prog 63 #[.pointer (some ⟨rb, 0, none⟩), .pointer (some ⟨mb, 0, none⟩)] X (FP w rb mb q t 5 m a) := by
  have HM : Hid (MS w rb mb q t m v8 v9 a X) := h
  clear h
  cases hx : Words.rd t.data.toList a with
  | none =>
    have HN : Hid (∀ u, Got t u → a ≠ pos u 5) := fun u hu e => by
      have := Msgs.at_var hu (k := 5) (n := u.lterm.toNat) (by have := (Msgs.fits hu.2).lterm; omega) rfl
      rw [← e] at this
      exact absurd (hx.symm.trans this) (by simp)
    have HX : Hid (Words.rd t.data.toList a = none) := hx
    clear hx
    go_enter Tryz.func63, Tryz.ntmps63
    go_wp2_with (go_at_call 59; refine (number_none hs _ HM.out.cur HX.out).mono ?_; rintro e w1 ⟨rfl, hg1⟩)
    exact ⟨rfl, Or.inr ⟨rfl, HN.out, HM.out.gr.trans hg1⟩⟩
  | some p =>
    obtain ⟨n, b⟩ := p
    have HST : Hid (Step t 5 m { m with lterm := (n : Int) } a b) := by
      obtain ⟨c1, c2, c3, c4⟩ := Batches.rd_cut hx
      refine ⟨by omega, ?_, rfl, fun u hu e => ?_⟩
      · rw [c3]
        rfl
      · have Fu := (Msgs.fits hu.2).lterm
        have p1 := Msgs.at_var hu (k := 5) (n := u.lterm.toNat) (by omega) rfl
        rw [← e] at p1
        have p2 := Option.some.inj (hx.symm.trans p1)
        simp only [Prod.mk.injEq] at p2
        have hv : (n : Int) = u.lterm := by omega
        exact ⟨p2.2, fun hag => ⟨fun _ => hag.1 (by omega), fun _ => hag.2.1 (by omega), fun _ => hag.2.2.1 (by omega), fun _ => hag.2.2.2.1 (by omega), fun _ => hag.2.2.2.2.1 (by omega), fun _ => hv, fun x => absurd x (by omega), fun x => absurd x (by omega), fun x => absurd x (by omega), fun x => absurd x (by omega), fun x => absurd x (by omega), fun x => absurd x (by omega)⟩⟩
    have HX : Hid (Words.rd t.data.toList a = some (n, b)) := hx
    clear hx
    go_enter Tryz.func63, Tryz.ntmps63
    go_wp2_with fail
    refine (number_some hs _ HM.out.cur HX.out).mono ?_
    rintro e X1 ⟨rfl, hr1, hg1⟩
    have hM1 := HM.out.grown hg1 hr1
    have x1 := cell_of_row _ _ 5 _ _ _ hM1.msg
    have xf := frozen_of_row _ _ 5 _ _ hM1.msg
    simp [cellsM] at x1
    have HP : Hid (FP w rb mb q t 5 m a (.returned (.tuple #[])) (X1.setCell ⟨mb, 5, none⟩ (.int .i64 (n : Int)))) := Or.inl ⟨{ m with lterm := (n : Int) }, v8, v9, _, rfl, hM1.set 5 _ rfl rfl rfl, HST.out⟩
    clear hM1 hr1 hg1 HM HST
    go_wp2
    go_end0
    exact HP.out
set_option maxHeartbeats 2000000 in
set_option maxRecDepth 100000 in
theorem read6_is {w : World} {rb mb q : Nat} {t : ByteArray} {m : MsgL} {v8 v9 : Value} {a : Nat} {X : World} (hs : t.size ≤ 1048576) (h : MS w rb mb q t m v8 v9 a X) :
    Calls Tryz.prog 65 #[.pointer (some ⟨rb, 0, none⟩), .pointer (some ⟨mb, 0, none⟩)] X (FP w rb mb q t 6 m a) := by
  have HM : Hid (MS w rb mb q t m v8 v9 a X) := h
  clear h
  cases hx : Words.rd t.data.toList a with
  | none =>
    have HN : Hid (∀ u, Got t u → a ≠ pos u 6) := fun u hu e => by
      have := Msgs.at_var hu (k := 6) (n := u.commit.toNat) (by have := (Msgs.fits hu.2).commit; omega) rfl
      rw [← e] at this
      exact absurd (hx.symm.trans this) (by simp)
    have HX : Hid (Words.rd t.data.toList a = none) := hx
    clear hx
    go_enter Tryz.func65, Tryz.ntmps65
    go_wp2_with (go_at_call 59; refine (number_none hs _ HM.out.cur HX.out).mono ?_; rintro e w1 ⟨rfl, hg1⟩)
    exact ⟨rfl, Or.inr ⟨rfl, HN.out, HM.out.gr.trans hg1⟩⟩
  | some p =>
    obtain ⟨n, b⟩ := p
    have HST : Hid (Step t 6 m { m with commit := (n : Int) } a b) := by
      obtain ⟨c1, c2, c3, c4⟩ := Batches.rd_cut hx
      refine ⟨by omega, ?_, rfl, fun u hu e => ?_⟩
      · rw [c3]
        rfl
      · have Fu := (Msgs.fits hu.2).commit
        have p1 := Msgs.at_var hu (k := 6) (n := u.commit.toNat) (by omega) rfl
        rw [← e] at p1
        have p2 := Option.some.inj (hx.symm.trans p1)
        simp only [Prod.mk.injEq] at p2
        have hv : (n : Int) = u.commit := by omega
        exact ⟨p2.2, fun hag => ⟨fun _ => hag.1 (by omega), fun _ => hag.2.1 (by omega), fun _ => hag.2.2.1 (by omega), fun _ => hag.2.2.2.1 (by omega), fun _ => hag.2.2.2.2.1 (by omega), fun _ => hag.2.2.2.2.2.1 (by omega), fun _ => hv, fun x => absurd x (by omega), fun x => absurd x (by omega), fun x => absurd x (by omega), fun x => absurd x (by omega), fun x => absurd x (by omega)⟩⟩
    have HX : Hid (Words.rd t.data.toList a = some (n, b)) := hx
    clear hx
    go_enter Tryz.func65, Tryz.ntmps65
    go_wp2_with fail
    refine (number_some hs _ HM.out.cur HX.out).mono ?_
    rintro e X1 ⟨rfl, hr1, hg1⟩
    have hM1 := HM.out.grown hg1 hr1
    have x1 := cell_of_row _ _ 6 _ _ _ hM1.msg
    have xf := frozen_of_row _ _ 6 _ _ hM1.msg
    simp [cellsM] at x1
    have HP : Hid (FP w rb mb q t 6 m a (.returned (.tuple #[])) (X1.setCell ⟨mb, 6, none⟩ (.int .i64 (n : Int)))) := Or.inl ⟨{ m with commit := (n : Int) }, v8, v9, _, rfl, hM1.set 6 _ rfl rfl rfl, HST.out⟩
    clear hM1 hr1 hg1 HM HST
    go_wp2
    go_end0
    exact HP.out
set_option maxHeartbeats 2000000 in
set_option maxRecDepth 100000 in
theorem read7_is {w : World} {rb mb q : Nat} {t : ByteArray} {m : MsgL} {v8 v9 : Value} {a : Nat} {X : World} (hs : t.size ≤ 1048576) (h : MS w rb mb q t m v8 v9 a X) :
    Calls Tryz.prog 68 #[.pointer (some ⟨rb, 0, none⟩), .pointer (some ⟨mb, 0, none⟩)] X (FP w rb mb q t 7 m a) := by
  have HM : Hid (MS w rb mb q t m v8 v9 a X) := h
  clear h
  cases hx : Batches.rdFlag t a with
  | none =>
    have HN : Hid (∀ u, Got t u → a ≠ pos u 7) := fun u hu e => by
      have := flag_at (Msgs.at_byte hu (k := 7) rfl).1
      rw [← e, hx] at this
      cases this
    have HX : Hid (Batches.rdFlag t a = none) := hx
    clear hx
    go_enter Tryz.func68, Tryz.ntmps68
    go_wp2_with (go_at_call 69; refine (flag_none hs _ HM.out.cur HX.out).mono ?_; rintro e w1 ⟨rfl, hg1⟩)
    exact ⟨rfl, Or.inr ⟨rfl, HN.out, HM.out.gr.trans hg1⟩⟩
  | some p =>
    obtain ⟨g, b⟩ := p
    have HST : Hid (Step t 7 m { m with ok := g } a b) := by
      obtain ⟨c1, c2⟩ := flag_cut hx
      refine ⟨by omega, ?_, rfl, fun u hu e => ?_⟩
      · rw [c2]
        rfl
      · obtain ⟨q1, q2⟩ := Msgs.at_byte hu (k := 7) rfl
        have p1 := flag_at q1
        rw [← e] at p1
        have p2 := Option.some.inj (hx.symm.trans p1)
        simp only [Prod.mk.injEq] at p2
        exact ⟨by rw [p2.2, q2, ← e], fun hag => ⟨fun _ => hag.1 (by omega), fun _ => hag.2.1 (by omega), fun _ => hag.2.2.1 (by omega), fun _ => hag.2.2.2.1 (by omega), fun _ => hag.2.2.2.2.1 (by omega), fun _ => hag.2.2.2.2.2.1 (by omega), fun _ => hag.2.2.2.2.2.2.1 (by omega), fun _ => p2.1, fun x => absurd x (by omega), fun x => absurd x (by omega), fun x => absurd x (by omega), fun x => absurd x (by omega)⟩⟩
    have HX : Hid (Batches.rdFlag t a = some (g, b)) := hx
    clear hx
    go_enter Tryz.func68, Tryz.ntmps68
    go_wp2_with fail
    refine (flag_some hs _ HM.out.cur HX.out).mono ?_
    rintro e X1 ⟨rfl, hr1, hg1⟩
    have hM1 := HM.out.grown hg1 hr1
    have x1 := cell_of_row _ _ 7 _ _ _ hM1.msg
    have xf := frozen_of_row _ _ 7 _ _ hM1.msg
    simp [cellsM] at x1
    have HP : Hid (FP w rb mb q t 7 m a (.returned (.tuple #[])) (X1.setCell ⟨mb, 7, none⟩ (.bool g))) := Or.inl ⟨{ m with ok := g }, v8, v9, _, rfl, hM1.set 7 _ rfl rfl rfl, HST.out⟩
    clear hM1 hr1 hg1 HM HST
    go_wp2
    go_end0
    exact HP.out
set_option maxHeartbeats 2000000 in
set_option maxRecDepth 100000 in
theorem read8_is {w : World} {rb mb q : Nat} {t : ByteArray} {m : MsgL} {v8 v9 : Value} {a : Nat} {X : World} (hs : t.size ≤ 1048576) (h : MS w rb mb q t m v8 v9 a X) :
    Calls Tryz.prog 71 #[.pointer (some ⟨rb, 0, none⟩), .pointer (some ⟨mb, 0, none⟩)] X (FP w rb mb q t 8 m a) := by
  have HM : Hid (MS w rb mb q t m v8 v9 a X) := h
  clear h
  cases hx : Batches.rdFlag t a with
  | none =>
    have HN : Hid (∀ u, Got t u → a ≠ pos u 8) := fun u hu e => by
      have := flag_at (Msgs.at_byte hu (k := 8) rfl).1
      rw [← e, hx] at this
      cases this
    have HX : Hid (Batches.rdFlag t a = none) := hx
    clear hx
    go_enter Tryz.func71, Tryz.ntmps71
    go_wp2_with (go_at_call 69; refine (flag_none hs _ HM.out.cur HX.out).mono ?_; rintro e w1 ⟨rfl, hg1⟩)
    exact ⟨rfl, Or.inr ⟨rfl, HN.out, HM.out.gr.trans hg1⟩⟩
  | some p =>
    obtain ⟨g, b⟩ := p
    have HST : Hid (Step t 8 m { m with last := g } a b) := by
      obtain ⟨c1, c2⟩ := flag_cut hx
      refine ⟨by omega, ?_, rfl, fun u hu e => ?_⟩
      · rw [c2]
        rfl
      · obtain ⟨q1, q2⟩ := Msgs.at_byte hu (k := 8) rfl
        have p1 := flag_at q1
        rw [← e] at p1
        have p2 := Option.some.inj (hx.symm.trans p1)
        simp only [Prod.mk.injEq] at p2
        exact ⟨by rw [p2.2, q2, ← e], fun hag => ⟨fun _ => hag.1 (by omega), fun _ => hag.2.1 (by omega), fun _ => hag.2.2.1 (by omega), fun _ => hag.2.2.2.1 (by omega), fun _ => hag.2.2.2.2.1 (by omega), fun _ => hag.2.2.2.2.2.1 (by omega), fun _ => hag.2.2.2.2.2.2.1 (by omega), fun _ => hag.2.2.2.2.2.2.2.1 (by omega), fun _ => p2.1, fun x => absurd x (by omega), fun x => absurd x (by omega), fun x => absurd x (by omega)⟩⟩
    have HX : Hid (Batches.rdFlag t a = some (g, b)) := hx
    clear hx
    go_enter Tryz.func71, Tryz.ntmps71
    go_wp2_with fail
    refine (flag_some hs _ HM.out.cur HX.out).mono ?_
    rintro e X1 ⟨rfl, hr1, hg1⟩
    have hM1 := HM.out.grown hg1 hr1
    have x1 := cell_of_row _ _ 11 _ _ _ hM1.msg
    have xf := frozen_of_row _ _ 11 _ _ hM1.msg
    simp [cellsM] at x1
    have HP : Hid (FP w rb mb q t 8 m a (.returned (.tuple #[])) (X1.setCell ⟨mb, 11, none⟩ (.bool g))) := Or.inl ⟨{ m with last := g }, v8, v9, _, rfl, hM1.set 11 _ rfl rfl rfl, HST.out⟩
    clear hM1 hr1 hg1 HM HST
    go_wp2
    go_end0
    exact HP.out
set_option maxHeartbeats 2000000 in
set_option maxRecDepth 100000 in
theorem read9_is {w : World} {rb mb q : Nat} {t : ByteArray} {m : MsgL} {v8 v9 : Value} {a : Nat} {X : World} (hs : t.size ≤ 1048576) (h : MS w rb mb q t m v8 v9 a X) :
    Calls Tryz.prog 74 #[.pointer (some ⟨rb, 0, none⟩), .pointer (some ⟨mb, 0, none⟩)] X (FP w rb mb q t 9 m a) := by
  have HM : Hid (MS w rb mb q t m v8 v9 a X) := h
  clear h
  go_enter Tryz.func74, Tryz.ntmps74
  go_wp2_with fail
  refine (entries_is hs _ HM.out.cur).mono ?_
  intro e X1 hp
  rcases hp with ⟨l, v, b, rfl, hl, hok, hown, hr, hle, hcu, hgo, hg⟩ | ⟨rfl, hn, hg⟩
  · have hM1 := HM.out.grown hg hr
    have x1 := cell_of_row _ _ 8 _ _ _ hM1.msg
    have xf := frozen_of_row _ _ 8 _ _ hM1.msg
    simp [cellsM] at x1
    have hst : Step t 9 m { m with ents := l } a b := by
      refine ⟨hle, ?_, rfl, fun u hu e => ?_⟩
      · rw [hcu]
        rfl
      · obtain ⟨p1, p2⟩ := hgo u hu e
        exact ⟨p2, fun hag => ⟨fun _ => hag.1 (by omega), fun _ => hag.2.1 (by omega), fun _ => hag.2.2.1 (by omega), fun _ => hag.2.2.2.1 (by omega), fun _ => hag.2.2.2.2.1 (by omega), fun _ => hag.2.2.2.2.2.1 (by omega), fun _ => hag.2.2.2.2.2.2.1 (by omega), fun _ => hag.2.2.2.2.2.2.2.1 (by omega), fun _ => hag.2.2.2.2.2.2.2.2.1 (by omega), fun _ => p1, fun x => absurd x (by omega), fun x => absurd x (by omega)⟩⟩
    have HP : Hid (FP w rb mb q t 9 m a (.returned (.tuple #[])) (X1.setCell ⟨mb, 8, none⟩ v)) := Or.inl ⟨{ m with ents := l }, v, v9, b, rfl, hM1.setE (own_mono hown HM.out.gr.size), hst⟩
    obtain ⟨va, vc, hv⟩ := own_slice hown
    subst hv
    clear hM1 hr hg hown hst hgo hcu HM
    go_wp2
    go_end0
    exact HP.out
  · exact ⟨rfl, Or.inr ⟨rfl, hn, HM.out.gr.trans hg⟩⟩
set_option maxHeartbeats 2000000 in
set_option maxRecDepth 100000 in
theorem read10_is {w : World} {rb mb q : Nat} {t : ByteArray} {m : MsgL} {v8 v9 : Value} {a : Nat} {X : World} (hs : t.size ≤ 1048576) (h : MS w rb mb q t m v8 v9 a X) :
    Calls Tryz.prog 79 #[.pointer (some ⟨rb, 0, none⟩), .pointer (some ⟨mb, 0, none⟩)] X (FP w rb mb q t 10 m a) := by
  have HM : Hid (MS w rb mb q t m v8 v9 a X) := h
  clear h
  go_enter Tryz.func79, Tryz.ntmps79
  go_wp2_with fail
  refine (confR_is hs _ HM.out.cur).mono ?_
  intro e X1 hp
  rcases hp with ⟨l, v, b, rfl, hl, hown, hr, hle, hcu, hgo, hg⟩ | ⟨rfl, hn, hg⟩
  · have hM1 := HM.out.grown hg hr
    have x1 := cell_of_row _ _ 9 _ _ _ hM1.msg
    have xf := frozen_of_row _ _ 9 _ _ hM1.msg
    simp [cellsM] at x1
    have hst : Step t 10 m { m with conf := l } a b := by
      refine ⟨hle, ?_, rfl, fun u hu e => ?_⟩
      · rw [hcu]
        rfl
      · obtain ⟨p1, p2⟩ := hgo u hu e
        exact ⟨p2, fun hag => ⟨fun _ => hag.1 (by omega), fun _ => hag.2.1 (by omega), fun _ => hag.2.2.1 (by omega), fun _ => hag.2.2.2.1 (by omega), fun _ => hag.2.2.2.2.1 (by omega), fun _ => hag.2.2.2.2.2.1 (by omega), fun _ => hag.2.2.2.2.2.2.1 (by omega), fun _ => hag.2.2.2.2.2.2.2.1 (by omega), fun _ => hag.2.2.2.2.2.2.2.2.1 (by omega), fun _ => hag.2.2.2.2.2.2.2.2.2.1 (by omega), fun _ => p1, fun x => absurd x (by omega)⟩⟩
    have HP : Hid (FP w rb mb q t 10 m a (.returned (.tuple #[])) (X1.setCell ⟨mb, 9, none⟩ v)) := Or.inl ⟨{ m with conf := l }, v8, v, b, rfl, hM1.setC (own_mono hown HM.out.gr.size), hst⟩
    obtain ⟨va, vc, hv⟩ := own_slice hown
    subst hv
    clear hM1 hr hg hown hst hgo hcu HM
    go_wp2
    go_end0
    exact HP.out
  · exact ⟨rfl, Or.inr ⟨rfl, hn, HM.out.gr.trans hg⟩⟩
set_option maxHeartbeats 2000000 in
set_option maxRecDepth 100000 in
theorem read11_is {w : World} {rb mb q : Nat} {t : ByteArray} {m : MsgL} {v8 v9 : Value} {a : Nat} {X : World} (hs : t.size ≤ 1048576) (h : MS w rb mb q t m v8 v9 a X) :
    Calls Tryz.prog 82 #[.pointer (some ⟨rb, 0, none⟩), .pointer (some ⟨mb, 0, none⟩)] X (FP w rb mb q t 11 m a) := by
  have HM : Hid (MS w rb mb q t m v8 v9 a X) := h
  clear h
  cases hx : Batches.rdShort t a with
  | none =>
    have HN : Hid (∀ u, Got t u → a ≠ pos u 11) := fun u hu e => by
      have := Msgs.at_short hu (k := 11) (by have := (Msgs.fits hu.2).data; omega) rfl
      rw [← e, hx] at this
      cases this
    have HX : Hid (Batches.rdShort t a = none) := hx
    clear hx
    go_enter Tryz.func82, Tryz.ntmps82
    go_wp2_with (go_at_call 83; refine (short_none hs _ HM.out.cur HX.out).mono ?_; rintro e w1 ⟨rfl, hg1⟩)
    exact ⟨rfl, Or.inr ⟨rfl, HN.out, HM.out.gr.trans hg1⟩⟩
  | some p =>
    obtain ⟨y, b⟩ := p
    have HST : Hid (Step t 11 m { m with data := y } a b) := by
      obtain ⟨c1, c2, c3, c4⟩ := Batches.rdShort_cut hx
      refine ⟨by omega, ?_, rfl, fun u hu e => ?_⟩
      · rw [c3]
        rfl
      · have p1 := Msgs.at_short hu (k := 11) (by have := (Msgs.fits hu.2).data; omega) rfl
        rw [← e] at p1
        have p2 := Option.some.inj (hx.symm.trans p1)
        simp only [Prod.mk.injEq] at p2
        exact ⟨p2.2, fun hag => ⟨fun _ => hag.1 (by omega), fun _ => hag.2.1 (by omega), fun _ => hag.2.2.1 (by omega), fun _ => hag.2.2.2.1 (by omega), fun _ => hag.2.2.2.2.1 (by omega), fun _ => hag.2.2.2.2.2.1 (by omega), fun _ => hag.2.2.2.2.2.2.1 (by omega), fun _ => hag.2.2.2.2.2.2.2.1 (by omega), fun _ => hag.2.2.2.2.2.2.2.2.1 (by omega), fun _ => hag.2.2.2.2.2.2.2.2.2.1 (by omega), fun _ => hag.2.2.2.2.2.2.2.2.2.2.1 (by omega), fun _ => p2.1⟩⟩
    have HX : Hid (Batches.rdShort t a = some (y, b)) := hx
    clear hx
    go_enter Tryz.func82, Tryz.ntmps82
    go_wp2_with fail
    refine (short_some hs _ HM.out.cur HX.out).mono ?_
    rintro e X1 ⟨rfl, hr1, hg1⟩
    have hM1 := HM.out.grown hg1 hr1
    have x1 := cell_of_row _ _ 10 _ _ _ hM1.msg
    have xf := frozen_of_row _ _ 10 _ _ hM1.msg
    simp [cellsM] at x1
    have HP : Hid (FP w rb mb q t 11 m a (.returned (.tuple #[])) (X1.setCell ⟨mb, 10, none⟩ (.string y))) := Or.inl ⟨{ m with data := y }, v8, v9, _, rfl, hM1.set 10 _ rfl rfl rfl, HST.out⟩
    clear hM1 hr1 hg1 HM HST
    go_wp2
    go_end0
    exact HP.out
end Go.Proofs.YtimacmijinblmaaGreat
