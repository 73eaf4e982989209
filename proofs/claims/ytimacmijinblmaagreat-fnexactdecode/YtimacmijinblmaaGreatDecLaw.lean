/- The exact law of Decode, walked. -/
import Derived.Test.YtimacmijinblmaaGreatImplDec
namespace Go.Proofs.YtimacmijinblmaaGreat
open Go.RowKit
open Ents (okB)
open Msgs (okM bt Got pos epos)
set_option linter.unusedVariables false
set_option linter.unusedSimpArgs false

/-- What Decode answers of a text. -/
def AnsIs (t : ByteArray) (m : MsgL) (R : Bool) : Prop := (Got t m ∧ R = true) ∨ ((∀ u, ¬ Got t u) ∧ m = zeroM ∧ R = false)
theorem ans_ex (t : ByteArray) : ∃ m R, AnsIs t m R := by
  by_cases h : ∃ m, Got t m
  · obtain ⟨m, h⟩ := h
    exact ⟨m, true, Or.inl ⟨h, rfl⟩⟩
  · exact ⟨zeroM, false, Or.inr ⟨fun u hu => h ⟨u, hu⟩, rfl, rfl⟩⟩
theorem ans_len {t : ByteArray} {m : MsgL} {R : Bool} (h : AnsIs t m R) : m.ents.length ≤ 4 ∧ m.conf.length ≤ 4 := by
  rcases h with ⟨h, _⟩ | ⟨_, rfl, _⟩
  · have F := Msgs.fits h.2
    refine ⟨F.len, ?_⟩
    rcases F.conf with x | x
    · exact (Ents.conf_in x).1.2
    · rw [x]; exact Nat.zero_le _
  · exact ⟨Nat.zero_le _, Nat.zero_le _⟩
def AnsPost (w : World) (m : MsgL) (R : Bool) (en : Ending) (w' : World) : Prop := ∃ (a : Option Addr) (cap : Nat) (b : Option Addr) (capb : Nat), en = .returned (.tuple #[.agg #[.int .i64 m.kind, .int .i64 m.frm, .int .i64 m.dst, .int .i64 m.term, .int .i64 m.index, .int .i64 m.lterm, .int .i64 m.commit, .bool m.ok, .slice a m.ents.length cap, .slice b m.conf.length capb, .string m.data, .bool m.last], .bool R]) ∧ w'.ownsRow w.heap.size 44 3 (.slice a m.ents.length cap) m.ents.length (cellsEn m.ents) ∧ w'.ownsRow w.heap.size 3 1 (.slice b m.conf.length capb) m.conf.length (cellsI m.conf) ∧ Below w.heap.size w w'
theorem dec_ans {t : ByteArray} {m : MsgL} {R : Bool} (hA : AnsIs t m R) {w : World} {en : Ending} {w' : World} (h : DecPost w t en w') : AnsPost w m R en w' := by
  obtain ⟨hb, h⟩ := h
  rcases h with ⟨m', a, cap, b, capb, hg, hu, rfl, h1, h2⟩ | ⟨hn, rfl⟩
  · rcases hA with ⟨hg2, rfl⟩ | ⟨hn, _⟩
    · have e := hu m hg2
      subst e
      exact ⟨a, cap, b, capb, rfl, h1, h2, hb⟩
    · exact absurd hg (hn m')
  · rcases hA with ⟨hg2, _⟩ | ⟨_, rfl, rfl⟩
    · exact absurd hg2 (hn m)
    · exact ⟨none, 0, none, 0, rfl, World.ownsRow_nil _ _ 44 3, World.ownsRow_nil _ _ 3 1, hb⟩
/-- What the law holds: w0 and g0, their rows; g0's lie behind all of w0's. -/
structure SD (w : World) (bw bg bG : Nat) (a : Option Addr) (cap : Nat) (b : Option Addr) (capb : Nat) (a2 : Option Addr) (cap2 : Nat) (b2 : Option Addr) (capb2 : Nat) (m : MsgL) (L : List EntL) (C : List Int) (W : World) : Prop where
  w0 : W.heap[bw]? = some (.cells (msgC m a cap b capb) 25 (0, 0))
  g0 : W.heap[bg]? = some (.cells (msgC m a2 cap2 b2 capb2) 25 (0, 0))
  oa1 : W.ownsRow w.heap.size 44 3 (.slice a m.ents.length cap) m.ents.length (cellsEn m.ents)
  oa2 : W.ownsRow w.heap.size 3 1 (.slice b m.conf.length capb) m.conf.length (cellsI m.conf)
  oc1 : W.ownsRow bG 44 3 (.slice a2 m.ents.length cap2) m.ents.length (cellsEn L)
  oc2 : W.ownsRow bG 3 1 (.slice b2 m.conf.length capb2) m.conf.length (cellsI C)
  lo1 : ∀ g, (Value.slice a m.ents.length cap).ownBlock = some g → g < bG
  lo2 : ∀ g, (Value.slice b m.conf.length capb).ownBlock = some g → g < bG
  bel : Below w.heap.size w W
  up : w.heap.size ≤ bG
  sz : bG ≤ W.heap.size
section
variable {w W W' W1 : World} {bw bg bG : Nat} {a : Option Addr} {cap : Nat} {b : Option Addr} {capb : Nat} {a2 : Option Addr} {cap2 : Nat} {b2 : Option Addr} {capb2 : Nat} {m : MsgL} {L M : List EntL} {C D : List Int}
theorem SD.same (h : SD w bw bg bG a cap b capb a2 cap2 b2 capb2 m L C W) (hb : Below W.heap.size W W') : SD w bw bg bG a cap b capb a2 cap2 b2 capb2 m L C W' :=
  ⟨(hb.block _ (Array.getElem?_eq_some_iff.1 h.w0).1).trans h.w0, (hb.block _ (Array.getElem?_eq_some_iff.1 h.g0).1).trans h.g0, own_kept h.oa1 hb, own_kept h.oa2 hb, own_kept h.oc1 hb, own_kept h.oc2 hb, h.lo1, h.lo2, h.bel.trans (hb.mono h.bel.size), h.up, Nat.le_trans h.sz hb.size⟩
theorem low_apart {e : TypeId} {k : Nat} {v c : Value} {n : Nat} {xs : List Value} (hlo : ∀ g, v.ownBlock = some g → g < bG) (ho : W.ownsRow bG e k c n xs) : v.ownBlock = none ∨ v.ownBlock ≠ c.ownBlock := by
  cases e : v.ownBlock with
  | none => exact Or.inl rfl
  | some r => exact Or.inr (fun e2 => by have := hlo r e; have := (ho.lt r e2.symm).1; omega)
theorem SD.mark (h : SD w bw bg bG a cap b capb a2 cap2 b2 capb2 m L C W) (h1 : W'.ownsRow bG 44 3 (.slice a2 m.ents.length cap2) m.ents.length (cellsEn M)) (h2 : W'.ownsRow bG 3 1 (.slice b2 m.conf.length capb2) m.conf.length (cellsI D)) (g1 : W.grownBy W1 (Value.slice a2 m.ents.length cap2).ownBlock) (g2 : W1.grownBy W' (Value.slice b2 m.conf.length capb2).ownBlock) : SD w bw bg bG a cap b capb a2 cap2 b2 capb2 m M D W' := by
  have ho : W1.ownsRow bG 3 1 (.slice b2 m.conf.length capb2) m.conf.length (cellsI C) := h.oc2.kept g1 (own_diff h.oc2 h.oc1 (by decide))
  have e1 := grown_keep' h.w0 g1 (own_not h.oc1 h.w0 (by decide))
  have e2 := grown_keep' h.g0 g1 (own_not h.oc1 h.g0 (by decide))
  refine ⟨grown_keep' e1 g2 (own_not ho e1 (by decide)), grown_keep' e2 g2 (own_not ho e2 (by decide)), (h.oa1.kept g1 (low_apart h.lo1 h.oc1)).kept g2 (low_apart h.lo1 h.oc2), (h.oa2.kept g1 (low_apart h.lo2 h.oc1)).kept g2 (low_apart h.lo2 h.oc2), h1, h2, h.lo1, h.lo2, ?_, h.up, Nat.le_trans h.sz (Nat.le_trans g1.size g2.size)⟩
  have b1 := h.bel.grown g1 h.bel.size (fun k e => by have := (h.oc1.lt k e).1; have := h.up; omega)
  exact b1.grown g2 b1.size (fun k e => by have := (ho.lt k e).1; have := h.up; omega)
end
theorem int_own0 {w : World} {base : Nat} {a : Option Addr} {cap : Nat} {l : List Int} (h : w.ownsRow base 3 1 (.slice a l.length cap) l.length (cellsI l)) : ∃ g, IntAt w a g 0 l := by
  rcases h.2 with ⟨h1, h2⟩ | ⟨g, cap', cur, h1, _⟩
  · have hl : l.length = 0 := by
      simp only [Value.slice.injEq] at h1
      exact h1.2.1
    rw [List.length_eq_zero_iff.1 hl]
    exact ⟨0, fun h => absurd h (Nat.lt_irrefl _), fun j hj => absurd hj (Nat.not_lt_zero _)⟩
  · simp only [Value.slice.injEq] at h1
    obtain ⟨rfl, _, rfl⟩ := h1
    exact ⟨g, cellsI_own rfl h⟩
theorem eqRows {W : World} {p1 p2 p3 p4 : Nat} {a b a2 b2 : Option Addr} {cap capb cap2 capb2 : Nat} {m : MsgL} (h1 : m.ents.length ≤ 4) (h2 : m.conf.length ≤ 4) (o1 : W.ownsRow p1 44 3 (.slice a m.ents.length cap) m.ents.length (cellsEn m.ents)) (o2 : W.ownsRow p2 3 1 (.slice b m.conf.length capb) m.conf.length (cellsI m.conf)) (o3 : W.ownsRow p3 44 3 (.slice a2 m.ents.length cap2) m.ents.length (cellsEn m.ents)) (o4 : W.ownsRow p4 3 1 (.slice b2 m.conf.length capb2) m.conf.length (cellsI m.conf)) :
    Calls Tryz.prog 7 #[.agg (msgC m a2 cap2 b2 capb2), .agg (msgC m a cap b capb)] W fun e w' => e = .returned (.bool true) ∧ Below W.heap.size W w' := by
  obtain ⟨_, _, t1⟩ := en_own o1
  obtain ⟨_, _, t2⟩ := int_own o2
  obtain ⟨_, _, t3⟩ := en_own o3
  obtain ⟨_, _, t4⟩ := int_own o4
  exact eqMsg_same m (by omega) (by omega) W t3 t1 t4 t2
theorem heldRows {W : World} {p1 p2 : Nat} {a b : Option Addr} {cap capb : Nat} {m : MsgL} (h1 : m.ents.length ≤ 4) (h2 : m.conf.length ≤ 4) (o1 : W.ownsRow p1 44 3 (.slice a m.ents.length cap) m.ents.length (cellsEn (marksEn 1 m.ents.length))) (o2 : W.ownsRow p2 3 1 (.slice b m.conf.length capb) m.conf.length (cellsI (marksI (1 + 3 * m.ents.length) m.conf.length))) :
    Calls Tryz.prog 9 #[.agg (msgC m a cap b capb), .int .i64 1] W fun e w' => e = .returned (.int .i64 ((1 + 3 * m.ents.length + m.conf.length : Nat) : Int)) ∧ Below W.heap.size W w' := by
  have e1 : (marksEn 1 m.ents.length).length = m.ents.length := marksEn_len _ _
  have e2 : (marksI (1 + 3 * m.ents.length) m.conf.length).length = m.conf.length := marksI_len _ _
  obtain ⟨g1, f1, t1⟩ := en_own (l := marksEn 1 m.ents.length) (by rw [e1]; exact o1)
  obtain ⟨g2, t2⟩ := int_own0 (l := marksI (1 + 3 * m.ents.length) m.conf.length) (by rw [e2]; exact o2)
  exact heldMsg_is m m.ents.length m.conf.length (by omega) (by omega) 1 (by decide) (by decide) W t1 t2
set_option maxHeartbeats 8000000 in
set_option maxRecDepth 100000 in
theorem lawDec_any (t : ByteArray) (ht : t.size ≤ maxLen) (w : World) :
    Calls Tryz.prog 3 #[.string t] w fun e w' => e = .returned (.bool true) ∧ Below w.heap.size w w' := by
  unfold maxLen at ht
  by_cases hbig : 1048576 < t.size
  · have h1 : (1048576 : Int) < (t.size : Int) := by omega
    go_enter Tryz.func3, Tryz.ntmps3
    go_wp2
    go_ret
    exact ⟨rfl, Below.refl _ _⟩
  · have h1 : ¬ (1048576 : Int) < (t.size : Int) := by omega
    have hs : t.size ≤ 1048576 := by omega
    obtain ⟨m, R, hA⟩ := ans_ex t
    obtain ⟨hl, hlc⟩ := ans_len hA
    have HS : Hid (∀ X : World, Calls Tryz.prog 5 #[.string t] X (AnsPost X m R)) := fun X => (specDec_is hs X).mono fun e w' h => dec_ans hA h
    have HI : Hid (∀ X : World, Calls Tryz.prog 6 #[.string t] X (AnsPost X m R)) := fun X => (implDec_is hs X).mono fun e w' h => dec_ans hA h
    clear hA
    go_enter Tryz.func3, Tryz.ntmps3
    go_wp2_with fail
    refine Calls.mono (HS.out _) ?_
    rintro e w1 ⟨a, cap, b, capb, rfl, oa1, oa2, hb1⟩
    obtain ⟨W1, hW1⟩ : ∃ W1, W1 = w1.alloc (Obj.cells (msgC m a cap b capb) 25) := ⟨_, rfl⟩
    have HWD1 : Hid (w1.alloc (Obj.cells #[.int .i64 m.kind, .int .i64 m.frm, .int .i64 m.dst, .int .i64 m.term, .int .i64 m.index, .int .i64 m.lterm, .int .i64 m.commit, .bool m.ok, .slice a m.ents.length cap, .slice b m.conf.length capb, .string m.data, .bool m.last] 25) = W1) := hW1.symm
    have hbW : Below w1.heap.size w1 W1 := by rw [hW1]; exact (Below.refl _ _).alloc (Nat.le_refl _) _
    have hw0 : W1.heap[w1.heap.size]? = some (.cells (msgC m a cap b capb) 25 (0, 0)) := by rw [hW1]; exact heap_alloc_new w1 _
    obtain ⟨bw, hbw⟩ : ∃ bw, bw = w1.heap.size := ⟨_, rfl⟩
    rw [← hbw] at hw0
    have HW0 : Hid (W1.heap[bw]? = some (.cells (msgC m a cap b capb) 25 (0, 0))) := hw0
    have HP1 : Hid (W1.ownsRow w.heap.size 44 3 (.slice a m.ents.length cap) m.ents.length (cellsEn m.ents)) := own_kept oa1 hbW
    have HP2 : Hid (W1.ownsRow w.heap.size 3 1 (.slice b m.conf.length capb) m.conf.length (cellsI m.conf)) := own_kept oa2 hbW
    have HBW : Hid (Below w.heap.size w W1) := hb1.trans (hbW.mono hb1.size)
    clear oa1 oa2 hb1 hbW hw0 hW1
    go_wp2_with fail
    rw [HWD1.out, ← hbw]
    clear HWD1 hbw
    refine Calls.mono (HI.out _) ?_
    rintro e w2 ⟨a2, cap2, b2, capb2, rfl, oc1, oc2, hb2⟩
    obtain ⟨W2, hW2⟩ : ∃ W2, W2 = w2.alloc (Obj.cells (msgC m a2 cap2 b2 capb2) 25) := ⟨_, rfl⟩
    have HWD2 : Hid (w2.alloc (Obj.cells #[.int .i64 m.kind, .int .i64 m.frm, .int .i64 m.dst, .int .i64 m.term, .int .i64 m.index, .int .i64 m.lterm, .int .i64 m.commit, .bool m.ok, .slice a2 m.ents.length cap2, .slice b2 m.conf.length capb2, .string m.data, .bool m.last] 25) = W2) := hW2.symm
    obtain ⟨bg, hbg⟩ : ∃ bg, bg = w2.heap.size := ⟨_, rfl⟩
    obtain ⟨bG, hbG⟩ : ∃ bG, bG = W1.heap.size := ⟨_, rfl⟩
    have HS2 : Hid (SD w bw bg bG a cap b capb a2 cap2 b2 capb2 m m.ents m.conf W2) := by
      have hba : Below w2.heap.size w2 W2 := by rw [hW2]; exact (Below.refl _ _).alloc (Nat.le_refl _) _
      have hbb := hb2.trans (hba.mono hb2.size)
      rw [hbg, hbG]
      exact ⟨(hbb.block _ (Array.getElem?_eq_some_iff.1 HW0.out).1).trans HW0.out, by rw [hW2]; exact heap_alloc_new w2 _, own_kept HP1.out hbb, own_kept HP2.out hbb, own_kept oc1 hba, own_kept oc2 hba, fun g e => (HP1.out.lt g e).2, fun g e => (HP2.out.lt g e).2, HBW.out.trans (hbb.mono HBW.out.size), HBW.out.size, hbb.size⟩
    clear oc1 oc2 hb2 HW0 HP1 HP2 HBW hbG hW2
    go_upto_region 5 with fail
    rw [HWD2.out, ← hbg]
    clear HWD2 hbg
    go_wp2_with (first | (refine wpList_loadA Tryz.isAgg25 Tryz.sizeOf25 rfl _ rfl bg (msgC m a2 cap2 b2 capb2) 25 rfl HS2.out.g0 rfl ?_) | (refine wpList_loadA Tryz.isAgg25 Tryz.sizeOf25 rfl _ rfl bw (msgC m a cap b capb) 25 rfl HS2.out.w0 rfl ?_) | fail)
    refine (eqRows hl hlc HS2.out.oa1 HS2.out.oa2 HS2.out.oc1 HS2.out.oc2).mono ?_
    rintro e w3 ⟨rfl, hb3⟩
    have HS3 : Hid (SD w bw bg bG a cap b capb a2 cap2 b2 capb2 m m.ents m.conf w3) := HS2.out.same hb3
    clear hb3 HS2
    go_wp2_with (first | (refine wpList_loadA Tryz.isAgg25 Tryz.sizeOf25 rfl _ rfl bg (msgC m a2 cap2 b2 capb2) 25 rfl HS3.out.g0 rfl ?_) | fail)
    refine (markMsg_own m (by omega) (by omega) 1 (by decide) (by decide) w3 HS3.out.sz HS3.out.oc1 HS3.out.oc2).mono ?_
    rintro e w4 ⟨rfl, om1, om2, w4', hg1, hg2⟩
    have HS4 : Hid (SD w bw bg bG a cap b capb a2 cap2 b2 capb2 m (marksEn 1 m.ents.length) (marksI (1 + 3 * m.ents.length) m.conf.length) w4) := HS3.out.mark om1 om2 hg1 hg2
    clear om1 om2 hg1 hg2 HS3
    have HHE : Hid (∀ X, X.ownsRow bG 44 3 (.slice a2 m.ents.length cap2) m.ents.length (cellsEn (marksEn 1 m.ents.length)) → X.ownsRow bG 3 1 (.slice b2 m.conf.length capb2) m.conf.length (cellsI (marksI (1 + 3 * m.ents.length) m.conf.length)) → Calls Tryz.prog 9 #[.agg (msgC m a2 cap2 b2 capb2), .int .i64 1] X fun e w' => e = .returned (.int .i64 ((1 + 3 * m.ents.length + m.conf.length : Nat) : Int)) ∧ Below X.heap.size X w') := fun X x y => heldRows hl hlc x y
    generalize 1 + 3 * m.ents.length + m.conf.length = K at HHE ⊢
    have hKp : (0 : Int) ≤ (K : Int) := by omega
    go_wp2_with (first | (refine wpList_loadA Tryz.isAgg25 Tryz.sizeOf25 rfl _ rfl bg (msgC m a2 cap2 b2 capb2) 25 rfl HS4.out.g0 rfl ?_) | fail)
    refine (HHE.out w4 HS4.out.oc1 HS4.out.oc2).mono ?_
    rintro e w5 ⟨rfl, hb5⟩
    have HS5 : Hid (SD w bw bg bG a cap b capb a2 cap2 b2 capb2 m (marksEn 1 m.ents.length) (marksI (1 + 3 * m.ents.length) m.conf.length) w5) := HS4.out.same hb5
    clear hb5 HS4
    go_wp2_with fail
    refine Calls.mono (HI.out _) ?_
    rintro e w6 ⟨a3, cap3, b3, capb3, rfl, od1, od2, hb6⟩
    obtain ⟨W6, hW6⟩ : ∃ W6, W6 = w6.alloc (Obj.cells (msgC m a3 cap3 b3 capb3) 25) := ⟨_, rfl⟩
    have HWD6 : Hid (w6.alloc (Obj.cells #[.int .i64 m.kind, .int .i64 m.frm, .int .i64 m.dst, .int .i64 m.term, .int .i64 m.index, .int .i64 m.lterm, .int .i64 m.commit, .bool m.ok, .slice a3 m.ents.length cap3, .slice b3 m.conf.length capb3, .string m.data, .bool m.last] 25) = W6) := hW6.symm
    obtain ⟨bh, hbh⟩ : ∃ bh, bh = w6.heap.size := ⟨_, rfl⟩
    have hba : Below w6.heap.size w6 W6 := by rw [hW6]; exact (Below.refl _ _).alloc (Nat.le_refl _) _
    have HS6 : Hid (SD w bw bg bG a cap b capb a2 cap2 b2 capb2 m (marksEn 1 m.ents.length) (marksI (1 + 3 * m.ents.length) m.conf.length) W6) := HS5.out.same (hb6.trans (hba.mono hb6.size))
    have HH6 : Hid (W6.heap[bh]? = some (.cells (msgC m a3 cap3 b3 capb3) 25 (0, 0))) := by rw [hbh, hW6]; exact heap_alloc_new w6 _
    have HD1 : Hid (W6.ownsRow w5.heap.size 44 3 (.slice a3 m.ents.length cap3) m.ents.length (cellsEn m.ents)) := own_kept od1 hba
    have HD2 : Hid (W6.ownsRow w5.heap.size 3 1 (.slice b3 m.conf.length capb3) m.conf.length (cellsI m.conf)) := own_kept od2 hba
    clear od1 od2 hb6 hba HS5 hW6
    go_upto_region 16 with fail
    rw [HWD6.out, ← hbh]
    clear HWD6 hbh
    go_wp2_with (first | (refine wpList_loadA Tryz.isAgg25 Tryz.sizeOf25 rfl _ rfl bh (msgC m a3 cap3 b3 capb3) 25 rfl HH6.out rfl ?_) | (refine wpList_loadA Tryz.isAgg25 Tryz.sizeOf25 rfl _ rfl bw (msgC m a cap b capb) 25 rfl HS6.out.w0 rfl ?_) | fail)
    refine (eqRows hl hlc HS6.out.oa1 HS6.out.oa2 HD1.out HD2.out).mono ?_
    rintro e w7 ⟨rfl, hb7⟩
    have HS7 : Hid (SD w bw bg bG a cap b capb a2 cap2 b2 capb2 m (marksEn 1 m.ents.length) (marksI (1 + 3 * m.ents.length) m.conf.length) w7) := HS6.out.same hb7
    clear hb7 HS6 HH6 HD1 HD2
    go_wp2_with (first | (refine wpList_loadA Tryz.isAgg25 Tryz.sizeOf25 rfl _ rfl bg (msgC m a2 cap2 b2 capb2) 25 rfl HS7.out.g0 rfl ?_) | fail)
    refine (HHE.out w7 HS7.out.oc1 HS7.out.oc2).mono ?_
    rintro e w8 ⟨rfl, hb8⟩
    have HB8 : Hid (Below w.heap.size w w8) := (HS7.out.same hb8).bel
    clear hb8 HS7
    go_wp2
    go_ret
    exact ⟨rfl, HB8.out⟩
end Go.Proofs.YtimacmijinblmaaGreat
