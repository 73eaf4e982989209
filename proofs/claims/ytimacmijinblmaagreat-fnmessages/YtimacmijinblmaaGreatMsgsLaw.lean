/- The law FnMessages, walked. -/
import Derived.Test.YtimacmijinblmaaGreatDraw
import Derived.Test.YtimacmijinblmaaGreatDrawED
import Derived.Test.YtimacmijinblmaaGreatImplEnc
namespace Go.Proofs.YtimacmijinblmaaGreat
open Go.RowKit
open Ents (okB)
open Msgs (okM Got)
set_option linter.unusedVariables false
set_option linter.unusedSimpArgs false
theorem code_up {w X : World} {a : Option Addr} {len b off : Nat} {z : Nat → Int} (hc : Code w.heap.size w a len b off z) (hb : Below w.heap.size w X) : Code X.heap.size X a len b off z := by
  have h := hc.below hb
  have hs := hb.size
  unfold Code at h ⊢
  refine ⟨fun x => ?_, h.2⟩
  have := h.1 x
  omega
/-- A block with a message, and the message's rows. -/
structure MB (w : World) (bm : Nat) (m : MsgL) (p : Option Addr) (c : Nat) (q : Option Addr) (d : Nat) (X : World) : Prop where
  blk : X.heap[bm]? = some (.cells (msgC m p c q d) 25 (0, 0))
  ent : X.ownsRow w.heap.size 44 3 (.slice p m.ents.length c) m.ents.length (cellsEn m.ents)
  cnf : X.ownsRow w.heap.size 3 1 (.slice q m.conf.length d) m.conf.length (cellsI m.conf)
theorem MB.same {w : World} {bm : Nat} {m : MsgL} {p : Option Addr} {c : Nat} {q : Option Addr} {d : Nat} {X X' : World} (h : MB w bm m p c q d X) (hb : Below X.heap.size X X') : MB w bm m p c q d X' :=
  ⟨(hb.block _ (Array.getElem?_eq_some_iff.1 h.blk).1).trans h.blk, own_kept h.ent hb, own_kept h.cnf hb⟩
theorem encI {m : MsgL} (hl : m.ents.length ≤ 1048576 ∧ (∀ e ∈ m.ents, e.data.size ≤ 1048576) ∧ m.conf.length ≤ 1048576 ∧ m.data.size ≤ 1048576) {T : ByteArray} {O : Bool} (hTO : encTuple m = .tuple #[.string T, .bool O]) {w X : World} {bm : Nat} {p : Option Addr} {c : Nat} {q : Option Addr} {d : Nat} (h : MB w bm m p c q d X) :
    Calls Tryz.prog 12 #[.agg (msgC m p c q d)] X fun en w' => en = .returned (.tuple #[.string T, .bool O]) ∧ Below X.heap.size X w' := by
  obtain ⟨ge, oe, he⟩ := en_own h.ent
  obtain ⟨gi, oi, hi⟩ := int_own h.cnf
  have k := implEnc_is (cap := c) (capb := d) m hl.1 hl.2.1 hl.2.2.1 hl.2.2.2 X he hi
  rw [hTO] at k
  exact k
theorem ans_sizes {t : ByteArray} {m : MsgL} {R : Bool} (h : AnsIs t m R) (hs : t.size ≤ 1048576) : m.ents.length ≤ 1048576 ∧ (∀ e ∈ m.ents, e.data.size ≤ 1048576) ∧ m.conf.length ≤ 1048576 ∧ m.data.size ≤ 1048576 := by
  rcases h with ⟨h, _⟩ | ⟨_, rfl, _⟩
  · exact text_sizes h.1 hs
  · exact ⟨Nat.zero_le _, fun e he => (List.not_mem_nil he).elim, Nat.zero_le _, Nat.zero_le _⟩
set_option maxHeartbeats 16000000 in
set_option maxRecDepth 100000 in
theorem lawMessages_any {len cap b off : Nat} {a : Option Addr} {z : Nat → Int} (w : World) (hl : len ≤ 1048576) (hc : Code w.heap.size w a len b off z) :
    Calls Tryz.prog 4 #[.slice a len cap] w fun e w' => e = .returned (.bool true) ∧ Below w.heap.size w w' := by
  have HC : Hid (Code w.heap.size w a len b off z) := hc
  have HDE : Hid (∀ X, Below w.heap.size w X → Calls Tryz.prog 11 #[.slice a len cap] X (DEPost X)) := fun X hb => drawEnc_any X (code_up hc hb)
  have HDD : Hid (∀ X, Below w.heap.size w X → Calls Tryz.prog 15 #[.slice a len cap] X fun e w' => ∃ S : ByteArray, e = .returned (.string S) ∧ S.size ≤ 5001 ∧ Below X.heap.size X w') := fun X hb => drawDec_any X (code_up hc hb)
  clear hc
  go_enter Tryz.func4, Tryz.ntmps4
  go_wp2_with fail
  refine (big_no a len cap hl _).mono ?_
  rintro e w0 ⟨rfl, rfl⟩
  go_wp2_with fail
  refine (HDE.out _ (Below.refl _ _)).mono ?_
  rintro e w1 ⟨m, p, c, q, d, rfl, hsm, o1, o2, hb1⟩
  obtain ⟨W1, hW1⟩ : ∃ W1, W1 = w1.alloc (Obj.cells (msgC m p c q d) 25) := ⟨_, rfl⟩
  have HWD1 : Hid (w1.alloc (Obj.cells #[.int .i64 m.kind, .int .i64 m.frm, .int .i64 m.dst, .int .i64 m.term, .int .i64 m.index, .int .i64 m.lterm, .int .i64 m.commit, .bool m.ok, .slice p m.ents.length c, .slice q m.conf.length d, .string m.data, .bool m.last] 25) = W1) := hW1.symm
  have hba : Below w1.heap.size w1 W1 := by rw [hW1]; exact (Below.refl _ _).alloc (Nat.le_refl _) _
  obtain ⟨bm, hbm⟩ : ∃ bm, bm = w1.heap.size := ⟨_, rfl⟩
  have HM1 : Hid (MB w bm m p c q d W1) := ⟨by rw [hbm, hW1]; exact heap_alloc_new w1 _, own_kept o1 hba, own_kept o2 hba⟩
  have HB1 : Hid (Below w.heap.size w W1) := hb1.trans (hba.mono hb1.size)
  have HSM : Hid (Small 11 m) := hsm
  obtain ⟨T, O, hTO, hO, hT⟩ := enc_parts m
  have HTO : Hid (encTuple m = .tuple #[.string T, .bool O]) := hTO
  have HO : Hid (O = okM m) := hO
  have HTx : Hid (O = true → T = Msgs.textS m) := hT
  have HTs : Hid (T.size ≤ 5000) := by
    show _ ≤ _
    cases O with
    | true => rw [hT rfl]; exact text_small hO.symm
    | false =>
      unfold encTuple at hTO
      rw [← hO] at hTO
      simp at hTO
      rw [← hTO]
      exact Nat.zero_le _
  have HEN : Hid (∀ X, MB w bm m p c q d X → Calls Tryz.prog 12 #[.agg (msgC m p c q d)] X fun en w' => en = .returned (.tuple #[.string T, .bool O]) ∧ Below X.heap.size X w') := fun X h => encI ⟨by have := hsm.len; omega, fun e he => by have := hsm.ents e he; omega, by have := hsm.conf; omega, by have := hsm.data; omega⟩ hTO h
  unfold msgV
  clear hsm o1 o2 hb1 hba hTO hO hT hW1
  go_upto_region 4 with fail
  rw [HWD1.out, ← hbm]
  clear HWD1 hbm
  go_wp2_with (first | (refine wpList_loadA Tryz.isAgg25 Tryz.sizeOf25 rfl _ rfl bm (msgC m p c q d) 25 rfl HM1.out.blk rfl ?_) | fail)
  refine (HEN.out _ HM1.out).mono ?_
  rintro e w2 ⟨rfl, hb2⟩
  have HM2 : Hid (MB w bm m p c q d w2) := HM1.out.same hb2
  have HB2 : Hid (Below w.heap.size w w2) := HB1.out.trans (hb2.mono HB1.out.size)
  clear hb2 HM1 HB1
  obtain ⟨m2, R, hA, hEq⟩ : ∃ m2 R, AnsIs T m2 R ∧ (O = true → m2 = m ∧ R = true) := by
    by_cases h : O = true
    · have ht := HTx.out h
      exact ⟨m, true, Or.inl ⟨⟨by rw [ht]; rfl, by rw [← HO.out]; exact h⟩, rfl⟩, fun _ => ⟨rfl, rfl⟩⟩
    · obtain ⟨m2, R, hA⟩ := ans_ex T
      exact ⟨m2, R, hA, fun x => absurd x h⟩
  have HI : Hid (∀ X : World, Calls Tryz.prog 6 #[.string T] X (AnsPost X m2 R)) := fun X => (implDec_is (by have := HTs.out; omega) X).mono fun e w' h => dec_ans hA h
  have HA : Hid (O = true → m2 = m ∧ R = true) := hEq
  clear hEq
  clear hA
  go_wp2_with fail
  refine (HI.out _).mono ?_
  rintro e w3 ⟨p2, c2, q2, d2, rfl, o1, o2, hb3⟩
  obtain ⟨W3, hW3⟩ : ∃ W3, W3 = w3.alloc (Obj.cells (msgC m2 p2 c2 q2 d2) 25) := ⟨_, rfl⟩
  have HWD3 : Hid (w3.alloc (Obj.cells #[.int .i64 m2.kind, .int .i64 m2.frm, .int .i64 m2.dst, .int .i64 m2.term, .int .i64 m2.index, .int .i64 m2.lterm, .int .i64 m2.commit, .bool m2.ok, .slice p2 m2.ents.length c2, .slice q2 m2.conf.length d2, .string m2.data, .bool m2.last] 25) = W3) := hW3.symm
  have hba : Below w3.heap.size w3 W3 := by rw [hW3]; exact (Below.refl _ _).alloc (Nat.le_refl _) _
  have hbb : Below w2.heap.size w2 W3 := hb3.trans (hba.mono hb3.size)
  obtain ⟨bn, hbn⟩ : ∃ bn, bn = w3.heap.size := ⟨_, rfl⟩
  have HM3 : Hid (MB w bm m p c q d W3) := HM2.out.same hbb
  have HN3 : Hid (MB w bn m2 p2 c2 q2 d2 W3) := ⟨by rw [hbn, hW3]; exact heap_alloc_new w3 _, own_mono (own_kept o1 hba) HB2.out.size, own_mono (own_kept o2 hba) HB2.out.size⟩
  have HB3 : Hid (Below w.heap.size w W3) := HB2.out.trans (hbb.mono HB2.out.size)
  clear o1 o2 hb3 hba hbb HM2 HB2 hW3 HI
  go_upto_region 6 with fail
  rw [HWD3.out, ← hbn]
  clear HWD3 hbn
  have HMO : Hid (∀ X, MB w bm m p c q d X → Calls Tryz.prog 13 #[.agg (msgC m p c q d)] X fun en w' => en = .returned (.bool O) ∧ Below X.heap.size X w') := fun X h => by
    obtain ⟨ge, oe, he⟩ := en_own h.ent
    obtain ⟨gi, oi, hi⟩ := int_own h.cnf
    rw [HO.out]
    exact specMsgOk_is (cap := c) (capb := d) m (by have := HSM.out.len; omega) (fun e he => by have := HSM.out.ents e he; omega) (by have := HSM.out.conf; omega) (by have := HSM.out.data; omega) X he hi
  go_cut [45] (fun v wx => v = .bool false ∧ Hid (Below w.heap.size w wx))
  case first =>
    go_wp2_with (first | (refine wpList_loadA Tryz.isAgg25 Tryz.sizeOf25 rfl _ rfl bm (msgC m p c q d) 25 rfl HM3.out.blk rfl ?_) | fail)
    refine (HMO.out _ HM3.out).mono ?_
    rintro e w4 ⟨rfl, hb4⟩
    have HM4 : Hid (MB w bm m p c q d w4) := HM3.out.same hb4
    have HN4 : Hid (MB w bn m2 p2 c2 q2 d2 w4) := HN3.out.same hb4
    have HB4 : Hid (Below w.heap.size w w4) := HB3.out.trans (hb4.mono HB3.out.size)
    clear hb4 HM3 HN3 HB3 HMO HEN HTO HTx HO
    cases O with
    | false =>
      go_wp2
      go_meet
      case rel => exact ⟨rfl, HB4⟩
    | true =>
      obtain ⟨rfl, rfl⟩ := HA.out rfl
      have g0 := cell_of_row _ _ 0 _ _ _ HM4.out.blk
      have h0 := cell_of_row _ _ 0 _ _ _ HN4.out.blk
      have g1 := cell_of_row _ _ 1 _ _ _ HM4.out.blk
      have h1 := cell_of_row _ _ 1 _ _ _ HN4.out.blk
      have g2 := cell_of_row _ _ 2 _ _ _ HM4.out.blk
      have h2 := cell_of_row _ _ 2 _ _ _ HN4.out.blk
      have g3 := cell_of_row _ _ 3 _ _ _ HM4.out.blk
      have h3 := cell_of_row _ _ 3 _ _ _ HN4.out.blk
      have g4 := cell_of_row _ _ 4 _ _ _ HM4.out.blk
      have h4 := cell_of_row _ _ 4 _ _ _ HN4.out.blk
      have g5 := cell_of_row _ _ 5 _ _ _ HM4.out.blk
      have h5 := cell_of_row _ _ 5 _ _ _ HN4.out.blk
      have g6 := cell_of_row _ _ 6 _ _ _ HM4.out.blk
      have h6 := cell_of_row _ _ 6 _ _ _ HN4.out.blk
      have g7 := cell_of_row _ _ 7 _ _ _ HM4.out.blk
      have h7 := cell_of_row _ _ 7 _ _ _ HN4.out.blk
      have g8 := cell_of_row _ _ 8 _ _ _ HM4.out.blk
      have h8 := cell_of_row _ _ 8 _ _ _ HN4.out.blk
      have g9 := cell_of_row _ _ 9 _ _ _ HM4.out.blk
      have h9 := cell_of_row _ _ 9 _ _ _ HN4.out.blk
      have g10 := cell_of_row _ _ 10 _ _ _ HM4.out.blk
      have h10 := cell_of_row _ _ 10 _ _ _ HN4.out.blk
      have g11 := cell_of_row _ _ 11 _ _ _ HM4.out.blk
      have h11 := cell_of_row _ _ 11 _ _ _ HN4.out.blk
      simp [msgC] at g0 h0 g1 h1 g2 h2 g3 h3 g4 h4 g5 h5 g6 h6 g7 h7 g8 h8 g9 h9 g10 h10 g11 h11
      have HSA : Hid (Calls Tryz.prog 14 #[.agg #[.int .i64 m2.kind, .int .i64 m2.frm, .int .i64 m2.dst, .int .i64 m2.term, .int .i64 m2.index, .int .i64 m2.lterm, .int .i64 m2.commit, .bool m2.ok, .slice p2 m2.ents.length c2, .slice q2 m2.conf.length d2, .string m2.data, .bool m2.last], .agg #[.int .i64 m2.kind, .int .i64 m2.frm, .int .i64 m2.dst, .int .i64 m2.term, .int .i64 m2.index, .int .i64 m2.lterm, .int .i64 m2.commit, .bool m2.ok, .slice p m2.ents.length c, .slice q m2.conf.length d, .string m2.data, .bool m2.last]] w4 fun e w' => e = .returned (.bool true) ∧ Below w4.heap.size w4 w') := by
        obtain ⟨_, _, t1⟩ := en_own HM4.out.ent
        obtain ⟨_, _, t2⟩ := int_own HM4.out.cnf
        obtain ⟨_, _, t3⟩ := en_own HN4.out.ent
        obtain ⟨_, _, t4⟩ := int_own HN4.out.cnf
        exact sameMsg_same _ (by have := HSM.out.len; omega) (by have := HSM.out.conf; omega) w4 t3 t1 t4 t2
      go_wp2_with fail
      refine HSA.out.mono ?_
      rintro e w5 ⟨rfl, hb5⟩
      have HB5 : Hid (Below w.heap.size w w5) := HB4.out.trans (hb5.mono HB4.out.size)
      clear hb5 g0 h0 g1 h1 g2 h2 g3 h3 g4 h4 g5 h5 g6 h6 g7 h7 g8 h8 g9 h9 g10 h10 g11 h11
      go_wp2
      go_meet
      case rel => exact ⟨rfl, HB5⟩
  case rest =>
    obtain ⟨rfl, HBc⟩ := hcut
    clear HM3 HN3 HB3 HMO HEN HTO HTx HO HA HTs HSM
    go_wp2_with fail
    refine (HDD.out _ HBc.out).mono ?_
    rintro e w5 ⟨S, rfl, hS, hb5⟩
    have HB5 : Hid (Below w.heap.size w w5) := HBc.out.trans (hb5.mono HBc.out.size)
    clear hb5 HBc HDD HDE HC
    obtain ⟨n, R2, hA2⟩ := ans_ex S
    have HI2 : Hid (∀ X : World, Calls Tryz.prog 6 #[.string S] X (AnsPost X n R2)) := fun X => (implDec_is (by omega) X).mono fun e w' h => dec_ans hA2 h
    have HS2 : Hid (∀ X : World, Calls Tryz.prog 5 #[.string S] X (AnsPost X n R2)) := fun X => (specDec_is (by omega) X).mono fun e w' h => dec_ans hA2 h
    obtain ⟨T2, O2, hTO2, hO2, hT2⟩ := enc_parts n
    have HEN2 : Hid (∀ (X : World) (bh : Nat) (p3 : Option Addr) (c3 : Nat) (q3 : Option Addr) (d3 : Nat), MB w bh n p3 c3 q3 d3 X → Calls Tryz.prog 12 #[.agg (msgC n p3 c3 q3 d3)] X fun en w' => en = .returned (.tuple #[.string T2, .bool O2]) ∧ Below X.heap.size X w') := fun X bh p3 c3 q3 d3 h => encI (ans_sizes hA2 (by omega)) hTO2 h
    have HEQ2 : Hid (R2 = true → T2 = S) := fun h => by
      rcases hA2 with ⟨h1, _⟩ | ⟨_, _, h1⟩
      · rw [hT2 (by rw [hO2]; exact h1.2)]
        apply Batches.by_inj
        rw [h1.1]
        rfl
      · rw [h] at h1; cases h1
    clear hA2 hTO2 hO2 hT2
    go_wp2_with fail
    refine (HI2.out _).mono ?_
    rintro e w6 ⟨p3, c3, q3, d3, rfl, o1, o2, hb6⟩
    obtain ⟨W6, hW6⟩ : ∃ W6, W6 = w6.alloc (Obj.cells (msgC n p3 c3 q3 d3) 25) := ⟨_, rfl⟩
    have HWD6 : Hid (w6.alloc (Obj.cells #[.int .i64 n.kind, .int .i64 n.frm, .int .i64 n.dst, .int .i64 n.term, .int .i64 n.index, .int .i64 n.lterm, .int .i64 n.commit, .bool n.ok, .slice p3 n.ents.length c3, .slice q3 n.conf.length d3, .string n.data, .bool n.last] 25) = W6) := hW6.symm
    have hba : Below w6.heap.size w6 W6 := by rw [hW6]; exact (Below.refl _ _).alloc (Nat.le_refl _) _
    have hbb : Below w5.heap.size w5 W6 := hb6.trans (hba.mono hb6.size)
    obtain ⟨bh, hbh⟩ : ∃ bh, bh = w6.heap.size := ⟨_, rfl⟩
    have HM6 : Hid (MB w bh n p3 c3 q3 d3 W6) := ⟨by rw [hbh, hW6]; exact heap_alloc_new w6 _, own_mono (own_kept o1 hba) HB5.out.size, own_mono (own_kept o2 hba) HB5.out.size⟩
    have HB6 : Hid (Below w.heap.size w W6) := HB5.out.trans (hbb.mono HB5.out.size)
    clear o1 o2 hb6 hba hbb HB5 hW6 HI2
    go_wp2_with fail
    rw [HWD6.out, ← hbh]
    clear HWD6 hbh
    refine (HS2.out _).mono ?_
    rintro e w7 ⟨p4, c4, q4, d4, rfl, _, _, hb7⟩
    have HM7 : Hid (MB w bh n p3 c3 q3 d3 (w7.alloc (Obj.cells #[.int .i64 n.kind, .int .i64 n.frm, .int .i64 n.dst, .int .i64 n.term, .int .i64 n.index, .int .i64 n.lterm, .int .i64 n.commit, .bool n.ok, .slice p4 n.ents.length c4, .slice q4 n.conf.length d4, .string n.data, .bool n.last] 25))) := HM6.out.same (hb7.trans (((Below.refl _ _).alloc (Nat.le_refl _) _).mono hb7.size))
    have HB7 : Hid (Below w.heap.size w (w7.alloc (Obj.cells #[.int .i64 n.kind, .int .i64 n.frm, .int .i64 n.dst, .int .i64 n.term, .int .i64 n.index, .int .i64 n.lterm, .int .i64 n.commit, .bool n.ok, .slice p4 n.ents.length c4, .slice q4 n.conf.length d4, .string n.data, .bool n.last] 25))) := (HB6.out.trans (hb7.mono HB6.out.size)).alloc (HB6.out.trans (hb7.mono HB6.out.size)).size _
    clear hb7 HM6 HB6 HS2
    obtain ⟨W7, hW7⟩ : ∃ W7, W7 = w7.alloc (Obj.cells #[.int .i64 n.kind, .int .i64 n.frm, .int .i64 n.dst, .int .i64 n.term, .int .i64 n.index, .int .i64 n.lterm, .int .i64 n.commit, .bool n.ok, .slice p4 n.ents.length c4, .slice q4 n.conf.length d4, .string n.data, .bool n.last] 25) := ⟨_, rfl⟩
    rw [← hW7] at HM7 HB7
    go_upto_region 11 with fail
    rw [← hW7]
    clear hW7
    go_wp2_with (first | (refine wpList_loadA Tryz.isAgg25 Tryz.sizeOf25 rfl _ rfl bh (msgC n p3 c3 q3 d3) 25 rfl HM7.out.blk rfl ?_) | fail)
    refine (HEN2.out _ _ _ _ _ _ HM7.out).mono ?_
    rintro e w8 ⟨rfl, hb8⟩
    have HB8 : Hid (Below w.heap.size w w8) := HB7.out.trans (hb8.mono HB7.out.size)
    clear hb8 HM7 HB7 HEN2
    cases R2 with
    | false =>
      go_wp2
      go_ret
      exact ⟨rfl, HB8.out⟩
    | true =>
      have e2 := HEQ2.out rfl
      subst e2
      go_wp2
      go_ret
      exact ⟨rfl, HB8.out⟩
/-- FnMessages answers true at every list of bytes that is not too long. -/
theorem lawMsgs_any {len cap b off : Nat} {a : Option Addr} {z : Nat → Int} (w : World) (hc : Code w.heap.size w a len b off z) :
    Calls Tryz.prog 4 #[.slice a len cap] w fun e w' => e = .returned (.bool true) ∧ Below w.heap.size w w' :=
  lawMessages_any w hc.2.1 hc
theorem lawMsgs_big {cap len : Nat} {a : Option Addr} (w : World) (hl : 1048576 < len) :
    Calls Tryz.prog 4 #[.slice a len cap] w fun en w' => en = .returned (.bool true) ∧ Below w.heap.size w w' := by
  go_enter Tryz.func4, Tryz.ntmps4
  go_wp2_with fail
  refine (big_yes a len cap hl _).mono ?_
  rintro e w0 ⟨rfl, rfl⟩
  go_wp2
  go_ret
  exact ⟨rfl, Below.refl _ _⟩
end Go.Proofs.YtimacmijinblmaaGreat
