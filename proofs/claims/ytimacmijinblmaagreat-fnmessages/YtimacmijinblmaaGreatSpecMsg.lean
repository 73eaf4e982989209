/- The specification's MessageOk, walked. -/
import Derived.Test.YtimacmijinblmaaGreatLEn
import Derived.Test.YtimacmijinblmaaGreatSpecEntT
import Derived.Test.YtimacmijinblmaaGreatConfLaw
namespace Go.Proofs.YtimacmijinblmaaGreat
open Go.RowKit
open Ents (okB)
open Msgs (inB okM headB numsB sendB tailB rise)
set_option linter.unusedVariables false
set_option linter.unusedSimpArgs false

/-- A message's cells, the lists by where they lie. -/
def msgC (m : MsgL) (a : Option Addr) (cap : Nat) (b : Option Addr) (capb : Nat) : Array Value := #[.int .i64 m.kind, .int .i64 m.frm, .int .i64 m.dst, .int .i64 m.term, .int .i64 m.index, .int .i64 m.lterm, .int .i64 m.commit, .bool m.ok, .slice a m.ents.length cap, .slice b m.conf.length capb, .string m.data, .bool m.last]
def msgV (m : MsgL) (a : Option Addr) (cap : Nat) (b : Option Addr) (capb : Nat) : Value := .agg #[.int .i64 m.kind, .int .i64 m.frm, .int .i64 m.dst, .int .i64 m.term, .int .i64 m.index, .int .i64 m.lterm, .int .i64 m.commit, .bool m.ok, .slice a m.ents.length cap, .slice b m.conf.length capb, .string m.data, .bool m.last]
structure MsgAt (W : World) (g : Nat) (m : MsgL) (a : Option Addr) (cap : Nat) (b : Option Addr) (capb : Nat) : Prop where
  c0 : W.cell? ⟨g, 0, none⟩ = some (.int .i64 m.kind)
  c1 : W.cell? ⟨g, 1, none⟩ = some (.int .i64 m.frm)
  c2 : W.cell? ⟨g, 2, none⟩ = some (.int .i64 m.dst)
  c3 : W.cell? ⟨g, 3, none⟩ = some (.int .i64 m.term)
  c4 : W.cell? ⟨g, 4, none⟩ = some (.int .i64 m.index)
  c5 : W.cell? ⟨g, 5, none⟩ = some (.int .i64 m.lterm)
  c6 : W.cell? ⟨g, 6, none⟩ = some (.int .i64 m.commit)
  c7 : W.cell? ⟨g, 7, none⟩ = some (.bool m.ok)
  c8 : W.cell? ⟨g, 8, none⟩ = some (.slice a m.ents.length cap)
  c9 : W.cell? ⟨g, 9, none⟩ = some (.slice b m.conf.length capb)
  c10 : W.cell? ⟨g, 10, none⟩ = some (.string m.data)
  c11 : W.cell? ⟨g, 11, none⟩ = some (.bool m.last)
theorem MsgAt.new (w : World) (m : MsgL) (a : Option Addr) (cap : Nat) (b : Option Addr) (capb : Nat) (t : TypeId) : MsgAt (w.alloc (Obj.cells (msgC m a cap b capb) t)) w.heap.size m a cap b capb := by
  have p0 := heap_alloc_new w (Obj.cells (msgC m a cap b capb) t)
  exact ⟨cell_of_row _ _ 0 _ _ _ p0, cell_of_row _ _ 1 _ _ _ p0, cell_of_row _ _ 2 _ _ _ p0, cell_of_row _ _ 3 _ _ _ p0, cell_of_row _ _ 4 _ _ _ p0, cell_of_row _ _ 5 _ _ _ p0, cell_of_row _ _ 6 _ _ _ p0, cell_of_row _ _ 7 _ _ _ p0, cell_of_row _ _ 8 _ _ _ p0, cell_of_row _ _ 9 _ _ _ p0, cell_of_row _ _ 10 _ _ _ p0, cell_of_row _ _ 11 _ _ _ p0⟩
theorem MsgAt.kept {W W' : World} {g : Nat} {m : MsgL} {a : Option Addr} {cap : Nat} {b : Option Addr} {capb : Nat} (h : MsgAt W g m a cap b capb) (hb : Below W.heap.size W W') : MsgAt W' g m a cap b capb := by
  have hl := World.block_lt_of_cell? W _ h.c0
  have kp : ∀ i, W'.cell? ⟨g, i, none⟩ = W.cell? ⟨g, i, none⟩ := fun i => hb.cell (p := ⟨g, i, none⟩) hl
  exact ⟨(kp 0).trans h.c0, (kp 1).trans h.c1, (kp 2).trans h.c2, (kp 3).trans h.c3, (kp 4).trans h.c4, (kp 5).trans h.c5, (kp 6).trans h.c6, (kp 7).trans h.c7, (kp 8).trans h.c8, (kp 9).trans h.c9, (kp 10).trans h.c10, (kp 11).trans h.c11⟩
theorem in_b (x lo hi : Int) (W : World) (R : Bool) (h : R = inB lo hi x) : Calls Tryz.prog 36 #[.int .i64 x, .int .i64 lo, .int .i64 hi] W fun en w' => en = .returned (.bool R) ∧ w' = W := in_is x lo hi R (by rw [h]; exact Msgs.inB_iff) W

theorem send_no {m : MsgL} (h : 4 < m.ents.length ∨ (0 < m.ents.length ∧ m.kind ≠ 3)) : sendB m = false := by
  unfold sendB
  rcases h with h | ⟨h1, h2⟩
  · rw [decide_eq_false (by omega), Bool.false_and]
  · rw [decide_eq_false (p := m.ents.length = 0) (by omega), decide_eq_false h2, Bool.or_self, Bool.and_false]
theorem send_yes {m : MsgL} (h : m.ents.length ≤ 4) (h1 : m.ents.length = 0 ∨ (0 < m.ents.length ∧ m.kind = 3)) : sendB m = true := by
  unfold sendB
  rw [decide_eq_true h]
  rcases h1 with h1 | ⟨_, h1⟩
  · rw [decide_eq_true h1]; rfl
  · rw [decide_eq_true h1, Bool.or_true]; rfl

set_option maxHeartbeats 8000000 in
set_option maxRecDepth 100000 in
theorem specMsgOk_is {a b : Option Addr} {g off cap h offb capb : Nat} (m : MsgL) (hlen : m.ents.length ≤ 1048576) (hd : ∀ e ∈ m.ents, e.data.size ≤ 1048576) (hlc : m.conf.length ≤ 1048576) (hds : m.data.size ≤ 1048576) (w : World) (hf : EnAt w a g off m.ents) (hc : IntAt w b h offb m.conf) :
    Calls Tryz.prog 13 #[msgV m a cap b capb] w fun en w' => en = .returned (.bool (okM m)) ∧ Below w.heap.size w w' := by
  obtain ⟨O, hO⟩ : ∃ O, O = okM m := ⟨_, rfl⟩
  rw [← hO]
  unfold msgV
  obtain ⟨W, hW⟩ : ∃ W, W = w.alloc (Obj.cells (msgC m a cap b capb) 25) := ⟨_, rfl⟩
  have hb : Below w.heap.size w W := by rw [hW]; exact (Below.refl _ _).alloc (Nat.le_refl _) _
  have HB : Hid (Below w.heap.size w W) := hb
  have hla : MsgAt W w.heap.size m a cap b capb := by rw [hW]; exact MsgAt.new w m a cap b capb 25
  have HEN : Hid (∀ W', Below W.heap.size W W' → EnAt W' a g off m.ents) := fun W' x => (hf.kept hb).kept x
  have HCO : Hid (∀ W', Below W.heap.size W W' → IntAt W' b h offb m.conf) := fun W' x => (hc.kept hb).kept x
  have HLA : Hid (∀ W', Below W.heap.size W W' → MsgAt W' w.heap.size m a cap b capb) := fun W' x => hla.kept x
  have HWD : Hid (w.alloc (Obj.cells #[.int .i64 m.kind, .int .i64 m.frm, .int .i64 m.dst, .int .i64 m.term, .int .i64 m.index, .int .i64 m.lterm, .int .i64 m.commit, .bool m.ok, .slice a m.ents.length cap, .slice b m.conf.length capb, .string m.data, .bool m.last] 25) = W) := hW.symm
  clear hla hb hf hc hW
  obtain ⟨R1, hR1⟩ : ∃ R1, R1 = inB 1 6 m.kind := ⟨_, rfl⟩
  obtain ⟨R2, hR2⟩ : ∃ R2, R2 = inB 1 4 m.frm := ⟨_, rfl⟩
  obtain ⟨R3, hR3⟩ : ∃ R3, R3 = inB 1 4 m.dst := ⟨_, rfl⟩
  obtain ⟨R4, hR4⟩ : ∃ R4, R4 = inB 0 100000 m.term := ⟨_, rfl⟩
  obtain ⟨R5, hR5⟩ : ∃ R5, R5 = inB 0 100000 m.lterm := ⟨_, rfl⟩
  obtain ⟨R6, hR6⟩ : ∃ R6, R6 = inB 0 100000 m.index := ⟨_, rfl⟩
  obtain ⟨R7, hR7⟩ : ∃ R7, R7 = inB 0 100000 m.commit := ⟨_, rfl⟩
  have HI1 : Hid (∀ W, Calls Tryz.prog 36 #[.int .i64 m.kind, .int .i64 1, .int .i64 6] W fun en w' => en = .returned (.bool R1) ∧ w' = W) := fun W => in_b _ _ _ W _ hR1
  have HI2 : Hid (∀ W, Calls Tryz.prog 36 #[.int .i64 m.frm, .int .i64 1, .int .i64 4] W fun en w' => en = .returned (.bool R2) ∧ w' = W) := fun W => in_b _ _ _ W _ hR2
  have HI3 : Hid (∀ W, Calls Tryz.prog 36 #[.int .i64 m.dst, .int .i64 1, .int .i64 4] W fun en w' => en = .returned (.bool R3) ∧ w' = W) := fun W => in_b _ _ _ W _ hR3
  have HI4 : Hid (∀ W, Calls Tryz.prog 36 #[.int .i64 m.term, .int .i64 0, .int .i64 100000] W fun en w' => en = .returned (.bool R4) ∧ w' = W) := fun W => in_b _ _ _ W _ hR4
  have HI5 : Hid (∀ W, Calls Tryz.prog 36 #[.int .i64 m.lterm, .int .i64 0, .int .i64 100000] W fun en w' => en = .returned (.bool R5) ∧ w' = W) := fun W => in_b _ _ _ W _ hR5
  have HI6 : Hid (∀ W, Calls Tryz.prog 36 #[.int .i64 m.index, .int .i64 0, .int .i64 100000] W fun en w' => en = .returned (.bool R6) ∧ w' = W) := fun W => in_b _ _ _ W _ hR6
  have HI7 : Hid (∀ W, Calls Tryz.prog 36 #[.int .i64 m.commit, .int .i64 0, .int .i64 100000] W fun en w' => en = .returned (.bool R7) ∧ w' = W) := fun W => in_b _ _ _ W _ hR7
  obtain ⟨R8, hR8⟩ : ∃ R8 : Bool, R8 = (m.frm == m.dst) := ⟨_, rfl⟩
  have HO : Hid (O = (((R1 && R2) && (R3 && !R8)) && (((R4 && R5) && (R6 && R7)) && (sendB m && (rise m.term m.lterm m.ents && tailB m))))) := by show _ = _; rw [hO, hR1, hR2, hR3, hR4, hR5, hR6, hR7, hR8]; rfl
  clear hO hR1 hR2 hR3 hR4 hR5 hR6 hR7
  have hhead : (R1 = false ∨ (R1 = true ∧ R2 = false) ∨ (R1 = true ∧ R2 = true ∧ R3 = false) ∨ (R1 = true ∧ R2 = true ∧ R3 = true ∧ R8 = true) ∨ (R1 = true ∧ R2 = true ∧ R3 = true ∧ R8 = false ∧ R4 = false) ∨ (R1 = true ∧ R2 = true ∧ R3 = true ∧ R8 = false ∧ R4 = true ∧ R5 = false) ∨ (R1 = true ∧ R2 = true ∧ R3 = true ∧ R8 = false ∧ R4 = true ∧ R5 = true ∧ R6 = false) ∨ (R1 = true ∧ R2 = true ∧ R3 = true ∧ R8 = false ∧ R4 = true ∧ R5 = true ∧ R6 = true ∧ R7 = false)) ∨ (R1 = true ∧ R2 = true ∧ R3 = true ∧ R8 = false ∧ R4 = true ∧ R5 = true ∧ R6 = true ∧ R7 = true) := by
    cases R1 <;> cases R2 <;> cases R3 <;> cases R4 <;> cases R5 <;> cases R6 <;> cases R7 <;> cases R8 <;> simp
  rcases hhead with hbad | hgood
  · rcases hbad with h1 | ⟨h1, h2⟩ | ⟨h1, h2, h3⟩ | ⟨h1, h2, h3, h8⟩ | ⟨h1, h2, h3, h8, h4⟩ | ⟨h1, h2, h3, h8, h4, h5⟩ | ⟨h1, h2, h3, h8, h4, h5, h6⟩ | ⟨h1, h2, h3, h8, h4, h5, h6, h7⟩
    all_goals
      try subst h1
      try subst h2
      try subst h3
      try subst h4
      try subst h5
      try subst h6
      try subst h7
      try subst h8
      have HN : Hid (O = false) := by show _ = _; rw [HO.out]; simp
      have hR8' := hR8.symm
      clear HO hR8
      go_enter Tryz.func13, Tryz.ntmps13
      go_wp2_with (go_at_call 36; (first | (with_reducible refine Calls.mono (HI1.out _) ?_) | (with_reducible refine Calls.mono (HI2.out _) ?_) | (with_reducible refine Calls.mono (HI3.out _) ?_) | (with_reducible refine Calls.mono (HI4.out _) ?_) | (with_reducible refine Calls.mono (HI5.out _) ?_) | (with_reducible refine Calls.mono (HI6.out _) ?_) | (with_reducible refine Calls.mono (HI7.out _) ?_) | fail); rintro en w2 ⟨rfl, hw2⟩; subst hw2)
      go_ret
      exact ⟨by rw [HN.out]; rfl, by rw [HWD.out]; exact HB.out⟩
  · obtain ⟨h1, h2, h3, h8, h4, h5, h6, h7⟩ := hgood
    subst h1 h2 h3 h4 h5 h6 h7 h8
    have hR8' := hR8.symm
    clear hR8
    have hsend : (4 < m.ents.length ∨ (m.ents.length ≤ 4 ∧ 0 < m.ents.length ∧ m.kind ≠ 3)) ∨ (m.ents.length ≤ 4 ∧ (m.ents.length = 0 ∨ (0 < m.ents.length ∧ m.kind = 3))) := by omega
    rcases hsend with hbad | ⟨hl4, hk3⟩
    · rcases hbad with hl4 | ⟨hl4, hl0, hk3⟩
      · have HN : Hid (O = false) := by show _ = _; rw [HO.out, send_no (Or.inl hl4)]; rfl
        have d1 : decide ((4 : Int) < (m.ents.length : Int)) = true := by simp; omega
        clear HO
        go_enter Tryz.func13, Tryz.ntmps13
        go_wp2_with (go_at_call 36; (first | (with_reducible refine Calls.mono (HI1.out _) ?_) | (with_reducible refine Calls.mono (HI2.out _) ?_) | (with_reducible refine Calls.mono (HI3.out _) ?_) | (with_reducible refine Calls.mono (HI4.out _) ?_) | (with_reducible refine Calls.mono (HI5.out _) ?_) | (with_reducible refine Calls.mono (HI6.out _) ?_) | (with_reducible refine Calls.mono (HI7.out _) ?_) | fail); rintro en w2 ⟨rfl, hw2⟩; subst hw2)
        go_ret
        exact ⟨by rw [HN.out]; rfl, by rw [HWD.out]; exact HB.out⟩
      · have HN : Hid (O = false) := by show _ = _; rw [HO.out, send_no (Or.inr ⟨hl0, hk3⟩)]; rfl
        have d1 : decide ((4 : Int) < (m.ents.length : Int)) = false := by simp; omega
        have d2 : decide ((0 : Int) < (m.ents.length : Int)) = true := by simp; omega
        have d3 : (m.kind != 3) = true := by simp [hk3]
        clear HO hk3
        go_enter Tryz.func13, Tryz.ntmps13
        go_wp2_with (go_at_call 36; (first | (with_reducible refine Calls.mono (HI1.out _) ?_) | (with_reducible refine Calls.mono (HI2.out _) ?_) | (with_reducible refine Calls.mono (HI3.out _) ?_) | (with_reducible refine Calls.mono (HI4.out _) ?_) | (with_reducible refine Calls.mono (HI5.out _) ?_) | (with_reducible refine Calls.mono (HI6.out _) ?_) | (with_reducible refine Calls.mono (HI7.out _) ?_) | fail); rintro en w2 ⟨rfl, hw2⟩; subst hw2)
        go_ret
        exact ⟨by rw [HN.out]; rfl, by rw [HWD.out]; exact HB.out⟩
    · have HS : Hid ((rise m.term m.lterm (m.ents.drop 0) && tailB m) = O) := by
        show _ = _
        rw [HO.out]
        rw [send_yes hl4 hk3]; rfl
      clear HO
      obtain ⟨q, hq⟩ : ∃ q, q = w.heap.size := ⟨_, rfl⟩
      have d1 : decide ((4 : Int) < (m.ents.length : Int)) = false := by simp; omega
      have K : Calls Tryz.prog 13 #[.agg #[.int .i64 m.kind, .int .i64 m.frm, .int .i64 m.dst, .int .i64 m.term, .int .i64 m.index, .int .i64 m.lterm, .int .i64 m.commit, .bool m.ok, .slice a m.ents.length cap, .slice b m.conf.length capb, .string m.data, .bool m.last]] w fun en w' => en = .returned (.bool O) ∧ Below w.heap.size w w' := by
        rcases hk3 with hl0 | ⟨hl0, hk3⟩
        all_goals
          first
            | (have d2 : decide ((0 : Int) < (m.ents.length : Int)) = false := decide_eq_false (by omega)
               have d2n : decide (0 < m.ents.length) = false := decide_eq_false (by omega))
            | (have d2 : decide ((0 : Int) < (m.ents.length : Int)) = true := decide_eq_true (by omega)
               have d2n : decide (0 < m.ents.length) = true := decide_eq_true (by omega))
          try have d3 : (m.kind != 3) = false := by simp [hk3]
          clear hl0
          try clear hk3
          go_enter Tryz.func13, Tryz.ntmps13
          go_wp2_with (go_at_call 36; (first | (with_reducible refine Calls.mono (HI1.out _) ?_) | (with_reducible refine Calls.mono (HI2.out _) ?_) | (with_reducible refine Calls.mono (HI3.out _) ?_) | (with_reducible refine Calls.mono (HI4.out _) ?_) | (with_reducible refine Calls.mono (HI5.out _) ?_) | (with_reducible refine Calls.mono (HI6.out _) ?_) | (with_reducible refine Calls.mono (HI7.out _) ?_) | fail); rintro en w2 ⟨rfl, hw2⟩; subst hw2)
          rw [HWD.out, ← hq]
          rw [← hq] at HLA
          clear hq HI1 HI2 HI3 HI4 HI5 HI6 HI7 HWD
          go_loopw [3, 4] (fun t i wr => ∃ (k : Nat) (u : Int), k ≤ m.ents.length ∧ i = .int .i64 (k : Int) ∧ t = .int .i64 u ∧ Hid ((rise m.term u (m.ents.drop k) && tailB m) = O) ∧ Hid (Below W.heap.size W wr)) (fun _ i _ => m.ents.length - (intOf i).toNat)
          case atStart => exact ⟨0, _, Nat.zero_le _, rfl, rfl, HS, Below.refl _ _⟩
          case round =>
            clear HS
            obtain ⟨k, u, hk, rfl, rfl, HU, HBW⟩ := hrel
            have hM := HLA.out _ HBW.out
            have c0 := hM.c0
            have c3 := hM.c3
            have c8 := hM.c8
            have c9 := hM.c9
            have c10 := hM.c10
            have c11 := hM.c11
            clear hM
            by_cases hlt : k < m.ents.length
            · have hA := HEN.out _ HBW.out
              have ea := hA.1 (by omega)
              obtain ⟨e0, e1, e2⟩ := hA.2 k hlt
              have HD : Hid (m.ents[k].data.size ≤ 1048576) := hd _ (List.getElem_mem _)
              have HST : Hid (okB m.ents[k] = true → u ≤ m.ents[k].term → m.ents[k].term ≤ m.term → (rise m.term m.ents[k].term (m.ents.drop (k + 1)) && tailB m) = O) := fun x1 x2 x3 => by
                rw [Msgs.rise_step hlt rfl x1 x2 x3]; exact HU.out
              have HBD : Hid (okB m.ents[k] = false ∨ ¬ u ≤ m.ents[k].term ∨ ¬ m.ents[k].term ≤ m.term → O = false) := fun x1 => by
                rw [← HU.out, Msgs.rise_bad hlt rfl x1]; rfl
              obtain ⟨e, he⟩ : ∃ e, e = m.ents[k] := ⟨_, rfl⟩
              rw [← he] at e0 e1 e2 HD HST HBD
              subst ea
              obtain ⟨p, hp⟩ : ∃ p, p = off + k * 3 := ⟨_, rfl⟩
              rw [← hp] at e0 e1 e2
              have hk0 : (0 : Int) ≤ (k : Int) := by omega
              have hk1 : (k : Int) < (m.ents.length : Int) := by omega
              obtain ⟨Q, hQ⟩ : ∃ Q, Q = okB e := ⟨_, rfl⟩
              have HE : Hid (∀ W, Calls Tryz.prog 37 #[.agg #[.int .i64 e.term, .int .i64 e.kind, .string e.data]] W fun en w' => en = .returned (.bool Q) ∧ Below W.heap.size W w') := fun W => by rw [hQ]; exact specEntOk_is e HD.out W
              rw [← hQ] at HST HBD
              clear hA he hQ HD
              rw [hp] at e0 e1 e2
              clear hp
              have hcs : (Q = false ∨ (Q = true ∧ ¬ u ≤ e.term) ∨ (Q = true ∧ u ≤ e.term ∧ ¬ e.term ≤ m.term)) ∨ (Q = true ∧ u ≤ e.term ∧ e.term ≤ m.term) := by
                cases Q
                · exact Or.inl (Or.inl rfl)
                · by_cases x1 : u ≤ e.term
                  · by_cases x2 : e.term ≤ m.term
                    · exact Or.inr ⟨rfl, x1, x2⟩
                    · exact Or.inl (Or.inr (Or.inr ⟨rfl, x1, x2⟩))
                  · exact Or.inl (Or.inr (Or.inl ⟨rfl, x1⟩))
              rcases hcs with (hq0 | ⟨hq0, hu⟩ | ⟨hq0, hu, ht⟩) | ⟨hq0, hu, ht⟩
              · have hOf : O = false := HBD.out (Or.inl hq0)
                subst hOf
                subst hq0
                clear HST HBD HU
                go_wp2_with fail
                have NE := Abv.ne wr
                have C3 := fun x : Abv wr => x.cell c3
                have C8 := fun x : Abv wr => x.cell c8
                have E0 := fun x : Abv wr => x.cell e0
                have E1 := fun x : Abv wr => x.cell e1
                have E2 := fun x : Abv wr => x.cell e2
                refine wp_region_above (by kernel_rfl) (by kernel_rfl) ?_
                repeat (go_big_quiet_step (first | (go_at_call 37; exact calls_above (HE.out _))))
                refine wpQuiet_nil ?_
                rintro w1 ⟨⟨_, hb1⟩, rfl⟩
                clear NE C3 C8 E0 E1 E2
                go_wp2
                go_ret
                exact ⟨rfl, HB.out.trans ((HBW.out.trans (hb1.mono HBW.out.size)).mono HB.out.size)⟩
              · have hOf : O = false := HBD.out (Or.inr (Or.inl hu))
                subst hOf
                subst hq0
                have t1 : decide (e.term < u) = true := decide_eq_true (by omega)
                clear HST HBD HU hu
                go_wp2_with fail
                have NE := Abv.ne wr
                have C3 := fun x : Abv wr => x.cell c3
                have C8 := fun x : Abv wr => x.cell c8
                have E0 := fun x : Abv wr => x.cell e0
                have E1 := fun x : Abv wr => x.cell e1
                have E2 := fun x : Abv wr => x.cell e2
                refine wp_region_above (by kernel_rfl) (by kernel_rfl) ?_
                repeat (go_big_quiet_step (first | (go_at_call 37; exact calls_above (HE.out _))))
                refine wpQuiet_nil ?_
                rintro w1 ⟨⟨_, hb1⟩, rfl⟩
                clear NE C3 C8 E0 E1 E2
                go_wp2
                go_ret
                exact ⟨rfl, HB.out.trans ((HBW.out.trans (hb1.mono HBW.out.size)).mono HB.out.size)⟩
              · have hOf : O = false := HBD.out (Or.inr (Or.inr ht))
                subst hOf
                subst hq0
                have t1 : decide (e.term < u) = false := decide_eq_false (by omega)
                have t2 : decide (m.term < e.term) = true := decide_eq_true (by omega)
                clear HST HBD HU hu ht
                go_wp2_with fail
                have NE := Abv.ne wr
                have C3 := fun x : Abv wr => x.cell c3
                have C8 := fun x : Abv wr => x.cell c8
                have E0 := fun x : Abv wr => x.cell e0
                have E1 := fun x : Abv wr => x.cell e1
                have E2 := fun x : Abv wr => x.cell e2
                refine wp_region_above (by kernel_rfl) (by kernel_rfl) ?_
                repeat (go_big_quiet_step (first | (go_at_call 37; exact calls_above (HE.out _))))
                refine wpQuiet_nil ?_
                rintro w1 ⟨⟨_, hb1⟩, rfl⟩
                clear NE C3 C8 E0 E1 E2
                go_wp2
                go_ret
                exact ⟨rfl, HB.out.trans ((HBW.out.trans (hb1.mono HBW.out.size)).mono HB.out.size)⟩
              · subst hq0
                have HST2 : Hid ((rise m.term e.term (m.ents.drop (k + 1)) && tailB m) = O) := HST.out rfl hu ht
                have t1 : decide (e.term < u) = false := decide_eq_false (by omega)
                have t2 : decide (m.term < e.term) = false := decide_eq_false (by omega)
                clear HST HBD HU hu ht
                go_wp2_with fail
                have NE := Abv.ne wr
                have C3 := fun x : Abv wr => x.cell c3
                have C8 := fun x : Abv wr => x.cell c8
                have E0 := fun x : Abv wr => x.cell e0
                have E1 := fun x : Abv wr => x.cell e1
                have E2 := fun x : Abv wr => x.cell e2
                refine wp_region_above (by kernel_rfl) (by kernel_rfl) ?_
                repeat (go_big_quiet_step (first | (go_at_call 37; exact calls_above (HE.out _))))
                refine wpQuiet_nil ?_
                rintro w1 ⟨⟨_, hb1⟩, rfl⟩
                clear NE C3 C8 E0 E1 E2
                have HB1 : Hid (Below wr.heap.size wr w1) := hb1
                have c8' : w1.cell? ⟨q, 8, none⟩ = some (.slice (some ⟨g, off, none⟩) m.ents.length cap) := (Abv.mk w1 hb1).cell c8
                have e0' : w1.cell? ⟨g, off + k * 3, none⟩ = some (.int .i64 e.term) := (Abv.mk w1 hb1).cell e0
                clear hb1 c0 c3 c8 c9 c10 c11 e0 e1 e2
                go_wp2
                go_roundw
                case rel => exact ⟨k + 1, e.term, by omega, by go_num, rfl, HST2, HBW.out.trans (HB1.out.mono HBW.out.size)⟩
                case measure => simp [intOf]; omega
            · have hk1 : ¬ (k : Int) < (m.ents.length : Int) := by omega
              have HT : Hid (tailB m = O) := by
                have x := HU.out
                rw [Msgs.rise_end (by omega : m.ents.length ≤ k) rfl] at x
                exact x
              clear HU hlt
              by_cases h5 : m.kind = 5
              · have g5 : (m.kind == 5) = true := by simp [h5]
                obtain ⟨R, hR⟩ : ∃ R, Mans.confOk m.conf = R := ⟨_, rfl⟩
                have HC : Hid (∀ W', IntAt W' b h offb m.conf → Calls Tryz.prog 38 #[.slice b m.conf.length capb] W' fun en w' => en = .returned (.bool R) ∧ Below W'.heap.size W' w') := fun W' x => specConf_is m.conf hlc R hR W' x
                have HOR : Hid (O = (R && decide (m.data.size ≤ 60))) := by show _ = _; rw [← HT.out, ← hR]; unfold tailB; rw [if_pos h5]
                clear hR HT h5
                go_wp2_with fail
                refine Calls.mono (HC.out _ (HCO.out _ HBW.out)) ?_
                rintro en w5 ⟨rfl, hb5⟩
                have HB5 : Hid (Below W.heap.size W w5) := HBW.out.trans (hb5.mono HBW.out.size)
                have c10' := (HLA.out _ HB5.out).c10
                clear hb5 HBW c0 c3 c8 c9 c10 c11
                have hOs : (R = false ∧ O = false) ∨ (R = true ∧ (m.data.size ≤ 60) ∧ O = true) ∨ (R = true ∧ ¬ (m.data.size ≤ 60) ∧ O = false) := by
                  rw [HOR.out]
                  by_cases x : m.data.size ≤ 60 <;> cases R <;> simp [x]
                clear HOR
                rcases hOs with ⟨r1, r2⟩ | ⟨r1, r3, r2⟩ | ⟨r1, r3, r2⟩
                all_goals
                  subst r1 r2
                  try (have x1 : decide ((m.data.size : Int) ≤ 60) = true := decide_eq_true (by omega))
                  try (have x1 : decide ((m.data.size : Int) ≤ 60) = false := decide_eq_false (by omega))
                  try clear r3
                  go_wp2
                  go_ret
                  exact ⟨rfl, HB.out.trans (HB5.out.mono HB.out.size)⟩
              · have g5 : (m.kind == 5) = false := by simp [h5]
                have HOR : Hid (O = ((decide (m.conf.length = 0) && decide (m.data.size = 0)) && !m.last)) := by show _ = _; rw [← HT.out]; unfold tailB; rw [if_neg h5]
                clear HT h5
                by_cases y1 : m.conf.length = 0
                · have z1 : ((m.conf.length : Int) == 0) = true := by simp [y1]
                  by_cases y2 : m.data.size = 0
                  · have z2 : m.data.toList.isEmpty = true := by rw [nil_size]; exact decide_eq_true y2
                    have HN : Hid (O = !m.last) := by show _ = _; rw [HOR.out, decide_eq_true y1, decide_eq_true y2]; rfl
                    clear HOR y1 y2
                    go_wp2
                    go_ret
                    exact ⟨by first | (rw [HN.out]; done) | (rw [HN.out]; simp [z2]; done) | (rw [HN.out]; simp only [z2]; rfl), HB.out.trans (HBW.out.mono HB.out.size)⟩
                  · have z2 : m.data.toList.isEmpty = false := by rw [nil_size]; exact decide_eq_false y2
                    have HN : Hid (O = false) := by show _ = _; rw [HOR.out, decide_eq_true y1, decide_eq_false y2]; rfl
                    clear HOR y1 y2
                    go_wp2
                    go_ret
                    exact ⟨by first | (rw [HN.out]; done) | (rw [HN.out]; rfl), HB.out.trans (HBW.out.mono HB.out.size)⟩
                · have z1 : ((m.conf.length : Int) == 0) = false := beq_eq_false_iff_ne.2 (by omega)
                  have HN : Hid (O = false) := by show _ = _; rw [HOR.out, decide_eq_false y1]; rfl
                  clear HOR y1
                  go_wp2
                  go_ret
                  exact ⟨by first | (rw [HN.out]; done) | (rw [HN.out]; rfl), HB.out.trans (HBW.out.mono HB.out.size)⟩
      exact K
end Go.Proofs.YtimacmijinblmaaGreat
