/- CommandOk of the specification and of the program, walked: both answer okC. -/
import Derived.Test.YtpedpdgkbmpfjaaDoorMathCmd
import Derived.Laws.StructEq
namespace Go.Proofs.YtpedpdgkbmpfjaaDoor
open Go.RowKit
open Cmds (okC inB em leftB)
set_option linter.unusedVariables false
set_option linter.unusedSimpArgs false

def cmdV (c : CmdL) : Value := .agg #[.int .i64 c.op, .int .i64 c.ses, .int .i64 c.seq, .string c.key, .string c.val, .string c.old]
def sameC (a b : CmdL) : Bool := (a.op == b.op) && ((a.ses == b.ses) && ((a.seq == b.seq) && ((a.key.toList == b.key.toList) && ((a.val.toList == b.val.toList) && (a.old.toList == b.old.toList)))))
theorem same_list (x y : ByteArray) : (x.toList == y.toList) = true ↔ x = y := by
  rw [beq_iff_eq, ByteArray.toList_eq, ByteArray.toList_eq]
  exact ⟨fun h => Batches.by_inj h, fun h => by rw [h]⟩
theorem sameC_iff (a b : CmdL) : sameC a b = true ↔ a = b := by
  obtain ⟨a1, a2, a3, a4, a5, a6⟩ := a
  obtain ⟨b1, b2, b3, b4, b5, b6⟩ := b
  simp only [sameC, Bool.and_eq_true, same_list]
  simp only [beq_iff_eq, CmdL.mk.injEq]
set_option maxHeartbeats 1000000 in
theorem eq_cmd (a b : CmdL) (w : World) : (binOp .eql 31 (cmdV a) (cmdV b)).run Tryd.prog w = .ok (.bool (sameC a b)) w := by
  have hu : Tryd.prog.underlying 31 = some (.struct (Tryd.prog.fieldsOf 31)) := by kernel_rfl
  have h3 : Tryd.prog.underlying 3 = some (.int .i64) := by kernel_rfl
  have h9 : Tryd.prog.underlying 9 = some .string := by kernel_rfl
  unfold cmdV
  rw [run_eql_struct, show (10000 : Nat) = 9999 + 1 from rfl, run_equalIn_agg _ _ _ _ _ hu (by kernel_rfl)]
  have hf : (Tryd.prog.fieldsOf 31).toList.map (fun f => (f.name, f.type, f.offset)) = [("Op", 3, 0), ("Session", 3, 1), ("Seq", 3, 2), ("Key", 9, 3), ("Value", 9, 4), ("Old", 9, 5)] := by kernel_rfl
  have hl : (Tryd.prog.fieldsOf 31).toList.length = 6 := by simpa using congrArg List.length hf
  generalize (Tryd.prog.fieldsOf 31).toList = fs at hf hl
  match fs, hl with
  | [f0, f1, f2, f3, f4, f5], _ =>
    simp only [List.map_cons, List.map_nil, List.cons.injEq, Prod.mk.injEq, and_true] at hf
    obtain ⟨⟨a1, a2, a3⟩, ⟨b1, b2, b3⟩, ⟨c1, c2, c3⟩, ⟨d1, d2, d3⟩, ⟨e1, e2, e3⟩, g1, g2, g3⟩ := hf
    simp [Op.eqFields, a1, a2, a3, b1, b2, b3, c1, c2, c3, d1, d2, d3, e1, e2, e3, g1, g2, g3, go_sem]
    unfold sameC
    repeat' split
    all_goals simp_all


theorem ok_no {c : CmdL} (h : ¬ okC c = true) : okC c = false := by cases h' : okC c <;> simp_all
theorem open_is {c : CmdL} (h : c.op = 1) : okC c = sameC c ⟨1, 0, 0, ⟨#[]⟩, ⟨#[]⟩, ⟨#[]⟩⟩ := by
  rw [Bool.eq_iff_iff, sameC_iff]
  obtain ⟨o, s, q, k, v, l⟩ := c
  simp only at h
  subst h
  simp only [okC, leftB, Bool.and_eq_true, Cmds.inB_iff, decide_eq_true_eq, if_true, beq_iff_eq, CmdL.mk.injEq, true_and, Cmds.em_iff]
  constructor
  · rintro ⟨⟨⟨h1, h2⟩, h3, h4, h5⟩, h6, ⟨h7, h8⟩, h9, h10⟩
    exact ⟨h7, h8, Cmds.em_iff.1 (by rw [h6]; simp), h9, h10⟩
  · rintro ⟨rfl, rfl, rfl, rfl, rfl⟩
    exact ⟨⟨⟨by omega, by omega⟩, by decide, by decide, by decide⟩, by rw [Cmds.em_iff.2 rfl]; simp, ⟨rfl, rfl⟩, rfl, rfl⟩

set_option maxHeartbeats 4000000 in
set_option maxRecDepth 100000 in
theorem specCmdOk_is (c : CmdL) (hs : c.key.size ≤ 1048576 ∧ c.val.size ≤ 1048576 ∧ c.old.size ≤ 1048576) (w : World) : Calls Tryd.prog 23 #[cmdV c] w fun en w' => en = .returned (.bool (okC c)) ∧ Below w.heap.size w w' := by
  have HB : Hid (Below w.heap.size w (w.alloc (Obj.cells #[.int .i64 c.op, .int .i64 c.ses, .int .i64 c.seq, .string c.key, .string c.val, .string c.old] 31))) := (Below.refl _ _).alloc (Nat.le_refl _) _
  have HIN : Hid (∀ (x a b : Int) (W : World), a ≤ x ∧ x ≤ b → Calls Tryd.prog 24 #[.int .i64 x, .int .i64 a, .int .i64 b] W fun en w' => en = .returned (.bool true) ∧ w' = W) := fun x a b W q => in_is x a b true (by simp [q]) W
  have HNO : Hid (∀ (x a b : Int) (W : World), Hid (¬ (a ≤ x ∧ x ≤ b)) → Calls Tryd.prog 24 #[.int .i64 x, .int .i64 a, .int .i64 b] W fun en w' => en = .returned (.bool false) ∧ w' = W) := fun x a b W q => in_is x a b false ⟨fun h => (by cases h), fun h => absurd h q.out⟩ W
  obtain ⟨s1, s2, s3⟩ := hs
  obtain ⟨r, hr⟩ : ∃ r, r = okC c := ⟨_, rfl⟩
  rw [← hr]
  unfold cmdV
  by_cases k1 : 1 ≤ c.op ∧ c.op ≤ 5
  rotate_left
  · obtain rfl : r = false := hr.trans (ok_no fun h => k1 (Cmds.fits h).op)
    clear hr
    have q1 : Hid (¬ ((1 : Int) ≤ c.op ∧ c.op ≤ 5)) := fun h => by omega
    (try clear k1)
    go_enter Tryd.func23, Tryd.ntmps23
    go_wp2_with (go_at_call 24; (first | (with_reducible refine Calls.mono (HIN.out _ _ _ _ (by assumption)) ?_) | (with_reducible refine Calls.mono (HNO.out _ _ _ _ (by assumption)) ?_) | fail); rintro en w2 ⟨rfl, hw2⟩; subst hw2)
    go_ret
    exact ⟨rfl, HB.out⟩
  have q1 : (1 : Int) ≤ c.op ∧ c.op ≤ 5 := by omega
  by_cases k2 : 0 ≤ c.ses ∧ c.ses ≤ 100000
  rotate_left
  · obtain rfl : r = false := hr.trans (ok_no fun h => k2 (Cmds.fits h).ses)
    clear hr
    have q2 : Hid (¬ ((0 : Int) ≤ c.ses ∧ c.ses ≤ 100000)) := fun h => by omega
    (try clear k1); (try clear k2)
    go_enter Tryd.func23, Tryd.ntmps23
    go_wp2_with (go_at_call 24; (first | (with_reducible refine Calls.mono (HIN.out _ _ _ _ (by assumption)) ?_) | (with_reducible refine Calls.mono (HNO.out _ _ _ _ (by assumption)) ?_) | fail); rintro en w2 ⟨rfl, hw2⟩; subst hw2)
    go_ret
    exact ⟨rfl, HB.out⟩
  have q2 : (0 : Int) ≤ c.ses ∧ c.ses ≤ 100000 := by omega
  by_cases k3 : 0 ≤ c.seq ∧ c.seq ≤ 100000
  rotate_left
  · obtain rfl : r = false := hr.trans (ok_no fun h => k3 (Cmds.fits h).seq)
    clear hr
    have q3 : Hid (¬ ((0 : Int) ≤ c.seq ∧ c.seq ≤ 100000)) := fun h => by omega
    (try clear k1); (try clear k2); (try clear k3)
    go_enter Tryd.func23, Tryd.ntmps23
    go_wp2_with (go_at_call 24; (first | (with_reducible refine Calls.mono (HIN.out _ _ _ _ (by assumption)) ?_) | (with_reducible refine Calls.mono (HNO.out _ _ _ _ (by assumption)) ?_) | fail); rintro en w2 ⟨rfl, hw2⟩; subst hw2)
    go_ret
    exact ⟨rfl, HB.out⟩
  have q3 : (0 : Int) ≤ c.seq ∧ c.seq ≤ 100000 := by omega
  by_cases k4 : c.val.size ≤ 12
  rotate_left
  · obtain rfl : r = false := hr.trans (ok_no fun h => k4 (Cmds.fits h).val)
    clear hr
    have k4' : (12 : Int) < (c.val.size : Int) := by omega
    (try clear k1); (try clear k2); (try clear k3); (try clear k4)
    go_enter Tryd.func23, Tryd.ntmps23
    go_wp2_with (go_at_call 24; (first | (with_reducible refine Calls.mono (HIN.out _ _ _ _ (by assumption)) ?_) | (with_reducible refine Calls.mono (HNO.out _ _ _ _ (by assumption)) ?_) | fail); rintro en w2 ⟨rfl, hw2⟩; subst hw2)
    go_ret
    exact ⟨rfl, HB.out⟩
  have k4' : ¬ (12 : Int) < (c.val.size : Int) := by omega
  by_cases k5 : c.old.size ≤ 12
  rotate_left
  · obtain rfl : r = false := hr.trans (ok_no fun h => k5 (Cmds.fits h).old)
    clear hr
    have k5' : (12 : Int) < (c.old.size : Int) := by omega
    (try clear k1); (try clear k2); (try clear k3); (try clear k4); (try clear k5)
    go_enter Tryd.func23, Tryd.ntmps23
    go_wp2_with (go_at_call 24; (first | (with_reducible refine Calls.mono (HIN.out _ _ _ _ (by assumption)) ?_) | (with_reducible refine Calls.mono (HNO.out _ _ _ _ (by assumption)) ?_) | fail); rintro en w2 ⟨rfl, hw2⟩; subst hw2)
    go_ret
    exact ⟨rfl, HB.out⟩
  have k5' : ¬ (12 : Int) < (c.old.size : Int) := by omega
  by_cases e1 : c.op = 1
  · rw [open_is e1] at hr
    have E : ∀ W : World, (binOp .eql 31 (.agg #[.int .i64 c.op, .int .i64 c.ses, .int .i64 c.seq, .string c.key, .string c.val, .string c.old]) (.agg #[.int .i64 1, .int .i64 0, .int .i64 0, .string ⟨#[]⟩, .string ⟨#[]⟩, .string ⟨#[]⟩])).run Tryd.prog W = .ok (.bool r) W := fun W => by rw [hr]; exact eq_cmd c ⟨1, 0, 0, ⟨#[]⟩, ⟨#[]⟩, ⟨#[]⟩⟩ W
    have f1 : (c.op == 1) = true := by simp [e1]
    clear hr
    (try clear k1); (try clear k2); (try clear k3); (try clear k4); (try clear k5); (try clear e1)
    go_enter Tryd.func23, Tryd.ntmps23
    go_wp2_with (go_at_call 24; (first | (with_reducible refine Calls.mono (HIN.out _ _ _ _ (by assumption)) ?_) | (with_reducible refine Calls.mono (HNO.out _ _ _ _ (by assumption)) ?_) | fail); rintro en w2 ⟨rfl, hw2⟩; subst hw2)
    go_ret
    exact ⟨rfl, HB.out⟩
  have f1 : (c.op == 1) = false := by simp [e1]
  by_cases k6 : 1 ≤ c.key.size ∧ c.key.size ≤ 9
  rotate_left
  · obtain rfl : r = false := hr.trans (ok_no fun h => k6 (by
      have h9 := (Cmds.fits h).key
      have : em c.key = false := by
        simp only [okC, Bool.and_eq_true, beq_iff_eq] at h
        rw [h.2.1]; simp [e1]
      have : ¬ c.key.size = 0 := fun x => by rw [Cmds.em_size.2 x] at this; cases this
      omega))
    clear hr
    have q4 : Hid (¬ ((1 : Int) ≤ (c.key.size : Int) ∧ (c.key.size : Int) ≤ 9)) := fun h => by omega
    (try clear k1); (try clear k2); (try clear k3); (try clear k4); (try clear k5); (try clear e1); (try clear k6)
    go_enter Tryd.func23, Tryd.ntmps23
    go_wp2_with (go_at_call 24; (first | (with_reducible refine Calls.mono (HIN.out _ _ _ _ (by assumption)) ?_) | (with_reducible refine Calls.mono (HNO.out _ _ _ _ (by assumption)) ?_) | fail); rintro en w2 ⟨rfl, hw2⟩; subst hw2)
    go_ret
    exact ⟨rfl, HB.out⟩
  have q4 : (1 : Int) ≤ (c.key.size : Int) ∧ (c.key.size : Int) ≤ 9 := by omega
  have hl : okC c = leftB c := by
    have : em c.key = false := by
      cases h : em c.key
      · rfl
      · have := Cmds.em_size.1 h; omega
    simp only [okC, this, Cmds.inB_iff.2 k2, Cmds.inB_iff.2 k3, decide_eq_true k4, decide_eq_true k5, decide_eq_true (show c.key.size < 10 by omega), decide_eq_false e1, Bool.and_self, Bool.true_and, beq_self_eq_true]
  rw [hl, leftB, if_neg e1] at hr
  clear hl
  by_cases e2 : c.op = 2
  · rw [if_pos (Or.inl e2)] at hr
    have f2 : (c.op == 2) = true := by simp [e2]
    unfold em at hr
    cases hv : c.val.toList.isEmpty with
    | true =>
      rw [hv] at hr
      simp only [Bool.true_and] at hr
      subst hr
      clear e1
      (try clear k1); (try clear k2); (try clear k3); (try clear k4); (try clear k5); (try clear e1); (try clear k6); (try clear e2)
      go_enter Tryd.func23, Tryd.ntmps23
      go_wp2_with (go_at_call 24; (first | (with_reducible refine Calls.mono (HIN.out _ _ _ _ (by assumption)) ?_) | (with_reducible refine Calls.mono (HNO.out _ _ _ _ (by assumption)) ?_) | fail); rintro en w2 ⟨rfl, hw2⟩; subst hw2)
      go_ret
      exact ⟨rfl, HB.out⟩
    | false =>
      rw [hv] at hr
      simp only [Bool.false_and] at hr
      subst hr
      clear e1
      (try clear k1); (try clear k2); (try clear k3); (try clear k4); (try clear k5); (try clear e1); (try clear k6); (try clear e2)
      go_enter Tryd.func23, Tryd.ntmps23
      go_wp2_with (go_at_call 24; (first | (with_reducible refine Calls.mono (HIN.out _ _ _ _ (by assumption)) ?_) | (with_reducible refine Calls.mono (HNO.out _ _ _ _ (by assumption)) ?_) | fail); rintro en w2 ⟨rfl, hw2⟩; subst hw2)
      go_ret
      exact ⟨rfl, HB.out⟩
  by_cases e4 : c.op = 4
  · rw [if_pos (Or.inr e4)] at hr
    have f4 : (c.op == 4) = true := by simp [e4]
    have f2 : (c.op == 2) = false := by simp [e2]
    unfold em at hr
    cases hv : c.val.toList.isEmpty with
    | true =>
      rw [hv] at hr
      simp only [Bool.true_and] at hr
      subst hr
      clear e1
      (try clear k1); (try clear k2); (try clear k3); (try clear k4); (try clear k5); (try clear e1); (try clear k6); (try clear e2); (try clear e4)
      go_enter Tryd.func23, Tryd.ntmps23
      go_wp2_with (go_at_call 24; (first | (with_reducible refine Calls.mono (HIN.out _ _ _ _ (by assumption)) ?_) | (with_reducible refine Calls.mono (HNO.out _ _ _ _ (by assumption)) ?_) | fail); rintro en w2 ⟨rfl, hw2⟩; subst hw2)
      go_ret
      exact ⟨rfl, HB.out⟩
    | false =>
      rw [hv] at hr
      simp only [Bool.false_and] at hr
      subst hr
      clear e1
      (try clear k1); (try clear k2); (try clear k3); (try clear k4); (try clear k5); (try clear e1); (try clear k6); (try clear e2); (try clear e4)
      go_enter Tryd.func23, Tryd.ntmps23
      go_wp2_with (go_at_call 24; (first | (with_reducible refine Calls.mono (HIN.out _ _ _ _ (by assumption)) ?_) | (with_reducible refine Calls.mono (HNO.out _ _ _ _ (by assumption)) ?_) | fail); rintro en w2 ⟨rfl, hw2⟩; subst hw2)
      go_ret
      exact ⟨rfl, HB.out⟩
  rw [if_neg (by omega)] at hr
  have f2 : (c.op == 2) = false := by simp [e2]
  have f4 : (c.op == 4) = false := by simp [e4]
  by_cases e3 : c.op = 3
  · rw [if_pos e3] at hr
    have f3 : (c.op == 3) = true := by simp [e3]
    unfold em at hr
    subst hr
    (try clear k1); (try clear k2); (try clear k3); (try clear k4); (try clear k5); (try clear e1); (try clear k6); (try clear e2); (try clear e4); (try clear e3)
    go_enter Tryd.func23, Tryd.ntmps23
    go_wp2_with (go_at_call 24; (first | (with_reducible refine Calls.mono (HIN.out _ _ _ _ (by assumption)) ?_) | (with_reducible refine Calls.mono (HNO.out _ _ _ _ (by assumption)) ?_) | fail); rintro en w2 ⟨rfl, hw2⟩; subst hw2)
    go_ret
    exact ⟨rfl, HB.out⟩
  have f3 : (c.op == 3) = false := by simp [e3]
  rw [if_neg e3, decide_eq_true (show c.op = 5 by omega)] at hr
  subst hr
  (try clear k1); (try clear k2); (try clear k3); (try clear k4); (try clear k5); (try clear e1); (try clear k6); (try clear e2); (try clear e4); (try clear e3)
  go_enter Tryd.func23, Tryd.ntmps23
  go_wp2_with (go_at_call 24; (first | (with_reducible refine Calls.mono (HIN.out _ _ _ _ (by assumption)) ?_) | (with_reducible refine Calls.mono (HNO.out _ _ _ _ (by assumption)) ?_) | fail); rintro en w2 ⟨rfl, hw2⟩; subst hw2)
  go_ret
  exact ⟨rfl, HB.out⟩
end Go.Proofs.YtpedpdgkbmpfjaaDoor
