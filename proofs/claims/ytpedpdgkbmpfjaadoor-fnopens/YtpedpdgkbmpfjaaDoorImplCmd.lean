/- CommandOk of the program, walked: it answers okC. -/
import Derived.Test.YtpedpdgkbmpfjaaDoorSpecCmd
namespace Go.Proofs.YtpedpdgkbmpfjaaDoor
open Go.RowKit
open Cmds (okC inB em leftB)
set_option linter.unusedVariables false
set_option linter.unusedSimpArgs false

set_option maxHeartbeats 4000000 in
set_option maxRecDepth 100000 in
theorem needless_is (c : CmdL) (w : World) : Calls Tryd.prog 55 #[cmdV c] w fun en w' => en = .returned (.bool (leftB c)) ∧ Below w.heap.size w w' := by
  have HB : Hid (Below w.heap.size w (w.alloc (Obj.cells #[.int .i64 c.op, .int .i64 c.ses, .int .i64 c.seq, .string c.key, .string c.val, .string c.old] 31))) := (Below.refl _ _).alloc (Nat.le_refl _) _
  obtain ⟨r, hr⟩ : ∃ r, r = leftB c := ⟨_, rfl⟩
  rw [← hr]
  unfold leftB em at hr
  unfold cmdV
  by_cases e1 : c.op = 1
  · rw [if_pos e1] at hr
    have f1 : (c.op == 1) = true := by simp [e1]
    by_cases g1 : c.ses = 0
    rotate_left
    · have h1 : (c.ses != 0) = true := by simp [g1]
      rw [decide_eq_false g1] at hr
      simp only [Bool.false_and] at hr
      subst hr
      clear e1 g1
      go_enter Tryd.func55, Tryd.ntmps55
      go_wp2
      go_ret
      exact ⟨rfl, HB.out⟩
    have h1 : (c.ses != 0) = false := by simp [g1]
    by_cases g2 : c.seq = 0
    rotate_left
    · have h2 : (c.seq != 0) = true := by simp [g2]
      rw [decide_eq_false g2] at hr
      simp only [Bool.and_false, Bool.false_and] at hr
      subst hr
      clear e1 g1 g2
      go_enter Tryd.func55, Tryd.ntmps55
      go_wp2
      go_ret
      exact ⟨rfl, HB.out⟩
    have h2 : (c.seq != 0) = false := by simp [g2]
    rw [decide_eq_true g1, decide_eq_true g2] at hr
    simp only [Bool.true_and] at hr
    clear e1 g1 g2
    cases hv : c.val.toList.isEmpty with
    | false =>
      rw [hv] at hr
      simp only [Bool.false_and, Bool.and_false] at hr
      subst hr
      go_enter Tryd.func55, Tryd.ntmps55
      go_wp2
      go_ret
      exact ⟨rfl, HB.out⟩
    | true =>
      rw [hv] at hr
      simp only [Bool.true_and, Bool.and_true] at hr
      subst hr
      go_enter Tryd.func55, Tryd.ntmps55
      go_wp2
      go_ret
      exact ⟨rfl, HB.out⟩
  have f1 : (c.op == 1) = false := by simp [e1]
  rw [if_neg e1] at hr
  by_cases e2 : c.op = 2
  · rw [if_pos (Or.inl e2)] at hr
    have f2 : (c.op == 2) = true := by simp [e2]
    clear e1 e2
    cases hv : c.val.toList.isEmpty with
    | false =>
      rw [hv] at hr
      simp only [Bool.false_and, Bool.and_false] at hr
      subst hr
      go_enter Tryd.func55, Tryd.ntmps55
      go_wp2
      go_ret
      exact ⟨rfl, HB.out⟩
    | true =>
      rw [hv] at hr
      simp only [Bool.true_and, Bool.and_true] at hr
      subst hr
      go_enter Tryd.func55, Tryd.ntmps55
      go_wp2
      go_ret
      exact ⟨rfl, HB.out⟩
  by_cases e4 : c.op = 4
  · rw [if_pos (Or.inr e4)] at hr
    have f4 : (c.op == 4) = true := by simp [e4]
    have f2 : (c.op == 2) = false := by simp [e2]
    clear e1 e4
    cases hv : c.val.toList.isEmpty with
    | false =>
      rw [hv] at hr
      simp only [Bool.false_and, Bool.and_false] at hr
      subst hr
      go_enter Tryd.func55, Tryd.ntmps55
      go_wp2
      go_ret
      exact ⟨rfl, HB.out⟩
    | true =>
      rw [hv] at hr
      simp only [Bool.true_and, Bool.and_true] at hr
      subst hr
      go_enter Tryd.func55, Tryd.ntmps55
      go_wp2
      go_ret
      exact ⟨rfl, HB.out⟩
  rw [if_neg (by omega)] at hr
  have f2 : (c.op == 2) = false := by simp [e2]
  have f4 : (c.op == 4) = false := by simp [e4]
  by_cases e3 : c.op = 3
  · rw [if_pos e3] at hr
    have f3 : (c.op == 3) = true := by simp [e3]
    subst hr
    clear e1 e2 e3 e4
    go_enter Tryd.func55, Tryd.ntmps55
    go_wp2
    go_ret
    exact ⟨rfl, HB.out⟩
  have f3 : (c.op == 3) = false := by simp [e3]
  rw [if_neg e3] at hr
  by_cases e5 : c.op = 5
  · have f5 : (c.op == 5) = true := by simp [e5]
    rw [decide_eq_true e5] at hr
    subst hr
    clear e1 e2 e3 e4 e5
    go_enter Tryd.func55, Tryd.ntmps55
    go_wp2
    go_ret
    exact ⟨rfl, HB.out⟩
  have f5 : (c.op == 5) = false := by simp [e5]
  rw [decide_eq_false e5] at hr
  subst hr
  clear e1 e2 e3 e4 e5
  go_enter Tryd.func55, Tryd.ntmps55
  go_wp2
  go_ret
  exact ⟨rfl, HB.out⟩

set_option maxHeartbeats 4000000 in
set_option maxRecDepth 100000 in
theorem implCmdOk_is (c : CmdL) (hs : c.key.size ≤ 1048576 ∧ c.val.size ≤ 1048576 ∧ c.old.size ≤ 1048576) (w : World) : Calls Tryd.prog 34 #[cmdV c] w fun en w' => en = .returned (.bool (okC c)) ∧ Below w.heap.size w w' := by
  obtain ⟨W, hW⟩ : ∃ W, W = w.alloc (Obj.cells #[.int .i64 c.op, .int .i64 c.ses, .int .i64 c.seq, .string c.key, .string c.val, .string c.old] 31) := ⟨_, rfl⟩
  have HB : Hid (Below w.heap.size w W) := by show Below _ _ _; rw [hW]; exact (Below.refl _ _).alloc (Nat.le_refl _) _
  have HST : Hid (∀ (x : Int) (W : World), 0 ≤ x ∧ x ≤ 100000 → Calls Tryd.prog 33 #[.int .i64 x] W fun en w' => en = .returned (.bool true) ∧ w' = W) := fun x W q => stampOk_is x true (by simp [q]) W
  have HNO : Hid (∀ (x : Int) (W : World), Hid (¬ (0 ≤ x ∧ x ≤ 100000)) → Calls Tryd.prog 33 #[.int .i64 x] W fun en w' => en = .returned (.bool false) ∧ w' = W) := fun x W q => stampOk_is x false ⟨fun h => (by cases h), fun h => absurd h q.out⟩ W
  have HN : Hid (∀ (R : Bool) (W : World), R = leftB c → Calls Tryd.prog 55 #[.agg #[.int .i64 c.op, .int .i64 c.ses, .int .i64 c.seq, .string c.key, .string c.val, .string c.old]] W fun en w' => en = .returned (.bool R) ∧ Below W.heap.size W w') := fun R W q => by rw [q]; exact needless_is c W
  have HBB : Hid (∀ W' : World, Below W.heap.size W W' → Below w.heap.size w W') := fun W' h => HB.out.trans (h.mono HB.out.size)
  obtain ⟨s1, s2, s3⟩ := hs
  obtain ⟨r, hr⟩ : ∃ r, r = okC c := ⟨_, rfl⟩
  rw [← hr]
  have c0 := hW ▸ cell_of_row _ _ 0 _ _ _ (heap_alloc_new w (Obj.cells #[.int .i64 c.op, .int .i64 c.ses, .int .i64 c.seq, .string c.key, .string c.val, .string c.old] 31))
  unfold cmdV
  clear c0 HB HBB hW
  by_cases k2 : 0 ≤ c.ses ∧ c.ses ≤ 100000
  rotate_left
  · obtain rfl : r = false := hr.trans (ok_no fun h => k2 (Cmds.fits h).ses)
    clear hr
    have q2 : Hid (¬ ((0 : Int) ≤ c.ses ∧ c.ses ≤ 100000)) := fun h => by omega
    (try clear k2)
    go_enter Tryd.func34, Tryd.ntmps34
    go_wp2_with (go_at_call 33; (first | (with_reducible refine Calls.mono (HST.out _ _ (by assumption)) ?_) | (with_reducible refine Calls.mono (HNO.out _ _ (by assumption)) ?_) | fail); rintro en w2 ⟨rfl, hw2⟩; subst hw2)
    go_ret
    exact ⟨rfl, (Below.refl _ _).alloc (Nat.le_refl _) _⟩
  have q2 : (0 : Int) ≤ c.ses ∧ c.ses ≤ 100000 := by omega
  by_cases k3 : 0 ≤ c.seq ∧ c.seq ≤ 100000
  rotate_left
  · obtain rfl : r = false := hr.trans (ok_no fun h => k3 (Cmds.fits h).seq)
    clear hr
    have q3 : Hid (¬ ((0 : Int) ≤ c.seq ∧ c.seq ≤ 100000)) := fun h => by omega
    (try clear k2); (try clear k3)
    go_enter Tryd.func34, Tryd.ntmps34
    go_wp2_with (go_at_call 33; (first | (with_reducible refine Calls.mono (HST.out _ _ (by assumption)) ?_) | (with_reducible refine Calls.mono (HNO.out _ _ (by assumption)) ?_) | fail); rintro en w2 ⟨rfl, hw2⟩; subst hw2)
    go_ret
    exact ⟨rfl, (Below.refl _ _).alloc (Nat.le_refl _) _⟩
  have q3 : (0 : Int) ≤ c.seq ∧ c.seq ≤ 100000 := by omega
  by_cases k6 : c.key.size < 10
  rotate_left
  · obtain rfl : r = false := hr.trans (ok_no fun h => k6 (by have := (Cmds.fits h).key; omega))
    clear hr
    have k6' : ¬ (c.key.size : Int) < 10 := by omega
    (try clear k2); (try clear k3); (try clear k6)
    go_enter Tryd.func34, Tryd.ntmps34
    go_wp2_with (go_at_call 33; (first | (with_reducible refine Calls.mono (HST.out _ _ (by assumption)) ?_) | (with_reducible refine Calls.mono (HNO.out _ _ (by assumption)) ?_) | fail); rintro en w2 ⟨rfl, hw2⟩; subst hw2)
    go_ret
    exact ⟨rfl, (Below.refl _ _).alloc (Nat.le_refl _) _⟩
  have k6' : (c.key.size : Int) < 10 := by omega
  by_cases k4 : c.val.size ≤ 12
  rotate_left
  · obtain rfl : r = false := hr.trans (ok_no fun h => k4 (Cmds.fits h).val)
    clear hr
    have k4' : ¬ (c.val.size : Int) ≤ 12 := by omega
    (try clear k2); (try clear k3); (try clear k6); (try clear k4)
    go_enter Tryd.func34, Tryd.ntmps34
    go_wp2_with (go_at_call 33; (first | (with_reducible refine Calls.mono (HST.out _ _ (by assumption)) ?_) | (with_reducible refine Calls.mono (HNO.out _ _ (by assumption)) ?_) | fail); rintro en w2 ⟨rfl, hw2⟩; subst hw2)
    go_ret
    exact ⟨rfl, (Below.refl _ _).alloc (Nat.le_refl _) _⟩
  have k4' : (c.val.size : Int) ≤ 12 := by omega
  by_cases k5 : c.old.size ≤ 12
  rotate_left
  · obtain rfl : r = false := hr.trans (ok_no fun h => k5 (Cmds.fits h).old)
    clear hr
    have k5' : ¬ (c.old.size : Int) ≤ 12 := by omega
    (try clear k2); (try clear k3); (try clear k6); (try clear k4); (try clear k5)
    go_enter Tryd.func34, Tryd.ntmps34
    go_wp2_with (go_at_call 33; (first | (with_reducible refine Calls.mono (HST.out _ _ (by assumption)) ?_) | (with_reducible refine Calls.mono (HNO.out _ _ (by assumption)) ?_) | fail); rintro en w2 ⟨rfl, hw2⟩; subst hw2)
    go_ret
    exact ⟨rfl, (Below.refl _ _).alloc (Nat.le_refl _) _⟩
  have k5' : (c.old.size : Int) ≤ 12 := by omega
  have hl : okC c = ((em c.key == decide (c.op = 1)) && leftB c) := by
    simp only [okC, Cmds.inB_iff.2 k2, Cmds.inB_iff.2 k3, decide_eq_true k4, decide_eq_true k5, decide_eq_true k6, Bool.and_self, Bool.true_and]
  rw [hl] at hr
  clear hl k2 k3 k4 k5 k6
  unfold em at hr
  cases hk : c.key.toList.isEmpty with
  | true =>
    rw [hk] at hr
    by_cases e1 : c.op = 1
    · have f1 : (c.op == 1) = true := by simp [e1]
      rw [decide_eq_true e1] at hr
      simp only [beq_self_eq_true, Bool.true_and] at hr
      have HR : Hid (r = leftB c) := hr
      clear e1
      (try clear k2); (try clear k3); (try clear k6); (try clear k4); (try clear k5); (try clear e1)
      go_enter Tryd.func34, Tryd.ntmps34
      go_wp2_with (first | (go_at_call 33; (first | (with_reducible refine Calls.mono (HST.out _ _ (by assumption)) ?_) | (with_reducible refine Calls.mono (HNO.out _ _ (by assumption)) ?_) | fail); rintro en w2 ⟨rfl, hw2⟩; subst hw2) | (go_at_call 55; refine Calls.mono (HN.out _ _ hr) ?_; rintro en w2 ⟨rfl, hb2⟩))
      go_ret
      exact ⟨by rw [HR.out]; rfl, ((Below.refl _ _).alloc (Nat.le_refl _) _).trans (hb2.mono (by simp))⟩
    · have f1 : (c.op == 1) = false := by simp [e1]
      rw [decide_eq_false e1] at hr
      replace hr : r = false := hr
      subst hr
      clear e1
      (try clear k2); (try clear k3); (try clear k6); (try clear k4); (try clear k5); (try clear e1)
      go_enter Tryd.func34, Tryd.ntmps34
      go_wp2_with (go_at_call 33; (first | (with_reducible refine Calls.mono (HST.out _ _ (by assumption)) ?_) | (with_reducible refine Calls.mono (HNO.out _ _ (by assumption)) ?_) | fail); rintro en w2 ⟨rfl, hw2⟩; subst hw2)
      go_ret
      exact ⟨rfl, (Below.refl _ _).alloc (Nat.le_refl _) _⟩
  | false =>
    rw [hk] at hr
    by_cases e1 : c.op = 1
    · have f1 : (c.op == 1) = true := by simp [e1]
      rw [decide_eq_true e1] at hr
      replace hr : r = false := hr
      subst hr
      clear e1
      (try clear k2); (try clear k3); (try clear k6); (try clear k4); (try clear k5); (try clear e1); (try clear e1)
      go_enter Tryd.func34, Tryd.ntmps34
      go_wp2_with (go_at_call 33; (first | (with_reducible refine Calls.mono (HST.out _ _ (by assumption)) ?_) | (with_reducible refine Calls.mono (HNO.out _ _ (by assumption)) ?_) | fail); rintro en w2 ⟨rfl, hw2⟩; subst hw2)
      go_ret
      exact ⟨rfl, (Below.refl _ _).alloc (Nat.le_refl _) _⟩
    · have f1 : (c.op == 1) = false := by simp [e1]
      rw [decide_eq_false e1] at hr
      simp only [beq_self_eq_true, Bool.true_and] at hr
      have HR : Hid (r = leftB c) := hr
      clear e1
      (try clear k2); (try clear k3); (try clear k6); (try clear k4); (try clear k5); (try clear e1); (try clear e1)
      go_enter Tryd.func34, Tryd.ntmps34
      go_wp2_with (first | (go_at_call 33; (first | (with_reducible refine Calls.mono (HST.out _ _ (by assumption)) ?_) | (with_reducible refine Calls.mono (HNO.out _ _ (by assumption)) ?_) | fail); rintro en w2 ⟨rfl, hw2⟩; subst hw2) | (go_at_call 55; refine Calls.mono (HN.out _ _ hr) ?_; rintro en w2 ⟨rfl, hb2⟩))
      go_ret
      exact ⟨by rw [HR.out]; rfl, ((Below.refl _ _).alloc (Nat.le_refl _) _).trans (hb2.mono (by simp))⟩
end Go.Proofs.YtpedpdgkbmpfjaaDoor
