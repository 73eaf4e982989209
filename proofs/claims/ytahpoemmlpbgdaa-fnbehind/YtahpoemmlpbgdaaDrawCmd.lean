/- What is drawn of commands, walked: CommandOk, CommandText. -/
import Derived.Test.YtahpoemmlpbgdaaSpecEntT
import Derived.Test.YtahpoemmlpbgdaaDrawA
namespace Go.Proofs.Ytahpoemmlpbgdaa
open Go.RowKit
set_option linter.unusedVariables false
set_option linter.unusedSimpArgs false

/-- A command. -/
structure CmdL where
  op : Int
  ses : Int
  seq : Int
  key : ByteArray
  val : ByteArray
  old : ByteArray
def cmdV (c : CmdL) : Value := .agg #[.int .i64 c.op, .int .i64 c.ses, .int .i64 c.seq, .string c.key, .string c.val, .string c.old]
/-- What is drawn of commands. -/
structure CmdD (c : CmdL) : Prop where
  o1 : 1 ≤ c.op ∧ c.op ≤ 5
  o2 : 0 ≤ c.ses ∧ c.ses ≤ 100
  o3 : 0 ≤ c.seq ∧ c.seq ≤ 100
  o4 : c.key.size ≤ 9
  o5 : c.val.size ≤ 9
  o6 : c.old.size ≤ 9
  o7 : c.op = 1 → c = ⟨1, 0, 0, ⟨#[]⟩, ⟨#[]⟩, ⟨#[]⟩⟩
  o8 : c.op ≠ 1 → 1 ≤ c.key.size
theorem eq_cmd0 (w : World) : (binOp .eql 85 (.agg #[.int .i64 1, .int .i64 0, .int .i64 0, .string ⟨#[]⟩, .string ⟨#[]⟩, .string ⟨#[]⟩]) (.agg #[.int .i64 1, .int .i64 0, .int .i64 0, .string ⟨#[]⟩, .string ⟨#[]⟩, .string ⟨#[]⟩])).run Try.prog w = .ok (.bool true) w := by kernel_rfl
def BoolPost (w : World) (en : Ending) (w' : World) : Prop := ∃ b : Bool, en = .returned (.bool b) ∧ Below w.heap.size w w'
theorem BoolPost.mk {w w' : World} (b : Bool) (h : Below w.heap.size w w') : BoolPost w (.returned (.bool b)) w' := ⟨b, rfl, h⟩
set_option maxHeartbeats 2000000 in
set_option maxRecDepth 100000 in
theorem cmdOk_any (c : CmdL) (h : CmdD c) (w : World) : Calls Try.prog 64 #[cmdV c] w (BoolPost w) := by
  have HB : Hid (Below w.heap.size w (w.alloc (Obj.cells #[.int .i64 c.op, .int .i64 c.ses, .int .i64 c.seq, .string c.key, .string c.val, .string c.old] 85))) := (Below.refl _ _).alloc (Nat.le_refl _) _
  obtain ⟨o1, o2', o3', o4, o5', o6', o7, o8⟩ := h
  have hin : ∀ (x a b : Int) (W : World), a ≤ x ∧ x ≤ b → Calls Try.prog 26 #[.int .i64 x, .int .i64 a, .int .i64 b] W fun en w' => en = .returned (.bool true) ∧ w' = W := fun x a b W q => in_is x a b true (by simp [q]) W
  have HIN : Hid (∀ (x a b : Int) (W : World), a ≤ x ∧ x ≤ b → Calls Try.prog 26 #[.int .i64 x, .int .i64 a, .int .i64 b] W fun en w' => en = .returned (.bool true) ∧ w' = W) := hin
  clear hin
  unfold cmdV
  by_cases k1 : c.op = 1
  · have hc := o7 k1
    subst hc
    have q1 := eq_cmd0
    have b1 : (1 : Int) ≤ 1 ∧ (1 : Int) ≤ 5 := by omega
    have b2 : (0 : Int) ≤ 0 ∧ (0 : Int) ≤ 100000 := by omega
    clear o7 o8 o1 o2' o3' o4 o5' o6' k1
    simp only at HB ⊢
    go_enter Try.func64, Try.ntmps64
    go_wp2_with (go_at_call 26; refine Calls.mono (HIN.out _ _ _ _ (by assumption)) ?_; rintro en w2 ⟨rfl, hw2⟩; subst hw2)
    go_ret
    exact BoolPost.mk _ HB.out
  · have hks := o8 k1
    have b2 : 0 ≤ c.ses ∧ c.ses ≤ 100000 := by omega
    have b3 : 0 ≤ c.seq ∧ c.seq ≤ 100000 := by omega
    have b4 : (1 : Int) ≤ (c.key.size : Int) ∧ (c.key.size : Int) ≤ 9 := by omega
    have b5 : ¬ (12 : Int) < (c.val.size : Int) := by omega
    have b6 : ¬ (12 : Int) < (c.old.size : Int) := by omega
    have e1 : (c.op == 1) = false := by simp [k1]
    clear o7 o8 hks o2' o3'
    by_cases k2 : c.op = 2
    · have e2 : (c.op == 2) = true := by simp [k2]
      clear k1 k2
      cases hv : c.val.toList.isEmpty with
      | true =>
        go_enter Try.func64, Try.ntmps64
        go_wp2_with (go_at_call 26; refine Calls.mono (HIN.out _ _ _ _ (by assumption)) ?_; rintro en w2 ⟨rfl, hw2⟩; subst hw2)
        go_ret
        exact BoolPost.mk _ HB.out
      | false =>
        go_enter Try.func64, Try.ntmps64
        go_wp2_with (go_at_call 26; refine Calls.mono (HIN.out _ _ _ _ (by assumption)) ?_; rintro en w2 ⟨rfl, hw2⟩; subst hw2)
        go_ret
        exact BoolPost.mk _ HB.out
    · have e2 : (c.op == 2) = false := by simp [k2]
      by_cases k4 : c.op = 4
      · have e4 : (c.op == 4) = true := by simp [k4]
        clear k1 k2 k4
        cases hv : c.val.toList.isEmpty with
        | true =>
          go_enter Try.func64, Try.ntmps64
          go_wp2_with (go_at_call 26; refine Calls.mono (HIN.out _ _ _ _ (by assumption)) ?_; rintro en w2 ⟨rfl, hw2⟩; subst hw2)
          go_ret
          exact BoolPost.mk _ HB.out
        | false =>
          go_enter Try.func64, Try.ntmps64
          go_wp2_with (go_at_call 26; refine Calls.mono (HIN.out _ _ _ _ (by assumption)) ?_; rintro en w2 ⟨rfl, hw2⟩; subst hw2)
          go_ret
          exact BoolPost.mk _ HB.out
      · have e4 : (c.op == 4) = false := by simp [k4]
        by_cases k3 : c.op = 3
        · have e3 : (c.op == 3) = true := by simp [k3]
          clear k1 k2 k4 k3
          go_enter Try.func64, Try.ntmps64
          go_wp2_with (go_at_call 26; refine Calls.mono (HIN.out _ _ _ _ (by assumption)) ?_; rintro en w2 ⟨rfl, hw2⟩; subst hw2)
          go_ret
          exact BoolPost.mk _ HB.out
        · have e3 : (c.op == 3) = false := by simp [k3]
          clear k1 k2 k4 k3
          go_enter Try.func64, Try.ntmps64
          go_wp2_with (go_at_call 26; refine Calls.mono (HIN.out _ _ _ _ (by assumption)) ?_; rintro en w2 ⟨rfl, hw2⟩; subst hw2)
          go_ret
          exact BoolPost.mk _ HB.out
end Go.Proofs.Ytahpoemmlpbgdaa
