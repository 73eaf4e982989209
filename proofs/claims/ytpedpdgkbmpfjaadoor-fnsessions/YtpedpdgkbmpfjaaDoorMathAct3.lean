/- What the laws ask of commands done one behind the other; no program is named here. -/
import Derived.Test.YtpedpdgkbmpfjaaDoorMathAct2
namespace Go.Proofs.YtpedpdgkbmpfjaaDoor
set_option linter.unusedVariables false
set_option linter.unusedSimpArgs false
namespace Acts
open Go.Proofs.YtpedpdgkbmpfjaaDoor.Batches (by_ lt by_inj lt_iff lt_irrefl lt_trans lt_total lt_asymm)
open Go.Proofs.YtpedpdgkbmpfjaaDoor.Maps (putK cutK stepC same same_iff Asc)

theorem find_77 {T : Nat} {m : List PairL} (h : Good T m) (hT : T ≤ 76) : findS m 77 = none := by
  cases hf : findS m 77 with
  | none => rfl
  | some s =>
    obtain ⟨a, b⟩ := find_mem hf
    have := (mem_sess (by omega) h.enc a).2.1
    omega
theorem act_none {m : List PairL} {i : Nat} {c : CmdL} (h1 : c.op ≠ 1) (hf : findS m c.ses = none) : act m i c = (m, expR) := by
  unfold act
  rw [if_neg h1, hf]
theorem act_some {m : List PairL} {i : Nat} {c : CmdL} {s : Ses} (h1 : c.op ≠ 1) (hf : findS m c.ses = some s) :
    act m i c = if c.seq < (s.seq : Int) then (m, staleR) else if c.seq = (s.seq : Int) then (m, s.rep) else if (s.seq : Int) + 1 < c.seq then (m, gapR) else (doneM m i c, opR m c) := by
  unfold act
  rw [if_neg h1, hf]
theorem head_got (v : ByteArray) : by_ (gotR ++ v) = 103 :: 111 :: 116 :: 32 :: by_ v := by rw [by_app]; rfl
theorem got_ne (v : ByteArray) {r : ByteArray} (h : ((by_ r).drop 1).head? ≠ some 111) : gotR ++ v ≠ r := fun e => by
  have q := congrArg by_ e
  rw [head_got] at q
  rw [← q] at h
  exact h rfl
theorem ne_by {a b : ByteArray} (h : by_ a ≠ by_ b) : a ≠ b := fun e => h (by rw [e])
theorem opR_ne (m : List PairL) (c : CmdL) : opR m c ≠ expR ∧ opR m c ≠ staleR ∧ opR m c ≠ gapR := by
  unfold opR
  split
  · split
    · exact ⟨got_ne _ (by decide), got_ne _ (by decide), got_ne _ (by decide)⟩
    · exact ⟨ne_by (by decide), ne_by (by decide), ne_by (by decide)⟩
  · split
    · exact ⟨ne_by (by decide), ne_by (by decide), ne_by (by decide)⟩
    · split
      · split
        · exact ⟨ne_by (by decide), ne_by (by decide), ne_by (by decide)⟩
        · exact ⟨ne_by (by decide), ne_by (by decide), ne_by (by decide)⟩
      · split
        · exact ⟨ne_by (by decide), ne_by (by decide), ne_by (by decide)⟩
        · exact ⟨ne_by (by decide), ne_by (by decide), ne_by (by decide)⟩
/-- What a state has of a session that was heard of last with this command. -/
def Heard (a : List PairL) (c : CmdL) (r : ByteArray) : Prop := ∃ s, findS a c.ses = some s ∧ (s.seq : Int) = c.seq ∧ s.rep = r
theorem doneM_find {T : Nat} {m : List PairL} (h : Good T m) (hT : T ≤ 60) {i : Nat} (hi : i ≤ 99) {c : CmdL} (hok : Cmds.okC c = true) (hv : c.val.size ≤ 5) {s : Ses} (hs : findS m c.ses = some s) (hq : c.seq = (s.seq : Int) + 1) : Heard (doneM m i c) c (opR m c) := by
  have hg := done_good h hT hi hok hv hs hq
  obtain ⟨f1, f2⟩ := find_mem hs
  obtain ⟨g1, g2, g3, g4, g5⟩ := mem_sess (by omega) h.enc f1
  have hid : ((c.ses.toNat : Nat) : Int) = c.ses := by omega
  have hsq : ((c.seq.toNat : Nat) : Int) = c.seq := by omega
  have hm : (⟨skey c.ses.toNat, sval ⟨c.ses.toNat, c.seq.toNat, i, opR m c⟩⟩ : PairL) ∈ doneM m i c := mem_put.2 (Or.inr rfl)
  have hz : (⟨c.ses.toNat, c.seq.toNat, i, opR m c⟩ : Ses) ∈ sess (doneM m i c) := sess_mem ⟨by show c.ses.toNat ≤ _; omega, by show c.seq.toNat ≤ _; omega, by show i ≤ _; omega⟩ hm
  have hf := find_is (by omega) hg.asc hg.enc hz
  refine ⟨⟨c.ses.toNat, c.seq.toNat, i, opR m c⟩, ?_, hsq, rfl⟩
  rw [← hid]
  exact hf
/-- What a command that is no open leaves: the state as it was, or the session heard of with it. -/
theorem act_cases {T : Nat} {m : List PairL} (h : Good T m) (hT : T ≤ 60) {i : Nat} (hi : i ≤ 99) {c : CmdL} (hok : Cmds.okC c = true) (hv : c.val.size ≤ 5) (h1 : c.op ≠ 1) :
    ((act m i c).1 = m ∧ ((act m i c).2 = expR ∨ (act m i c).2 = staleR ∨ (act m i c).2 = gapR)) ∨ (Heard (act m i c).1 c (act m i c).2 ∧ ((act m i c).1 = m ∨ (act m i c = (doneM m i c, opR m c)))) := by
  cases hf : findS m c.ses with
  | none => rw [act_none h1 hf]; exact Or.inl ⟨rfl, Or.inl rfl⟩
  | some s =>
    rw [act_some h1 hf]
    by_cases q1 : c.seq < (s.seq : Int)
    · rw [if_pos q1]; exact Or.inl ⟨rfl, Or.inr (Or.inl rfl)⟩
    · rw [if_neg q1]
      by_cases q2 : c.seq = (s.seq : Int)
      · rw [if_pos q2]; exact Or.inr ⟨⟨s, hf, q2.symm, rfl⟩, Or.inl rfl⟩
      · rw [if_neg q2]
        by_cases q3 : (s.seq : Int) + 1 < c.seq
        · rw [if_pos q3]; exact Or.inl ⟨rfl, Or.inr (Or.inr rfl)⟩
        · rw [if_neg q3]
          exact Or.inr ⟨doneM_find h hT hi hok hv hf (by omega), Or.inr rfl⟩
/-- What was not done leaves the state. -/
theorem act_left {T : Nat} {m : List PairL} (h : Good T m) (hT : T ≤ 60) {i : Nat} (hi : i ≤ 99) {c : CmdL} (hok : Cmds.okC c = true) (hv : c.val.size ≤ 5) (h1 : c.op ≠ 1) (hr : (act m i c).2 = expR ∨ (act m i c).2 = staleR ∨ (act m i c).2 = gapR) : (act m i c).1 = m := by
  rcases act_cases h hT hi hok hv h1 with ⟨a, _⟩ | ⟨_, a | a⟩
  · exact a
  · exact a
  · rw [a] at hr
    obtain ⟨x, y, z⟩ := opR_ne m c
    rcases hr with hr | hr | hr
    · exact absurd hr x
    · exact absurd hr y
    · exact absurd hr z
theorem act_heard {T : Nat} {m : List PairL} (h : Good T m) (hT : T ≤ 60) {i : Nat} (hi : i ≤ 99) {c : CmdL} (hok : Cmds.okC c = true) (hv : c.val.size ≤ 5) (h1 : c.op ≠ 1) (hr : ¬ ((act m i c).2 = expR ∨ (act m i c).2 = staleR ∨ (act m i c).2 = gapR)) : Heard (act m i c).1 c (act m i c).2 := by
  rcases act_cases h hT hi hok hv h1 with ⟨_, a⟩ | ⟨a, _⟩
  · exact absurd a hr
  · exact a
theorem heard_again {a : List PairL} {c : CmdL} {r : ByteArray} (h : Heard a c r) (h1 : c.op ≠ 1) (j : Nat) : act a j c = (a, r) := by
  obtain ⟨s, hf, hq, rfl⟩ := h
  rw [act_some h1 hf, if_neg (by omega), if_pos hq.symm]
theorem heard_gap {a : List PairL} {c : CmdL} {r : ByteArray} (h : Heard a c r) (h1 : c.op ≠ 1) (j : Nat) : act a j ⟨c.op, c.ses, c.seq + 2, c.key, c.val, c.old⟩ = (a, gapR) := by
  obtain ⟨s, hf, hq, rfl⟩ := h
  rw [act_some (c := ⟨c.op, c.ses, c.seq + 2, c.key, c.val, c.old⟩) h1 hf, if_neg (by show ¬ c.seq + 2 < _; omega), if_neg (by show ¬ c.seq + 2 = _; omega), if_pos (by show _ < c.seq + 2; omega)]
theorem heard_stale {a : List PairL} {c : CmdL} {r : ByteArray} (h : Heard a c r) (h1 : c.op ≠ 1) (j : Nat) : act a j ⟨c.op, c.ses, c.seq - 1, c.key, c.val, c.old⟩ = (a, staleR) := by
  obtain ⟨s, hf, hq, rfl⟩ := h
  rw [act_some (c := ⟨c.op, c.ses, c.seq - 1, c.key, c.val, c.old⟩) h1 hf, if_pos (by show c.seq - 1 < _; omega)]
theorem gone_77 {T : Nat} {a : List PairL} (h : Good T a) (hT : T ≤ 76) (c : CmdL) (h1 : c.op ≠ 1) (j : Nat) : act a j ⟨c.op, 77, c.seq, c.key, c.val, c.old⟩ = (a, expR) :=
  act_none (c := ⟨c.op, 77, c.seq, c.key, c.val, c.old⟩) h1 (find_77 h hT)
/-- A command of another session or another seq is right, too. -/
theorem okC_of {c : CmdL} (hok : Cmds.okC c = true) (h1 : c.op ≠ 1) {s q : Int} (hs : 0 ≤ s ∧ s ≤ 100000) (hq : 0 ≤ q ∧ q ≤ 100000) : Cmds.okC ⟨c.op, s, q, c.key, c.val, c.old⟩ = true := by
  simp only [Cmds.okC, Bool.and_eq_true, Cmds.inB_iff, decide_eq_true_eq] at hok ⊢
  obtain ⟨⟨⟨a1, a2⟩, a3⟩, a4, a5⟩ := hok
  refine ⟨⟨⟨hs, hq⟩, a3⟩, a4, ?_⟩
  unfold Cmds.leftB at a5 ⊢
  rw [if_neg h1] at a5 ⊢
  exact a5

theorem act_open {m : List PairL} {i : Nat} {c : CmdL} (h1 : c.op = 1) : (act m i c).2 = openR ++ decS (nextN m) := by unfold act; rw [if_pos h1]
end Acts
end Go.Proofs.YtpedpdgkbmpfjaaDoor
