/- What the laws ask of commands done one behind the other; no program is named here. -/
import Derived.Test.YtpedpdgkbmpfjaaDoorMathAct2
namespace Go.Proofs.YtpedpdgkbmpfjaaDoor
set_option linter.unusedVariables false
set_option linter.unusedSimpArgs false
namespace Acts
open Go.Proofs.YtpedpdgkbmpfjaaDoor.Batches (by_ lt by_inj lt_iff lt_irrefl lt_trans lt_total lt_asymm)
open Go.Proofs.YtpedpdgkbmpfjaaDoor.Maps (putK cutK stepC same same_iff Asc)

theorem act_none {m : List PairL} {i : Nat} {c : CmdL} (h1 : c.op ≠ 1) (hf : findS m c.ses = none) : act m i c = (m, expR) := by
  unfold act
  rw [if_neg h1, hf]
theorem act_some {m : List PairL} {i : Nat} {c : CmdL} {s : Ses} (h1 : c.op ≠ 1) (hf : findS m c.ses = some s) :
    act m i c = if c.seq < (s.seq : Int) then (m, staleR) else if c.seq = (s.seq : Int) then (m, s.rep) else if (s.seq : Int) + 1 < c.seq then (m, gapR) else (doneM m i c, opR m c) := by
  unfold act
  rw [if_neg h1, hf]
theorem head_got (v : ByteArray) : by_ (gotR ++ v) = 103 :: 111 :: 116 :: 32 :: by_ v := by rw [by_app]; rfl
theorem got_ne (v : ByteArray) {r : ByteArray} (h : ((by_ r).drop 1).head? ≠ some 111) : gotR ++ v ≠ r := fun e => by
  have q := congrArg by_ e
  rw [head_got] at q
  rw [← q] at h
  exact h rfl
theorem ne_by {a b : ByteArray} (h : by_ a ≠ by_ b) : a ≠ b := fun e => h (by rw [e])
/-- Just a put is replied as one. -/
theorem opR_put {m : List PairL} {c : CmdL} (h : opR m c = putR) : c.op = 3 := by
  unfold opR at h
  split at h
  · split at h
    · exact absurd h (got_ne _ (by decide))
    · exact absurd h (ne_by (by decide))
  · split at h
    · assumption
    · split at h
      · split at h
        · exact absurd h (ne_by (by decide))
        · exact absurd h (ne_by (by decide))
      · split at h
        · exact absurd h (ne_by (by decide))
        · exact absurd h (ne_by (by decide))
theorem open_ne (n : Nat) : openR ++ decS n ≠ putR := ne_by (by
  rw [by_app]
  intro h
  have := (List.cons.inj h).1
  exact absurd this (by decide))
/-- What a state has of a session that was heard of last with this command. -/
def Heard (a : List PairL) (c : CmdL) (r : ByteArray) : Prop := ∃ s, findS a c.ses = some s ∧ (s.seq : Int) = c.seq ∧ s.rep = r
theorem doneM_find {T : Nat} {m : List PairL} (h : Good T m) (hT : T ≤ 60) {i : Nat} (hi : i ≤ 99) {c : CmdL} (hok : Cmds.okC c = true) (hv : c.val.size ≤ 5) {s : Ses} (hs : findS m c.ses = some s) (hq : c.seq = (s.seq : Int) + 1) : Heard (doneM m i c) c (opR m c) := by
  have hg := done_good h hT hi hok hv hs hq
  obtain ⟨f1, f2⟩ := find_mem hs
  obtain ⟨g1, g2, g3, g4, g5⟩ := mem_sess (by omega) h.enc f1
  have hid : ((c.ses.toNat : Nat) : Int) = c.ses := by omega
  have hsq : ((c.seq.toNat : Nat) : Int) = c.seq := by omega
  have hm : (⟨skey c.ses.toNat, sval ⟨c.ses.toNat, c.seq.toNat, i, opR m c⟩⟩ : PairL) ∈ doneM m i c := mem_put.2 (Or.inr rfl)
  have hz : (⟨c.ses.toNat, c.seq.toNat, i, opR m c⟩ : Ses) ∈ sess (doneM m i c) := sess_mem ⟨by show c.ses.toNat ≤ _; omega, by show c.seq.toNat ≤ _; omega, by show i ≤ _; omega⟩ hm
  have hf := find_is (by omega) hg.asc hg.enc hz
  refine ⟨⟨c.ses.toNat, c.seq.toNat, i, opR m c⟩, ?_, hsq, rfl⟩
  rw [← hid]
  exact hf
/-- What a command that is no open leaves: the state as it was, or the session heard of with it. -/
theorem act_cases {T : Nat} {m : List PairL} (h : Good T m) (hT : T ≤ 60) {i : Nat} (hi : i ≤ 99) {c : CmdL} (hok : Cmds.okC c = true) (hv : c.val.size ≤ 5) (h1 : c.op ≠ 1) :
    ((act m i c).1 = m ∧ ((act m i c).2 = expR ∨ (act m i c).2 = staleR ∨ (act m i c).2 = gapR)) ∨ (Heard (act m i c).1 c (act m i c).2 ∧ ((act m i c).1 = m ∨ (act m i c = (doneM m i c, opR m c)))) := by
  cases hf : findS m c.ses with
  | none => rw [act_none h1 hf]; exact Or.inl ⟨rfl, Or.inl rfl⟩
  | some s =>
    rw [act_some h1 hf]
    by_cases q1 : c.seq < (s.seq : Int)
    · rw [if_pos q1]; exact Or.inl ⟨rfl, Or.inr (Or.inl rfl)⟩
    · rw [if_neg q1]
      by_cases q2 : c.seq = (s.seq : Int)
      · rw [if_pos q2]; exact Or.inr ⟨⟨s, hf, q2.symm, rfl⟩, Or.inl rfl⟩
      · rw [if_neg q2]
        by_cases q3 : (s.seq : Int) + 1 < c.seq
        · rw [if_pos q3]; exact Or.inl ⟨rfl, Or.inr (Or.inr rfl)⟩
        · rw [if_neg q3]
          exact Or.inr ⟨doneM_find h hT hi hok hv hf (by omega), Or.inr rfl⟩
/-- A command of another session or another seq is right, too. -/
theorem okC_of {c : CmdL} (hok : Cmds.okC c = true) (h1 : c.op ≠ 1) {s q : Int} (hs : 0 ≤ s ∧ s ≤ 100000) (hq : 0 ≤ q ∧ q ≤ 100000) : Cmds.okC ⟨c.op, s, q, c.key, c.val, c.old⟩ = true := by
  simp only [Cmds.okC, Bool.and_eq_true, Cmds.inB_iff, decide_eq_true_eq] at hok ⊢
  obtain ⟨⟨⟨a1, a2⟩, a3⟩, a4, a5⟩ := hok
  refine ⟨⟨⟨hs, hq⟩, a3⟩, a4, ?_⟩
  unfold Cmds.leftB at a5 ⊢
  rw [if_neg h1] at a5 ⊢
  exact a5

theorem openM_next {T : Nat} {m : List PairL} (h : Good T m) (hT : T ≤ 60) (i : Nat) : nextN (openM m i) = nextN m + 1 := by
  obtain ⟨n1, n2, _⟩ := nextN_in (by omega) h.enc
  have hl := (left_part (h.part (Nat.le_refl T))).asc
  have e : get (openM m i) nkey = some (decS (nextN m + 1)) := by
    unfold openM
    rw [get_put_ne (put_asc hl _ _) (n_ne_s _), get_put hl]
  have : nextN (openM m i) = (Words.rdD (by_ (decS (nextN m + 1))) 0 true).getD 0 := by
    show (match get (openM m i) nkey with | none => 1 | some v => (Words.rdD (by_ v) 0 true).getD 0) = _
    rw [e]
  rw [this, by_dec, rd_dec (by omega)]
  rfl
theorem opM_get {m : List PairL} (h : Asc m) (c : CmdL) {k : ByteArray} (hk : k ≠ kkey c.key) : get (opM m c) k = get m k := by
  rcases opM_cases m c with x | x | x
  · rw [x]
  · rw [x, get_put_ne h hk]
  · rw [x, get_cut_ne h hk]
theorem opM_asc {m : List PairL} (h : Asc m) (c : CmdL) : Asc (opM m c) := by
  rcases opM_cases m c with x | x | x
  · rw [x]; exact h
  · rw [x]; exact put_asc h _ _
  · rw [x]; exact cut_asc h _
theorem nextN_get {a b : List PairL} (h : get a nkey = get b nkey) : nextN a = nextN b := by unfold nextN; rw [h]
theorem doneM_next {m : List PairL} (h : Asc m) (i : Nat) (c : CmdL) : nextN (doneM m i c) = nextN m := nextN_get (by
  unfold doneM
  rw [get_put_ne (opM_asc h c) (n_ne_s _), opM_get h c (fun e => k_ne_n c.key e.symm)])
theorem act_next {T : Nat} {m : List PairL} (h : Good T m) (hT : T ≤ 60) {i : Nat} (hi : i ≤ 99) {c : CmdL} (hok : Cmds.okC c = true) (hv : c.val.size ≤ 5) : nextN (act m i c).1 = if c.op = 1 then nextN m + 1 else nextN m := by
  by_cases h1 : c.op = 1
  · rw [if_pos h1]
    have : act m i c = (openM m i, openR ++ decS (nextN m)) := by unfold act; rw [if_pos h1]
    rw [this]
    exact openM_next h hT i
  · rw [if_neg h1]
    rcases act_cases h hT hi hok hv h1 with ⟨a, _⟩ | ⟨_, a | a⟩
    · rw [a]
    · rw [a]
    · rw [a]; exact doneM_next h.asc i c
theorem act_open {m : List PairL} {i : Nat} {c : CmdL} (h1 : c.op = 1) : (act m i c).2 = openR ++ decS (nextN m) := by unfold act; rw [if_pos h1]
theorem openR_inj {a b : Nat} (h : openR ++ decS a = openR ++ decS b) : a = b := by
  have q := congrArg by_ h
  rw [by_app, by_app, by_dec, by_dec] at q
  exact dec_inj (List.append_cancel_left q)
/-- What is put under a key is got. -/
theorem act_put {T : Nat} {m : List PairL} (h : Good T m) (hT : T ≤ 60) {i : Nat} (hi : i ≤ 99) {c : CmdL} (hok : Cmds.okC c = true) (hv : c.val.size ≤ 5) (hr : (act m i c).2 = putR) (hne : (act m i c).1 ≠ m) : get (act m i c).1 (kkey c.key) = some c.val := by
  by_cases h1 : c.op = 1
  · rw [act_open h1] at hr
    exact absurd hr (open_ne _)
  · rcases act_cases h hT hi hok hv h1 with ⟨a, _⟩ | ⟨_, a | a⟩
    · exact absurd a hne
    · exact absurd a hne
    · rw [a] at hr ⊢
      have h3 := opR_put hr
      show get (doneM m i c) _ = _
      unfold doneM
      rw [get_put_ne (opM_asc h.asc c) (k_ne_s _ _)]
      have e : opM m c = putK m (kkey c.key) c.val := by
        unfold opM opC
        rw [if_neg (by omega), if_pos h3]
        rfl
      rw [e, get_put h.asc]
/-- Whether a key is one of a session. -/
def isS (p : PairL) : Bool := (by_ p.key).head? == some 115
theorem count_s {T : Nat} (hT : T ≤ 90) : ∀ m : List PairL, (∀ p ∈ m, Enc T p) → (m.filter isS).length = (sess m).length
  | [], _ => rfl
  | p :: m, h => by
    have ih := count_s hT m fun q hq => h q (List.mem_cons_of_mem _ hq)
    rcases enc_parse hT (h p (List.mem_cons_self ..)) with ⟨h1, h2⟩ | ⟨s, h1, h2, h3⟩
    · have e : isS p = false := by unfold isS; exact beq_eq_false_iff_ne.2 h2
      rw [List.filter_cons_of_neg (by rw [e]; simp)]
      show _ = (List.filterMap parse (p :: m)).length
      rw [List.filterMap_cons_none h1]
      exact ih
    · have e : isS p = true := by
        unfold isS
        rw [h2]
        show ((by_ (skey s.id)).head? == some 115) = true
        rw [by_skey]
        rfl
      rw [List.filter_cons_of_pos e]
      show _ = (List.filterMap parse (p :: m)).length
      rw [List.filterMap_cons_some h1, List.length_cons, List.length_cons]
      rw [ih]
      rfl
end Acts
end Go.Proofs.YtpedpdgkbmpfjaaDoor
