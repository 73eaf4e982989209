/- A region that draws its order, walked once an operation: what each operation yields is told by a word on its value, whatever came before it. No program is named here. -/
import Derived.Deep.RegionHeld
import Derived.WalkKit
namespace Go.Proofs.YtpedpdgkbmpfjaaDoor
open Go Go.RowKit
set_option linter.unusedVariables false
set_option linter.unusedSimpArgs false
namespace Inv

/-- A frame by a function of its slots. -/
def act (n : Nat) (ds : List Deferred) (f : Nat → Value) : Act := ⟨Array.ofFn (n := n) fun s => f s.1, ds⟩
theorem act_eval {n : Nat} {ds : List Deferred} {f : Nat → Value} {s : Nat} (h : s < n) : (act n ds f).eval (.tmp s) = f s := by
  simp [act, Act.eval, Array.getD, h]
theorem act_get {n : Nat} {ds : List Deferred} {f : Nat → Value} {s : Nat} (h : s < n) : (act n ds f).tmps[s]?.getD undef = f s := by
  simp [act, h]
def upd (f : Nat → Value) (d : Nat) (v : Value) : Nat → Value := fun s => if s = d then v else f s
theorem act_put {n : Nat} {ds : List Deferred} {f : Nat → Value} {d : Nat} {v : Value} : (act n ds f).put (some d) v = act n ds (upd f d v) := by
  unfold act Act.put upd
  simp only [Act.mk.injEq, and_true]
  apply Array.ext
  · simp
  · intro i h1 h2
    simp only [Array.size_setIfInBounds, Array.size_ofFn] at h1
    by_cases e : d = i
    · subst e; simp [Array.getElem_setIfInBounds, h1]
    · have e2 : ¬ i = d := fun x => e x.symm
      simp [Array.getElem_setIfInBounds, h1, e, e2]
def apart (ops : Array Oper) : Bool := (List.range ops.size).all fun i => match ops[i]? with
  | some o => o.guard.isNone && (match o.dst with
    | some d => (List.range i).all fun j => match ops[j]? with
      | some p => p.dst != some d
      | none => true
    | none => false) && o.after.toList.all (fun e => !Region.binds .any e || decide (e.on < i))
  | none => true
theorem apart_at {ops : Array Oper} (h : apart ops = true) {i : Nat} {o : Oper} (ho : ops[i]? = some o) : o.guard = none ∧ (∃ d, o.dst = some d ∧ ∀ j p, j < i → ops[j]? = some p → p.dst ≠ some d) ∧ ∀ e ∈ o.after, Region.binds .any e = true → e.on < i := by
  unfold apart at h
  rw [List.all_eq_true] at h
  have hi : i < ops.size := (Array.getElem?_eq_some_iff.1 ho).1
  have h1 := h i (List.mem_range.2 hi)
  rw [ho] at h1
  simp only [Bool.and_eq_true] at h1
  obtain ⟨⟨h1, h2⟩, h3⟩ := h1
  refine ⟨by simpa using h1, ?_, fun e he hb => ?_⟩
  · cases hd : o.dst with
    | none => rw [hd] at h2; cases h2
    | some d =>
      rw [hd] at h2
      simp only [List.all_eq_true, List.mem_range] at h2
      refine ⟨d, rfl, fun j p hj hp => ?_⟩
      have h4 := h2 j hj
      rw [hp] at h4
      simpa using h4
  · rw [List.all_eq_true] at h3
    have h4 := h3 e (Array.mem_def.1 he)
    simp only [Bool.or_eq_true, Bool.not_eq_true', decide_eq_true_eq] at h4
    rcases h4 with h4 | h4
    · rw [h4] at hb; cases hb
    · exact h4
theorem apart_eq {ops : Array Oper} (h : apart ops = true) {i j : Nat} {o p : Oper} {d : Nat} (ho : ops[i]? = some o) (hp : ops[j]? = some p) (h1 : o.dst = some d) (h2 : p.dst = some d) : i = j := by
  obtain ⟨_, ⟨d1, e1, n1⟩, _⟩ := apart_at h ho
  obtain ⟨_, ⟨d2, e2, n2⟩, _⟩ := apart_at h hp
  rcases Nat.lt_trichotomy i j with hl | hl | hl
  · exact absurd h1 (by rw [h2] at e2; cases e2; exact n2 i o hl ho)
  · exact hl
  · exact absurd h2 (by rw [h1] at e1; cases e1; exact n1 j p hl hp)
/-- What has come up so far holds its word. -/
def Kept (n : Nat) (ds : List Deferred) (ops : Array Oper) (f0 : Nat → Value) (free : Nat → Bool) (V : Nat → Value → World → Prop) (w1 : World) (listed : Array Bool) (a : Act) (w : World) : Prop :=
  ∃ f, a = act n ds f ∧ Below w1.heap.size w1 w ∧ (∀ s, free s = true → f s = f0 s) ∧ ∀ j p d, listed.getD j false = true → ops[j]? = some p → p.dst = some d → V j (f d) w
section
variable {P : Program} {ops : Array Oper} {Q : Exit → Act → World → Prop} {n : Nat} {ds : List Deferred} {f0 : Nat → Value} {free : Nat → Bool} {V : Nat → Value → World → Prop} {w1 : World}
/-- What one operation owes. -/
def Owes (P : Program) (ops : Array Oper) (Q : Exit → Act → World → Prop) (n : Nat) (ds : List Deferred) (f0 : Nat → Value) (free : Nat → Bool) (V : Nat → Value → World → Prop) (w1 : World) (i : Nat) (o : Oper) : Prop :=
  ∀ (f : Nat → Value) (w : World) (K : Act → World → Prop), Below w1.heap.size w1 w → (∀ s, free s = true → f s = f0 s) → (∀ e ∈ o.after, Region.binds .any e = true → ∀ p d, ops[e.on]? = some p → p.dst = some d → V e.on (f d) w) →
    (∀ v w', Below w.heap.size w w' → V i v w' → K ((act n ds f).put o.dst v) w') → o.wp P (act n ds f) w K Q
theorem any_kept (hap : apart ops = true) (hfree : ∀ (i : Nat) (o : Oper) d, ops[i]? = some o → o.dst = some d → free d = false)
    (hV : ∀ i v w w', V i v w → Below w.heap.size w w' → V i v w')
    (hop : ∀ (i : Nat) (o : Oper), ops[i]? = some o → Owes P ops Q n ds f0 free V w1 i o)
    (hend : ∀ (f : Nat → Value) (w : World), Below w1.heap.size w1 w → (∀ s, free s = true → f s = f0 s) → (∀ (j : Nat) (p : Oper) d, ops[j]? = some p → p.dst = some d → V j (f d) w) → Q .normal (act n ds f) w) :
    ∀ (fuel : Nat) (listed : Array Bool) (a : Act) (w : World), listed.size = ops.size → listed.toList.count false ≤ fuel → Kept n ds ops f0 free V w1 listed a w → wpAny P .any ops Q fuel listed a w := by
  have hdone : ∀ (listed : Array Bool) (a : Act) (w : World), listed.size = ops.size → Kept n ds ops f0 free V w1 listed a w → Region.ready .any ops listed = [] → Q .normal a w := by
    rintro listed a w hs ⟨f, rfl, hb, hf, hk⟩ hr
    have hall : ∀ i, i < ops.size → listed.getD i false = true := by
      intro i
      induction i using Nat.strongRecOn with
      | ind i ih =>
        intro hi
        cases hv : listed.getD i false with
        | true => rfl
        | false =>
          have ho : ops[i]? = some ops[i] := Array.getElem?_eq_getElem hi
          have hm : i ∈ Region.ready .any ops listed := by
            refine mem_ready.2 ⟨?_, _, ho, fun e he hb => ?_⟩
            · have : i < listed.size := by omega
              simp [Array.getD, this] at hv ⊢
              exact hv
            · have := (apart_at hap ho).2.2 e he hb
              exact ih e.on this (by omega)
          rw [hr] at hm
          cases hm
    exact hend f w hb hf fun j p d hj hd => hk j p d (hall j (Array.getElem?_eq_some_iff.1 hj).1) hj hd
  have hstep : ∀ (listed : Array Bool) (a : Act) (w : World) (i : Nat), listed.size = ops.size → Kept n ds ops f0 free V w1 listed a w → i ∈ Region.ready .any ops listed → wpOp P ops Q i (fun a' w' => Kept n ds ops f0 free V w1 (listed.setIfInBounds i true) a' w') a w := by
    rintro listed a w i hs ⟨f, rfl, hb, hf, hk⟩ hi
    obtain ⟨hun, o, ho, hdep⟩ := mem_ready.1 hi
    obtain ⟨hg, ⟨d, hd, _⟩, _⟩ := apart_at hap ho
    unfold wpOp
    rw [ho]
    have hw : Region.wanted o (yielded ops (act n ds f).tmps) = true := by simp [Region.wanted, hg]
    simp only [hw, if_true]
    left
    refine hop i o ho f w _ hb hf (fun e he hbi p d' hp hd' => hk e.on p d' (hdep e he hbi) hp hd') fun v w' hb' hv => ?_
    rw [hd, act_put]
    refine ⟨_, rfl, hb.trans (hb'.mono hb.size), fun s hs' => ?_, fun j p d' hj hp hd' => ?_⟩
    · have : s ≠ d := fun e => by subst e; rw [hfree i o s ho hd] at hs'; cases hs'
      simp only [upd, if_neg this]
      exact hf s hs'
    · by_cases hji : j = i
      · subst hji
        rw [ho] at hp; cases hp
        rw [hd] at hd'; cases hd'
        simp only [upd, if_true]
        exact hv
      · have hne : d' ≠ d := fun e => by subst e; exact hji (apart_eq hap hp ho hd' hd)
        simp only [upd, if_neg hne]
        refine hV j _ w w' (hk j p d' ?_ hp hd') hb'
        have hij : i ≠ j := fun e => hji e.symm
        have hjl : j < listed.size := by rw [hs]; exact (Array.getElem?_eq_some_iff.1 hp).1
        simp only [Array.getD, Array.size_setIfInBounds, hjl, dite_true, Array.getInternal_eq_getElem, Array.getElem_setIfInBounds, hij, if_false] at hj ⊢
        exact hj
  intro fuel
  induction fuel with
  | zero =>
    intro listed a w hs hc hk
    have hr : Region.ready .any ops listed = [] := by
      rw [List.eq_nil_iff_forall_not_mem]
      intro i hi
      obtain ⟨hun, o, ho, _⟩ := mem_ready.1 hi
      have hil : i < listed.size := by rw [hs]; exact (Array.getElem?_eq_some_iff.1 ho).1
      have : false ∈ listed.toList := by
        simp only [Array.getD, hil, dite_true, Array.getInternal_eq_getElem] at hun
        rw [← hun, Array.mem_toList_iff]
        exact Array.getElem_mem hil
      have := List.count_pos_iff.2 this
      omega
    exact ⟨hr, hdone listed a w hs hk hr⟩
  | succ fuel ih =>
    intro listed a w hs hc hk
    refine ⟨fun hr => hdone listed a w hs hk hr, fun i hi => ?_⟩
    refine wpOp_mono (fun a' w' h => ?_) (hstep listed a w i hs hk hi)
    refine ih _ a' w' (by simp [hs]) ?_ h
    obtain ⟨hun, o, ho, _⟩ := mem_ready.1 hi
    have hil : i < listed.size := by rw [hs]; exact (Array.getElem?_eq_some_iff.1 ho).1
    have hlf : listed.toList[i]'(by simpa using hil) = false := by
      simp only [Array.getD, hil, dite_true, Array.getInternal_eq_getElem] at hun
      simpa using hun
    rw [Array.setIfInBounds_def, dif_pos hil, Array.toList_set, List.count_set (by simpa using hil), hlf]
    show List.count false listed.toList - 1 + 0 ≤ fuel
    omega
theorem region_vals {id : Nat} {w : World} (hm : P.follows .mixedOrders = true) (hap : apart ops = true) (hfree : ∀ (i : Nat) (o : Oper) d, ops[i]? = some o → o.dst = some d → free d = false)
    (hV : ∀ i v w w', V i v w → Below w.heap.size w w' → V i v w')
    (hop : ∀ (i : Nat) (o : Oper), ops[i]? = some o → Owes P ops Q n ds f0 free V w i o)
    (hend : ∀ (f : Nat → Value) (w' : World), Below w.heap.size w w' → (∀ s, free s = true → f s = f0 s) → (∀ (j : Nat) (p : Oper) d, ops[j]? = some p → p.dst = some d → V j (f d) w') → Q .normal (act n ds f) w') :
    (Code.region id ops true).wp P Q (act n ds f0) w := by
  refine wp_region_any hm ?_
  refine any_kept hap hfree hV hop hend _ _ _ _ (by simp) (by simp) ⟨f0, rfl, (Below.refl _ _).drew, fun s _ => rfl, fun j p d hj hp hd => ?_⟩
  have : j < ops.size := (Array.getElem?_eq_some_iff.1 hp).1
  simp [Array.getD, this] at hj
end
theorem act_of (t : Array Value) (ds : List Deferred) : (⟨t, ds⟩ : Act) = act t.size ds (fun s => t.getD s undef) := by
  unfold act
  congr 1
  apply Array.ext
  · simp
  · intro i h1 h2
    simp [Array.getD, h1]
def needs (o : Oper) (j : Nat) : Bool := o.after.toList.any fun e => Region.binds .any e && e.on == j
def dstOf (ops : Array Oper) (j : Nat) : Nat := ((ops[j]?).bind (·.dst)).getD 0
/-- What one operation owes, told by numbers. -/
def Pays (P : Program) (ops : Array Oper) (Q : Exit → Act → World → Prop) (n : Nat) (ds : List Deferred) (f0 : Nat → Value) (free : Nat → Bool) (V : Nat → Value → World → Prop) (w1 : World) (i : Nat) (o : Oper) : Prop :=
  ∀ (f : Nat → Value) (w : World) (K : Act → World → Prop), Below w1.heap.size w1 w → (∀ s, free s = true → f s = f0 s) → (∀ j, needs o j = true → V j (f (dstOf ops j)) w) →
    (∀ v w', Below w.heap.size w w' → V i v w' → K ((act n ds f).put o.dst v) w') → o.wp P (act n ds f) w K Q
theorem Pays.owes {P : Program} {ops : Array Oper} {Q : Exit → Act → World → Prop} {n : Nat} {ds : List Deferred} {f0 : Nat → Value} {free : Nat → Bool} {V : Nat → Value → World → Prop} {w1 : World} {i : Nat} {o : Oper} (hap : apart ops = true) (ho : ops[i]? = some o) (h : Pays P ops Q n ds f0 free V w1 i o) : Owes P ops Q n ds f0 free V w1 i o := by
  intro f w K hb hf hd hk
  refine h f w K hb hf (fun j hj => ?_) hk
  unfold needs at hj
  rw [List.any_eq_true] at hj
  obtain ⟨e, he, h2⟩ := hj
  simp only [Bool.and_eq_true, beq_iff_eq] at h2
  obtain ⟨hb2, rfl⟩ := h2
  have hlt := (apart_at hap ho).2.2 e (Array.mem_def.2 he) hb2
  have hlt2 : e.on < ops.size := by have := (Array.getElem?_eq_some_iff.1 ho).1; omega
  have hp : ops[e.on]? = some ops[e.on] := Array.getElem?_eq_getElem hlt2
  obtain ⟨_, ⟨d, hd2, _⟩, _⟩ := apart_at hap hp
  have := hd e (Array.mem_def.2 he) hb2 _ d hp hd2
  have e3 : dstOf ops e.on = d := by simp only [dstOf, hp, Option.bind_some, hd2, Option.getD_some]
  rw [e3]
  exact this
/-- All of a list of operations, from a number on. -/
def All (R : Nat → Oper → Prop) : Nat → List Oper → Prop
  | _, [] => True
  | k, o :: r => R k o ∧ All R (k + 1) r
theorem All.get {R : Nat → Oper → Prop} : ∀ {l : List Oper} {k i : Nat} {o : Oper}, All R k l → l[i]? = some o → R (k + i) o
  | [], _, _, _, _, h => by simp at h
  | x :: r, k, 0, o, h, h2 => by simp at h2; subst h2; exact h.1
  | x :: r, k, i + 1, o, h, h2 => by
    have := All.get h.2 (show r[i]? = some o by simpa using h2)
    rw [show k + (i + 1) = k + 1 + i by omega]
    exact this
def freeOf (ops : Array Oper) (s : Nat) : Bool := ops.toList.all fun o => o.dst != some s
theorem freeOf_no {ops : Array Oper} {i : Nat} {o : Oper} {d : Nat} (ho : ops[i]? = some o) (hd : o.dst = some d) : freeOf ops d = false := by
  cases h : freeOf ops d with
  | false => rfl
  | true =>
    unfold freeOf at h
    rw [List.all_eq_true] at h
    have := h o (Array.mem_def.1 (Array.mem_of_getElem? ho))
    rw [hd] at this
    simp at this
theorem region_walk {P : Program} {os : List Oper} {Q : Exit → Act → World → Prop} {ts : Array Value} {ds : List Deferred} {id : Nat} {w : World} (n : Nat) (V : Nat → Value → World → Prop) (hn : ts.size = n) (hm : P.follows .mixedOrders = true) (hap : apart os.toArray = true)
    (hV : ∀ i v w w', V i v w → Below w.heap.size w w' → V i v w')
    (hop : All (Pays P os.toArray Q n ds (fun s => ts.getD s undef) (freeOf os.toArray) V w) 0 os)
    (hend : ∀ (f : Nat → Value) (w' : World), Below w.heap.size w w' → (∀ s, freeOf os.toArray s = true → f s = ts.getD s undef) → (∀ j, j < os.length → V j (f (dstOf os.toArray j)) w') → Q .normal (act n ds f) w') :
    (Code.region id os.toArray true).wp P Q ⟨ts, ds⟩ w := by
  subst hn
  rw [act_of]
  refine region_vals (V := V) (free := freeOf os.toArray) hm hap (fun i o d => freeOf_no) hV (fun i o ho => ?_) (fun f w' hb hf hv => hend f w' hb hf fun j hj => ?_)
  · have := All.get hop (show os[i]? = some o by simpa using ho)
    rw [Nat.zero_add] at this
    exact this.owes hap ho
  · have hp : os.toArray[j]? = some os[j] := by simp [hj]
    obtain ⟨_, ⟨d, hd2, _⟩, _⟩ := apart_at hap hp
    have e3 : dstOf os.toArray j = d := by simp only [dstOf, hp, Option.bind_some, hd2, Option.getD_some]
    rw [e3]
    exact hv j _ d hp hd2
/-- An operation that yields a value. -/
theorem pay_value {P : Program} {o : Oper} {a : Act} {w w' : World} {v : Value} {K : Act → World → Prop} {Q : Exit → Act → World → Prop} (he : (execOp a.eval o).run P w = .ok (.value v) w') (h : K (a.put o.dst v) w') : o.wp P a w K Q := by
  unfold Oper.wp
  rw [he]
  exact h
/-- The call of a Go function by its contract. -/
theorem pay_call {P : Program} {o : Oper} {a : Act} {w : World} {K : Act → World → Prop} {Q : Exit → Act → World → Prop} {f : Nat} {args : Array Value} {u : Value} {R : World → Prop} (he : (execOp a.eval o).run P w = .ok (.enter f args) w)
    (hc : Calls P f args w fun e w' => e = .returned u ∧ R w') (h : ∀ w', R w' → K (a.put o.dst u) w') : o.wp P a w K Q := by
  unfold Oper.wp
  rw [he]
  show Calls P f args w _
  refine hc.mono ?_
  rintro e w' ⟨rfl, hr⟩
  exact h w' hr
theorem pay_callE {P : Program} {o : Oper} {a : Act} {w : World} {K : Act → World → Prop} {Q : Exit → Act → World → Prop} {f : Nat} {args : Array Value} {R : Value → World → Prop} (he : (execOp a.eval o).run P w = .ok (.enter f args) w)
    (hc : Calls P f args w fun e w' => ∃ u, e = .returned u ∧ R u w') (h : ∀ u w', R u w' → K (a.put o.dst u) w') : o.wp P a w K Q := by
  unfold Oper.wp
  rw [he]
  show Calls P f args w _
  refine hc.mono ?_
  rintro e w' ⟨u, rfl, hr⟩
  exact h u w' hr
end Inv
end Go.Proofs.YtpedpdgkbmpfjaaDoor
