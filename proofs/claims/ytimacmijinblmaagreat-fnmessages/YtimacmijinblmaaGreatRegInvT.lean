/- A region that draws its order, walked once an operation: what each operation yields is told by a word on its value, whatever came before it. No program is named here. -/
import Derived.Test.YtimacmijinblmaaGreatRegInv
import Derived.Deep.RegionHeld
import Derived.WalkKit
namespace Go.Proofs.YtimacmijinblmaaGreat
open Go Go.RowKit
set_option linter.unusedVariables false
set_option linter.unusedSimpArgs false
namespace InvT
open Go.Proofs.YtimacmijinblmaaGreat.Inv (act act_eval act_get upd act_put apart apart_at apart_eq act_of needs dstOf All All.get freeOf freeOf_no)

/-- What has come up so far holds its word. -/
def Kept (T : World → World → Prop) (n : Nat) (ds : List Deferred) (ops : Array Oper) (f0 : Nat → Value) (free : Nat → Bool) (V : Nat → Value → World → Prop) (w1 : World) (listed : Array Bool) (a : Act) (w : World) : Prop :=
  ∃ f, a = act n ds f ∧ T w1 w ∧ (∀ s, free s = true → f s = f0 s) ∧ ∀ j p d, listed.getD j false = true → ops[j]? = some p → p.dst = some d → V j (f d) w
section
variable {P : Program} {ops : Array Oper} {Q : Exit → Act → World → Prop} {n : Nat} {ds : List Deferred} {f0 : Nat → Value} {free : Nat → Bool} {V : Nat → Value → World → Prop} {w1 : World} {T : World → World → Prop}
/-- What one operation owes. -/
def Owes (T : World → World → Prop) (P : Program) (ops : Array Oper) (Q : Exit → Act → World → Prop) (n : Nat) (ds : List Deferred) (f0 : Nat → Value) (free : Nat → Bool) (V : Nat → Value → World → Prop) (w1 : World) (i : Nat) (o : Oper) : Prop :=
  ∀ (f : Nat → Value) (w : World) (K : Act → World → Prop), T w1 w → (∀ s, free s = true → f s = f0 s) → (∀ e ∈ o.after, Region.binds .any e = true → ∀ p d, ops[e.on]? = some p → p.dst = some d → V e.on (f d) w) →
    (∀ v w', T w w' → V i v w' → K ((act n ds f).put o.dst v) w') → o.wp P (act n ds f) w K Q
theorem any_kept (hT : ∀ a b c, T a b → T b c → T a c) (hap : apart ops = true) (hfree : ∀ (i : Nat) (o : Oper) d, ops[i]? = some o → o.dst = some d → free d = false)
    (hV : ∀ i v w w', V i v w → T w w' → V i v w')
    (hop : ∀ (i : Nat) (o : Oper), ops[i]? = some o → Owes T P ops Q n ds f0 free V w1 i o)
    (hend : ∀ (f : Nat → Value) (w : World), T w1 w → (∀ s, free s = true → f s = f0 s) → (∀ (j : Nat) (p : Oper) d, ops[j]? = some p → p.dst = some d → V j (f d) w) → Q .normal (act n ds f) w) :
    ∀ (fuel : Nat) (listed : Array Bool) (a : Act) (w : World), listed.size = ops.size → listed.toList.count false ≤ fuel → Kept T n ds ops f0 free V w1 listed a w → wpAny P .any ops Q fuel listed a w := by
  have hdone : ∀ (listed : Array Bool) (a : Act) (w : World), listed.size = ops.size → Kept T n ds ops f0 free V w1 listed a w → Region.ready .any ops listed = [] → Q .normal a w := by
    rintro listed a w hs ⟨f, rfl, hb, hf, hk⟩ hr
    have hall : ∀ i, i < ops.size → listed.getD i false = true := by
      intro i
      induction i using Nat.strongRecOn with
      | ind i ih =>
        intro hi
        cases hv : listed.getD i false with
        | true => rfl
        | false =>
          have ho : ops[i]? = some ops[i] := Array.getElem?_eq_getElem hi
          have hm : i ∈ Region.ready .any ops listed := by
            refine mem_ready.2 ⟨?_, _, ho, fun e he hb => ?_⟩
            · have : i < listed.size := by omega
              simp [Array.getD, this] at hv ⊢
              exact hv
            · have := (apart_at hap ho).2.2 e he hb
              exact ih e.on this (by omega)
          rw [hr] at hm
          cases hm
    exact hend f w hb hf fun j p d hj hd => hk j p d (hall j (Array.getElem?_eq_some_iff.1 hj).1) hj hd
  have hstep : ∀ (listed : Array Bool) (a : Act) (w : World) (i : Nat), listed.size = ops.size → Kept T n ds ops f0 free V w1 listed a w → i ∈ Region.ready .any ops listed → wpOp P ops Q i (fun a' w' => Kept T n ds ops f0 free V w1 (listed.setIfInBounds i true) a' w') a w := by
    rintro listed a w i hs ⟨f, rfl, hb, hf, hk⟩ hi
    obtain ⟨hun, o, ho, hdep⟩ := mem_ready.1 hi
    obtain ⟨hg, ⟨d, hd, _⟩, _⟩ := apart_at hap ho
    unfold wpOp
    rw [ho]
    have hw : Region.wanted o (yielded ops (act n ds f).tmps) = true := by simp [Region.wanted, hg]
    simp only [hw, if_true]
    left
    refine hop i o ho f w _ hb hf (fun e he hbi p d' hp hd' => hk e.on p d' (hdep e he hbi) hp hd') fun v w' hb' hv => ?_
    rw [hd, act_put]
    refine ⟨_, rfl, hT _ _ _ hb hb', fun s hs' => ?_, fun j p d' hj hp hd' => ?_⟩
    · have : s ≠ d := fun e => by subst e; rw [hfree i o s ho hd] at hs'; cases hs'
      simp only [upd, if_neg this]
      exact hf s hs'
    · by_cases hji : j = i
      · subst hji
        rw [ho] at hp; cases hp
        rw [hd] at hd'; cases hd'
        simp only [upd, if_true]
        exact hv
      · have hne : d' ≠ d := fun e => by subst e; exact hji (apart_eq hap hp ho hd' hd)
        simp only [upd, if_neg hne]
        refine hV j _ w w' (hk j p d' ?_ hp hd') hb'
        have hij : i ≠ j := fun e => hji e.symm
        have hjl : j < listed.size := by rw [hs]; exact (Array.getElem?_eq_some_iff.1 hp).1
        simp only [Array.getD, Array.size_setIfInBounds, hjl, dite_true, Array.getInternal_eq_getElem, Array.getElem_setIfInBounds, hij, if_false] at hj ⊢
        exact hj
  intro fuel
  induction fuel with
  | zero =>
    intro listed a w hs hc hk
    have hr : Region.ready .any ops listed = [] := by
      rw [List.eq_nil_iff_forall_not_mem]
      intro i hi
      obtain ⟨hun, o, ho, _⟩ := mem_ready.1 hi
      have hil : i < listed.size := by rw [hs]; exact (Array.getElem?_eq_some_iff.1 ho).1
      have : false ∈ listed.toList := by
        simp only [Array.getD, hil, dite_true, Array.getInternal_eq_getElem] at hun
        rw [← hun, Array.mem_toList_iff]
        exact Array.getElem_mem hil
      have := List.count_pos_iff.2 this
      omega
    exact ⟨hr, hdone listed a w hs hk hr⟩
  | succ fuel ih =>
    intro listed a w hs hc hk
    refine ⟨fun hr => hdone listed a w hs hk hr, fun i hi => ?_⟩
    refine wpOp_mono (fun a' w' h => ?_) (hstep listed a w i hs hk hi)
    refine ih _ a' w' (by simp [hs]) ?_ h
    obtain ⟨hun, o, ho, _⟩ := mem_ready.1 hi
    have hil : i < listed.size := by rw [hs]; exact (Array.getElem?_eq_some_iff.1 ho).1
    have hlf : listed.toList[i]'(by simpa using hil) = false := by
      simp only [Array.getD, hil, dite_true, Array.getInternal_eq_getElem] at hun
      simpa using hun
    rw [Array.setIfInBounds_def, dif_pos hil, Array.toList_set, List.count_set (by simpa using hil), hlf]
    show List.count false listed.toList - 1 + 0 ≤ fuel
    omega
theorem region_vals {id : Nat} {w : World} (hT : ∀ a b c, T a b → T b c → T a c) (h0 : T w w.drew) (hm : P.follows .mixedOrders = true) (hap : apart ops = true) (hfree : ∀ (i : Nat) (o : Oper) d, ops[i]? = some o → o.dst = some d → free d = false)
    (hV : ∀ i v w w', V i v w → T w w' → V i v w')
    (hop : ∀ (i : Nat) (o : Oper), ops[i]? = some o → Owes T P ops Q n ds f0 free V w i o)
    (hend : ∀ (f : Nat → Value) (w' : World), T w w' → (∀ s, free s = true → f s = f0 s) → (∀ (j : Nat) (p : Oper) d, ops[j]? = some p → p.dst = some d → V j (f d) w') → Q .normal (act n ds f) w') :
    (Code.region id ops true).wp P Q (act n ds f0) w := by
  refine wp_region_any hm ?_
  refine any_kept hT hap hfree hV hop hend _ _ _ _ (by simp) (by simp) ⟨f0, rfl, h0, fun s _ => rfl, fun j p d hj hp hd => ?_⟩
  have : j < ops.size := (Array.getElem?_eq_some_iff.1 hp).1
  simp [Array.getD, this] at hj
end
/-- What one operation owes, told by numbers. -/
def Pays (T : World → World → Prop) (P : Program) (ops : Array Oper) (Q : Exit → Act → World → Prop) (n : Nat) (ds : List Deferred) (f0 : Nat → Value) (free : Nat → Bool) (V : Nat → Value → World → Prop) (w1 : World) (i : Nat) (o : Oper) : Prop :=
  ∀ (f : Nat → Value) (w : World) (K : Act → World → Prop), T w1 w → (∀ s, free s = true → f s = f0 s) → (∀ j, needs o j = true → V j (f (dstOf ops j)) w) →
    (∀ v w', T w w' → V i v w' → K ((act n ds f).put o.dst v) w') → o.wp P (act n ds f) w K Q
theorem Pays.owes {T : World → World → Prop} {P : Program} {ops : Array Oper} {Q : Exit → Act → World → Prop} {n : Nat} {ds : List Deferred} {f0 : Nat → Value} {free : Nat → Bool} {V : Nat → Value → World → Prop} {w1 : World} {i : Nat} {o : Oper} (hap : apart ops = true) (ho : ops[i]? = some o) (h : Pays T P ops Q n ds f0 free V w1 i o) : Owes T P ops Q n ds f0 free V w1 i o := by
  intro f w K hb hf hd hk
  refine h f w K hb hf (fun j hj => ?_) hk
  unfold needs at hj
  rw [List.any_eq_true] at hj
  obtain ⟨e, he, h2⟩ := hj
  simp only [Bool.and_eq_true, beq_iff_eq] at h2
  obtain ⟨hb2, rfl⟩ := h2
  have hlt := (apart_at hap ho).2.2 e (Array.mem_def.2 he) hb2
  have hlt2 : e.on < ops.size := by have := (Array.getElem?_eq_some_iff.1 ho).1; omega
  have hp : ops[e.on]? = some ops[e.on] := Array.getElem?_eq_getElem hlt2
  obtain ⟨_, ⟨d, hd2, _⟩, _⟩ := apart_at hap hp
  have := hd e (Array.mem_def.2 he) hb2 _ d hp hd2
  have e3 : dstOf ops e.on = d := by simp only [dstOf, hp, Option.bind_some, hd2, Option.getD_some]
  rw [e3]
  exact this
theorem region_walk {T : World → World → Prop} {P : Program} {os : List Oper} {Q : Exit → Act → World → Prop} {ts : Array Value} {ds : List Deferred} {id : Nat} {w : World} (n : Nat) (V : Nat → Value → World → Prop) (hT : ∀ a b c, T a b → T b c → T a c) (h0 : T w w.drew) (hn : ts.size = n) (hm : P.follows .mixedOrders = true) (hap : apart os.toArray = true)
    (hV : ∀ i v w w', V i v w → T w w' → V i v w')
    (hop : All (Pays T P os.toArray Q n ds (fun s => ts.getD s undef) (freeOf os.toArray) V w) 0 os)
    (hend : ∀ (f : Nat → Value) (w' : World), T w w' → (∀ s, freeOf os.toArray s = true → f s = ts.getD s undef) → (∀ j, j < os.length → V j (f (dstOf os.toArray j)) w') → Q .normal (act n ds f) w') :
    (Code.region id os.toArray true).wp P Q ⟨ts, ds⟩ w := by
  subst hn
  rw [act_of]
  refine region_vals (T := T) (V := V) hT h0 (free := freeOf os.toArray) hm hap (fun i o d => freeOf_no) hV (fun i o ho => ?_) (fun f w' hb hf hv => hend f w' hb hf fun j hj => ?_)
  · have := All.get hop (show os[i]? = some o by simpa using ho)
    rw [Nat.zero_add] at this
    exact this.owes hap ho
  · have hp : os.toArray[j]? = some os[j] := by simp [hj]
    obtain ⟨_, ⟨d, hd2, _⟩, _⟩ := apart_at hap hp
    have e3 : dstOf os.toArray j = d := by simp only [dstOf, hp, Option.bind_some, hd2, Option.getD_some]
    rw [e3]
    exact hv j _ d hp hd2
end InvT
end Go.Proofs.YtimacmijinblmaaGreat
