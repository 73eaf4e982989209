/- A region whose last operation waits for all the others: they come in whatever order, then that one; no program is named here. -/
import Derived.Deep.RegionHeld
namespace Go.Proofs.YtpedpdgkbmpfjaaDoor
open Go
set_option linter.unusedVariables false
set_option linter.unusedSimpArgs false

/-- Q, with another word for the plain end. -/
def NX (Q : Exit → Act → World → Prop) (R : Act → World → Prop) : Exit → Act → World → Prop := fun e a w => match e with
  | .normal => R a w
  | e => Q e a w
theorem upon_nx {P : Program} {o : Oper} {a : Act} {K : Act → World → Prop} {Q : Exit → Act → World → Prop} {R : Act → World → Prop} (r : Result Next) : o.upon P a K (NX Q R) r = o.upon P a K Q r := by
  rcases r with ⟨n, w⟩ | ⟨x, w⟩
  · cases n <;> rfl
  · cases x <;> rfl
theorem letsOut_nx {Q : Exit → Act → World → Prop} {R : Act → World → Prop} : LetsOut (NX Q R) = LetsOut Q := rfl
section
variable {P : Program} {ops0 : Array Oper} {st : Oper} {Q : Exit → Act → World → Prop} {md : Region.Mode}
theorem get_old {i : Nat} (hi : i < ops0.size) : (ops0.push st)[i]? = ops0[i]? := by rw [Array.getElem?_push]; simp; omega
theorem get_last : (ops0.push st)[ops0.size]? = some st := by simp
theorem wpOp_nx {i : Nat} (hi : i < ops0.size) (hg : ∀ o, ops0[i]? = some o → o.guard = none) {R : Act → World → Prop} {K : Act → World → Prop} {a : Act} {w : World} (h : wpOp P ops0 (NX Q R) i K a w) : wpOp P (ops0.push st) Q i K a w := by
  unfold wpOp at *
  rw [get_old hi]
  cases ho : ops0[i]? with
  | none => rw [ho] at h; exact h
  | some o =>
    rw [ho] at h
    have h1 := hg o ho
    have w1 : ∀ x, Region.wanted o x = true := fun x => by simp [Region.wanted, h1]
    simp only [w1, if_true] at h ⊢
    rcases h with h | ⟨h, h2⟩
    · left
      unfold Oper.wp at *
      rw [upon_nx] at h
      exact h
    · right
      rw [letsOut_nx] at h2
      exact ⟨h, h2⟩
variable {listed : Array Bool}
theorem getD_old {i : Nat} {d : Bool} (hi : i < listed.size) : (listed.push false).getD i d = listed.getD i d := by
  have h2 : i < listed.size + 1 := by omega
  simp [Array.getD, hi, h2, Array.getElem_push]
theorem getD_new {d : Bool} : (listed.push false).getD listed.size d = false := by
  simp [Array.getD]
theorem getD_past {i : Nat} {d : Bool} (hi : ¬ i < listed.size + 1) : (listed.push false).getD i d = d := by
  simp [Array.getD, hi]
theorem ready_old {i : Nat} (hs : listed.size = ops0.size) (hi : i < ops0.size) : i ∈ Region.ready md (ops0.push st) (listed.push false) ↔ i ∈ Region.ready md ops0 listed := by
  rw [mem_ready, mem_ready, getD_old (by omega), get_old hi]
  constructor
  · rintro ⟨h1, o, h2, h3⟩
    refine ⟨h1, o, h2, fun e he hb => ?_⟩
    have h4 := h3 e he hb
    rcases Nat.lt_trichotomy e.on listed.size with h | h | h
    · rwa [getD_old h] at h4
    · rw [h, getD_new] at h4; cases h4
    · rw [getD_past (by omega)] at h4; cases h4
  · rintro ⟨h1, o, h2, h3⟩
    refine ⟨h1, o, h2, fun e he hb => ?_⟩
    have h4 := h3 e he hb
    have hl : e.on < listed.size := by
      rcases Nat.lt_or_ge e.on listed.size with h | h
      · exact h
      · have : ¬ e.on < listed.size := by omega
        simp [Array.getD, this] at h4
    rw [getD_old hl]
    exact h4
theorem ready_bound {i : Nat} (h : i ∈ Region.ready md ops0 listed) : i < ops0.size := by
  obtain ⟨_, o, h2, _⟩ := mem_ready.1 h
  exact (Array.getElem?_eq_some_iff.1 h2).1
theorem all_of_none (hs : listed.size = ops0.size) (hac : ∀ (i : Nat) (o : Oper), ops0[i]? = some o → ∀ e ∈ o.after, Region.binds md e = true → e.on < i) (hr : Region.ready md ops0 listed = []) : ∀ i, i < ops0.size → listed.getD i false = true := by
  intro i
  induction i using Nat.strongRecOn with
  | ind i ih =>
    intro hi
    cases hv : listed.getD i false with
    | true => rfl
    | false =>
      have ho : ops0[i]? = some ops0[i] := Array.getElem?_eq_getElem hi
      have hm : i ∈ Region.ready md ops0 listed := by
        refine mem_ready.2 ⟨?_, _, ho, fun e he hb => ?_⟩
        · have : i < listed.size := by omega
          simp [Array.getD, this] at hv ⊢
          exact hv
        · have := hac i _ ho e he hb
          exact ih e.on this (by omega)
      rw [hr] at hm
      cases hm
theorem none_of_all (hs : listed.size = ops0.size) (h : ∀ i, i < ops0.size → listed.getD i false = true) : Region.ready md ops0 listed = [] := by
  rw [List.eq_nil_iff_forall_not_mem]
  intro i hi
  have hb := ready_bound hi
  have h1 := (mem_ready.1 hi).1
  have h2 := h i hb
  have hl : i < listed.size := by omega
  simp [Array.getD, hl] at h1 h2
  rw [h1] at h2
  cases h2
theorem set_push {i : Nat} (hi : i < listed.size) : (listed.push false).setIfInBounds i true = (listed.setIfInBounds i true).push false := by
  apply Array.ext_getElem?
  intro j
  simp only [Array.getElem?_setIfInBounds, Array.getElem?_push, Array.size_push, Array.size_setIfInBounds]
  by_cases h1 : i = j
  · subst h1
    have : ¬ i = listed.size := by omega
    simp [hi, this]
    omega
  · simp [h1]
theorem wpAny_last (hg : ∀ (i : Nat) (o : Oper), ops0[i]? = some o → o.guard = none) (hac : ∀ (i : Nat) (o : Oper), ops0[i]? = some o → ∀ e ∈ o.after, Region.binds md e = true → e.on < i)
    (hst : ∀ i, i < ops0.size → ∃ e ∈ st.after, Region.binds md e = true ∧ e.on = i) (hst2 : ∀ e ∈ st.after, e.on < ops0.size) :
    ∀ (fuel : Nat) (listed : Array Bool) (a : Act) (w : World), listed.size = ops0.size →
      wpAny P md ops0 (NX Q fun a w => wpOp P (ops0.push st) Q ops0.size (fun a' w' => Q .normal a' w') a w) fuel listed a w → wpAny P md (ops0.push st) Q (fuel + 1) (listed.push false) a w := by
  intro fuel
  induction fuel with
  | zero =>
    intro listed a w hs H
    have hall := all_of_none hs hac H.1
    have hn : ops0.size ∈ Region.ready md (ops0.push st) (listed.push false) := by
      refine mem_ready.2 ⟨by rw [← hs]; exact getD_new, st, get_last, fun e he hb => ?_⟩
      rw [getD_old (by rw [hs]; exact hst2 e he)]
      exact hall _ (hst2 e he)
    refine ⟨fun h => (by rw [h] at hn; cases hn), fun i hi => ?_⟩
    by_cases hin : i = ops0.size
    · subst hin
      refine wpOp_mono (fun a' w' h => ?_) H.2
      refine ⟨none_of_all (by simp [hs]) (fun j hj => ?_), h⟩
      simp only [Array.size_push] at hj
      rcases Nat.lt_or_ge j ops0.size with hj2 | hj2
      · have h3 := hall j hj2
        have hl : j < listed.size := by omega
        have hne : ¬ ops0.size = j := by omega
        simp only [Array.getD, Array.size_setIfInBounds, Array.size_push] at h3 ⊢
        rw [dif_pos hl] at h3
        rw [dif_pos (by omega), Array.getInternal_eq_getElem, Array.getElem_setIfInBounds (by simp; omega), if_neg hne, Array.getElem_push_lt hl]
        exact h3
      · obtain rfl : j = ops0.size := by omega
        simp [Array.getD, hs]
    · have hlt : i < ops0.size := by
        have h1 := ready_bound hi
        simp only [Array.size_push] at h1
        omega
      have := (ready_old hs hlt).1 hi
      rw [H.1] at this
      cases this
  | succ fuel ih =>
    intro listed a w hs H
    by_cases hall : ∀ i, i < ops0.size → listed.getD i false = true
    · have hr := none_of_all (md := md) hs hall
      have hn : ops0.size ∈ Region.ready md (ops0.push st) (listed.push false) := by
        refine mem_ready.2 ⟨by rw [← hs]; exact getD_new, st, get_last, fun e he hb => ?_⟩
        rw [getD_old (by rw [hs]; exact hst2 e he)]
        exact hall _ (hst2 e he)
      refine ⟨fun h => (by rw [h] at hn; cases hn), fun i hi => ?_⟩
      by_cases hin : i = ops0.size
      · subst hin
        refine wpOp_mono (fun a' w' h => ?_) (H.1 hr)
        have hnone : Region.ready md (ops0.push st) ((listed.push false).setIfInBounds ops0.size true) = [] := by
          refine none_of_all (by simp [hs]) (fun j hj => ?_)
          simp only [Array.size_push] at hj
          rcases Nat.lt_or_ge j ops0.size with hj2 | hj2
          · have h3 := hall j hj2
            have hl : j < listed.size := by omega
            have hne : ¬ ops0.size = j := by omega
            simp only [Array.getD, Array.size_setIfInBounds, Array.size_push] at h3 ⊢
            rw [dif_pos hl] at h3
            rw [dif_pos (by omega), Array.getInternal_eq_getElem, Array.getElem_setIfInBounds (by simp; omega), if_neg hne, Array.getElem_push_lt hl]
            exact h3
          · obtain rfl : j = ops0.size := by omega
            simp [Array.getD, hs]
        exact ⟨fun _ => h, fun j hj => by rw [hnone] at hj; cases hj⟩
      · have hlt : i < ops0.size := by
          have h1 := ready_bound hi
          simp only [Array.size_push] at h1
          omega
        have := (ready_old hs hlt).1 hi
        rw [hr] at this
        cases this
    · have hne : Region.ready md ops0 listed ≠ [] := fun h => hall (all_of_none hs hac h)
      refine ⟨fun h => ?_, fun i hi => ?_⟩
      · obtain ⟨i, hi⟩ := List.exists_mem_of_ne_nil _ hne
        have := (ready_old (st := st) hs (ready_bound hi)).2 hi
        rw [h] at this
        cases this
      · have hin : i ≠ ops0.size := fun h => by
          subst h
          refine hall (fun j hj => ?_)
          obtain ⟨e, he, hb, hej⟩ := hst j hj
          obtain ⟨_, o, h2, h3⟩ := mem_ready.1 hi
          rw [get_last] at h2
          cases h2
          have h4 := h3 e he hb
          rw [hej, getD_old (by omega)] at h4
          exact h4
        have hlt : i < ops0.size := by
          have h1 := ready_bound hi
          simp only [Array.size_push] at h1
          omega
        have hi0 := (ready_old hs hlt).1 hi
        have h1 := wpOp_nx (st := st) hlt (hg i) (H.2 i hi0)
        refine wpOp_mono (fun a' w' h => ?_) h1
        rw [set_push (by omega)]
        exact ih _ a' w' (by simp [hs]) h
end
/-- Does the last operation wait for all the others? -/
def lastOk (os : List Oper) : Bool := match os.getLast? with
  | none => false
  | some st => (List.range (os.length - 1)).all (fun i => match os.dropLast[i]? with
      | some o => o.guard.isNone && o.after.toList.all (fun e => !Region.binds .any e || decide (e.on < i))
      | none => true) && (List.range (os.length - 1)).all (fun i => st.after.toList.any (fun e => Region.binds .any e && e.on == i)) && st.after.toList.all (fun e => decide (e.on < os.length - 1))
theorem wp_region_last {P : Program} {id : Nat} {os : List Oper} {Q : Exit → Act → World → Prop} {a : Act} {w : World} {S : World → Prop} (hm : P.follows .mixedOrders = true) (hok : lastOk os = true) (hS : S w.drew)
    (h : S w.drew → wpAnyH P .any os.dropLast.toArray (NX Q fun a w => wpOp P os.toArray Q (os.length - 1) (fun a' w' => Q .normal a' w') a w) S (os.length - 1) (Array.replicate (os.length - 1) false) a w.drew) : (Code.region id os.toArray true).wp P Q a w := by
  refine wp_region_any hm ?_
  unfold lastOk at hok
  cases hl : os.getLast? with
  | none => rw [hl] at hok; cases hok
  | some st =>
    rw [hl] at hok
    simp only [Bool.and_eq_true, List.all_eq_true, List.mem_range, List.any_eq_true, decide_eq_true_eq, beq_iff_eq] at hok
    obtain ⟨⟨h1, h2⟩, h3⟩ := hok
    have hne : os ≠ [] := fun h => by rw [h] at hl; cases hl
    have hgl : os.getLast hne = st := by rw [List.getLast?_eq_some_getLast hne] at hl; exact Option.some.inj hl
    have hos : os.dropLast ++ [st] = os := by rw [← hgl]; exact List.dropLast_concat_getLast hne
    have hsz : os.dropLast.toArray.size = os.length - 1 := by simp
    have hpush : os.dropLast.toArray.push st = os.toArray := by
      rw [List.push_toArray, hos]
    have hlen : os.length = os.length - 1 + 1 := by
      have := congrArg List.length hos
      simp at this
      omega
    have hgo : ∀ (i : Nat) (o : Oper), os.dropLast.toArray[i]? = some o → o.guard = none ∧ ∀ e ∈ o.after, Region.binds .any e = true → e.on < i := fun i o ho => by
      have hi : i < os.length - 1 := by
        have := (Array.getElem?_eq_some_iff.1 ho).1
        simpa using this
      have h4 := h1 i hi
      rw [List.getElem?_toArray] at ho
      rw [ho] at h4
      simp only [Bool.and_eq_true, List.all_eq_true, decide_eq_true_eq, Option.isNone_iff_eq_none] at h4
      exact ⟨h4.1, fun e he hb => by
        have h5 := h4.2 e (Array.mem_def.1 he)
        simp only [Bool.or_eq_true, Bool.not_eq_true', decide_eq_true_eq] at h5
        rcases h5 with h5 | h5
        · rw [h5] at hb; cases hb
        · exact h5⟩
    have key := wpAny_last (P := P) (Q := Q) (md := .any) (ops0 := os.dropLast.toArray) (st := st) (fun i o ho => (hgo i o ho).1) (fun i o ho => (hgo i o ho).2)
      (fun i hi => by
        obtain ⟨e, he, hb⟩ := h2 i (by simpa using hi)
        exact ⟨e, Array.mem_def.2 he, hb.1, hb.2⟩)
      (fun e he => by rw [hsz]; exact h3 e (Array.mem_def.1 he))
      (os.length - 1) (Array.replicate (os.length - 1) false) a w.drew (by simp) (by rw [hpush, hsz]; exact wpAny_of_held _ _ _ _ (h hS))
    rw [hpush] at key
    have e1 : os.toArray.size = os.length - 1 + 1 := by simp; exact hlen
    have e2 : Array.replicate os.toArray.size false = (Array.replicate (os.length - 1) false).push false := by rw [e1, Array.replicate_succ]
    rw [e2, e1]
    exact key
end Go.Proofs.YtpedpdgkbmpfjaaDoor
