/- Plain facts on segments: a record read as a batch by a function, the records of a segment likewise; no program is named here. Plain facts: records come back from their frames; of frames that are cut anywhere just the whole ones do; no program is named here. Plain facts on maps: which are right, what changes make of them, what differs between two; no program is named here. Plain facts on directories behind spots: one spot put in, or taken out; no program is named here. -/
import Derived.Test.YtbcfiiilikkkeaaGreatDoorMathScan
namespace Go.Proofs.YtbcfiiilikkkeaaGreatDoor
set_option linter.unusedVariables false
namespace Scan
open Go
open Batches (by_ lt changeOk okAt ok rdMany Got got_read read_got)
def changeOkB (c : ChangeL) : Bool := decide (1 ≤ c.key.size) && decide (c.key.size ≤ 10) && decide (c.value.size ≤ 40) && (!c.gone || decide (c.value.size = 0))
theorem changeOkB_iff (c : ChangeL) : changeOkB c = true ↔ changeOk c := by
  unfold changeOkB changeOk
  cases c.gone <;> simp [Bool.and_eq_true, and_assoc]
/-- All right, ascending behind the key ahead. -/
def chsB : Option ByteArray → List ChangeL → Bool
  | _, [] => true
  | p, c :: l => changeOkB c && (match p with | none => true | some k => lt k c.key) && chsB (some c.key) l
def Ahead (p : Option ByteArray) (l : List ChangeL) : Prop := ∀ k, p = some k → ∀ h : 0 < l.length, lt k l[0].key = true
theorem chsB_iff : ∀ (l : List ChangeL) (p : Option ByteArray), chsB p l = true ↔ (∀ j, j < l.length → okAt l j) ∧ Ahead p l
  | [], p => by simp [chsB, Ahead]
  | c :: l, p => by
    have ih := chsB_iff l (some c.key)
    rw [chsB.eq_def]
    simp only [Bool.and_eq_true, ih, changeOkB_iff]
    constructor
    · rintro ⟨⟨h1, h2⟩, h3, h4⟩
      refine ⟨fun j hj => ?_, fun k hk _ => ?_⟩
      · cases j with
        | zero => exact ⟨hj, h1, fun h => absurd h (Nat.lt_irrefl _)⟩
        | succ j =>
          obtain ⟨q1, q2, q3⟩ := h3 j (by simpa using hj)
          refine ⟨hj, q2, fun _ => ⟨by simp at hj ⊢; omega, ?_⟩⟩
          cases j with
          | zero => exact h4 _ rfl q1
          | succ j => exact (q3 (by omega)).2
      · subst hk; exact h2
    · rintro ⟨h1, h2⟩
      obtain ⟨_, q1, _⟩ := h1 0 (by simp)
      refine ⟨⟨q1, ?_⟩, fun j hj => ?_, fun k hk h => ?_⟩
      · cases p with
        | none => rfl
        | some k => exact h2 k rfl (by simp)
      · obtain ⟨q1, q2, q3⟩ := h1 (j + 1) (by simpa using hj)
        refine ⟨hj, q2, fun h => ⟨by omega, ?_⟩⟩
        have := (q3 (by omega)).2
        cases j with
        | zero => omega
        | succ j => exact this
      · cases hk
        obtain ⟨q1, q2, q3⟩ := h1 1 (by simpa using h)
        exact (q3 (by omega)).2
def okB (st : Nat) (l : List ChangeL) : Bool := decide (st ≤ 100000) && decide (l.length ≤ 60) && chsB none l
theorem okB_iff (st : Nat) (l : List ChangeL) : okB st l = true ↔ ok (st : Int) l := by
  unfold okB ok
  rw [Bool.and_eq_true, Bool.and_eq_true, chsB_iff, decide_eq_true_eq, decide_eq_true_eq]
  constructor
  · rintro ⟨⟨h1, h2⟩, h3, _⟩; exact ⟨by omega, h2, h3⟩
  · rintro ⟨h1, h2, h3⟩; exact ⟨⟨by omega, h2⟩, h3, fun k hk => by cases hk⟩
/-- A record read as a batch. -/
def batOf (t : ByteArray) : Option (Nat × List ChangeL) :=
  match Words.rd (by_ t) 0 with
  | none => none
  | some (st, a) => match Words.rd (by_ t) a with
    | none => none
    | some (n, b) => match rdMany t n b with
      | none => none
      | some (l, e) => if e = t.size ∧ okB st l = true then some (st, l) else none
theorem batOf_iff {t : ByteArray} {st : Nat} {l : List ChangeL} : batOf t = some (st, l) ↔ Got t st l := by
  constructor
  · intro h
    unfold batOf at h
    split at h
    · cases h
    · rename_i st' a h1
      split at h
      · cases h
      · rename_i n b h2
        split at h
        · cases h
        · rename_i l' e h3
          split at h
          · rename_i hc
            simp only [Option.some.injEq, Prod.mk.injEq] at h
            obtain ⟨rfl, rfl⟩ := h
            obtain ⟨rfl, ho⟩ := hc
            exact read_got h1 h2 h3 ((okB_iff _ _).1 ho)
          · cases h
  · intro h
    obtain ⟨a, b, h1, h2, h3⟩ := got_read h
    unfold batOf
    rw [h1]
    simp only
    rw [h2]
    simp only
    rw [h3]
    simp only
    simp [(okB_iff _ _).2 h.2]
theorem batOf_none {t : ByteArray} (h : batOf t = none) : ∀ st l, ¬ Got t st l := fun st l hg => by rw [batOf_iff.2 hg] at h; cases h
/-- The batches among the records, up to the first that is none. -/
def itemsOf : List (List UInt8) → List It
  | [] => []
  | r :: rs => match batOf ⟨r.toArray⟩ with
    | none => []
    | some (st, l) => ⟨r, st, l⟩ :: itemsOf rs
theorem reads_items : ∀ recs : List (List UInt8), Reads recs (itemsOf recs)
  | [] => ⟨Nat.le_refl _, fun i h => absurd h (Nat.not_lt_zero _), fun h => absurd h (Nat.not_lt_zero _)⟩
  | r :: rs => by
    rw [itemsOf]
    cases hb : batOf ⟨r.toArray⟩ with
    | none => exact ⟨Nat.zero_le _, fun i hi => absurd hi (Nat.not_lt_zero _), fun _ st l hg => batOf_none hb st l hg⟩
    | some p =>
      obtain ⟨st, l⟩ := p
      obtain ⟨h1, h2, h3⟩ := reads_items rs
      refine ⟨by simpa using h1, fun i hi hi2 => ?_, fun hlt st' l' => ?_⟩
      · cases i with
        | zero => exact ⟨rfl, batOf_iff.1 hb⟩
        | succ i => exact h2 i (by simpa using hi) (by simpa using hi2)
      · exact h3 (by simpa using hlt) st' l'
end Scan
end Go.Proofs.YtbcfiiilikkkeaaGreatDoor
namespace Go.Proofs.YtbcfiiilikkkeaaGreatDoor.Words

theorem frame_len (t : List UInt8) : (frame t).length = (var t.length).length + 4 + t.length := by
  simp [frame, Sums.four_len]; omega
def okRec (t : List UInt8) : Prop := 1 ≤ t.length ∧ t.length ≤ 9000
/-- Frames one behind the other. -/
def frames : List (List UInt8) → List UInt8
  | [] => []
  | t :: ts => frame t ++ frames ts
end Go.Proofs.YtbcfiiilikkkeaaGreatDoor.Words
namespace Go.Proofs.YtbcfiiilikkkeaaGreatDoor
structure PairL where
  key : ByteArray
  value : ByteArray
namespace Maps
open Go Batches
def AscC (l : List ChangeL) : Prop := l.Pairwise fun p q => lt p.key q.key = true
theorem asc_of {α : Type} (f : α → ByteArray) : ∀ (l : List α), (∀ j (h : j < l.length), 0 < j → lt (f l[j - 1]) (f l[j]) = true) → l.Pairwise fun p q => lt (f p) (f q) = true
  | [], _ => List.Pairwise.nil
  | [x], _ => List.pairwise_singleton _ _
  | x :: y :: l, h => by
    have ih := asc_of f (y :: l) (fun j hj h0 => by
      have := h (j + 1) (by simpa using hj) (by omega)
      obtain ⟨i, rfl⟩ : ∃ i, j = i + 1 := ⟨j - 1, by omega⟩
      simpa using this)
    refine List.Pairwise.cons (fun z hz => ?_) ih
    have h1 : lt (f x) (f y) = true := h 1 (by simp) (by omega)
    rcases List.mem_cons.1 hz with rfl | hz
    · exact h1
    · exact lt_trans h1 (List.rel_of_pairwise_cons ih hz)
theorem asc_at {α : Type} (f : α → ByteArray) {l : List α} (h : l.Pairwise fun p q => lt (f p) (f q) = true) {i j : Nat} (hj : j < l.length) (hij : i < j) : lt (f l[i]) (f l[j]) = true := List.pairwise_iff_getElem.1 h i j (by omega) hj hij
theorem okC_iff (st : Int) (l : List ChangeL) : Batches.ok st l ↔ (0 ≤ st ∧ st ≤ 100000) ∧ l.length ≤ 60 ∧ (∀ p ∈ l, changeOk p) ∧ AscC l := by
  constructor
  · rintro ⟨h0, h1, h2⟩
    refine ⟨h0, h1, fun p hp => ?_, asc_of ChangeL.key l fun j hj h0 => ?_⟩
    · obtain ⟨j, hj, rfl⟩ := List.getElem_of_mem hp
      obtain ⟨_, h3, _⟩ := h2 j hj
      exact h3
    · obtain ⟨_, _, h3⟩ := h2 j hj
      exact (h3 h0).2
  · rintro ⟨h0, h1, h2, h3⟩
    exact ⟨h0, h1, fun j hj => ⟨hj, h2 _ (List.getElem_mem _), fun h0 => ⟨by omega, asc_at ChangeL.key h3 hj (by omega)⟩⟩⟩

def same (x y : ByteArray) : Bool := x.toList == y.toList
theorem same_iff (x y : ByteArray) : same x y = true ↔ x = y := by
  unfold same
  rw [beq_iff_eq, toList_by, toList_by]
  exact ⟨by_inj, fun h => by rw [h]⟩
/-- What a change leaves of its key. -/
def left (c : ChangeL) : List PairL := if c.gone then [] else [⟨c.key, c.value⟩]
/-- The change of one key. -/
def cutK (m : List PairL) (k : ByteArray) : List PairL := m.filter fun p => !same p.key k
def putK (m : List PairL) (k v : ByteArray) : List PairL := (m.filter fun p => lt p.key k) ++ (⟨k, v⟩ :: m.filter fun p => lt k p.key)
def stepC (m : List PairL) (c : ChangeL) : List PairL := if c.gone then cutK m c.key else putK m c.key c.value
theorem same_lt {a b : ByteArray} (h : lt a b = true) : same a b = false ∧ same b a = false := by
  constructor
  · cases e : same a b
    · rfl
    · rw [(same_iff _ _).1 e, lt_irrefl] at h; cases h
  · cases e : same b a
    · rfl
    · rw [(same_iff _ _).1 e, lt_irrefl] at h; cases h
end Maps
end Go.Proofs.YtbcfiiilikkkeaaGreatDoor
namespace Go.Proofs.YtbcfiiilikkkeaaGreatDoor
set_option linter.unusedVariables false
namespace Dirs
open Go
open Batches (by_ lt lt_iff lt_irrefl lt_trans lt_total lt_asymm by_inj)
def asc (l : List SpotL) : Prop := l.Pairwise fun e f => lt e.key f.key = true
def put1 (l : List SpotL) (x : SpotL) : List SpotL := l.filter (fun y => lt y.key x.key) ++ ((if x.size = -1 then [] else [x]) ++ l.filter (fun y => lt x.key y.key))
def more : List SpotL → List SpotL → List SpotL
  | l, [] => l
  | l, x :: xs => more (put1 l x) xs
theorem more_snoc : ∀ (xs l : List SpotL) (x : SpotL), more l (xs ++ [x]) = put1 (more l xs) x
  | [], l, x => rfl
  | y :: xs, l, x => by rw [List.cons_append, more, more, more_snoc xs]
theorem more_take {l xs : List SpotL} {k : Nat} (hk : k < xs.length) : more l (xs.take (k + 1)) = put1 (more l (xs.take k)) xs[k] := by
  rw [List.take_succ_eq_append_getElem hk, more_snoc]
theorem ne_lt {a b : ByteArray} (h : a ≠ b) : lt a b = true ∨ lt b a = true := by
  cases h1 : lt a b
  · cases h2 : lt b a
    · exact absurd (lt_total h1 h2) h
    · exact Or.inr rfl
  · exact Or.inl rfl
theorem put1_mem {l : List SpotL} {x y : SpotL} : y ∈ put1 l x ↔ (y ∈ l ∧ y.key ≠ x.key) ∨ (x.size ≠ -1 ∧ y = x) := by
  unfold put1
  simp only [List.mem_append, List.mem_filter]
  constructor
  · rintro (⟨h1, h2⟩ | h | ⟨h1, h2⟩)
    · exact Or.inl ⟨h1, fun e => by rw [e, lt_irrefl] at h2; cases h2⟩
    · split at h
      · exact (List.not_mem_nil h).elim
      · rename_i hs; exact Or.inr ⟨hs, List.mem_singleton.1 h⟩
    · exact Or.inl ⟨h1, fun e => by rw [e, lt_irrefl] at h2; cases h2⟩
  · rintro (⟨h1, h2⟩ | ⟨h1, rfl⟩)
    · rcases ne_lt h2 with h | h
      · exact Or.inl ⟨h1, h⟩
      · exact Or.inr (Or.inr ⟨h1, h⟩)
    · exact Or.inr (Or.inl (by rw [if_neg h1]; simp))
theorem asc_put1 {l : List SpotL} (h : asc l) (x : SpotL) : asc (put1 l x) := by
  unfold asc put1
  refine List.pairwise_append.2 ⟨h.filter _, List.pairwise_append.2 ⟨?_, h.filter _, ?_⟩, ?_⟩
  · split
    · exact List.Pairwise.nil
    · exact List.pairwise_singleton _ _
  · intro a ha b hb
    split at ha
    · exact (List.not_mem_nil ha).elim
    · rw [List.mem_singleton.1 ha]; exact (List.mem_filter.1 hb).2
  · intro a ha b hb
    have h1 : lt a.key x.key = true := (List.mem_filter.1 ha).2
    rcases List.mem_append.1 hb with hb | hb
    · split at hb
      · exact (List.not_mem_nil hb).elim
      · rw [List.mem_singleton.1 hb]; exact h1
    · exact lt_trans h1 (List.mem_filter.1 hb).2
theorem asc_more : ∀ (xs l : List SpotL), asc l → asc (more l xs)
  | [], l, h => h
  | x :: xs, l, h => asc_more xs _ (asc_put1 h x)
theorem two_filter (x : SpotL) : ∀ l : List SpotL, (l.filter (fun y => lt y.key x.key)).length + (l.filter (fun y => lt x.key y.key)).length ≤ l.length
  | [] => by simp
  | y :: l => by
    have ih := two_filter x l
    cases h1 : lt y.key x.key
    · cases h2 : lt x.key y.key
      · simp only [List.filter_cons, h1, h2, List.length_cons]
        simp only [Bool.false_eq_true, if_false]; omega
      · simp only [List.filter_cons, h1, h2, List.length_cons]
        simp only [Bool.false_eq_true, if_false, if_true, List.length_cons]; omega
    · have h2 : lt x.key y.key = false := lt_asymm h1
      simp only [List.filter_cons, h1, h2, List.length_cons]
      simp only [Bool.false_eq_true, if_false, if_true, List.length_cons]; omega
theorem put1_len (l : List SpotL) (x : SpotL) : (put1 l x).length ≤ l.length + 1 := by
  have := two_filter x l
  unfold put1
  simp only [List.length_append]
  have h2 : (if x.size = -1 then [] else [x]).length ≤ 1 := by split <;> simp
  omega
theorem more_len : ∀ (xs l : List SpotL), (more l xs).length ≤ l.length + xs.length
  | [], l => by simp [more]
  | x :: xs, l => by
    have := more_len xs (put1 l x)
    have := put1_len l x
    rw [more, List.length_cons]
    omega
theorem more_take_len {l xs : List SpotL} (k : Nat) : (more l (xs.take k)).length ≤ l.length + xs.length := by
  have := more_len (xs.take k) l
  rw [List.length_take] at this
  omega
theorem more_all {p : SpotL → Prop} : ∀ (xs l : List SpotL), (∀ c ∈ l, p c) → (∀ c ∈ xs, p c) → ∀ c ∈ more l xs, p c
  | [], l, h1, _ => h1
  | x :: xs, l, h1, h2 => more_all xs _ (fun c hc => by
      rcases put1_mem.1 hc with ⟨h, _⟩ | ⟨_, rfl⟩
      · exact h1 c h
      · exact h2 _ List.mem_cons_self) (fun c hc => h2 c (List.mem_cons_of_mem _ hc))
theorem put1_last {l : List SpotL} {x : SpotL} (h : ∀ y ∈ l, lt y.key x.key = true) (hx : x.size ≠ -1) : put1 l x = l ++ [x] := by
  unfold put1
  rw [List.filter_eq_self.2 h, if_neg hx, List.filter_eq_nil_iff.2 (fun y hy => by rw [lt_asymm (h y hy)]; simp)]
  simp
theorem more_self {l : List SpotL} (h : asc l) (hs : ∀ c ∈ l, c.size ≠ -1) : more [] l = l := by
  have key : ∀ k, k ≤ l.length → more [] (l.take k) = l.take k := by
    intro k
    induction k with
    | zero => intro _; simp [more]
    | succ k ih =>
      intro hk
      have hlt : k < l.length := by omega
      rw [more_take hlt, ih (by omega), put1_last (fun y hy => ?_) (hs _ (List.getElem_mem _)), List.take_succ_eq_append_getElem hlt]
      obtain ⟨i, hi, rfl⟩ := List.getElem_of_mem hy
      rw [List.getElem_take]
      rw [List.length_take] at hi
      exact List.pairwise_iff_getElem.1 h i k _ _ (by omega)
  have := key l.length (Nat.le_refl _)
  rwa [List.take_length] at this
theorem ok_asc {l : List SpotL} (h : ok l) : asc l := by
  refine List.pairwise_iff_getElem.2 ?_
  have step : ∀ i j (hi : i < l.length) (hj : j < l.length), i < j → lt l[i].key l[j].key = true := by
    intro i j
    induction j with
    | zero => intro _ _ h; omega
    | succ j ih =>
      intro hi hj hij
      obtain ⟨_, _, q⟩ := h.2 (j + 1) hj
      obtain ⟨q1, q2⟩ := q (by omega)
      simp only [Nat.add_sub_cancel] at q2
      rcases Nat.lt_succ_iff_lt_or_eq.1 hij with hh | hh
      · exact lt_trans (ih hi (by omega) hh) q2
      · subst hh; exact q2
  exact step
theorem ok_size {l : List SpotL} (h : ok l) : ∀ c ∈ l, c.size ≠ -1 := fun c hc => by
  obtain ⟨_, _, _, h4, _⟩ := ok_mem h c hc
  omega
theorem asc_nodup {l : List SpotL} (h : asc l) : (l.map fun f => by_ f.key).Nodup := List.pairwise_map.2 (List.Pairwise.imp (fun {a b} hab e => by rw [by_inj e, lt_irrefl] at hab; cases hab) h)
/-- What DirMore is to answer. -/
def MoreIs (l xs cs : List SpotL) (R : Bool) : Prop := (ok l ∧ ok (more l xs) ∧ cs = more l xs ∧ R = true) ∨ (¬ (ok l ∧ ok (more l xs)) ∧ cs = [] ∧ R = false)
end Dirs
end Go.Proofs.YtbcfiiilikkkeaaGreatDoor
