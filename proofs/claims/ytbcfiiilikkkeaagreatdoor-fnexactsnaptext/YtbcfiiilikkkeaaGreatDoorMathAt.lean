/- Plain facts on segments: a record read as a batch by a function, the records of a segment likewise; no program is named here. Plain facts: records come back from their frames; of frames that are cut anywhere just the whole ones do; no program is named here. Plain facts on maps: which are right, what changes make of them, what differs between two; no program is named here. Plain facts on directories behind spots: one spot put in, or taken out; no program is named here. Plain facts on a segment's text: its batches, where they end, what is told behind a batch that is added to it, or cut; no program is named here. Plain facts on places in segments: the bytes that stand where a directory says are the values of the batches; no program is named here. Rows of files in memory: two cells each; no program is named but for its types. Plain facts on disks as lists of files: which are right. Plain facts on raw writes. Plain facts on disks: which file stands under a name, behind a put and behind a drop; no program is named here. -/
import Derived.Test.YtbcfiiilikkkeaaGreatDoorMathScan
import Derived.Test.YtbcfiiilikkkeaaGreatDoorProg
import Derived.WalkKit
import Derived.WalkSpells
import Derived.WalkLawsBesides
import Derived.Laws.IdiomStrings
import Derived.Laws.BytesArg
import Derived.Laws.BitsAllLaws
namespace Go.Proofs.YtbcfiiilikkkeaaGreatDoor
set_option linter.unusedVariables false
namespace Scan
open Go
open Batches (by_ lt changeOk okAt ok rdMany Got got_read read_got)
def changeOkB (c : ChangeL) : Bool := decide (1 ≤ c.key.size) && decide (c.key.size ≤ 10) && decide (c.value.size ≤ 40) && (!c.gone || decide (c.value.size = 0))
theorem changeOkB_iff (c : ChangeL) : changeOkB c = true ↔ changeOk c := by
  unfold changeOkB changeOk
  cases c.gone <;> simp [Bool.and_eq_true, and_assoc]
/-- All right, ascending behind the key ahead. -/
def chsB : Option ByteArray → List ChangeL → Bool
  | _, [] => true
  | p, c :: l => changeOkB c && (match p with | none => true | some k => lt k c.key) && chsB (some c.key) l
def Ahead (p : Option ByteArray) (l : List ChangeL) : Prop := ∀ k, p = some k → ∀ h : 0 < l.length, lt k l[0].key = true
theorem chsB_iff : ∀ (l : List ChangeL) (p : Option ByteArray), chsB p l = true ↔ (∀ j, j < l.length → okAt l j) ∧ Ahead p l
  | [], p => by simp [chsB, Ahead]
  | c :: l, p => by
    have ih := chsB_iff l (some c.key)
    rw [chsB.eq_def]
    simp only [Bool.and_eq_true, ih, changeOkB_iff]
    constructor
    · rintro ⟨⟨h1, h2⟩, h3, h4⟩
      refine ⟨fun j hj => ?_, fun k hk _ => ?_⟩
      · cases j with
        | zero => exact ⟨hj, h1, fun h => absurd h (Nat.lt_irrefl _)⟩
        | succ j =>
          obtain ⟨q1, q2, q3⟩ := h3 j (by simpa using hj)
          refine ⟨hj, q2, fun _ => ⟨by simp at hj ⊢; omega, ?_⟩⟩
          cases j with
          | zero => exact h4 _ rfl q1
          | succ j => exact (q3 (by omega)).2
      · subst hk; exact h2
    · rintro ⟨h1, h2⟩
      obtain ⟨_, q1, _⟩ := h1 0 (by simp)
      refine ⟨⟨q1, ?_⟩, fun j hj => ?_, fun k hk h => ?_⟩
      · cases p with
        | none => rfl
        | some k => exact h2 k rfl (by simp)
      · obtain ⟨q1, q2, q3⟩ := h1 (j + 1) (by simpa using hj)
        refine ⟨hj, q2, fun h => ⟨by omega, ?_⟩⟩
        have := (q3 (by omega)).2
        cases j with
        | zero => omega
        | succ j => exact this
      · cases hk
        obtain ⟨q1, q2, q3⟩ := h1 1 (by simpa using h)
        exact (q3 (by omega)).2
def okB (st : Nat) (l : List ChangeL) : Bool := decide (st ≤ 100000) && decide (l.length ≤ 60) && chsB none l
theorem okB_iff (st : Nat) (l : List ChangeL) : okB st l = true ↔ ok (st : Int) l := by
  unfold okB ok
  rw [Bool.and_eq_true, Bool.and_eq_true, chsB_iff, decide_eq_true_eq, decide_eq_true_eq]
  constructor
  · rintro ⟨⟨h1, h2⟩, h3, _⟩; exact ⟨by omega, h2, h3⟩
  · rintro ⟨h1, h2, h3⟩; exact ⟨⟨by omega, h2⟩, h3, fun k hk => by cases hk⟩
/-- A record read as a batch. -/
def batOf (t : ByteArray) : Option (Nat × List ChangeL) :=
  match Words.rd (by_ t) 0 with
  | none => none
  | some (st, a) => match Words.rd (by_ t) a with
    | none => none
    | some (n, b) => match rdMany t n b with
      | none => none
      | some (l, e) => if e = t.size ∧ okB st l = true then some (st, l) else none
theorem batOf_iff {t : ByteArray} {st : Nat} {l : List ChangeL} : batOf t = some (st, l) ↔ Got t st l := by
  constructor
  · intro h
    unfold batOf at h
    split at h
    · cases h
    · rename_i st' a h1
      split at h
      · cases h
      · rename_i n b h2
        split at h
        · cases h
        · rename_i l' e h3
          split at h
          · rename_i hc
            simp only [Option.some.injEq, Prod.mk.injEq] at h
            obtain ⟨rfl, rfl⟩ := h
            obtain ⟨rfl, ho⟩ := hc
            exact read_got h1 h2 h3 ((okB_iff _ _).1 ho)
          · cases h
  · intro h
    obtain ⟨a, b, h1, h2, h3⟩ := got_read h
    unfold batOf
    rw [h1]
    simp only
    rw [h2]
    simp only
    rw [h3]
    simp only
    simp [(okB_iff _ _).2 h.2]
theorem batOf_none {t : ByteArray} (h : batOf t = none) : ∀ st l, ¬ Got t st l := fun st l hg => by rw [batOf_iff.2 hg] at h; cases h
/-- The batches among the records, up to the first that is none. -/
def itemsOf : List (List UInt8) → List It
  | [] => []
  | r :: rs => match batOf ⟨r.toArray⟩ with
    | none => []
    | some (st, l) => ⟨r, st, l⟩ :: itemsOf rs
theorem reads_items : ∀ recs : List (List UInt8), Reads recs (itemsOf recs)
  | [] => ⟨Nat.le_refl _, fun i h => absurd h (Nat.not_lt_zero _), fun h => absurd h (Nat.not_lt_zero _)⟩
  | r :: rs => by
    rw [itemsOf]
    cases hb : batOf ⟨r.toArray⟩ with
    | none => exact ⟨Nat.zero_le _, fun i hi => absurd hi (Nat.not_lt_zero _), fun _ st l hg => batOf_none hb st l hg⟩
    | some p =>
      obtain ⟨st, l⟩ := p
      obtain ⟨h1, h2, h3⟩ := reads_items rs
      refine ⟨by simpa using h1, fun i hi hi2 => ?_, fun hlt st' l' => ?_⟩
      · cases i with
        | zero => exact ⟨rfl, batOf_iff.1 hb⟩
        | succ i => exact h2 i (by simpa using hi) (by simpa using hi2)
      · exact h3 (by simpa using hlt) st' l'
end Scan
end Go.Proofs.YtbcfiiilikkkeaaGreatDoor
namespace Go.Proofs.YtbcfiiilikkkeaaGreatDoor.Words

theorem frame_len (t : List UInt8) : (frame t).length = (var t.length).length + 4 + t.length := by
  simp [frame, Sums.four_len]; omega
def okRec (t : List UInt8) : Prop := 1 ≤ t.length ∧ t.length ≤ 9000
/-- Frames one behind the other. -/
def frames : List (List UInt8) → List UInt8
  | [] => []
  | t :: ts => frame t ++ frames ts
end Go.Proofs.YtbcfiiilikkkeaaGreatDoor.Words
namespace Go.Proofs.YtbcfiiilikkkeaaGreatDoor
namespace Maps
open Go Batches
def AscC (l : List ChangeL) : Prop := l.Pairwise fun p q => lt p.key q.key = true
theorem asc_of {α : Type} (f : α → ByteArray) : ∀ (l : List α), (∀ j (h : j < l.length), 0 < j → lt (f l[j - 1]) (f l[j]) = true) → l.Pairwise fun p q => lt (f p) (f q) = true
  | [], _ => List.Pairwise.nil
  | [x], _ => List.pairwise_singleton _ _
  | x :: y :: l, h => by
    have ih := asc_of f (y :: l) (fun j hj h0 => by
      have := h (j + 1) (by simpa using hj) (by omega)
      obtain ⟨i, rfl⟩ : ∃ i, j = i + 1 := ⟨j - 1, by omega⟩
      simpa using this)
    refine List.Pairwise.cons (fun z hz => ?_) ih
    have h1 : lt (f x) (f y) = true := h 1 (by simp) (by omega)
    rcases List.mem_cons.1 hz with rfl | hz
    · exact h1
    · exact lt_trans h1 (List.rel_of_pairwise_cons ih hz)
theorem asc_at {α : Type} (f : α → ByteArray) {l : List α} (h : l.Pairwise fun p q => lt (f p) (f q) = true) {i j : Nat} (hj : j < l.length) (hij : i < j) : lt (f l[i]) (f l[j]) = true := List.pairwise_iff_getElem.1 h i j (by omega) hj hij
theorem okC_iff (st : Int) (l : List ChangeL) : Batches.ok st l ↔ (0 ≤ st ∧ st ≤ 100000) ∧ l.length ≤ 60 ∧ (∀ p ∈ l, changeOk p) ∧ AscC l := by
  constructor
  · rintro ⟨h0, h1, h2⟩
    refine ⟨h0, h1, fun p hp => ?_, asc_of ChangeL.key l fun j hj h0 => ?_⟩
    · obtain ⟨j, hj, rfl⟩ := List.getElem_of_mem hp
      obtain ⟨_, h3, _⟩ := h2 j hj
      exact h3
    · obtain ⟨_, _, h3⟩ := h2 j hj
      exact (h3 h0).2
  · rintro ⟨h0, h1, h2, h3⟩
    exact ⟨h0, h1, fun j hj => ⟨hj, h2 _ (List.getElem_mem _), fun h0 => ⟨by omega, asc_at ChangeL.key h3 hj (by omega)⟩⟩⟩

end Maps
end Go.Proofs.YtbcfiiilikkkeaaGreatDoor
namespace Go.Proofs.YtbcfiiilikkkeaaGreatDoor
set_option linter.unusedVariables false
namespace Dirs
open Go
open Batches (by_ lt lt_iff lt_irrefl lt_trans lt_total lt_asymm by_inj)
def asc (l : List SpotL) : Prop := l.Pairwise fun e f => lt e.key f.key = true
def put1 (l : List SpotL) (x : SpotL) : List SpotL := l.filter (fun y => lt y.key x.key) ++ ((if x.size = -1 then [] else [x]) ++ l.filter (fun y => lt x.key y.key))
def more : List SpotL → List SpotL → List SpotL
  | l, [] => l
  | l, x :: xs => more (put1 l x) xs
theorem more_snoc : ∀ (xs l : List SpotL) (x : SpotL), more l (xs ++ [x]) = put1 (more l xs) x
  | [], l, x => rfl
  | y :: xs, l, x => by rw [List.cons_append, more, more, more_snoc xs]
theorem more_take {l xs : List SpotL} {k : Nat} (hk : k < xs.length) : more l (xs.take (k + 1)) = put1 (more l (xs.take k)) xs[k] := by
  rw [List.take_succ_eq_append_getElem hk, more_snoc]
theorem ne_lt {a b : ByteArray} (h : a ≠ b) : lt a b = true ∨ lt b a = true := by
  cases h1 : lt a b
  · cases h2 : lt b a
    · exact absurd (lt_total h1 h2) h
    · exact Or.inr rfl
  · exact Or.inl rfl
theorem put1_mem {l : List SpotL} {x y : SpotL} : y ∈ put1 l x ↔ (y ∈ l ∧ y.key ≠ x.key) ∨ (x.size ≠ -1 ∧ y = x) := by
  unfold put1
  simp only [List.mem_append, List.mem_filter]
  constructor
  · rintro (⟨h1, h2⟩ | h | ⟨h1, h2⟩)
    · exact Or.inl ⟨h1, fun e => by rw [e, lt_irrefl] at h2; cases h2⟩
    · split at h
      · exact (List.not_mem_nil h).elim
      · rename_i hs; exact Or.inr ⟨hs, List.mem_singleton.1 h⟩
    · exact Or.inl ⟨h1, fun e => by rw [e, lt_irrefl] at h2; cases h2⟩
  · rintro (⟨h1, h2⟩ | ⟨h1, rfl⟩)
    · rcases ne_lt h2 with h | h
      · exact Or.inl ⟨h1, h⟩
      · exact Or.inr (Or.inr ⟨h1, h⟩)
    · exact Or.inr (Or.inl (by rw [if_neg h1]; simp))
theorem asc_put1 {l : List SpotL} (h : asc l) (x : SpotL) : asc (put1 l x) := by
  unfold asc put1
  refine List.pairwise_append.2 ⟨h.filter _, List.pairwise_append.2 ⟨?_, h.filter _, ?_⟩, ?_⟩
  · split
    · exact List.Pairwise.nil
    · exact List.pairwise_singleton _ _
  · intro a ha b hb
    split at ha
    · exact (List.not_mem_nil ha).elim
    · rw [List.mem_singleton.1 ha]; exact (List.mem_filter.1 hb).2
  · intro a ha b hb
    have h1 : lt a.key x.key = true := (List.mem_filter.1 ha).2
    rcases List.mem_append.1 hb with hb | hb
    · split at hb
      · exact (List.not_mem_nil hb).elim
      · rw [List.mem_singleton.1 hb]; exact h1
    · exact lt_trans h1 (List.mem_filter.1 hb).2
theorem asc_more : ∀ (xs l : List SpotL), asc l → asc (more l xs)
  | [], l, h => h
  | x :: xs, l, h => asc_more xs _ (asc_put1 h x)
theorem two_filter (x : SpotL) : ∀ l : List SpotL, (l.filter (fun y => lt y.key x.key)).length + (l.filter (fun y => lt x.key y.key)).length ≤ l.length
  | [] => by simp
  | y :: l => by
    have ih := two_filter x l
    cases h1 : lt y.key x.key
    · cases h2 : lt x.key y.key
      · simp only [List.filter_cons, h1, h2, List.length_cons]
        simp only [Bool.false_eq_true, if_false]; omega
      · simp only [List.filter_cons, h1, h2, List.length_cons]
        simp only [Bool.false_eq_true, if_false, if_true, List.length_cons]; omega
    · have h2 : lt x.key y.key = false := lt_asymm h1
      simp only [List.filter_cons, h1, h2, List.length_cons]
      simp only [Bool.false_eq_true, if_false, if_true, List.length_cons]; omega
theorem put1_len (l : List SpotL) (x : SpotL) : (put1 l x).length ≤ l.length + 1 := by
  have := two_filter x l
  unfold put1
  simp only [List.length_append]
  have h2 : (if x.size = -1 then [] else [x]).length ≤ 1 := by split <;> simp
  omega
theorem more_len : ∀ (xs l : List SpotL), (more l xs).length ≤ l.length + xs.length
  | [], l => by simp [more]
  | x :: xs, l => by
    have := more_len xs (put1 l x)
    have := put1_len l x
    rw [more, List.length_cons]
    omega
theorem more_take_len {l xs : List SpotL} (k : Nat) : (more l (xs.take k)).length ≤ l.length + xs.length := by
  have := more_len (xs.take k) l
  rw [List.length_take] at this
  omega
theorem more_all {p : SpotL → Prop} : ∀ (xs l : List SpotL), (∀ c ∈ l, p c) → (∀ c ∈ xs, p c) → ∀ c ∈ more l xs, p c
  | [], l, h1, _ => h1
  | x :: xs, l, h1, h2 => more_all xs _ (fun c hc => by
      rcases put1_mem.1 hc with ⟨h, _⟩ | ⟨_, rfl⟩
      · exact h1 c h
      · exact h2 _ List.mem_cons_self) (fun c hc => h2 c (List.mem_cons_of_mem _ hc))
theorem put1_last {l : List SpotL} {x : SpotL} (h : ∀ y ∈ l, lt y.key x.key = true) (hx : x.size ≠ -1) : put1 l x = l ++ [x] := by
  unfold put1
  rw [List.filter_eq_self.2 h, if_neg hx, List.filter_eq_nil_iff.2 (fun y hy => by rw [lt_asymm (h y hy)]; simp)]
  simp
theorem more_self {l : List SpotL} (h : asc l) (hs : ∀ c ∈ l, c.size ≠ -1) : more [] l = l := by
  have key : ∀ k, k ≤ l.length → more [] (l.take k) = l.take k := by
    intro k
    induction k with
    | zero => intro _; simp [more]
    | succ k ih =>
      intro hk
      have hlt : k < l.length := by omega
      rw [more_take hlt, ih (by omega), put1_last (fun y hy => ?_) (hs _ (List.getElem_mem _)), List.take_succ_eq_append_getElem hlt]
      obtain ⟨i, hi, rfl⟩ := List.getElem_of_mem hy
      rw [List.getElem_take]
      rw [List.length_take] at hi
      exact List.pairwise_iff_getElem.1 h i k _ _ (by omega)
  have := key l.length (Nat.le_refl _)
  rwa [List.take_length] at this
theorem ok_asc {l : List SpotL} (h : ok l) : asc l := by
  refine List.pairwise_iff_getElem.2 ?_
  have step : ∀ i j (hi : i < l.length) (hj : j < l.length), i < j → lt l[i].key l[j].key = true := by
    intro i j
    induction j with
    | zero => intro _ _ h; omega
    | succ j ih =>
      intro hi hj hij
      obtain ⟨_, _, q⟩ := h.2 (j + 1) hj
      obtain ⟨q1, q2⟩ := q (by omega)
      simp only [Nat.add_sub_cancel] at q2
      rcases Nat.lt_succ_iff_lt_or_eq.1 hij with hh | hh
      · exact lt_trans (ih hi (by omega) hh) q2
      · subst hh; exact q2
  exact step
theorem ok_size {l : List SpotL} (h : ok l) : ∀ c ∈ l, c.size ≠ -1 := fun c hc => by
  obtain ⟨_, _, _, h4, _⟩ := ok_mem h c hc
  omega
theorem asc_nodup {l : List SpotL} (h : asc l) : (l.map fun f => by_ f.key).Nodup := List.pairwise_map.2 (List.Pairwise.imp (fun {a b} hab e => by rw [by_inj e, lt_irrefl] at hab; cases hab) h)
/-- What DirMore is to answer. -/
def MoreIs (l xs cs : List SpotL) (R : Bool) : Prop := (ok l ∧ ok (more l xs) ∧ cs = more l xs ∧ R = true) ∨ (¬ (ok l ∧ ok (more l xs)) ∧ cs = [] ∧ R = false)
end Dirs
end Go.Proofs.YtbcfiiilikkkeaaGreatDoor
namespace Go.Proofs.YtbcfiiilikkkeaaGreatDoor
set_option linter.unusedVariables false
namespace Scan
open Go
open Words (frame frames okRec)
open Batches (by_ short lt Got changeOk)
def recs (l : List UInt8) : List (List UInt8) := Words.un (l.length + 1) l 0
def its (l : List UInt8) : List It := itemsOf (recs l)
def segEnd (l : List UInt8) : Nat := itEnd 0 (its l)
def segSpots (seg : Int) (l : List UInt8) : List SpotL := itSpots seg 0 (its l)
def segStamp (l : List UInt8) : Int := itStamp (-1) (its l)
/-- Nothing stands behind its batches. -/
def Full (l : List UInt8) : Prop := segEnd l = l.length
theorem recEnd_frames : ∀ (ts : List (List UInt8)) (a : Nat), recEnd a ts = a + (frames ts).length
  | [], a => rfl
  | t :: ts, a => by
    rw [recEnd, recEnd_frames ts, frames, List.length_append, Words.frame_len]
    unfold hdr
    omega
theorem fr_frame {l : List UInt8} {a e : Nat} {r : List UInt8} (h : Words.fr l a = some (r, e)) : frame r = (l.drop a).take (e - a) := by
  unfold Words.fr at h
  split at h
  · cases h
  · rename_i n b hf
    split at h
    · rename_i hs
      simp only [Option.some.injEq, Prod.mk.injEq] at h
      obtain ⟨rfl, rfl⟩ := h
      exact (Words.frame_iff hf).2 hs
    · cases h
theorem un_frames : ∀ (f : Nat) (l : List UInt8) (a : Nat), a ≤ l.length → (l.drop a).take (frames (Words.un f l a)).length = frames (Words.un f l a) ∧ a + (frames (Words.un f l a)).length ≤ l.length
  | 0, l, a, ha => ⟨by simp [Words.un, frames], by simpa [Words.un, frames] using ha⟩
  | f + 1, l, a, ha => by
    cases h : Words.fr l a with
    | none => rw [(Words.un_end (f + 1) h).1]; exact ⟨by simp [frames], by simpa [frames] using ha⟩
    | some p =>
      obtain ⟨r, e⟩ := p
      have h1 := Words.fr_some h
      have h2 := fr_frame h
      obtain ⟨ih, ih2⟩ := un_frames f l e h1.2
      have hl : (frame r).length = e - a := by rw [h2, List.length_take, List.length_drop]; omega
      rw [(Words.un_more f h).1, frames, List.length_append, hl]
      refine ⟨?_, by omega⟩
      rw [List.take_add, List.drop_drop, show a + (e - a) = e by omega, ih, ← h2]
/-- The batches end within the text; each is the record of its place. -/
theorem segEnd_le (l : List UInt8) : segEnd l ≤ l.length := by
  have hr := reads_items (recs l)
  have h1 := reads_end hr (itemsOf (recs l)).length (Nat.le_refl _) 0
  rw [List.take_length] at h1
  have h2 := recEnd_take (rs := recs l) (a := 0) (itemsOf (recs l)).length
  obtain ⟨h3, h4⟩ := un_frames (l.length + 1) l 0 (Nat.zero_le _)
  have h5 := recEnd_frames (recs l) 0
  have h4' : 0 + (frames (recs l)).length ≤ l.length := h4
  unfold segEnd its
  omega
theorem one_len {c : ChangeL} (h : changeOk c) : (Batches.one c).length ≤ 120 := by
  obtain ⟨_, h1, h2, _⟩ := h
  have e1 := Batches.short_len c.key
  have e2 := Batches.short_len c.value
  rw [Batches.one, List.length_append, List.length_cons]
  omega
theorem many_len : ∀ l : List ChangeL, (∀ c ∈ l, changeOk c) → (Batches.many l).length ≤ 120 * l.length
  | [], _ => by simp [Batches.many]
  | c :: l, h => by
    have h1 := one_len (h c List.mem_cons_self)
    have h2 := many_len l (fun x hx => h x (List.mem_cons_of_mem _ hx))
    rw [Batches.many, List.length_append, List.length_cons]
    omega
theorem ok_all {st : Int} {l : List ChangeL} (h : Batches.ok st l) : ∀ c ∈ l, changeOk c := ((Maps.okC_iff st l).1 h).2.2.1
theorem text_rec {st : Nat} {l : List ChangeL} (h : Batches.ok (st : Int) l) : okRec (Batches.text st l) := by
  have h1 := many_len l (ok_all h)
  have h2 := h.2.1
  have h3 := h.1.2
  have h4 := Dirs.var_len5 (n := st) (by omega)
  have h5 := Dirs.var_len5 (n := l.length) (by omega)
  have h6 := Words.rd_back st (by omega) [] []
  have h7 := (Words.rd_front h6).1
  simp only [List.length_nil, Nat.zero_add] at h7
  unfold okRec Batches.text
  rw [List.length_append, List.length_append]
  omega
/-- Each item of a text is a right batch. -/
theorem its_got (l : List UInt8) : ∀ x ∈ its l, x.bytes = Batches.text x.st x.ch ∧ Batches.ok (x.st : Int) x.ch := fun x hx => by
  obtain ⟨i, hi, rfl⟩ := List.getElem_of_mem hx
  have hr := reads_items (recs l)
  obtain ⟨e, h1, h2⟩ := hr.2.1 i hi (Nat.lt_of_lt_of_le hi hr.1)
  exact ⟨e.trans h1, h2⟩
end Scan
end Go.Proofs.YtbcfiiilikkkeaaGreatDoor
namespace Go.Proofs.YtbcfiiilikkkeaaGreatDoor
set_option linter.unusedVariables false
namespace Scan
open Go
open Batches (by_ short lt lt_irrefl lt_asymm lt_trans changeOk one many flag)

open Dirs (asc put1 more)
theorem by_len (s : ByteArray) : (by_ s).length = s.size := Words.size_list s
theorem more_app : ∀ (xs ys l : List SpotL), more l (xs ++ ys) = more (more l xs) ys
  | [], ys, l => rfl
  | x :: xs, ys, l => by rw [List.cons_append, more, more, more_app xs]
end Scan
end Go.Proofs.YtbcfiiilikkkeaaGreatDoor
namespace Go.Proofs.YtbcfiiilikkkeaaGreatDoor
open Go.RowKit

abbrev FileL := ByteArray × ByteArray
/-- A slice at a whose elements are these files. -/
def FilesAt (w : World) (a : Option Addr) (g off : Nat) (l : List FileL) : Prop :=
  (0 < l.length → a = some ⟨g, off, none⟩) ∧ ∀ j (hj : j < l.length), w.cell? ⟨g, off + j * 2, none⟩ = some (.string l[j].1) ∧ w.cell? ⟨g, off + j * 2 + 1, none⟩ = some (.string l[j].2)
theorem FilesAt.lt {w : World} {a : Option Addr} {g off : Nat} {l : List FileL} (h : FilesAt w a g off l) (hl : 0 < l.length) : g < w.heap.size := by
  have := World.block_lt_of_cell? w _ (h.2 0 hl).1
  exact this
theorem FilesAt.kept {w w' : World} {a : Option Addr} {g off : Nat} {l : List FileL} (h : FilesAt w a g off l) (hb : Below w.heap.size w w') : FilesAt w' a g off l := by
  refine ⟨h.1, fun j hj => ?_⟩
  have hg := h.lt (by omega)
  rw [hb.cell (p := ⟨g, off + j * 2, none⟩) hg, hb.cell (p := ⟨g, off + j * 2 + 1, none⟩) hg]
  exact h.2 j hj
/-- How much files hold. -/
def tot : List FileL → Nat
  | [] => 0
  | f :: r => f.1.size + f.2.size + 1 + tot r
theorem tot_app : ∀ (l m : List FileL), tot (l ++ m) = tot l + tot m
  | [], m => by simp [tot]
  | f :: r, m => by simp only [List.cons_append, tot, tot_app r m]; omega
theorem tot_len : ∀ l : List FileL, l.length ≤ tot l
  | [] => by simp [tot]
  | f :: r => by have := tot_len r; simp only [List.length_cons, tot]; omega
theorem tot_mem : ∀ {l : List FileL} {f : FileL}, f ∈ l → f.1.size + f.2.size + 1 ≤ tot l
  | x :: r, f, h => by
    rcases List.mem_cons.1 h with rfl | h
    · simp only [tot]; omega
    · have := tot_mem h; simp only [tot]; omega
theorem tot_take {l : List FileL} {j : Nat} (hj : j < l.length) : tot (l.take (j + 1)) = tot (l.take j) + (l[j].1.size + l[j].2.size + 1) := by
  rw [List.take_succ_eq_append_getElem hj, tot_app]; simp [tot]
/-- The cells of a row of files. -/
def cellsF (l : List FileL) : List Value := l.flatMap fun f => [.string f.1, .string f.2]
theorem cellsF_at : ∀ (l : List FileL) (j : Nat) (hj : j < l.length), (cellsF l)[j * 2]? = some (.string l[j].1) ∧ (cellsF l)[j * 2 + 1]? = some (.string l[j].2)
  | f :: r, 0, _ => ⟨rfl, rfl⟩
  | f :: r, j + 1, hj => by
    have := cellsF_at r j (by simpa using hj)
    simpa [cellsF, Nat.add_mul, Nat.add_assoc] using this
theorem cellsF_set : ∀ (l : List FileL) (j : Nat) (f : FileL), cellsF (l.set j f) = ((cellsF l).set (j * 2) (.string f.1)).set (j * 2 + 1) (.string f.2)
  | [], j, f => by simp [cellsF]
  | x :: r, 0, f => by simp [cellsF]
  | x :: r, j + 1, f => by
    have := cellsF_set r j f
    simp only [cellsF, List.set_cons_succ, List.flatMap_cons, List.cons_append, List.nil_append, Nat.add_mul] at *
    rw [this]
theorem cellsF_empty : ∀ n : Nat, cellsF (List.replicate n (ByteArray.empty, ByteArray.empty)) = List.replicate (n * 2) (.string ByteArray.empty)
  | 0 => rfl
  | n + 1 => by
    have := cellsF_empty n
    rw [show (n + 1) * 2 = n * 2 + 1 + 1 by omega]
    simp only [cellsF, List.replicate_succ, List.flatMap_cons, List.cons_append, List.nil_append] at *
    rw [this]
theorem made_files (n : Nat) : (madeCells #[Value.string ByteArray.empty, Value.string ByteArray.empty] (n * 2)).toList = cellsF (List.replicate n (ByteArray.empty, ByteArray.empty)) := by
  rw [cellsF_empty]
  have key : ∀ i : Nat, (#[Value.string ByteArray.empty, Value.string ByteArray.empty] : Array Value)[i % 2]! = .string ByteArray.empty := by
    intro i
    rcases Nat.mod_two_eq_zero_or_one i with h | h <;> rw [h] <;> rfl
  simp only [madeCells, Array.toList_map, show (#[Value.string ByteArray.empty, Value.string ByteArray.empty] : Array Value).size = 2 from rfl, key]
  rw [List.map_const']
  simp
theorem cell_set2 {w : World} {p q : Addr} {u x y : Value} (hq : w.cell? q = some u) : ((w.setCell p x).setCell q y).cell? q = some y := by
  obtain ⟨v', h⟩ := cell?_setCell_some (p := p) (x := x) hq
  exact World.cell?_setCell_same _ _ _ h
theorem Tryz.info164 : (Tryz.prog.info? 164).map (fun i => (i.zero, i.size, i.bytes)) = some (some (.agg #[.string ByteArray.empty, .string ByteArray.empty]), 2, 32) := by kernel_rfl
theorem own_files {w : World} {base : Nat} {e : TypeId} {g n cap : Nat} {l : List FileL} (hn : l.length = n) (h : w.ownsRow base e 2 (.slice (some ⟨g, 0, none⟩) n cap) n (cellsF l)) : FilesAt w (some ⟨g, 0, none⟩) g 0 l := by
  refine ⟨fun _ => rfl, fun j hj => ?_⟩
  rw [Nat.zero_add, h.cellAt (j * 2) (by omega), h.cellAt (j * 2 + 1) (by omega)]
  exact cellsF_at l j hj
end Go.Proofs.YtbcfiiilikkkeaaGreatDoor
namespace Go.Proofs.YtbcfiiilikkkeaaGreatDoor.Disks
open Go
/-- Texts byte by byte, a beginning being less. -/
def lt (a b : ByteArray) : Bool := Op.bytesLess a.toList b.toList
def fileOk (f : FileL) : Prop := 1 ≤ f.1.size ∧ f.1.size ≤ 12 ∧ f.2.size ≤ 20000
def fileOkB (f : FileL) : Bool := decide (1 ≤ f.1.size ∧ f.1.size ≤ 12 ∧ f.2.size ≤ 20000)
theorem fileOkB_iff (f : FileL) : fileOkB f = true ↔ fileOk f := decide_eq_true_iff
/-- Is the file at j right, and behind the one ahead of it? -/
def okAt (l : List FileL) (j : Nat) : Prop := ∃ hj : j < l.length, fileOk l[j] ∧ (0 < j → ∃ hi : j - 1 < l.length, lt l[j - 1].1 l[j].1 = true)
def ok (l : List FileL) : Prop := l.length ≤ 30 ∧ ∀ j, j < l.length → okAt l j
/-- The same, reckoned. -/
def okAtB (l : List FileL) (j : Nat) : Bool := match l[j]? with
  | none => false
  | some f => fileOkB f && (j == 0 || match l[j - 1]? with | none => false | some e => lt e.1 f.1)
def okB (l : List FileL) : Bool := decide (l.length ≤ 30) && (List.range l.length).all (okAtB l)
theorem okAtB_iff (l : List FileL) (j : Nat) : okAtB l j = true ↔ okAt l j := by
  unfold okAtB okAt
  by_cases hj : j < l.length
  · rw [List.getElem?_eq_getElem hj]
    simp only [Bool.and_eq_true, fileOkB_iff, Bool.or_eq_true, beq_iff_eq]
    constructor
    · rintro ⟨h1, h2⟩
      refine ⟨hj, h1, fun hp => ⟨by omega, ?_⟩⟩
      rcases h2 with h2 | h2
      · omega
      · rw [List.getElem?_eq_getElem (show j - 1 < l.length by omega)] at h2; exact h2
    · rintro ⟨_, h1, h2⟩
      refine ⟨h1, ?_⟩
      by_cases hz : j = 0
      · exact Or.inl hz
      · right
        obtain ⟨hi, h3⟩ := h2 (by omega)
        rw [List.getElem?_eq_getElem hi]; exact h3
  · rw [List.getElem?_eq_none (by omega)]
    simp [hj]
theorem okB_iff (l : List FileL) : okB l = true ↔ ok l := by
  unfold okB ok
  simp only [Bool.and_eq_true, decide_eq_true_eq, List.all_eq_true, List.mem_range, okAtB_iff]
theorem ok_step {l : List FileL} {k : Nat} (h : ∀ j, j < k → okAt l j) (hk : okAt l k) : ∀ j, j < k + 1 → okAt l j := fun j hj => by
  rcases Nat.lt_succ_iff_lt_or_eq.1 hj with h1 | h1
  · exact h j h1
  · rw [h1]; exact hk
theorem not_ok {l : List FileL} {j : Nat} (hj : j < l.length) (h : ¬ okAt l j) : ¬ ok l := fun h2 => h (h2.2 j hj)
/-- Is this the file's name? -/
def nameIs (n : ByteArray) (f : FileL) : Bool := f.1.toList == n.toList
def At (l : List FileL) (n : ByteArray) (k : Nat) : Prop := ∃ hk : k < l.length, nameIs n l[k] = true ∧ ∀ j (hj : j < k), nameIs n (l[j]'(Nat.lt_trans hj hk)) = false
def None (l : List FileL) (n : ByteArray) : Prop := ∀ j (hj : j < l.length), nameIs n l[j] = false
theorem at_or_none (l : List FileL) (n : ByteArray) : None l n ∨ ∃ k, At l n k := by
  cases h : l.findIdx? (nameIs n) with
  | none =>
    left
    intro j hj
    have := List.findIdx?_eq_none_iff.1 h l[j] (List.getElem_mem _)
    simpa using this
  | some k =>
    right
    obtain ⟨hk, h1, h2⟩ := List.findIdx?_eq_some_iff_getElem.1 h
    exact ⟨k, hk, h1, fun j hj => by simpa using h2 j hj⟩
theorem at_unique {l : List FileL} {n : ByteArray} {k k' : Nat} (h : At l n k) (h' : At l n k') : k = k' := by
  obtain ⟨hk, h1, h2⟩ := h
  obtain ⟨hk', h1', h2'⟩ := h'
  rcases Nat.lt_trichotomy k k' with q | q | q
  · have := h2' k q; rw [h1] at this; cases this
  · exact q
  · have := h2 k' q; rw [h1'] at this; cases this
/-- Greater, as the model of the language has it. -/
def gt (a b : ByteArray) : Bool := !(Op.bytesLess a.toList b.toList || a.toList == b.toList)
/-- A file put among others, by name. -/
def put (l : List FileL) (f : FileL) : List FileL := l.filter (fun e => lt e.1 f.1) ++ [f] ++ l.filter (fun e => gt e.1 f.1)
/-- The text of a file, empty when there is none. -/
def TextIs (l : List FileL) (n t : ByteArray) : Prop := (None l n ∧ t = ⟨#[]⟩) ∨ ∃ k, ∃ h : k < l.length, At l n k ∧ t = l[k].2
/-- What FileAt tells. -/
def FileIs (l : List FileL) (n : ByteArray) : Option ByteArray → Prop
  | none => ¬ ok l ∨ None l n
  | some t => ok l ∧ ∃ k, ∃ h : k < l.length, At l n k ∧ t = l[k].2
end Go.Proofs.YtbcfiiilikkkeaaGreatDoor.Disks
namespace Go.Proofs.YtbcfiiilikkkeaaGreatDoor.Disks
open Go
structure RawL where
  kind : Int
  name : ByteArray
  to : ByteArray
  text : ByteArray
def textOf (l : List FileL) (n : ByteArray) : ByteArray := match l.find? (nameIs n) with | some f => f.2 | none => ⟨#[]⟩
end Go.Proofs.YtbcfiiilikkkeaaGreatDoor.Disks
namespace Go.Proofs.YtbcfiiilikkkeaaGreatDoor.Disks
set_option linter.unusedVariables false
open Go
open Batches (by_ by_inj toList_by lt_irrefl lt_asymm lt_trans lt_total)
theorem nameIs_iff_kn {n : ByteArray} {f : FileL} : nameIs n f = true ↔ f.1 = n := by
  unfold nameIs
  rw [beq_iff_eq, toList_by, toList_by]
  exact ⟨by_inj, fun h => by rw [h]⟩
/-- The text of the file of a name. -/
def fileAt (l : List FileL) (n : ByteArray) : Option ByteArray := (l.find? (nameIs n)).map Prod.snd
theorem textOf_at (l : List FileL) (n : ByteArray) : textOf l n = (fileAt l n).getD ⟨#[]⟩ := by
  unfold textOf fileAt
  cases l.find? (nameIs n) <;> rfl
theorem at_mem {l : List FileL} {n t : ByteArray} (h : fileAt l n = some t) : (n, t) ∈ l := by
  unfold fileAt at h
  obtain ⟨f, h1, h2⟩ := Option.map_eq_some_iff.1 h
  have h3 := List.mem_of_find?_eq_some h1
  have h4 := nameIs_iff_kn.1 (List.find?_some h1)
  subst h2 h4
  exact h3
theorem at_none {l : List FileL} {n : ByteArray} : fileAt l n = none ↔ ∀ f ∈ l, f.1 ≠ n := by
  unfold fileAt
  rw [Option.map_eq_none_iff, List.find?_eq_none]
  exact ⟨fun h f hf e => h f hf (nameIs_iff_kn.2 e), fun h f hf e => h f hf (nameIs_iff_kn.1 e)⟩
theorem none_at {l : List FileL} {n : ByteArray} : None l n ↔ fileAt l n = none := by
  rw [at_none]
  constructor
  · intro h f hf e
    obtain ⟨j, hj, rfl⟩ := List.getElem_of_mem hf
    have := h j hj
    rw [nameIs_iff_kn.2 e] at this; cases this
  · intro h j hj
    cases hn : nameIs n l[j]
    · rfl
    · exact absurd (nameIs_iff_kn.1 hn) (h _ (List.getElem_mem _))
def Asc (l : List FileL) : Prop := l.Pairwise fun e f => Batches.lt e.1 f.1 = true
theorem ok_iff_kn (l : List FileL) : ok l ↔ l.length ≤ 30 ∧ (∀ f ∈ l, fileOk f) ∧ Asc l := by
  constructor
  · rintro ⟨h1, h2⟩
    refine ⟨h1, fun f hf => ?_, Maps.asc_of (fun f : FileL => f.1) l fun j hj h0 => ?_⟩
    · obtain ⟨j, hj, rfl⟩ := List.getElem_of_mem hf
      obtain ⟨_, h3, _⟩ := h2 j hj
      exact h3
    · obtain ⟨_, _, h3⟩ := h2 j hj
      exact (h3 h0).2
  · rintro ⟨h1, h2, h3⟩
    exact ⟨h1, fun j hj => ⟨hj, h2 _ (List.getElem_mem _), fun h0 => ⟨by omega, Maps.asc_at (fun f : FileL => f.1) h3 hj (by omega)⟩⟩⟩
theorem at_ok {l : List FileL} {n t : ByteArray} (h : ok l) (ht : fileAt l n = some t) : fileOk (n, t) := ((ok_iff_kn l).1 h).2.1 _ (at_mem ht)
end Go.Proofs.YtbcfiiilikkkeaaGreatDoor.Disks
