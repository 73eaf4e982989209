/- Plain facts on frames in lists of bytes: what stands whole at a place, and what is told from there on; no program is named here. Plain facts on a segment's records: the batches among them up to the first that is none, where each change's value stands; no program is named here. Plain facts on segments: a record read as a batch by a function, the records of a segment likewise; no program is named here. Plain facts: records come back from their frames; of frames that are cut anywhere just the whole ones do; no program is named here. Plain facts on maps: which are right, what changes make of them, what differs between two; no program is named here. -/
import Derived.Test.YtbcfiiilikkkeaaGreatDoorVar
import Derived.Test.YtbcfiiilikkkeaaGreatDoorMathDir
namespace Go.Proofs.YtbcfiiilikkkeaaGreatDoor.Words

/-- The length that stands at a place, and the place behind it, where what follows can be a frame. -/
def fit (l : List UInt8) (a : Nat) : Option (Nat × Nat) :=
  match rd l a with
  | none => none
  | some (n, b) => if 1 ≤ n ∧ n ≤ 9000 ∧ b + 4 + n ≤ l.length then some (n, b) else none
/-- The record of the whole frame at a place, and the place behind it. -/
def fr (l : List UInt8) (a : Nat) : Option (List UInt8 × Nat) :=
  match fit l a with
  | none => none
  | some (n, b) => if (l.drop b).take 4 = Sums.four (Sums.sumOf ((l.drop (b + 4)).take n)) then some ((l.drop (b + 4)).take n, b + 4 + n) else none
/-- The records from a place on, and the place behind the last. -/
def un : Nat → List UInt8 → Nat → List (List UInt8)
  | 0, _, _ => []
  | f + 1, l, a => match fr l a with
    | none => []
    | some (r, e) => r :: un f l e
def stop : Nat → List UInt8 → Nat → Nat
  | 0, _, a => a
  | f + 1, l, a => match fr l a with
    | none => a
    | some (_, e) => stop f l e
theorem fit_some {l : List UInt8} {a n b : Nat} (h : fit l a = some (n, b)) : rd l a = some (n, b) ∧ 1 ≤ n ∧ n ≤ 9000 ∧ b + 4 + n ≤ l.length := by
  unfold fit at h
  split at h
  · cases h
  · rename_i x n' b' hr
    split at h
    · rename_i hc
      cases h
      exact ⟨hr, hc⟩
    · cases h
theorem fit_none {l : List UInt8} {a : Nat} (h : fit l a = none) : rd l a = none ∨ ∃ n b, rd l a = some (n, b) ∧ ¬ (1 ≤ n ∧ n ≤ 9000 ∧ b + 4 + n ≤ l.length) := by
  unfold fit at h
  split at h
  · rename_i hr; exact Or.inl hr
  · rename_i x n' b' hr
    split at h
    · cases h
    · rename_i hc
      exact Or.inr ⟨n', b', hr, hc⟩
theorem fr_none {l : List UInt8} {a : Nat} (h : fit l a = none) : fr l a = none := by unfold fr; rw [h]
theorem fr_torn {l : List UInt8} {a n b : Nat} (h : fit l a = some (n, b)) (hs : ¬ (l.drop b).take 4 = Sums.four (Sums.sumOf ((l.drop (b + 4)).take n))) : fr l a = none := by
  unfold fr; rw [h]; exact if_neg hs
theorem fr_whole {l : List UInt8} {a n b : Nat} (h : fit l a = some (n, b)) (hs : (l.drop b).take 4 = Sums.four (Sums.sumOf ((l.drop (b + 4)).take n))) : fr l a = some ((l.drop (b + 4)).take n, b + 4 + n) := by
  unfold fr; rw [h]; exact if_pos hs
theorem un_end {l : List UInt8} {a : Nat} (f : Nat) (h : fr l a = none) : un f l a = [] ∧ stop f l a = a := by
  cases f with
  | zero => exact ⟨rfl, rfl⟩
  | succ f => unfold un stop; rw [h]; exact ⟨rfl, rfl⟩
theorem un_more {l : List UInt8} {a e : Nat} {r : List UInt8} (f : Nat) (h : fr l a = some (r, e)) : un (f + 1) l a = r :: un f l e ∧ stop (f + 1) l a = stop f l e := by
  rw [un, stop, h]; exact ⟨rfl, rfl⟩
theorem fr_some {l : List UInt8} {a e : Nat} {r : List UInt8} (h : fr l a = some (r, e)) : a < e ∧ e ≤ l.length := by
  unfold fr at h
  split at h
  · cases h
  · rename_i x n b hf
    obtain ⟨hr, h1, h2, h3⟩ := fit_some hf
    obtain ⟨g1, g2, g3, g4, g5, g6⟩ := rd_front hr
    split at h
    · simp only [Option.some.injEq, Prod.mk.injEq] at h
      omega
    · cases h
theorem un_len : ∀ (f : Nat) (l : List UInt8) (a : Nat), (un f l a).length ≤ l.length - a
  | 0, _, _ => by simp [un]
  | f + 1, l, a => by
    cases h : fr l a with
    | none => rw [(un_end (f + 1) h).1]; simp
    | some p =>
      obtain ⟨r, e⟩ := p
      have := un_len f l e
      have := fr_some h
      rw [(un_more f h).1, List.length_cons]
      omega
/-- The frame of a record. -/
def frame (t : List UInt8) : List UInt8 := var t.length ++ Sums.four (Sums.sumOf t) ++ t
theorem cut3 (l : List UInt8) {a b n : Nat} (hab : a ≤ b) : (l.drop a).take (b + 4 + n - a) = (l.drop a).take (b - a) ++ (l.drop b).take 4 ++ (l.drop (b + 4)).take n := by
  have e1 : b + 4 + n - a = (b - a) + (4 + n) := by omega
  rw [e1, List.take_add, List.drop_drop, List.take_add, List.drop_drop, List.append_assoc]
  have e2 : a + (b - a) = b := by omega
  rw [e2]
/-- A frame stands there just where its sum does. -/
theorem frame_iff {l : List UInt8} {a n b : Nat} (h : fit l a = some (n, b)) :
    frame ((l.drop (b + 4)).take n) = (l.drop a).take (b + 4 + n - a) ↔ (l.drop b).take 4 = Sums.four (Sums.sumOf ((l.drop (b + 4)).take n)) := by
  obtain ⟨hr, h1, h2, h3⟩ := fit_some h
  obtain ⟨g1, g2, g3, g4, g5, g6⟩ := rd_front hr
  have hl : ((l.drop (b + 4)).take n).length = n := by rw [List.length_take, List.length_drop]; omega
  rw [cut3 l (by omega), frame, hl, g5]
  constructor
  · intro e
    have e2 := List.append_cancel_right e
    exact (List.append_cancel_left e2).symm
  · intro e; rw [e]
end Go.Proofs.YtbcfiiilikkkeaaGreatDoor.Words
namespace Go.Proofs.YtbcfiiilikkkeaaGreatDoor
set_option linter.unusedVariables false
namespace Scan
open Go
open Batches (short by_)
/-- A record that is a batch. -/
structure It where
  bytes : List UInt8
  st : Nat
  ch : List ChangeL
def hdr (r : List UInt8) : Nat := (Words.var r.length).length + 4
def chPos (a : Nat) (c : ChangeL) : Nat := a + (short c.key).length + 1 + (Words.var c.value.size).length
def spotC (seg : Int) (p : Nat) (c : ChangeL) : SpotL := ⟨c.key, seg, if c.gone then 0 else (p : Int), if c.gone then -1 else (c.value.size : Int)⟩
def chSpots (seg : Int) : Nat → List ChangeL → List SpotL
  | _, [] => []
  | a, c :: l => spotC seg (chPos a c) c :: chSpots seg (chPos a c + c.value.size) l
def chEnd : Nat → List ChangeL → Nat
  | a, [] => a
  | a, c :: l => chEnd (chPos a c + c.value.size) l
theorem chSpots_snoc (seg : Int) : ∀ (l : List ChangeL) (a : Nat) (c : ChangeL), chSpots seg a (l ++ [c]) = chSpots seg a l ++ [spotC seg (chPos (chEnd a l) c) c]
  | [], a, c => rfl
  | d :: l, a, c => by rw [List.cons_append, chSpots, chSpots, chSpots_snoc seg l, List.cons_append, chEnd]
theorem chEnd_snoc : ∀ (l : List ChangeL) (a : Nat) (c : ChangeL), chEnd a (l ++ [c]) = chPos (chEnd a l) c + c.value.size
  | [], a, c => rfl
  | d :: l, a, c => by rw [List.cons_append, chEnd, chEnd, chEnd_snoc l]
theorem chSpots_take {seg : Int} {l : List ChangeL} {a k : Nat} (hk : k < l.length) : chSpots seg a (l.take (k + 1)) = chSpots seg a (l.take k) ++ [spotC seg (chPos (chEnd a (l.take k)) l[k]) l[k]] := by
  rw [List.take_succ_eq_append_getElem hk, chSpots_snoc]
theorem chEnd_take {l : List ChangeL} {a k : Nat} (hk : k < l.length) : chEnd a (l.take (k + 1)) = chPos (chEnd a (l.take k)) l[k] + l[k].value.size := by
  rw [List.take_succ_eq_append_getElem hk, chEnd_snoc]
theorem chSpots_len (seg : Int) : ∀ (l : List ChangeL) (a : Nat), (chSpots seg a l).length = l.length
  | [], a => rfl
  | d :: l, a => by rw [chSpots, List.length_cons, chSpots_len seg l, List.length_cons]
theorem chPos_le {a : Nat} {c : ChangeL} (h : Batches.changeOk c) : chPos a c ≤ a + 100 := by
  obtain ⟨_, h1, h2, _⟩ := h
  have e1 := Batches.short_len c.key
  have e2 := Words.var_len c.value.size
  unfold chPos
  omega
theorem chEnd_le : ∀ (l : List ChangeL) (a : Nat), (∀ c ∈ l, Batches.changeOk c) → chEnd a l ≤ a + 200 * l.length
  | [], a, _ => by simp [chEnd]
  | c :: l, a, h => by
    have h1 := chPos_le (a := a) (h c List.mem_cons_self)
    have h2 := (h c List.mem_cons_self).2.2.1
    have h3 := chEnd_le l (chPos a c + c.value.size) (fun x hx => h x (List.mem_cons_of_mem _ hx))
    rw [chEnd, List.length_cons]
    omega
theorem chEnd_take_le {l : List ChangeL} {a k : Nat} (h : ∀ c ∈ l, Batches.changeOk c) (hl : l.length ≤ 60) : chEnd a (l.take k) ≤ a + 12000 := by
  have := chEnd_le (l.take k) a (fun c hc => h c (List.mem_of_mem_take hc))
  rw [List.length_take] at this
  omega
def itFrom (a : Nat) (x : It) : Nat := a + hdr x.bytes + (Words.var x.st).length + (Words.var x.ch.length).length
def itNext (a : Nat) (x : It) : Nat := a + hdr x.bytes + x.bytes.length
def itSpots (seg : Int) : Nat → List It → List SpotL
  | _, [] => []
  | a, x :: xs => chSpots seg (itFrom a x) x.ch ++ itSpots seg (itNext a x) xs
def itEnd : Nat → List It → Nat
  | a, [] => a
  | a, x :: xs => itEnd (itNext a x) xs
def itStamp : Int → List It → Int
  | s, [] => s
  | s, x :: xs => itStamp (if s < (x.st : Int) then (x.st : Int) else s) xs
theorem itSpots_snoc (seg : Int) : ∀ (l : List It) (a : Nat) (x : It), itSpots seg a (l ++ [x]) = itSpots seg a l ++ chSpots seg (itFrom (itEnd a l) x) x.ch
  | [], a, x => by simp [itSpots, itEnd]
  | d :: l, a, x => by rw [List.cons_append, itSpots, itSpots, itSpots_snoc seg l, List.append_assoc, itEnd]
theorem itEnd_snoc : ∀ (l : List It) (a : Nat) (x : It), itEnd a (l ++ [x]) = itNext (itEnd a l) x
  | [], a, x => rfl
  | d :: l, a, x => by rw [List.cons_append, itEnd, itEnd, itEnd_snoc l]
theorem itStamp_snoc : ∀ (l : List It) (s : Int) (x : It), itStamp s (l ++ [x]) = if itStamp s l < (x.st : Int) then (x.st : Int) else itStamp s l
  | [], s, x => rfl
  | d :: l, s, x => by rw [List.cons_append, itStamp, itStamp, itStamp_snoc l]
theorem itSpots_len {seg : Int} : ∀ (l : List It) (a : Nat), (∀ x ∈ l, x.ch.length ≤ 60) → (itSpots seg a l).length ≤ 60 * l.length
  | [], a, _ => by simp [itSpots]
  | x :: l, a, h => by
    have h1 := h x List.mem_cons_self
    have h2 := itSpots_len (seg := seg) l (itNext a x) (fun y hy => h y (List.mem_cons_of_mem _ hy))
    rw [itSpots, List.length_append, chSpots_len, List.length_cons]
    omega
theorem hdr_le (r : List UInt8) (h : r.length ≤ 9000) : hdr r ≤ 9 := by
  have := Dirs.var_len5 (n := r.length) (by omega)
  unfold hdr
  omega
theorem itEnd_le : ∀ (l : List It) (a : Nat), (∀ x ∈ l, x.bytes.length ≤ 9000) → itEnd a l ≤ a + 10000 * l.length
  | [], a, _ => by simp [itEnd]
  | x :: l, a, h => by
    have h1 := h x List.mem_cons_self
    have h0 := hdr_le x.bytes h1
    have h2 := itEnd_le l (itNext a x) (fun y hy => h y (List.mem_cons_of_mem _ hy))
    rw [itEnd, List.length_cons]
    unfold itNext at *
    omega
/-- The batches among the records, up to the first that is none. -/
def Reads (recs : List (List UInt8)) (items : List It) : Prop :=
  items.length ≤ recs.length ∧ (∀ i (h : i < items.length) (h2 : i < recs.length), items[i].bytes = recs[i] ∧ Batches.Got ⟨recs[i].toArray⟩ items[i].st items[i].ch) ∧ (∀ h : items.length < recs.length, ∀ st l, ¬ Batches.Got ⟨recs[items.length].toArray⟩ st l)
/-- Where the frames of some records end. -/
def recEnd : Nat → List (List UInt8) → Nat
  | a, [] => a
  | a, r :: rs => recEnd (a + hdr r + r.length) rs
theorem recEnd_ge : ∀ (rs : List (List UInt8)) (a : Nat), a + 4 * rs.length ≤ recEnd a rs
  | [], a => by simp [recEnd]
  | r :: rs, a => by
    have := recEnd_ge rs (a + hdr r + r.length)
    rw [recEnd, List.length_cons]
    unfold hdr at *
    omega
theorem recEnd_app : ∀ (xs ys : List (List UInt8)) (a : Nat), recEnd a (xs ++ ys) = recEnd (recEnd a xs) ys
  | [], ys, a => rfl
  | x :: xs, ys, a => by rw [List.cons_append, recEnd, recEnd, recEnd_app xs]
theorem recEnd_take {rs : List (List UInt8)} {a : Nat} (k : Nat) : recEnd a (rs.take k) + 4 * (rs.length - k) ≤ recEnd a rs := by
  have h := recEnd_ge (rs.drop k) (recEnd a (rs.take k))
  rw [← recEnd_app, List.take_append_drop, List.length_drop] at h
  exact h
theorem itEnd_rec : ∀ (l : List It) (a : Nat), itEnd a l = recEnd a (l.map fun x => x.bytes)
  | [], a => rfl
  | x :: l, a => by rw [itEnd, List.map_cons, recEnd, itEnd_rec l]; rfl
theorem reads_map {recs : List (List UInt8)} {items : List It} (h : Reads recs items) (k : Nat) (hk : k ≤ items.length) : (items.take k).map (fun x => x.bytes) = recs.take k := by
  apply List.ext_getElem
  · have := h.1
    simp only [List.length_map, List.length_take]; omega
  · intro i h1 h2
    simp only [List.length_map, List.length_take] at h1 h2
    simp only [List.getElem_map, List.getElem_take]
    exact (h.2.1 i (by omega) (by omega)).1
theorem reads_end {recs : List (List UInt8)} {items : List It} (h : Reads recs items) (k : Nat) (hk : k ≤ items.length) (a : Nat) : itEnd a (items.take k) = recEnd a (recs.take k) := by
  rw [itEnd_rec, reads_map h k hk]
/-- The frames of what is told of a file end where the telling stops. -/
theorem fr_shape {l : List UInt8} {a e : Nat} {r : List UInt8} (h : Words.fr l a = some (r, e)) : e = a + hdr r + r.length ∧ 1 ≤ r.length ∧ r.length ≤ 9000 := by
  unfold Words.fr at h
  split at h
  · cases h
  · rename_i n b hf
    obtain ⟨h1, h2, h3, h4⟩ := Words.fit_some hf
    obtain ⟨g1, g2, g3, g4, g5, g6⟩ := Words.rd_front h1
    split at h
    · simp only [Option.some.injEq, Prod.mk.injEq] at h
      obtain ⟨rfl, rfl⟩ := h
      have hl : ((l.drop (b + 4)).take n).length = n := by rw [List.length_take, List.length_drop]; omega
      have hv : (Words.var n).length = b - a := by rw [g5, List.length_take, List.length_drop]; omega
      unfold hdr
      rw [hl, hv]
      exact ⟨by omega, h2, h3⟩
    · cases h
theorem stop_rec : ∀ (f : Nat) (l : List UInt8) (a : Nat), Words.stop f l a = recEnd a (Words.un f l a)
  | 0, l, a => rfl
  | f + 1, l, a => by
    cases h : Words.fr l a with
    | none => rw [(Words.un_end (f + 1) h).1, (Words.un_end (f + 1) h).2]; rfl
    | some p =>
      obtain ⟨r, e⟩ := p
      rw [(Words.un_more f h).1, (Words.un_more f h).2, recEnd, stop_rec f, ← (fr_shape h).1]
theorem un_size : ∀ (f : Nat) (l : List UInt8) (a : Nat), ∀ r ∈ Words.un f l a, 1 ≤ r.length ∧ r.length ≤ 9000
  | 0, l, a, r, hr => (List.not_mem_nil hr).elim
  | f + 1, l, a, r, hr => by
    cases h : Words.fr l a with
    | none => rw [(Words.un_end (f + 1) h).1] at hr; exact (List.not_mem_nil hr).elim
    | some p =>
      obtain ⟨q, e⟩ := p
      rw [(Words.un_more f h).1] at hr
      rcases List.mem_cons.1 hr with rfl | hr
      · exact (fr_shape h).2
      · exact un_size f l e r hr
end Scan
end Go.Proofs.YtbcfiiilikkkeaaGreatDoor
namespace Go.Proofs.YtbcfiiilikkkeaaGreatDoor
set_option linter.unusedVariables false
namespace Scan
open Go
open Batches (by_ lt changeOk okAt ok rdMany Got got_read read_got)
def changeOkB (c : ChangeL) : Bool := decide (1 ≤ c.key.size) && decide (c.key.size ≤ 10) && decide (c.value.size ≤ 40) && (!c.gone || decide (c.value.size = 0))
theorem changeOkB_iff (c : ChangeL) : changeOkB c = true ↔ changeOk c := by
  unfold changeOkB changeOk
  cases c.gone <;> simp [Bool.and_eq_true, and_assoc]
/-- All right, ascending behind the key ahead. -/
def chsB : Option ByteArray → List ChangeL → Bool
  | _, [] => true
  | p, c :: l => changeOkB c && (match p with | none => true | some k => lt k c.key) && chsB (some c.key) l
def Ahead (p : Option ByteArray) (l : List ChangeL) : Prop := ∀ k, p = some k → ∀ h : 0 < l.length, lt k l[0].key = true
theorem chsB_iff : ∀ (l : List ChangeL) (p : Option ByteArray), chsB p l = true ↔ (∀ j, j < l.length → okAt l j) ∧ Ahead p l
  | [], p => by simp [chsB, Ahead]
  | c :: l, p => by
    have ih := chsB_iff l (some c.key)
    rw [chsB.eq_def]
    simp only [Bool.and_eq_true, ih, changeOkB_iff]
    constructor
    · rintro ⟨⟨h1, h2⟩, h3, h4⟩
      refine ⟨fun j hj => ?_, fun k hk _ => ?_⟩
      · cases j with
        | zero => exact ⟨hj, h1, fun h => absurd h (Nat.lt_irrefl _)⟩
        | succ j =>
          obtain ⟨q1, q2, q3⟩ := h3 j (by simpa using hj)
          refine ⟨hj, q2, fun _ => ⟨by simp at hj ⊢; omega, ?_⟩⟩
          cases j with
          | zero => exact h4 _ rfl q1
          | succ j => exact (q3 (by omega)).2
      · subst hk; exact h2
    · rintro ⟨h1, h2⟩
      obtain ⟨_, q1, _⟩ := h1 0 (by simp)
      refine ⟨⟨q1, ?_⟩, fun j hj => ?_, fun k hk h => ?_⟩
      · cases p with
        | none => rfl
        | some k => exact h2 k rfl (by simp)
      · obtain ⟨q1, q2, q3⟩ := h1 (j + 1) (by simpa using hj)
        refine ⟨hj, q2, fun h => ⟨by omega, ?_⟩⟩
        have := (q3 (by omega)).2
        cases j with
        | zero => omega
        | succ j => exact this
      · cases hk
        obtain ⟨q1, q2, q3⟩ := h1 1 (by simpa using h)
        exact (q3 (by omega)).2
def okB (st : Nat) (l : List ChangeL) : Bool := decide (st ≤ 100000) && decide (l.length ≤ 60) && chsB none l
theorem okB_iff (st : Nat) (l : List ChangeL) : okB st l = true ↔ ok (st : Int) l := by
  unfold okB ok
  rw [Bool.and_eq_true, Bool.and_eq_true, chsB_iff, decide_eq_true_eq, decide_eq_true_eq]
  constructor
  · rintro ⟨⟨h1, h2⟩, h3, _⟩; exact ⟨by omega, h2, h3⟩
  · rintro ⟨h1, h2, h3⟩; exact ⟨⟨by omega, h2⟩, h3, fun k hk => by cases hk⟩
/-- A record read as a batch. -/
def batOf (t : ByteArray) : Option (Nat × List ChangeL) :=
  match Words.rd (by_ t) 0 with
  | none => none
  | some (st, a) => match Words.rd (by_ t) a with
    | none => none
    | some (n, b) => match rdMany t n b with
      | none => none
      | some (l, e) => if e = t.size ∧ okB st l = true then some (st, l) else none
theorem batOf_iff {t : ByteArray} {st : Nat} {l : List ChangeL} : batOf t = some (st, l) ↔ Got t st l := by
  constructor
  · intro h
    unfold batOf at h
    split at h
    · cases h
    · rename_i st' a h1
      split at h
      · cases h
      · rename_i n b h2
        split at h
        · cases h
        · rename_i l' e h3
          split at h
          · rename_i hc
            simp only [Option.some.injEq, Prod.mk.injEq] at h
            obtain ⟨rfl, rfl⟩ := h
            obtain ⟨rfl, ho⟩ := hc
            exact read_got h1 h2 h3 ((okB_iff _ _).1 ho)
          · cases h
  · intro h
    obtain ⟨a, b, h1, h2, h3⟩ := got_read h
    unfold batOf
    rw [h1]
    simp only
    rw [h2]
    simp only
    rw [h3]
    simp only
    simp [(okB_iff _ _).2 h.2]
theorem batOf_none {t : ByteArray} (h : batOf t = none) : ∀ st l, ¬ Got t st l := fun st l hg => by rw [batOf_iff.2 hg] at h; cases h
/-- The batches among the records, up to the first that is none. -/
def itemsOf : List (List UInt8) → List It
  | [] => []
  | r :: rs => match batOf ⟨r.toArray⟩ with
    | none => []
    | some (st, l) => ⟨r, st, l⟩ :: itemsOf rs
theorem reads_items : ∀ recs : List (List UInt8), Reads recs (itemsOf recs)
  | [] => ⟨Nat.le_refl _, fun i h => absurd h (Nat.not_lt_zero _), fun h => absurd h (Nat.not_lt_zero _)⟩
  | r :: rs => by
    rw [itemsOf]
    cases hb : batOf ⟨r.toArray⟩ with
    | none => exact ⟨Nat.zero_le _, fun i hi => absurd hi (Nat.not_lt_zero _), fun _ st l hg => batOf_none hb st l hg⟩
    | some p =>
      obtain ⟨st, l⟩ := p
      obtain ⟨h1, h2, h3⟩ := reads_items rs
      refine ⟨by simpa using h1, fun i hi hi2 => ?_, fun hlt st' l' => ?_⟩
      · cases i with
        | zero => exact ⟨rfl, batOf_iff.1 hb⟩
        | succ i => exact h2 i (by simpa using hi) (by simpa using hi2)
      · exact h3 (by simpa using hlt) st' l'
end Scan
end Go.Proofs.YtbcfiiilikkkeaaGreatDoor
namespace Go.Proofs.YtbcfiiilikkkeaaGreatDoor.Words

/-- A number whose bytes are cut is none. -/
theorem var_cut : ∀ (f n k acc j : Nat), j < (var n).length → rdF f ((var n).take j) k acc = none
  | 0, _, _, _, _, _ => rfl
  | f + 1, n, k, acc, 0, _ => by simp [rdF]
  | f + 1, n, k, acc, j + 1, h => by
    by_cases hn : n ≤ 127
    · rw [var_small n hn] at h; simp at h
    · rw [var_big n (by omega)] at h ⊢
      have e : (UInt8.ofNat (n % 128 + 128)).toNat = n % 128 + 128 := ofNat_toNat _ (by omega)
      rw [List.take_succ_cons, rdF, e, if_neg (by omega)]
      exact var_cut f (n / 128) (k + 1) _ j (by simpa using h)
theorem rd_cut (n j : Nat) (p : List UInt8) (h : j < (var n).length) : rd (p ++ (var n).take j) p.length = none := by
  unfold rd
  rw [List.drop_left, var_cut 5 n 0 0 j h]; rfl
theorem frame_len (t : List UInt8) : (frame t).length = (var t.length).length + 4 + t.length := by
  simp [frame, Sums.four_len]; omega
def okRec (t : List UInt8) : Prop := 1 ≤ t.length ∧ t.length ≤ 9000
/-- Frames one behind the other. -/
def frames : List (List UInt8) → List UInt8
  | [] => []
  | t :: ts => frame t ++ frames ts
end Go.Proofs.YtbcfiiilikkkeaaGreatDoor.Words
namespace Go.Proofs.YtbcfiiilikkkeaaGreatDoor
structure PairL where
  key : ByteArray
  value : ByteArray
namespace Maps
open Go Batches
def pairOk (p : PairL) : Prop := 1 ≤ p.key.size ∧ p.key.size ≤ 10 ∧ p.value.size ≤ 40
def okAt (l : List PairL) (j : Nat) : Prop := ∃ hj : j < l.length, pairOk l[j] ∧ (0 < j → ∃ hi : j - 1 < l.length, lt l[j - 1].key l[j].key = true)
def ok (l : List PairL) : Prop := l.length ≤ 60 ∧ ∀ j, j < l.length → okAt l j
theorem ok_step {l : List PairL} {k : Nat} (h : ∀ j, j < k → okAt l j) (hk : okAt l k) : ∀ j, j < k + 1 → okAt l j := fun j hj => by
  rcases Nat.lt_succ_iff_lt_or_eq.1 hj with h1 | h1
  · exact h j h1
  · rw [h1]; exact hk
theorem not_ok {l : List PairL} {j : Nat} (hj : j < l.length) (h : ¬ okAt l j) : ¬ ok l := fun h2 => h (h2.2 j hj)
/-- Ascending lists. -/
def Asc (l : List PairL) : Prop := l.Pairwise fun p q => lt p.key q.key = true
def AscC (l : List ChangeL) : Prop := l.Pairwise fun p q => lt p.key q.key = true
theorem asc_of {α : Type} (f : α → ByteArray) : ∀ (l : List α), (∀ j (h : j < l.length), 0 < j → lt (f l[j - 1]) (f l[j]) = true) → l.Pairwise fun p q => lt (f p) (f q) = true
  | [], _ => List.Pairwise.nil
  | [x], _ => List.pairwise_singleton _ _
  | x :: y :: l, h => by
    have ih := asc_of f (y :: l) (fun j hj h0 => by
      have := h (j + 1) (by simpa using hj) (by omega)
      obtain ⟨i, rfl⟩ : ∃ i, j = i + 1 := ⟨j - 1, by omega⟩
      simpa using this)
    refine List.Pairwise.cons (fun z hz => ?_) ih
    have h1 : lt (f x) (f y) = true := h 1 (by simp) (by omega)
    rcases List.mem_cons.1 hz with rfl | hz
    · exact h1
    · exact lt_trans h1 (List.rel_of_pairwise_cons ih hz)
theorem asc_at {α : Type} (f : α → ByteArray) {l : List α} (h : l.Pairwise fun p q => lt (f p) (f q) = true) {i j : Nat} (hj : j < l.length) (hij : i < j) : lt (f l[i]) (f l[j]) = true := List.pairwise_iff_getElem.1 h i j (by omega) hj hij
theorem ok_iff (l : List PairL) : ok l ↔ l.length ≤ 60 ∧ (∀ p ∈ l, pairOk p) ∧ Asc l := by
  constructor
  · rintro ⟨h1, h2⟩
    refine ⟨h1, fun p hp => ?_, asc_of PairL.key l fun j hj h0 => ?_⟩
    · obtain ⟨j, hj, rfl⟩ := List.getElem_of_mem hp
      obtain ⟨_, h3, _⟩ := h2 j hj
      exact h3
    · obtain ⟨_, _, h3⟩ := h2 j hj
      exact (h3 h0).2
  · rintro ⟨h1, h2, h3⟩
    exact ⟨h1, fun j hj => ⟨hj, h2 _ (List.getElem_mem _), fun h0 => ⟨by omega, asc_at PairL.key h3 hj (by omega)⟩⟩⟩
theorem okC_iff (st : Int) (l : List ChangeL) : Batches.ok st l ↔ (0 ≤ st ∧ st ≤ 100000) ∧ l.length ≤ 60 ∧ (∀ p ∈ l, changeOk p) ∧ AscC l := by
  constructor
  · rintro ⟨h0, h1, h2⟩
    refine ⟨h0, h1, fun p hp => ?_, asc_of ChangeL.key l fun j hj h0 => ?_⟩
    · obtain ⟨j, hj, rfl⟩ := List.getElem_of_mem hp
      obtain ⟨_, h3, _⟩ := h2 j hj
      exact h3
    · obtain ⟨_, _, h3⟩ := h2 j hj
      exact (h3 h0).2
  · rintro ⟨h0, h1, h2, h3⟩
    exact ⟨h0, h1, fun j hj => ⟨hj, h2 _ (List.getElem_mem _), fun h0 => ⟨by omega, asc_at ChangeL.key h3 hj (by omega)⟩⟩⟩

def put (p : PairL) : ChangeL := ⟨p.key, p.value, false⟩
def del (p : PairL) : ChangeL := ⟨p.key, ByteArray.empty, true⟩
def same (x y : ByteArray) : Bool := x.toList == y.toList
theorem same_iff (x y : ByteArray) : same x y = true ↔ x = y := by
  unfold same
  rw [beq_iff_eq, toList_by, toList_by]
  exact ⟨by_inj, fun h => by rw [h]⟩
/-- What a change leaves of its key. -/
def left (c : ChangeL) : List PairL := if c.gone then [] else [⟨c.key, c.value⟩]
theorem put_asc {l : List PairL} (h : Asc l) : AscC (l.map put) := List.pairwise_map.2 h
/-- The change of one key. -/
def cutK (m : List PairL) (k : ByteArray) : List PairL := m.filter fun p => !same p.key k
def putK (m : List PairL) (k v : ByteArray) : List PairL := (m.filter fun p => lt p.key k) ++ (⟨k, v⟩ :: m.filter fun p => lt k p.key)
def stepC (m : List PairL) (c : ChangeL) : List PairL := if c.gone then cutK m c.key else putK m c.key c.value
theorem same_lt {a b : ByteArray} (h : lt a b = true) : same a b = false ∧ same b a = false := by
  constructor
  · cases e : same a b
    · rfl
    · rw [(same_iff _ _).1 e, lt_irrefl] at h; cases h
  · cases e : same b a
    · rfl
    · rw [(same_iff _ _).1 e, lt_irrefl] at h; cases h
end Maps
end Go.Proofs.YtbcfiiilikkkeaaGreatDoor
