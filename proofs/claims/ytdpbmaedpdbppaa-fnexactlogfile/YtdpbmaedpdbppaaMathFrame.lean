/- Plain facts on frames in lists of bytes: what stands whole at a place, and what is told from there on; no program is named here. -/
import Derived.Test.YtdpbmaedpdbppaaMathBack
import Derived.Test.YtdpbmaedpdbppaaSums
namespace Go.Proofs.Ytdpbmaedpdbppaa.Words

/-- The length that stands at a place, and the place behind it, where what follows can be a frame. -/
def fit (l : List UInt8) (a : Nat) : Option (Nat × Nat) :=
  match rd l a with
  | none => none
  | some (n, b) => if 1 ≤ n ∧ n ≤ 9000 ∧ b + 4 + n ≤ l.length then some (n, b) else none
/-- The record of the whole frame at a place, and the place behind it. -/
def fr (l : List UInt8) (a : Nat) : Option (List UInt8 × Nat) :=
  match fit l a with
  | none => none
  | some (n, b) => if (l.drop b).take 4 = Sums.four (Sums.sumOf ((l.drop (b + 4)).take n)) then some ((l.drop (b + 4)).take n, b + 4 + n) else none
/-- The records from a place on, and the place behind the last. -/
def un : Nat → List UInt8 → Nat → List (List UInt8)
  | 0, _, _ => []
  | f + 1, l, a => match fr l a with
    | none => []
    | some (r, e) => r :: un f l e
def stop : Nat → List UInt8 → Nat → Nat
  | 0, _, a => a
  | f + 1, l, a => match fr l a with
    | none => a
    | some (_, e) => stop f l e
theorem fit_some {l : List UInt8} {a n b : Nat} (h : fit l a = some (n, b)) : rd l a = some (n, b) ∧ 1 ≤ n ∧ n ≤ 9000 ∧ b + 4 + n ≤ l.length := by
  unfold fit at h
  split at h
  · cases h
  · rename_i x n' b' hr
    split at h
    · rename_i hc
      cases h
      exact ⟨hr, hc⟩
    · cases h
theorem fit_none {l : List UInt8} {a : Nat} (h : fit l a = none) : rd l a = none ∨ ∃ n b, rd l a = some (n, b) ∧ ¬ (1 ≤ n ∧ n ≤ 9000 ∧ b + 4 + n ≤ l.length) := by
  unfold fit at h
  split at h
  · rename_i hr; exact Or.inl hr
  · rename_i x n' b' hr
    split at h
    · cases h
    · rename_i hc
      exact Or.inr ⟨n', b', hr, hc⟩
theorem fr_none {l : List UInt8} {a : Nat} (h : fit l a = none) : fr l a = none := by unfold fr; rw [h]
theorem fr_torn {l : List UInt8} {a n b : Nat} (h : fit l a = some (n, b)) (hs : ¬ (l.drop b).take 4 = Sums.four (Sums.sumOf ((l.drop (b + 4)).take n))) : fr l a = none := by
  unfold fr; rw [h]; exact if_neg hs
theorem fr_whole {l : List UInt8} {a n b : Nat} (h : fit l a = some (n, b)) (hs : (l.drop b).take 4 = Sums.four (Sums.sumOf ((l.drop (b + 4)).take n))) : fr l a = some ((l.drop (b + 4)).take n, b + 4 + n) := by
  unfold fr; rw [h]; exact if_pos hs
theorem un_end {l : List UInt8} {a : Nat} (f : Nat) (h : fr l a = none) : un f l a = [] ∧ stop f l a = a := by
  cases f with
  | zero => exact ⟨rfl, rfl⟩
  | succ f => unfold un stop; rw [h]; exact ⟨rfl, rfl⟩
theorem un_more {l : List UInt8} {a e : Nat} {r : List UInt8} (f : Nat) (h : fr l a = some (r, e)) : un (f + 1) l a = r :: un f l e ∧ stop (f + 1) l a = stop f l e := by
  rw [un, stop, h]; exact ⟨rfl, rfl⟩
theorem fr_some {l : List UInt8} {a e : Nat} {r : List UInt8} (h : fr l a = some (r, e)) : a < e ∧ e ≤ l.length := by
  unfold fr at h
  split at h
  · cases h
  · rename_i x n b hf
    obtain ⟨hr, h1, h2, h3⟩ := fit_some hf
    obtain ⟨g1, g2, g3, g4, g5, g6⟩ := rd_front hr
    split at h
    · simp only [Option.some.injEq, Prod.mk.injEq] at h
      omega
    · cases h
theorem un_len : ∀ (f : Nat) (l : List UInt8) (a : Nat), (un f l a).length ≤ l.length - a
  | 0, _, _ => by simp [un]
  | f + 1, l, a => by
    cases h : fr l a with
    | none => rw [(un_end (f + 1) h).1]; simp
    | some p =>
      obtain ⟨r, e⟩ := p
      have := un_len f l e
      have := fr_some h
      rw [(un_more f h).1, List.length_cons]
      omega
/-- The frame of a record. -/
def frame (t : List UInt8) : List UInt8 := var t.length ++ Sums.four (Sums.sumOf t) ++ t
theorem cut3 (l : List UInt8) {a b n : Nat} (hab : a ≤ b) : (l.drop a).take (b + 4 + n - a) = (l.drop a).take (b - a) ++ (l.drop b).take 4 ++ (l.drop (b + 4)).take n := by
  have e1 : b + 4 + n - a = (b - a) + (4 + n) := by omega
  rw [e1, List.take_add, List.drop_drop, List.take_add, List.drop_drop, List.append_assoc]
  have e2 : a + (b - a) = b := by omega
  rw [e2]
/-- A frame stands there just where its sum does. -/
theorem frame_iff {l : List UInt8} {a n b : Nat} (h : fit l a = some (n, b)) :
    frame ((l.drop (b + 4)).take n) = (l.drop a).take (b + 4 + n - a) ↔ (l.drop b).take 4 = Sums.four (Sums.sumOf ((l.drop (b + 4)).take n)) := by
  obtain ⟨hr, h1, h2, h3⟩ := fit_some h
  obtain ⟨g1, g2, g3, g4, g5, g6⟩ := rd_front hr
  have hl : ((l.drop (b + 4)).take n).length = n := by rw [List.length_take, List.length_drop]; omega
  rw [cut3 l (by omega), frame, hl, g5]
  constructor
  · intro e
    have e2 := List.append_cancel_right e
    exact (List.append_cancel_left e2).symm
  · intro e; rw [e]
end Go.Proofs.Ytdpbmaedpdbppaa.Words
