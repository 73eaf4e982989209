/- Plain facts on a segment's records: the batches among them up to the first that is none, where each change's value stands; no program is named here. -/
import Derived.Test.YtinhgonmdnbdiaaMathDir
import Derived.Test.YtinhgonmdnbdiaaMathFrame
namespace Go.Proofs.Ytinhgonmdnbdiaa
set_option linter.unusedVariables false
namespace Scan
open Go
open Batches (short by_)
/-- A record that is a batch. -/
structure It where
  bytes : List UInt8
  st : Nat
  ch : List ChangeL
def hdr (r : List UInt8) : Nat := (Words.var r.length).length + 4
def chPos (a : Nat) (c : ChangeL) : Nat := a + (short c.key).length + 1 + (Words.var c.value.size).length
def spotC (seg : Int) (p : Nat) (c : ChangeL) : SpotL := ⟨c.key, seg, if c.gone then 0 else (p : Int), if c.gone then -1 else (c.value.size : Int)⟩
def chSpots (seg : Int) : Nat → List ChangeL → List SpotL
  | _, [] => []
  | a, c :: l => spotC seg (chPos a c) c :: chSpots seg (chPos a c + c.value.size) l
def chEnd : Nat → List ChangeL → Nat
  | a, [] => a
  | a, c :: l => chEnd (chPos a c + c.value.size) l
theorem chSpots_snoc (seg : Int) : ∀ (l : List ChangeL) (a : Nat) (c : ChangeL), chSpots seg a (l ++ [c]) = chSpots seg a l ++ [spotC seg (chPos (chEnd a l) c) c]
  | [], a, c => rfl
  | d :: l, a, c => by rw [List.cons_append, chSpots, chSpots, chSpots_snoc seg l, List.cons_append, chEnd]
theorem chEnd_snoc : ∀ (l : List ChangeL) (a : Nat) (c : ChangeL), chEnd a (l ++ [c]) = chPos (chEnd a l) c + c.value.size
  | [], a, c => rfl
  | d :: l, a, c => by rw [List.cons_append, chEnd, chEnd, chEnd_snoc l]
theorem chSpots_take {seg : Int} {l : List ChangeL} {a k : Nat} (hk : k < l.length) : chSpots seg a (l.take (k + 1)) = chSpots seg a (l.take k) ++ [spotC seg (chPos (chEnd a (l.take k)) l[k]) l[k]] := by
  rw [List.take_succ_eq_append_getElem hk, chSpots_snoc]
theorem chEnd_take {l : List ChangeL} {a k : Nat} (hk : k < l.length) : chEnd a (l.take (k + 1)) = chPos (chEnd a (l.take k)) l[k] + l[k].value.size := by
  rw [List.take_succ_eq_append_getElem hk, chEnd_snoc]
theorem chSpots_len (seg : Int) : ∀ (l : List ChangeL) (a : Nat), (chSpots seg a l).length = l.length
  | [], a => rfl
  | d :: l, a => by rw [chSpots, List.length_cons, chSpots_len seg l, List.length_cons]
theorem chPos_le {a : Nat} {c : ChangeL} (h : Batches.changeOk c) : chPos a c ≤ a + 100 := by
  obtain ⟨_, h1, h2, _⟩ := h
  have e1 := Batches.short_len c.key
  have e2 := Words.var_len c.value.size
  unfold chPos
  omega
theorem chEnd_le : ∀ (l : List ChangeL) (a : Nat), (∀ c ∈ l, Batches.changeOk c) → chEnd a l ≤ a + 200 * l.length
  | [], a, _ => by simp [chEnd]
  | c :: l, a, h => by
    have h1 := chPos_le (a := a) (h c List.mem_cons_self)
    have h2 := (h c List.mem_cons_self).2.2.1
    have h3 := chEnd_le l (chPos a c + c.value.size) (fun x hx => h x (List.mem_cons_of_mem _ hx))
    rw [chEnd, List.length_cons]
    omega
theorem chEnd_take_le {l : List ChangeL} {a k : Nat} (h : ∀ c ∈ l, Batches.changeOk c) (hl : l.length ≤ 60) : chEnd a (l.take k) ≤ a + 12000 := by
  have := chEnd_le (l.take k) a (fun c hc => h c (List.mem_of_mem_take hc))
  rw [List.length_take] at this
  omega
def itFrom (a : Nat) (x : It) : Nat := a + hdr x.bytes + (Words.var x.st).length + (Words.var x.ch.length).length
def itNext (a : Nat) (x : It) : Nat := a + hdr x.bytes + x.bytes.length
def itSpots (seg : Int) : Nat → List It → List SpotL
  | _, [] => []
  | a, x :: xs => chSpots seg (itFrom a x) x.ch ++ itSpots seg (itNext a x) xs
def itEnd : Nat → List It → Nat
  | a, [] => a
  | a, x :: xs => itEnd (itNext a x) xs
def itStamp : Int → List It → Int
  | s, [] => s
  | s, x :: xs => itStamp (if s < (x.st : Int) then (x.st : Int) else s) xs
theorem itSpots_snoc (seg : Int) : ∀ (l : List It) (a : Nat) (x : It), itSpots seg a (l ++ [x]) = itSpots seg a l ++ chSpots seg (itFrom (itEnd a l) x) x.ch
  | [], a, x => by simp [itSpots, itEnd]
  | d :: l, a, x => by rw [List.cons_append, itSpots, itSpots, itSpots_snoc seg l, List.append_assoc, itEnd]
theorem itEnd_snoc : ∀ (l : List It) (a : Nat) (x : It), itEnd a (l ++ [x]) = itNext (itEnd a l) x
  | [], a, x => rfl
  | d :: l, a, x => by rw [List.cons_append, itEnd, itEnd, itEnd_snoc l]
theorem itStamp_snoc : ∀ (l : List It) (s : Int) (x : It), itStamp s (l ++ [x]) = if itStamp s l < (x.st : Int) then (x.st : Int) else itStamp s l
  | [], s, x => rfl
  | d :: l, s, x => by rw [List.cons_append, itStamp, itStamp, itStamp_snoc l]
theorem itSpots_len {seg : Int} : ∀ (l : List It) (a : Nat), (∀ x ∈ l, x.ch.length ≤ 60) → (itSpots seg a l).length ≤ 60 * l.length
  | [], a, _ => by simp [itSpots]
  | x :: l, a, h => by
    have h1 := h x List.mem_cons_self
    have h2 := itSpots_len (seg := seg) l (itNext a x) (fun y hy => h y (List.mem_cons_of_mem _ hy))
    rw [itSpots, List.length_append, chSpots_len, List.length_cons]
    omega
theorem hdr_le (r : List UInt8) (h : r.length ≤ 9000) : hdr r ≤ 9 := by
  have := Dirs.var_len5 (n := r.length) (by omega)
  unfold hdr
  omega
theorem itEnd_le : ∀ (l : List It) (a : Nat), (∀ x ∈ l, x.bytes.length ≤ 9000) → itEnd a l ≤ a + 10000 * l.length
  | [], a, _ => by simp [itEnd]
  | x :: l, a, h => by
    have h1 := h x List.mem_cons_self
    have h0 := hdr_le x.bytes h1
    have h2 := itEnd_le l (itNext a x) (fun y hy => h y (List.mem_cons_of_mem _ hy))
    rw [itEnd, List.length_cons]
    unfold itNext at *
    omega
/-- The batches among the records, up to the first that is none. -/
def Reads (recs : List (List UInt8)) (items : List It) : Prop :=
  items.length ≤ recs.length ∧ (∀ i (h : i < items.length) (h2 : i < recs.length), items[i].bytes = recs[i] ∧ Batches.Got ⟨recs[i].toArray⟩ items[i].st items[i].ch) ∧ (∀ h : items.length < recs.length, ∀ st l, ¬ Batches.Got ⟨recs[items.length].toArray⟩ st l)
theorem reads_ex : ∀ recs : List (List UInt8), ∃ items, Reads recs items
  | [] => ⟨[], Nat.le_refl _, fun i h => absurd h (Nat.not_lt_zero _), fun h => absurd h (Nat.not_lt_zero _)⟩
  | r :: rs => by
    by_cases h : ∃ st l, Batches.Got ⟨r.toArray⟩ st l
    · obtain ⟨st, l, hg⟩ := h
      obtain ⟨items, h1, h2, h3⟩ := reads_ex rs
      refine ⟨⟨r, st, l⟩ :: items, by simpa using h1, fun i hi hi2 => ?_, fun hlt st' l' => ?_⟩
      · cases i with
        | zero => exact ⟨rfl, hg⟩
        | succ i => exact h2 i (by simpa using hi) (by simpa using hi2)
      · exact h3 (by simpa using hlt) st' l'
    · exact ⟨[], Nat.zero_le _, fun i hi => absurd hi (Nat.not_lt_zero _), fun _ st l hg => h ⟨st, l, hg⟩⟩
/-- Where the frames of some records end. -/
def recEnd : Nat → List (List UInt8) → Nat
  | a, [] => a
  | a, r :: rs => recEnd (a + hdr r + r.length) rs
theorem recEnd_ge : ∀ (rs : List (List UInt8)) (a : Nat), a + 4 * rs.length ≤ recEnd a rs
  | [], a => by simp [recEnd]
  | r :: rs, a => by
    have := recEnd_ge rs (a + hdr r + r.length)
    rw [recEnd, List.length_cons]
    unfold hdr at *
    omega
theorem recEnd_app : ∀ (xs ys : List (List UInt8)) (a : Nat), recEnd a (xs ++ ys) = recEnd (recEnd a xs) ys
  | [], ys, a => rfl
  | x :: xs, ys, a => by rw [List.cons_append, recEnd, recEnd, recEnd_app xs]
theorem recEnd_take {rs : List (List UInt8)} {a : Nat} (k : Nat) : recEnd a (rs.take k) + 4 * (rs.length - k) ≤ recEnd a rs := by
  have h := recEnd_ge (rs.drop k) (recEnd a (rs.take k))
  rw [← recEnd_app, List.take_append_drop, List.length_drop] at h
  exact h
theorem itEnd_rec : ∀ (l : List It) (a : Nat), itEnd a l = recEnd a (l.map fun x => x.bytes)
  | [], a => rfl
  | x :: l, a => by rw [itEnd, List.map_cons, recEnd, itEnd_rec l]; rfl
theorem reads_map {recs : List (List UInt8)} {items : List It} (h : Reads recs items) (k : Nat) (hk : k ≤ items.length) : (items.take k).map (fun x => x.bytes) = recs.take k := by
  apply List.ext_getElem
  · have := h.1
    simp only [List.length_map, List.length_take]; omega
  · intro i h1 h2
    simp only [List.length_map, List.length_take] at h1 h2
    simp only [List.getElem_map, List.getElem_take]
    exact (h.2.1 i (by omega) (by omega)).1
theorem reads_end {recs : List (List UInt8)} {items : List It} (h : Reads recs items) (k : Nat) (hk : k ≤ items.length) (a : Nat) : itEnd a (items.take k) = recEnd a (recs.take k) := by
  rw [itEnd_rec, reads_map h k hk]
/-- The frames of what is told of a file end where the telling stops. -/
theorem fr_shape {l : List UInt8} {a e : Nat} {r : List UInt8} (h : Words.fr l a = some (r, e)) : e = a + hdr r + r.length ∧ 1 ≤ r.length ∧ r.length ≤ 9000 := by
  unfold Words.fr at h
  split at h
  · cases h
  · rename_i n b hf
    obtain ⟨h1, h2, h3, h4⟩ := Words.fit_some hf
    obtain ⟨g1, g2, g3, g4, g5, g6⟩ := Words.rd_front h1
    split at h
    · simp only [Option.some.injEq, Prod.mk.injEq] at h
      obtain ⟨rfl, rfl⟩ := h
      have hl : ((l.drop (b + 4)).take n).length = n := by rw [List.length_take, List.length_drop]; omega
      have hv : (Words.var n).length = b - a := by rw [g5, List.length_take, List.length_drop]; omega
      unfold hdr
      rw [hl, hv]
      exact ⟨by omega, h2, h3⟩
    · cases h
theorem stop_rec : ∀ (f : Nat) (l : List UInt8) (a : Nat), Words.stop f l a = recEnd a (Words.un f l a)
  | 0, l, a => rfl
  | f + 1, l, a => by
    cases h : Words.fr l a with
    | none => rw [(Words.un_end (f + 1) h).1, (Words.un_end (f + 1) h).2]; rfl
    | some p =>
      obtain ⟨r, e⟩ := p
      rw [(Words.un_more f h).1, (Words.un_more f h).2, recEnd, stop_rec f, ← (fr_shape h).1]
theorem un_size : ∀ (f : Nat) (l : List UInt8) (a : Nat), ∀ r ∈ Words.un f l a, 1 ≤ r.length ∧ r.length ≤ 9000
  | 0, l, a, r, hr => (List.not_mem_nil hr).elim
  | f + 1, l, a, r, hr => by
    cases h : Words.fr l a with
    | none => rw [(Words.un_end (f + 1) h).1] at hr; exact (List.not_mem_nil hr).elim
    | some p =>
      obtain ⟨q, e⟩ := p
      rw [(Words.un_more f h).1] at hr
      rcases List.mem_cons.1 hr with rfl | hr
      · exact (fr_shape h).2
      · exact un_size f l e r hr
end Scan
end Go.Proofs.Ytinhgonmdnbdiaa
