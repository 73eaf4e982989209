/- Plain facts on shelves: the map of a clean shelf, and a batch added to it; no program is named here. Plain facts on disks as ascending lists: what is put, dropped, found; raw writes done to a table of files. Plain facts for the walks of chapter 9: where files stand, how many spots a segment has, what a load comes to; no program is named here. The calls of both ReadVar, walked. The call of the specification's ReadVar, walked. Both ReadVar at every text and every place, and the law over them, walked. -/
import Derived.Test.YtbcfiiilikkkeaaGreatDoorMathShelf
import Derived.Test.YtbcfiiilikkkeaaGreatDoorMathAt
import Derived.Test.YtbcfiiilikkkeaaGreatDoorVar
import Derived.Deep.RegionWith
import Derived.Deep.QuietTactic
import Derived.BigQuiet
import Derived.Deep.RegionHeld3
namespace Go.Proofs.YtbcfiiilikkkeaaGreatDoor
set_option linter.unusedVariables false
namespace Shelves
open Go
open Batches (by_ by_inj lt)
open Scan (segEnd segSpots segStamp Full by_len)
open Disks (fileAt textOf RawL nameIs)
theorem text_le {l : List FileL} (h : Disks.ok l) (n : Int) : (textAt l n).length ≤ 20000 := by
  unfold textAt
  rw [by_len, Disks.textOf_at]
  cases e : fileAt l (segName n) with
  | none => exact Nat.zero_le _
  | some t => exact (Disks.at_ok h e).2.2
end Shelves
end Go.Proofs.YtbcfiiilikkkeaaGreatDoor
namespace Go.Proofs.YtbcfiiilikkkeaaGreatDoor.Disks
open Go
abbrev key (s : ByteArray) : List UInt8 := s.data.toList
theorem toList_key (s : ByteArray) : s.toList = key s := ByteArray.toList_eq s
theorem key_inj {a b : ByteArray} (h : key a = key b) : a = b := by
  cases a; cases b
  simp only [ByteArray.mk.injEq]
  exact Array.ext' h
theorem less_eq : ∀ (x y : List UInt8), Op.bytesLess x y = decide (x < y)
  | [], [] => by simp [Op.bytesLess]
  | _ :: _, [] => by simp [Op.bytesLess]
  | [], _ :: _ => by simp [Op.bytesLess]
  | a :: x, b :: y => by
    rw [Op.bytesLess, less_eq x y]
    simp only [List.cons_lt_cons_iff]
    by_cases h1 : a < b <;> by_cases h2 : a = b <;> by_cases h3 : x < y <;> simp [h1, h2, h3]
theorem lt_iff (a b : ByteArray) : lt a b = true ↔ key a < key b := by
  unfold lt; rw [less_eq, toList_key, toList_key, decide_eq_true_iff]
theorem lt_irrefl (a : ByteArray) : lt a a = false := by
  cases h : lt a a
  · rfl
  · exact absurd ((lt_iff a a).1 h) (List.lt_irrefl _)
theorem lt_trans {a b c : ByteArray} (h1 : lt a b = true) (h2 : lt b c = true) : lt a c = true :=
  (lt_iff a c).2 (List.lt_trans ((lt_iff a b).1 h1) ((lt_iff b c).1 h2))
theorem lt_total {a b : ByteArray} (h1 : lt a b = false) (h2 : lt b a = false) : a = b := by
  have e1 : ¬ key a < key b := fun h => by rw [(lt_iff a b).2 h] at h1; cases h1
  have e2 : ¬ key b < key a := fun h => by rw [(lt_iff b a).2 h] at h2; cases h2
  exact key_inj (List.le_antisymm (List.not_lt.1 e2) (List.not_lt.1 e1))
theorem nameIs_iff (n : ByteArray) (f : FileL) : nameIs n f = true ↔ f.1 = n := by
  unfold nameIs; rw [toList_key, toList_key, beq_iff_eq]
  exact ⟨key_inj, fun h => by rw [h]⟩
theorem gt_iff (a b : ByteArray) : gt a b = true ↔ lt b a = true := by
  unfold gt
  rw [toList_key, toList_key]
  by_cases h : lt a b = true
  · have : Op.bytesLess (key a) (key b) = true := by unfold lt at h; rwa [toList_key, toList_key] at h
    rw [this]
    simp only [Bool.true_or, Bool.not_true, Bool.false_eq_true, false_iff, Bool.not_eq_true]
    cases h2 : lt b a
    · rfl
    · have := lt_trans h h2; rw [lt_irrefl] at this; cases this
  · have hf : lt a b = false := by simpa using h
    have : Op.bytesLess (key a) (key b) = false := by unfold lt at hf; rwa [toList_key, toList_key] at hf
    rw [this]
    simp only [Bool.false_or, Bool.not_eq_true']
    constructor
    · intro h2
      cases h3 : lt b a
      · exact absurd (lt_total hf h3) (fun e => by rw [e] at h2; simp at h2)
      · rfl
    · intro h2
      cases h3 : (key a == key b)
      · rfl
      · have := key_inj (beq_iff_eq.1 h3)
        rw [this, lt_irrefl] at h2; cases h2
/-- Names that ascend. -/
def asc (l : List FileL) : Prop := l.Pairwise fun e f => lt e.1 f.1 = true
theorem ok_far {l : List FileL} (h : ∀ j, j < l.length → okAt l j) : ∀ (d i : Nat) (hi : i < l.length) (hj : i + d + 1 < l.length), lt l[i].1 l[i + d + 1].1 = true
  | 0, i, hi, hj => by
    obtain ⟨_, _, h2⟩ := h (i + 0 + 1) hj
    obtain ⟨_, h3⟩ := h2 (by omega)
    exact h3
  | d + 1, i, hi, hj => by
    have h1 := ok_far h d i hi (by omega)
    obtain ⟨_, _, h2⟩ := h (i + (d + 1) + 1) hj
    obtain ⟨_, h3⟩ := h2 (by omega)
    exact lt_trans h1 h3
theorem ok_iff (l : List FileL) : ok l ↔ l.length ≤ 30 ∧ (∀ f ∈ l, fileOk f) ∧ asc l := by
  constructor
  · rintro ⟨h1, h2⟩
    refine ⟨h1, fun f hf => ?_, List.pairwise_iff_getElem.2 fun i j hi hj hij => ?_⟩
    · obtain ⟨j, hj, rfl⟩ := List.mem_iff_getElem.1 hf
      exact (h2 j hj).2.1
    · obtain ⟨d, rfl⟩ : ∃ d, j = i + d + 1 := ⟨j - i - 1, by omega⟩
      exact ok_far h2 d i hi hj
  · rintro ⟨h1, h2, h3⟩
    refine ⟨h1, fun j hj => ⟨hj, h2 _ (List.getElem_mem _), fun hp => ⟨by omega, ?_⟩⟩⟩
    exact List.pairwise_iff_getElem.1 h3 (j - 1) j (by omega) hj (by omega)
theorem put_mem_iff {l : List FileL} {f e : FileL} : e ∈ put l f ↔ e = f ∨ (e ∈ l ∧ e.1 ≠ f.1) := by
  unfold put
  simp only [List.mem_append, List.mem_filter, List.mem_singleton, gt_iff]
  constructor
  · rintro ((⟨h1, h2⟩ | h) | ⟨h1, h2⟩)
    · exact Or.inr ⟨h1, fun e => by rw [e, lt_irrefl] at h2; cases h2⟩
    · exact Or.inl h
    · exact Or.inr ⟨h1, fun e => by rw [e, lt_irrefl] at h2; cases h2⟩
  · rintro (h | ⟨h1, h2⟩)
    · exact Or.inl (Or.inr h)
    · cases h3 : lt e.1 f.1
      · cases h4 : lt f.1 e.1
        · exact absurd (lt_total h3 h4) h2
        · exact Or.inr ⟨h1, rfl⟩
      · exact Or.inl (Or.inl ⟨h1, rfl⟩)
theorem put_asc {l : List FileL} (h : asc l) (f : FileL) : asc (put l f) := by
  unfold put asc
  rw [List.pairwise_append, List.pairwise_append]
  refine ⟨⟨h.filter _, by simp, fun a ha b hb => ?_⟩, h.filter _, fun a ha b hb => ?_⟩
  · rw [List.mem_singleton] at hb; subst hb
    exact (List.mem_filter.1 ha).2
  · have hb2 := (gt_iff _ _).1 (List.mem_filter.1 hb).2
    rcases List.mem_append.1 ha with ha | ha
    · exact lt_trans (List.mem_filter.1 ha).2 hb2
    · rw [List.mem_singleton] at ha; subst ha; exact hb2
theorem asc_nodup {l : List FileL} (h : asc l) : l.Nodup := List.Pairwise.imp (fun {a b} hab e => by rw [e, lt_irrefl] at hab; cases hab) h
theorem asc_keys {l : List FileL} (h : asc l) : (l.map fun f => key f.1).Nodup := List.pairwise_map.2 (List.Pairwise.imp (fun {a b} hab e => by rw [key_inj e, lt_irrefl] at hab; cases hab) h)
theorem asc_ext {l m : List FileL} (hl : asc l) (hm : asc m) (h : ∀ e, e ∈ l ↔ e ∈ m) : l = m :=
  List.Perm.eq_of_pairwise (le := fun (e f : FileL) => lt e.1 f.1 = true) (fun a b _ _ h1 h2 => by have := lt_trans h1 h2; rw [lt_irrefl] at this; cases this) hl hm
    ((List.perm_ext_iff_of_nodup (asc_nodup hl) (asc_nodup hm)).2 h)
theorem any_name {l : List FileL} {n : ByteArray} : l.any (nameIs n) = true ↔ ∃ f ∈ l, f.1 = n := by
  rw [List.any_eq_true]
  exact ⟨fun ⟨f, h1, h2⟩ => ⟨f, h1, (nameIs_iff n f).1 h2⟩, fun ⟨f, h1, h2⟩ => ⟨f, h1, (nameIs_iff n f).2 h2⟩⟩
/-- What is found under a name. -/
def look (l : List FileL) (n : ByteArray) : FileL × Bool := match l.find? (nameIs n) with
  | some f => (f, true)
  | none => ((⟨#[]⟩, ⟨#[]⟩), false)
theorem look_text (l : List FileL) (n : ByteArray) : (look l n).1.2 = textOf l n := by
  unfold look textOf
  cases l.find? (nameIs n) <;> rfl
theorem look_any (l : List FileL) (n : ByteArray) : (look l n).2 = l.any (nameIs n) := by
  unfold look
  cases h : l.find? (nameIs n) with
  | none =>
    simp only
    symm
    rw [← Bool.not_eq_true, List.any_eq_true]
    rintro ⟨f, hf, h2⟩
    exact List.find?_eq_none.1 h f hf h2
  | some f =>
    simp only
    symm
    rw [List.any_eq_true]
    exact ⟨f, List.mem_of_find?_eq_some h, List.find?_some h⟩
theorem look_some {l : List FileL} {n : ByteArray} (h : (look l n).2 = true) : (look l n).1 ∈ l ∧ (look l n).1.1 = n := by
  unfold look at *
  cases h2 : l.find? (nameIs n) with
  | none => rw [h2] at h; cases h
  | some f =>
    exact ⟨List.mem_of_find?_eq_some h2, (nameIs_iff n f).1 (List.find?_some h2)⟩
theorem look_none {l : List FileL} {n : ByteArray} (h : (look l n).2 = false) : look l n = ((⟨#[]⟩, ⟨#[]⟩), false) := by
  unfold look at *
  cases h2 : l.find? (nameIs n) with
  | none => rfl
  | some f => rw [h2] at h; cases h
theorem take_put {l : List FileL} (h : asc l) {k : Nat} (hk : k < l.length) : put (l.take k) l[k] = l.take (k + 1) := by
  refine asc_ext (put_asc (List.Pairwise.take h) _) (List.Pairwise.take h) fun e => ?_
  rw [put_mem_iff, List.take_succ_eq_append_getElem hk, List.mem_append, List.mem_singleton]
  constructor
  · rintro (q | ⟨q, _⟩)
    · exact Or.inr q
    · exact Or.inl q
  · rintro (q | q)
    · refine Or.inr ⟨q, fun e1 => ?_⟩
      obtain ⟨i, hi, rfl⟩ := List.mem_iff_getElem.1 q
      have hi' : i < k := by rw [List.length_take] at hi; omega
      have := List.pairwise_iff_getElem.1 h i k (by omega) hk hi'
      rw [List.getElem_take] at e1
      rw [e1, lt_irrefl] at this; cases this
    · exact Or.inl q
end Go.Proofs.YtbcfiiilikkkeaaGreatDoor.Disks
namespace Go.Proofs.YtbcfiiilikkkeaaGreatDoor
set_option linter.unusedVariables false
namespace Disks
open Go
theorem at_file {l : List FileL} {n : ByteArray} {k : Nat} (h : At l n k) (hk : k < l.length) : fileAt l n = some l[k].2 := by
  obtain ⟨_, h1, h2⟩ := h
  unfold fileAt
  have : l.find? (nameIs n) = some l[k] := by
    rw [List.find?_eq_some_iff_getElem]
    exact ⟨h1, k, hk, rfl, fun j hj => by rw [h2 j hj]; rfl⟩
  rw [this]; rfl
theorem at_int (l : List FileL) (n : ByteArray) : ∃ x : Int, ((None l n ∧ x = -1) ∨ ∃ k : Nat, At l n k ∧ x = (k : Int)) ∧ ((fileAt l n = none ∧ x < 0) ∨ ((fileAt l n).isSome = true ∧ 0 ≤ x)) := by
  rcases at_or_none l n with h | ⟨k, h⟩
  · exact ⟨-1, Or.inl ⟨h, rfl⟩, Or.inl ⟨none_at.1 h, by omega⟩⟩
  · exact ⟨(k : Int), Or.inr ⟨k, h, rfl⟩, Or.inr ⟨by rw [at_file h h.1]; rfl, by omega⟩⟩
theorem text_of (l : List FileL) (n : ByteArray) : TextIs l n (textOf l n) := by
  rw [textOf_at]
  rcases at_or_none l n with h | ⟨k, h⟩
  · exact Or.inl ⟨h, by rw [none_at.1 h]; rfl⟩
  · exact Or.inr ⟨k, h.1, h, by rw [at_file h h.1]; rfl⟩
theorem file_of {l : List FileL} (ho : ok l) (n : ByteArray) : FileIs l n (fileAt l n) := by
  rcases at_or_none l n with h | ⟨k, h⟩
  · rw [none_at.1 h]; exact Or.inr h
  · rw [at_file h h.1]; exact ⟨ho, k, h.1, h, rfl⟩
theorem look_file (l : List FileL) (n : ByteArray) : (look l n).1.2 = textOf l n ∧ (look l n).2 = (fileAt l n).isSome := by
  unfold look textOf fileAt
  cases l.find? (nameIs n) <;> exact ⟨rfl, rfl⟩
end Disks
namespace Scan
open Go
theorem many_ge : ∀ l : List ChangeL, l.length ≤ (Batches.many l).length
  | [] => Nat.le_refl _
  | c :: l => by
    have h := many_ge l
    have h1 : 1 ≤ (Batches.one c).length := by simp [Batches.one]; omega
    show _ ≤ (Batches.one c ++ Batches.many l).length
    rw [List.length_append, List.length_cons]; omega
theorem text_ge (st : Nat) (l : List ChangeL) : l.length ≤ (Batches.text st l).length := by
  have := many_ge l
  unfold Batches.text
  simp only [List.length_append]; omega
theorem spots_end (seg : Int) : ∀ (xs : List It) (a : Nat), (∀ x ∈ xs, x.bytes = Batches.text x.st x.ch) → (itSpots seg a xs).length + a ≤ itEnd a xs
  | [], a, _ => by simp [itSpots, itEnd]
  | x :: xs, a, h => by
    have ih := spots_end seg xs (itNext a x) (fun y hy => h y (List.mem_cons_of_mem _ hy))
    have h1 := text_ge x.st x.ch
    rw [← h x List.mem_cons_self] at h1
    rw [itSpots, itEnd, List.length_append, chSpots_len]
    unfold itNext at ih ⊢
    omega
theorem spots_le (seg : Int) (l : List UInt8) : (segSpots seg l).length ≤ l.length := by
  have h1 := spots_end seg (its l) 0 (fun x hx => (its_got l x hx).1)
  have h2 := segEnd_le l
  unfold segSpots
  unfold segEnd at h2
  omega
theorem spots_key (seg : Int) (l : List UInt8) : ∀ x ∈ segSpots seg l, x.key.size ≤ 10 := by
  have key : ∀ (xs : List It) (a : Nat), (∀ x ∈ xs, Batches.ok (x.st : Int) x.ch) → ∀ y ∈ itSpots seg a xs, y.key.size ≤ 10 := by
    intro xs
    induction xs with
    | nil => intro a _ y hy; exact (List.not_mem_nil hy).elim
    | cons x xs ih =>
      intro a h y hy
      rw [itSpots] at hy
      rcases List.mem_append.1 hy with hy | hy
      · have ho := ok_all (h x List.mem_cons_self)
        have k2 : ∀ (ch : List ChangeL) (b : Nat), (∀ c ∈ ch, Batches.changeOk c) → ∀ z ∈ chSpots seg b ch, z.key.size ≤ 10 := by
          intro ch
          induction ch with
          | nil => intro b _ z hz; exact (List.not_mem_nil hz).elim
          | cons c ch ih2 =>
            intro b hc z hz
            rw [chSpots] at hz
            rcases List.mem_cons.1 hz with rfl | hz
            · exact (hc c List.mem_cons_self).2.1
            · exact ih2 _ (fun c' h' => hc c' (List.mem_cons_of_mem _ h')) z hz
        exact k2 _ _ ho y hy
      · exact ih _ (fun z hz => h z (List.mem_cons_of_mem _ hz)) y hy
  exact key _ _ (fun x hx => (its_got l x hx).2)
end Scan
namespace Shelves
open Go
open Scan (segEnd segSpots segStamp Full)
open Disks (fileAt textOf)
def zeroS : ShelfL := ⟨⟨[], 0, 0, 0, []⟩, [], 0⟩
/-- What a load answers. -/
def LoadIs (l : List FileL) (s : ShelfL) (e : Nat) (c : Int) : Prop := (load l = .ok (s, e) ∧ c = 0) ∨ (load l = .error c ∧ c ≠ 0 ∧ s = zeroS ∧ e = 0)
theorem load_no {l : List FileL} (h : ¬ Disks.ok l) : LoadIs l zeroS 0 1 := by
  refine Or.inr ⟨?_, by omega, rfl, rfl⟩
  unfold load
  rw [if_neg (fun q => h ((Disks.okB_iff l).1 q))]
theorem load_2a {l : List FileL} (h : Disks.ok l) (h1 : fileAt l nameM = none) : LoadIs l zeroS 0 2 := by
  refine Or.inr ⟨?_, by omega, rfl, rfl⟩
  unfold load
  rw [if_pos ((Disks.okB_iff l).2 h), h1]
theorem load_2b {l : List FileL} {t : ByteArray} (h : Disks.ok l) (h1 : fileAt l nameM = some t) (h2 : ∀ m, ¬ Mans.Got t m) : LoadIs l zeroS 0 2 := by
  refine Or.inr ⟨?_, by omega, rfl, rfl⟩
  unfold load
  rw [if_pos ((Disks.okB_iff l).2 h), h1]
  simp only
  cases q : Mans.manOf t with
  | none => rfl
  | some m => exact absurd (Mans.manOf_iff.1 q) (h2 m)
theorem load_3 {l : List FileL} {t : ByteArray} {m : ManL} {n : Int} (h : Disks.ok l) (h1 : fileAt l nameM = some t) (h2 : Mans.Got t m) (hn : n ∈ m.segs) (h3 : fileAt l (segName n) = none) : LoadIs l zeroS 0 3 := by
  refine Or.inr ⟨?_, by omega, rfl, rfl⟩
  unfold load
  rw [if_pos ((Disks.okB_iff l).2 h), h1]
  simp only
  rw [Mans.manOf_iff.2 h2]
  simp only
  rw [if_neg]
  intro q
  have := List.all_eq_true.1 q n hn
  rw [h3] at this; cases this
theorem load_4a {l : List FileL} {t : ByteArray} {m : ManL} {n : Int} (h : Disks.ok l) (h1 : fileAt l nameM = some t) (h2 : Mans.Got t m) (h3 : ∀ n ∈ m.segs, (fileAt l (segName n)).isSome = true) (hn : n ∈ m.segs.dropLast) (h4 : segEnd (textAt l n) ≠ (textAt l n).length) : LoadIs l zeroS 0 4 := by
  refine Or.inr ⟨?_, by omega, rfl, rfl⟩
  unfold load
  rw [if_pos ((Disks.okB_iff l).2 h), h1]
  simp only
  rw [Mans.manOf_iff.2 h2]
  simp only
  rw [if_pos (List.all_eq_true.2 h3), if_neg]
  intro q
  have := List.all_eq_true.1 q n hn
  rw [decide_eq_true_eq] at this
  exact h4 this
theorem load_4b {l : List FileL} {t : ByteArray} {m : ManL} (h : Disks.ok l) (h1 : fileAt l nameM = some t) (h2 : Mans.Got t m) (h3 : ∀ n ∈ m.segs, (fileAt l (segName n)).isSome = true) (h4 : ∀ n ∈ m.segs.dropLast, Full (textAt l n)) (h5 : ¬ Dirs.ok (dirOf l [] m.segs)) : LoadIs l zeroS 0 4 := by
  refine Or.inr ⟨?_, by omega, rfl, rfl⟩
  unfold load
  rw [if_pos ((Disks.okB_iff l).2 h), h1]
  simp only
  rw [Mans.manOf_iff.2 h2]
  simp only
  rw [if_pos (List.all_eq_true.2 h3), if_pos (List.all_eq_true.2 fun n hn => by have q := h4 n hn; unfold Full at q; rw [decide_eq_true_eq]; exact q), if_neg (fun q => h5 ((Dirs.okB_iff _).1 q))]
theorem load_ok {l : List FileL} {t : ByteArray} {m : ManL} (h : Disks.ok l) (h1 : fileAt l nameM = some t) (h2 : Mans.Got t m) (h3 : ∀ n ∈ m.segs, (fileAt l (segName n)).isSome = true) (h4 : ∀ n ∈ m.segs.dropLast, Full (textAt l n)) (h5 : Dirs.ok (dirOf l [] m.segs)) :
    LoadIs l ⟨m, dirOf l [] m.segs, stOf l m.base m.segs⟩ (segEnd (textAt l (lastOf m))) 0 :=
  Or.inl ⟨load_iff.2 ⟨h, ⟨t, h1, h2⟩, h3, h4, rfl, rfl, h5, rfl⟩, rfl⟩
theorem load_is_unique {l : List FileL} {s s' : ShelfL} {e e' : Nat} {c c' : Int} (h : LoadIs l s e c) (h' : LoadIs l s' e' c') : s = s' ∧ e = e' ∧ c = c' := by
  rcases h with ⟨h1, h2⟩ | ⟨h1, h2, h3, h4⟩
  · rcases h' with ⟨g1, g2⟩ | ⟨g1, _⟩
    · rw [h1] at g1; simp only [Except.ok.injEq, Prod.mk.injEq] at g1; exact ⟨g1.1, g1.2, h2.trans g2.symm⟩
    · rw [h1] at g1; cases g1
  · rcases h' with ⟨g1, g2⟩ | ⟨g1, g2, g3, g4⟩
    · rw [h1] at g1; cases g1
    · rw [h1] at g1; simp only [Except.error.injEq] at g1; exact ⟨h3.trans g3.symm, h4.trans g4.symm, g1⟩
theorem dirOf_len {l : List FileL} (h : Disks.ok l) : ∀ (r : List Int) (d : List SpotL), (dirOf l d r).length ≤ d.length + 20000 * r.length
  | [], d => by simp [dirOf]
  | n :: r, d => by
    have ih := dirOf_len h r (Dirs.more d (segSpots n (textAt l n)))
    have h1 := Dirs.more_len (segSpots n (textAt l n)) d
    have h2 := Scan.spots_le n (textAt l n)
    have h3 := text_le h n
    rw [dirOf, List.length_cons]
    omega
theorem dirOf_key {l : List FileL} (r : List Int) : ∀ x ∈ dirOf l [] r, x.key.size ≤ 10 := dirOf_all (p := fun x => x.key.size ≤ 10) r [] (fun x hx => (List.not_mem_nil hx).elim) (fun n hn x hx => Scan.spots_key n _ x hx)
theorem take_dir {l : List FileL} {r : List Int} {k : Nat} (h : k < r.length) : dirOf l [] (r.take (k + 1)) = Dirs.more (dirOf l [] (r.take k)) (segSpots r[k] (textAt l r[k])) := by
  rw [List.take_succ_eq_append_getElem h, dirOf_app]; rfl
theorem take_st {l : List FileL} {r : List Int} {k : Nat} {b : Int} (h : k < r.length) : stOf l b (r.take (k + 1)) = if stOf l b (r.take k) < segStamp (textAt l r[k]) then segStamp (textAt l r[k]) else stOf l b (r.take k) := by
  rw [List.take_succ_eq_append_getElem h, stOf_app]; rfl
theorem mem_init {r : List Int} {k : Nat} (h : k + 1 < r.length) : r[k] ∈ r.dropLast := by
  rw [List.mem_iff_getElem]
  exact ⟨k, by rw [List.length_dropLast]; omega, by rw [List.getElem_dropLast]⟩
theorem last_at {m : ManL} {k : Nat} (h : k < m.segs.length) (h2 : k + 1 = m.segs.length) : m.segs[k] = lastOf m := by
  unfold lastOf
  rw [List.getLast?_eq_getElem?, show m.segs.length - 1 = k by omega, List.getElem?_eq_getElem h]; rfl
theorem init_at {r : List Int} {n : Int} (h : n ∈ r.dropLast) : ∃ k, ∃ h : k + 1 < r.length, r[k] = n := by
  obtain ⟨k, hk, e⟩ := List.getElem_of_mem h
  rw [List.length_dropLast] at hk
  exact ⟨k, by omega, by rw [← e, List.getElem_dropLast]⟩
end Shelves
end Go.Proofs.YtbcfiiilikkkeaaGreatDoor
namespace Go.Proofs.YtbcfiiilikkkeaaGreatDoor
open Go.RowKit

def rdTuple : Option (Nat × Nat) → Value
  | none => .tuple #[.int .i64 0, .int .i64 0, .bool false]
  | some p => .tuple #[.int .i64 (p.1 : Int), .int .i64 (p.2 : Int), .bool true]

set_option maxHeartbeats 400000 in
theorem implRead_no (s : ByteArray) (a : Int) (h : ¬ (0 ≤ a ∧ a ≤ s.size)) (w : World) :
    Calls Tryz.prog 288 #[.string s, .int .i64 a] w fun e w' => e = .returned (rdTuple none) ∧ w' = w := by
  by_cases h0 : a < 0
  · go_enter Tryz.func288, Tryz.ntmps288
    go_wp2
    go_ret3
    exact ⟨rfl, rfl⟩
  · have h1 : (s.size : Int) < a := by omega
    go_enter Tryz.func288, Tryz.ntmps288
    go_wp2
    go_ret3
    exact ⟨rfl, rfl⟩

theorem rdT_none {l : List UInt8} {a : Nat} (h : none = Words.rdF 5 (l.drop a) 0 0) : rdTuple none = rdTuple (Words.rd l a) := by rw [Words.rd_none h.symm]
theorem rdT_some {l : List UInt8} {a n k : Nat} (h : some (n, k) = Words.rdF 5 (l.drop a) 0 0) : Value.tuple #[.int .i64 (n : Int), .int .i64 ((a + k : Nat) : Int), .bool true] = rdTuple (Words.rd l a) := by rw [Words.rd_some h.symm]; rfl

theorem ret3_num {x y x' y' : Int} (h1 : x = x') (h2 : y = y') : Ending.returned (.tuple #[.int .i64 x, .int .i64 y, .bool true]) = .returned (.tuple #[.int .i64 x', .int .i64 y', .bool true]) := by rw [h1, h2]

set_option maxHeartbeats 1000000 in
set_option maxRecDepth 100000 in
theorem implRead_yes (s : ByteArray) (hs : s.size ≤ 1048576) (a : Nat) (h : a ≤ s.size) (w : World) :
    Calls Tryz.prog 288 #[.string s, .int .i64 (a : Int)] w fun e w' => e = .returned (rdTuple (Words.rd s.data.toList a)) ∧ w' = w := by
  have h0 : ¬ (a : Int) < 0 := by omega
  have h1 : ¬ (s.size : Int) < (a : Int) := by omega
  go_enter Tryz.func288, Tryz.ntmps288
  go_wp2
  go_loop [7, 8] (fun x i => ∃ n k : Nat, k ≤ 5 ∧ n < 128 ^ k ∧ x = .int .i64 (n : Int) ∧ i = .int .i64 (k : Int) ∧ Words.rdF (5 - k) (s.data.toList.drop (a + k)) k n = Words.rdF 5 (s.data.toList.drop a) 0 0)
    (fun _ i => 5 - (intOf i).toNat)
  case atStart => exact ⟨0, 0, by omega, by simp, rfl, rfl, rfl⟩
  case round =>
    obtain ⟨n, k, hk, hn, rfl, rfl, heq⟩ := hrel
    have HE : Hid (Words.rdF (5 - k) (s.data.toList.drop (a + k)) k n = Words.rdF 5 (s.data.toList.drop a) 0 0) := heq
    clear heq
    by_cases hlt : k < 5 ∧ a + k < s.size
    · obtain ⟨hk5, hin⟩ := hlt
      have hbyte : (s[a + k].toNat : Int) < 256 := by have := s[a + k].toNat_lt; omega
      obtain ⟨p1, p2, p3, p4, p5⟩ := Words.part s[a + k].toNat n k hk5 hn
      have P4 : Hid (_ = _) := p4
      have P5 : Hid (_ < _) := p5
      clear p4 p5 hn
      by_cases hb : s[a + k].toNat < 128
      · have HE2 : Hid (_ = _) := (Words.rdB_end (n := n) hk5 hin hb).symm.trans HE.out
        clear HE
        have hbi : ¬ (127 : Int) < (s[a + k].toNat : Int) := by omega
        by_cases hz : 0 < k ∧ s[a + k].toNat = 0
        · obtain ⟨hz1, hz2⟩ := hz
          have hz3 : ((s[a + k].toNat : Int) == 0) = true := by rw [hz2]; rfl
          have HZ : Hid (s[a + k].toNat = 0) := hz2
          clear hz2
          go_wp2
          go_ret3
          refine ⟨congrArg Ending.returned (rdT_none (l := s.data.toList) ?_), rfl⟩
          have e := HE2.out
          rw [if_pos (Or.inr ⟨hz1, HZ.out⟩)] at e
          exact e
        · by_cases hM : 1000000000 < n + s[a + k].toNat % 128 * 128 ^ k
          · have hMi : (1000000000 : Int) < (n : Int) + (s[a + k].toNat : Int) % 128 * 2 ^ (7 * k) := by rw [P4.out]; omega
            have e := HE2.out
            rw [if_pos (Or.inl hM)] at e
            have HN : Hid (_ = _) := e
            clear e HE2 hM
            by_cases hz1 : 0 < k
            · have hz3 : ((s[a + k].toNat : Int) == 0) = false := by simp; omega
              clear hz
              go_wp2
              go_ret3
              exact ⟨congrArg Ending.returned (rdT_none (l := s.data.toList) HN.out), rfl⟩
            · clear hz
              go_wp2
              go_ret3
              exact ⟨congrArg Ending.returned (rdT_none (l := s.data.toList) HN.out), rfl⟩
          · have hMi : ¬ (1000000000 : Int) < (n : Int) + (s[a + k].toNat : Int) % 128 * 2 ^ (7 * k) := by rw [P4.out]; omega
            have e := HE2.out
            rw [if_neg (by rintro (h | h); exact hM h; exact hz h)] at e
            have HN : Hid (_ = _) := e
            clear e HE2 hM
            by_cases hz1 : 0 < k
            · have hz3 : ((s[a + k].toNat : Int) == 0) = false := by simp; omega
              clear hz
              go_wp2
              go_ret3
              refine ⟨?_, rfl⟩
              rw [← rdT_some HN.out]
              exact ret3_num P4.out (by omega)
            · clear hz
              go_wp2
              go_ret3
              refine ⟨?_, rfl⟩
              rw [← rdT_some HN.out]
              exact ret3_num P4.out (by omega)
      · have HE2 : Hid (_ = _) := (Words.rdB_more (n := n) hk5 hin hb).symm.trans HE.out
        clear HE
        have hbi : (127 : Int) < (s[a + k].toNat : Int) := by omega
        go_wp2
        go_round
        case rel => exact ⟨_, k + 1, by omega, P5.out, by rw [P4.out], by go_num, HE2.out⟩
        case measure => simp [intOf]; omega
    · have HN : Hid (_ = _) := (Words.rdB_none (n := n) hlt).symm.trans HE.out
      clear HE hn
      by_cases hk5 : k < 5
      · have hin : ¬ (a : Int) + (k : Int) < (s.size : Int) := by omega
        go_wp2
        go_ret3
        exact ⟨congrArg Ending.returned (rdT_none (l := s.data.toList) HN.out), rfl⟩
      · go_wp2
        go_ret3
        exact ⟨congrArg Ending.returned (rdT_none (l := s.data.toList) HN.out), rfl⟩
end Go.Proofs.YtbcfiiilikkkeaaGreatDoor
namespace Go.Proofs.YtbcfiiilikkkeaaGreatDoor
open Go.RowKit

set_option maxHeartbeats 400000 in
theorem specRead_no (s : ByteArray) (a : Int) (h : ¬ (0 ≤ a ∧ a ≤ s.size)) (w : World) :
    Calls Tryz.prog 173 #[.string s, .int .i64 a] w fun e w' => e = .returned (rdTuple none) ∧ Below w.heap.size w w' := by
  go_enter Tryz.func173, Tryz.ntmps173
  go_wp2_with (go_at_call 130; refine (in_no _ _ _ h _).mono ?_; rintro e w' ⟨rfl, rfl⟩)
  go_ret3
  exact ⟨rfl, Below.refl _ _⟩

theorem neq_of {s : ByteArray} {a k N : Nat} {x : Int} {Z : Prop} (hx : x = (N : Int)) (hX : Words.var N = (s.data.toList.drop a).take (k + 1) ↔ ¬ Z) :
    ((!(Words.var x.toNat == (s.extract a (a + k + 1)).toList)) = true → Z) ∧ ((!(Words.var x.toNat == (s.extract a (a + k + 1)).toList)) = false → ¬ Z) := by
  have hl : (s.extract a (a + k + 1)).toList = (s.data.toList.drop a).take (k + 1) := by
    have := Words.extract_list s a (a + k + 1)
    rw [show a + k + 1 - a = k + 1 from by omega] at this
    rw [← this]
    exact ByteArray.toList_eq _
  rw [hx, Int.toNat_natCast, hl]
  constructor
  · intro h
    refine Classical.byContradiction fun hz => ?_
    rw [hX.2 hz] at h
    simp at h
  · intro h
    refine hX.1 ?_
    simpa using h

theorem l01Var_int (x : Int) (h0 : 0 ≤ x) (h1 : x ≤ 1000000000) (w : World) :
    Calls Tryz.prog 128 #[.int .i64 x] w fun e w' => e = .returned (.string ⟨(Words.var x.toNat).toArray⟩) ∧ Below w.heap.size w w' := by
  have h := l01Var_any x.toNat (by omega) w
  rwa [Int.toNat_of_nonneg h0] at h

set_option maxHeartbeats 1000000 in
set_option maxRecDepth 100000 in
theorem specRead_yes (s : ByteArray) (hs : s.size ≤ 1048576) (a : Nat) (h : a ≤ s.size) (w : World) :
    Calls Tryz.prog 173 #[.string s, .int .i64 (a : Int)] w fun e w' => e = .returned (rdTuple (Words.rd s.data.toList a)) ∧ Below w.heap.size w w' := by
  go_enter Tryz.func173, Tryz.ntmps173
  go_wp2_with (go_at_call 130; refine (in_yes _ _ _ (by omega) _).mono ?_; rintro e w' ⟨rfl, rfl⟩)
  go_loop [7, 8, 9] (fun x sc i => ∃ n k P : Nat, k ≤ 5 ∧ n < 128 ^ k ∧ P = 128 ^ k ∧ x = .int .i64 (n : Int) ∧ sc = .int .i64 (P : Int) ∧ i = .int .i64 ((a : Int) + (k : Int)) ∧ a + k ≤ s.size ∧
      Words.rdF (5 - k) (s.data.toList.drop (a + k)) k n = Words.rdF 5 (s.data.toList.drop a) 0 0 ∧ (∀ c ∈ (s.data.toList.drop a).take k, 128 ≤ c.toNat) ∧ n = Words.val ((s.data.toList.drop a).take k))
    (fun _ _ i => a + 5 - (intOf i).toNat)
  case atStart => exact ⟨0, 0, 1, by omega, by simp, rfl, rfl, rfl, by simp, by omega, rfl, by simp, rfl⟩
  case round =>
    obtain ⟨n, k, P, hk, hn, hP, rfl, rfl, rfl, hak, heq, hmet, hval⟩ := hrel
    have HE : Hid (Words.rdF (5 - k) (s.data.toList.drop (a + k)) k n = Words.rdF 5 (s.data.toList.drop a) 0 0) := heq
    have HM : Hid (∀ c ∈ (s.data.toList.drop a).take k, 128 ≤ c.toNat) := hmet
    have HV : Hid (n = Words.val ((s.data.toList.drop a).take k)) := hval
    clear heq hmet hval
    by_cases hlt : k < 5 ∧ a + k < s.size
    · obtain ⟨hk5, hin⟩ := hlt
      have hbyte : (s[a + k].toNat : Int) < 256 := by have := s[a + k].toNat_lt; omega
      obtain ⟨p1, p0, p2, p3, p4, p5, p6⟩ := Words.partP s[a + k].toNat n k hk5 hn P hP
      have P4 : Hid (_ = _) := p4
      have P5 : Hid (_ < _) := p5
      have P6 : Hid (_ = _) := p6
      clear p4 p5 p6 hn hP
      have hll : k ≤ (s.data.toList.drop a).length := by rw [List.length_drop, Words.size_list]; omega
      by_cases hb : s[a + k].toNat < 128
      · have HE2 : Hid (_ = _) := (Words.rdB_end (n := n) hk5 hin hb).symm.trans HE.out
        have HX : Hid (_ ↔ _) := Words.met_val HM.out HV.out hll hin hb
        clear HE hll
        have hbi : (s[a + k].toNat : Int) < 128 := by omega
        by_cases hM : 1000000000 < n + s[a + k].toNat % 128 * 128 ^ k
        · have hMi : (1000000000 : Int) < (n : Int) + (s[a + k].toNat : Int) % 128 * (P : Int) := by rw [P4.out]; omega
          have e := HE2.out
          rw [if_pos (Or.inl hM)] at e
          have HN : Hid (_ = _) := e
          clear e HE2 hM
          go_wp2
          go_quiet (fail)
          go_wp2
          go_ret3
          exact ⟨congrArg Ending.returned (rdT_none (l := s.data.toList) HN.out), below_drewN (Below.refl _ _) _⟩
        · have hMi : ¬ (1000000000 : Int) < (n : Int) + (s[a + k].toNat : Int) % 128 * (P : Int) := by rw [P4.out]; omega
          have hMd : decide ((1000000000 : Int) < (n : Int) + (s[a + k].toNat : Int) % 128 * (P : Int)) = false := decide_eq_false hMi
          have hsl : ∀ wx, (Instr.slice 9 (.string s) (some (.int .i64 (a : Int))) (some (.int .i64 ((a : Int) + (k : Int) + 1))) none).run Tryz.prog wx = .ok (.string (s.extract a (a + k + 1))) wx := fun wx => by
            rw [run_slice_string wx 9 s .i64 .i64 _ _ Tryz.underlying9 (by omega) (by omega) (by omega)]
            congr 2
          have hwr : IntKind.i64.wrap ((a : Int) + (k : Int) + 1) = (a : Int) + (k : Int) + 1 := IntWalk.i64_in _ (by omega)
          have HMM : Hid (¬ _) := hM
          clear hM
          go_wp2
          go_region_held3 (fun _ => True) (trivial) (first | (go_at_call 128; refine (l01Var_int _ (by omega) (by omega) _).mono ?_; rintro e w1 ⟨rfl, hb1⟩))
          go_wp2
          · have hz := (neq_of P4.out HX.out).1 (by assumption)
            have e := HE2.out
            rw [if_pos (Or.inr hz)] at e
            go_ret3
            exact ⟨congrArg Ending.returned (rdT_none (l := s.data.toList) e), ((Below.refl _ _).drew).trans hb1⟩
          · have hz := (neq_of P4.out HX.out).2 (by assumption)
            have e := HE2.out
            rw [if_neg (by rintro (h | h); exact HMM.out h; exact hz h)] at e
            go_ret3
            refine ⟨?_, ((Below.refl _ _).drew).trans hb1⟩
            rw [← rdT_some e]
            exact ret3_num P4.out (by omega)
      · have HE2 : Hid (_ = _) := (Words.rdB_more (n := n) hk5 hin hb).symm.trans HE.out
        clear HE
        have hbi : ¬ (s[a + k].toNat : Int) < 128 := by omega
        go_wp2
        go_round
        case rel =>
          refine ⟨n + s[a + k].toNat % 128 * 128 ^ k, k + 1, P * 128, by omega, P5.out, P6.out, by rw [P4.out], by go_num, by go_num, by omega, HE2.out, ?_, ?_⟩
          · rw [Words.met_more hin]
            intro c hc
            rcases List.mem_append.1 hc with hc | hc
            · exact HM.out c hc
            · rw [List.mem_singleton.1 hc]; omega
          · rw [Words.met_more hin, Words.val_snoc, ← HV.out, List.length_take]
            rw [Nat.min_eq_left hll]
        case measure => simp [intOf]; omega
    · have HN : Hid (_ = _) := (Words.rdB_none (n := n) hlt).symm.trans HE.out
      clear HE hn
      by_cases hin : a + k < s.size
      · have hk5 : ¬ (a : Int) + (k : Int) < (a : Int) + 5 := by omega
        go_wp2
        go_ret3
        exact ⟨congrArg Ending.returned (rdT_none (l := s.data.toList) HN.out), Below.refl _ _⟩
      · have hin2 : ¬ (a : Int) + (k : Int) < (s.size : Int) := by omega
        go_wp2
        go_ret3
        exact ⟨congrArg Ending.returned (rdT_none (l := s.data.toList) HN.out), Below.refl _ _⟩
end Go.Proofs.YtbcfiiilikkkeaaGreatDoor
namespace Go.Proofs.YtbcfiiilikkkeaaGreatDoor
open Go.RowKit

def rdZ (s : ByteArray) (x : Int) : Option (Nat × Nat) := if 0 ≤ x ∧ x ≤ s.size then Words.rd s.data.toList x.toNat else none

theorem specRead_any (s : ByteArray) (hs : s.size ≤ 1048576) (x : Int) (w : World) :
    Calls Tryz.prog 173 #[.string s, .int .i64 x] w fun e w' => e = .returned (rdTuple (rdZ s x)) ∧ Below w.heap.size w w' := by
  by_cases h : 0 ≤ x ∧ x ≤ s.size
  · obtain ⟨n, rfl⟩ := Int.eq_ofNat_of_zero_le h.1
    rw [rdZ, if_pos h, Int.toNat_natCast]
    exact specRead_yes s hs n (by omega) w
  · rw [rdZ, if_neg h]
    exact specRead_no s x h w
theorem implRead_any (s : ByteArray) (hs : s.size ≤ 1048576) (x : Int) (w : World) :
    Calls Tryz.prog 288 #[.string s, .int .i64 x] w fun e w' => e = .returned (rdTuple (rdZ s x)) ∧ w' = w := by
  by_cases h : 0 ≤ x ∧ x ≤ s.size
  · obtain ⟨n, rfl⟩ := Int.eq_ofNat_of_zero_le h.1
    rw [rdZ, if_pos h, Int.toNat_natCast]
    exact implRead_yes s hs n (by omega) w
  · rw [rdZ, if_neg h]
    exact implRead_no s x h w

theorem specRead_none {s : ByteArray} {x : Int} (hs : s.size ≤ 1048576) (h : rdZ s x = none) (w : World) :
    Calls Tryz.prog 173 #[.string s, .int .i64 x] w fun e w' => e = .returned (.tuple #[.int .i64 0, .int .i64 0, .bool false]) ∧ Below w.heap.size w w' := by
  have := specRead_any s hs x w
  rwa [h] at this
theorem specRead_some {s : ByteArray} {x : Int} {n k : Nat} (hs : s.size ≤ 1048576) (h : rdZ s x = some (n, k)) (w : World) :
    Calls Tryz.prog 173 #[.string s, .int .i64 x] w fun e w' => e = .returned (.tuple #[.int .i64 (n : Int), .int .i64 (k : Int), .bool true]) ∧ Below w.heap.size w w' := by
  have := specRead_any s hs x w
  rwa [h] at this
theorem implRead_none {s : ByteArray} {x : Int} (hs : s.size ≤ 1048576) (h : rdZ s x = none) (w : World) :
    Calls Tryz.prog 288 #[.string s, .int .i64 x] w fun e w' => e = .returned (.tuple #[.int .i64 0, .int .i64 0, .bool false]) ∧ w' = w := by
  have := implRead_any s hs x w
  rwa [h] at this
theorem implRead_some {s : ByteArray} {x : Int} {n k : Nat} (hs : s.size ≤ 1048576) (h : rdZ s x = some (n, k)) (w : World) :
    Calls Tryz.prog 288 #[.string s, .int .i64 x] w fun e w' => e = .returned (.tuple #[.int .i64 (n : Int), .int .i64 (k : Int), .bool true]) ∧ w' = w := by
  have := implRead_any s hs x w
  rwa [h] at this

end Go.Proofs.YtbcfiiilikkkeaaGreatDoor
