/- Plain facts on shelves: what is told of a disk, what cleans it, its map, a batch added; no program is named here. Plain facts on shelves: the map of a clean shelf, and a batch added to it; no program is named here. Plain facts on disks as ascending lists: what is put, dropped, found; raw writes done to a table of files. -/
import Derived.Test.YtbcfiiilikkkeaaGreatDoorMathAt
import Derived.Test.YtbcfiiilikkkeaaGreatDoorMathDec
namespace Go.Proofs.YtbcfiiilikkkeaaGreatDoor
set_option linter.unusedVariables false
structure ShelfL where
  man : ManL
  dir : List SpotL
  stamp : Int
namespace Dirs
open Go
open Batches (lt)
def spotOkB (c : SpotL) : Bool := decide ((1 ≤ c.key.size ∧ c.key.size ≤ 10) ∧ (0 ≤ c.seg ∧ c.seg ≤ 999) ∧ (0 ≤ c.pos ∧ c.pos ≤ 20000) ∧ (0 ≤ c.size ∧ c.size ≤ 40))
theorem spotOkB_iff (c : SpotL) : spotOkB c = true ↔ spotOk c := decide_eq_true_iff
def okAtB (l : List SpotL) (j : Nat) : Bool := match l[j]? with
  | none => false
  | some f => spotOkB f && (j == 0 || match l[j - 1]? with | none => false | some e => lt e.key f.key)
def okB (l : List SpotL) : Bool := decide (l.length ≤ 60) && (List.range l.length).all (okAtB l)
theorem okAtB_iff (l : List SpotL) (j : Nat) : okAtB l j = true ↔ okAt l j := by
  unfold okAtB okAt
  by_cases hj : j < l.length
  · rw [List.getElem?_eq_getElem hj]
    simp only [Bool.and_eq_true, spotOkB_iff, Bool.or_eq_true, beq_iff_eq]
    constructor
    · rintro ⟨h1, h2⟩
      refine ⟨hj, h1, fun hp => ⟨by omega, ?_⟩⟩
      rcases h2 with h2 | h2
      · omega
      · rw [List.getElem?_eq_getElem (show j - 1 < l.length by omega)] at h2; exact h2
    · rintro ⟨_, h1, h2⟩
      refine ⟨h1, ?_⟩
      by_cases hz : j = 0
      · exact Or.inl hz
      · right
        obtain ⟨hi, h3⟩ := h2 (by omega)
        rw [List.getElem?_eq_getElem hi]; exact h3
  · rw [List.getElem?_eq_none (by omega)]
    simp [hj]
theorem okB_iff (l : List SpotL) : okB l = true ↔ ok l := by
  unfold okB ok
  simp only [Bool.and_eq_true, decide_eq_true_eq, List.all_eq_true, List.mem_range, okAtB_iff]
end Dirs
namespace Mans
open Go
open Batches (by_ by_inj)
def okB (m : ManL) : Bool := decide ((1 ≤ m.segs.length ∧ m.segs.length ≤ 8) ∧ (0 ≤ m.next ∧ m.next ≤ 1000)) && (asc 0 (m.next - 1) m.segs && (decide ((0 ≤ m.base ∧ m.base ≤ 100000) ∧ (0 ≤ m.term ∧ m.term ≤ 100000)) && confOk m.conf))
theorem okB_iff (m : ManL) : okB m = true ↔ ok m := by
  unfold okB ok
  simp only [Bool.and_eq_true, decide_eq_true_eq]
  exact ⟨fun ⟨⟨h1, h2⟩, h3, ⟨h4, h5⟩, h6⟩ => ⟨h1, h2, h3, h4, h5, h6⟩, fun ⟨h1, h2, h3, h4, h5, h6⟩ => ⟨⟨h1, h2⟩, h3, ⟨h4, h5⟩, h6⟩⟩
def rest4 (u : ByteArray) (l : List Int) (x y z : Nat) (a4 : Nat) : Option ManL :=
  match Words.rd (by_ u) a4 with
  | none => none
  | some (k, a5) => match rdMany u k a5 with
    | none => none
    | some (c, e) => if (decide (e = u.size) && okB ⟨l, x, y, z, c⟩) = true then some ⟨l, x, y, z, c⟩ else none
def rest1 (u : ByteArray) (l : List Int) (a1 : Nat) : Option ManL :=
  match Words.rd (by_ u) a1 with
  | none => none
  | some (x, a2) => match Words.rd (by_ u) a2 with
    | none => none
    | some (y, a3) => match Words.rd (by_ u) a3 with
      | none => none
      | some (z, a4) => rest4 u l x y z a4
def rest0 (u : ByteArray) : Option ManL :=
  match Words.rd (by_ u) 0 with
  | none => none
  | some (n, a0) => match rdMany u n a0 with
    | none => none
    | some (l, a1) => rest1 u l a1
/-- A text read as a manifest. -/
def manOf (t : ByteArray) : Option ManL := match Sums.unsealed (by_ t) with
  | none => none
  | some u => rest0 ⟨u.toArray⟩
theorem rest4_some {u : ByteArray} {l : List Int} {x y z a4 : Nat} {m : ManL} (h : rest4 u l x y z a4 = some m) : ∃ k a5, Words.rd (by_ u) a4 = some (k, a5) ∧ rdMany u k a5 = some (m.conf, u.size) ∧ m = ⟨l, x, y, z, m.conf⟩ ∧ ok m := by
  unfold rest4 at h
  split at h
  · cases h
  · rename_i k a5 h1
    split at h
    · cases h
    · rename_i c e h2
      split at h
      · rename_i hc
        rw [Bool.and_eq_true, decide_eq_true_eq, okB_iff] at hc
        simp only [Option.some.injEq] at h
        subst h
        exact ⟨k, a5, h1, by rw [h2, hc.1], rfl, hc.2⟩
      · cases h
theorem rest1_some {u : ByteArray} {l : List Int} {a1 : Nat} {m : ManL} (h : rest1 u l a1 = some m) : ∃ x y z a2 a3 a4, Words.rd (by_ u) a1 = some (x, a2) ∧ Words.rd (by_ u) a2 = some (y, a3) ∧ Words.rd (by_ u) a3 = some (z, a4) ∧ rest4 u l x y z a4 = some m := by
  unfold rest1 at h
  split at h
  · cases h
  · rename_i x a2 h1
    split at h
    · cases h
    · rename_i y a3 h2
      split at h
      · cases h
      · rename_i z a4 h3
        exact ⟨x, y, z, a2, a3, a4, h1, h2, h3, h⟩
theorem rest0_some {u : ByteArray} {m : ManL} (h : rest0 u = some m) : by_ u = text m ∧ ok m := by
  unfold rest0 at h
  split at h
  · cases h
  · rename_i n a0 h0
    split at h
    · cases h
    · rename_i l a1 h1
      obtain ⟨x, y, z, a2, a3, a4, h2, h3, h4, h5⟩ := rest1_some h
      obtain ⟨k, a5, h6, h7, h8, h9⟩ := rest4_some h5
      have q1 := (rdMany_cut _ _ _ _ (Batches.rd_cut h0).2.1 h1).2.2.2.1
      have q2 := (rdMany_cut _ _ _ _ (Batches.rd_cut h6).2.1 h7).2.2.2.1
      have g : Gets u m a0 a1 a2 a3 a4 a5 u.size := by
        obtain ⟨o1, o2, o3, o4, o5, o6⟩ := id h9
        obtain ⟨g1, g2⟩ := confOk_iff.1 o6
        rw [h8] at o1 ⊢
        subst q1 q2
        exact ⟨o1.2, h0, h1, h2, h3, h4, g1.2, h6, h7, by simp, by simp, by simp⟩
      exact ⟨gets_text g, h9⟩
theorem rest0_gets {u : ByteArray} {m : ManL} {a0 a1 a2 a3 a4 a5 : Nat} (h : Gets u m a0 a1 a2 a3 a4 a5 u.size) (ho : ok m) : rest0 u = some m := by
  have e : (⟨m.segs, (m.next.toNat : Int), (m.base.toNat : Int), (m.term.toNat : Int), m.conf⟩ : ManL) = m := by
    have h2 := h.i2; have h3 := h.i3; have h4 := h.i4
    clear h ho
    cases m
    simp only [ManL.mk.injEq, true_and, and_true] at *
    omega
  unfold rest0
  rw [h.r0]
  simp only
  rw [h.r1]
  simp only
  unfold rest1
  rw [h.r2]
  simp only
  rw [h.r3]
  simp only
  rw [h.r4]
  simp only
  unfold rest4
  rw [h.r5]
  simp only
  rw [h.r6]
  simp only
  rw [e, if_pos]
  rw [Bool.and_eq_true, okB_iff]
  exact ⟨by simp, ho⟩
theorem manOf_iff {t : ByteArray} {m : ManL} : manOf t = some m ↔ Got t m := by
  constructor
  · intro h
    unfold manOf at h
    split at h
    · cases h
    · rename_i u hu
      obtain ⟨h1, h2⟩ := rest0_some h
      exact unsealed_got (by rw [hu]; exact congrArg some h1) h2
  · intro h
    unfold manOf
    rw [got_unsealed h]
    simp only
    obtain ⟨a0, a1, a2, a3, a4, a5, g⟩ := text_gets (u := ⟨(text m).toArray⟩) rfl h.2
    exact rest0_gets g h.2
end Mans
namespace Shelves
open Go
open Batches (by_ by_inj lt)
open Scan (segEnd segSpots segStamp Full valAt)
open Disks (fileAt textOf RawL nameIs)
def nameM : ByteArray := ⟨#[109]⟩
def nameNew : ByteArray := ⟨#[109, 43]⟩
/-- The name of a segment. -/
def segName (n : Int) : ByteArray := if 0 ≤ n ∧ n ≤ 999 then ⟨(103 :: Words.dec n.toNat).toArray⟩ else ⟨#[]⟩
theorem segName_in {n : Int} (h : 0 ≤ n ∧ n ≤ 999) : by_ (segName n) = 103 :: Words.dec n.toNat := by
  unfold segName; rw [if_pos h]
theorem dec_inj {a b : Nat} (h : Words.dec a = Words.dec b) : a = b := by
  have := congrArg (fun l => Words.numF l 0) h
  simp only [Words.dec_num] at this
  exact this
theorem segName_inj {a b : Int} (ha : 0 ≤ a ∧ a ≤ 999) (hb : 0 ≤ b ∧ b ≤ 999) (h : segName a = segName b) : a = b := by
  have e := congrArg by_ h
  rw [segName_in ha, segName_in hb, List.cons.injEq] at e
  have := dec_inj e.2
  omega
theorem segName_m (n : Int) : segName n ≠ nameM := fun h => by
  unfold segName at h
  split at h
  · have e := congrArg by_ h
    have e2 : (103 : UInt8) :: Words.dec n.toNat = [109] := e
    simp at e2
  · have e := congrArg by_ h
    have e2 : ([] : List UInt8) = [109] := e
    simp at e2
theorem segName_new (n : Int) : segName n ≠ nameNew := fun h => by
  unfold segName at h
  split at h
  · have e := congrArg by_ h
    have e2 : (103 : UInt8) :: Words.dec n.toNat = [109, 43] := e
    simp at e2
  · have e := congrArg by_ h
    have e2 : ([] : List UInt8) = [109, 43] := e
    simp at e2
theorem m_new : nameM ≠ nameNew := fun h => by
  have e := congrArg by_ h
  have e2 : ([109] : List UInt8) = [109, 43] := e
  simp at e2
/-- The number of a segment's name. -/
def segOf (name : ByteArray) : Option Nat := match Words.rdD ((by_ name).drop 1) 0 true with
  | none => none
  | some n => if (by_ (segName n) == by_ name) = true then some n else none
theorem segOf_iff {name : ByteArray} {n : Nat} : segOf name = some n ↔ n ≤ 999 ∧ name = segName n := by
  unfold segOf
  constructor
  · intro h
    split at h
    · cases h
    · rename_i k hk
      split at h
      · rename_i he
        simp only [Option.some.injEq] at h
        subst h
        have e := by_inj (beq_iff_eq.1 he)
        refine ⟨?_, e.symm⟩
        by_cases hle : k ≤ 999
        · exact hle
        · exfalso
          have h0 : segName (k : Int) = ⟨#[]⟩ := by unfold segName; rw [if_neg (by omega)]
          have hd := (Words.rdD_iff _ _).1 hk
          rw [← e, h0] at hd
          exact Words.dec_ne k (by rw [hd.2]; rfl)
      · cases h
  · rintro ⟨h1, rfl⟩
    have e := segName_in (n := (n : Int)) (by omega)
    rw [e, List.drop_one, List.tail_cons, (Words.rdD_iff _ n).2 ⟨by omega, by simp⟩]
    simp only
    rw [e, if_pos (by simp)]
def textAt (l : List FileL) (n : Int) : List UInt8 := by_ (textOf l (segName n))
def dirOf (l : List FileL) : List SpotL → List Int → List SpotL
  | d, [] => d
  | d, n :: r => dirOf l (Dirs.more d (segSpots n (textAt l n))) r
def stOf (l : List FileL) : Int → List Int → Int
  | s, [] => s
  | s, n :: r => stOf l (if s < segStamp (textAt l n) then segStamp (textAt l n) else s) r
theorem dirOf_app (l : List FileL) : ∀ (r q : List Int) (d : List SpotL), dirOf l d (r ++ q) = dirOf l (dirOf l d r) q
  | [], q, d => rfl
  | n :: r, q, d => by rw [List.cons_append, dirOf, dirOf, dirOf_app l r]
theorem stOf_app (l : List FileL) : ∀ (r q : List Int) (s : Int), stOf l s (r ++ q) = stOf l (stOf l s r) q
  | [], q, s => rfl
  | n :: r, q, s => by rw [List.cons_append, stOf, stOf, stOf_app l r]
theorem dirOf_all {l : List FileL} {p : SpotL → Prop} : ∀ (r : List Int) (d : List SpotL), (∀ x ∈ d, p x) → (∀ n ∈ r, ∀ x ∈ segSpots n (textAt l n), p x) → ∀ x ∈ dirOf l d r, p x
  | [], d, h, _ => h
  | n :: r, d, h, h2 => dirOf_all r _ (Dirs.more_all _ _ h (h2 n List.mem_cons_self)) (fun m hm => h2 m (List.mem_cons_of_mem _ hm))
/-- The last of a manifest's segments. -/
def lastOf (m : ManL) : Int := m.segs.getLast?.getD 0
/-- The shelf that a disk has, and how far the batches of its last segment go; or a code. -/
def load (l : List FileL) : Except Int (ShelfL × Nat) :=
  if Disks.okB l = true then
    match fileAt l nameM with
    | none => .error 2
    | some t => match Mans.manOf t with
      | none => .error 2
      | some m =>
        if (m.segs.all fun n => (fileAt l (segName n)).isSome) = true then
          if (m.segs.dropLast.all fun n => decide (segEnd (textAt l n) = (textAt l n).length)) = true then
            if Dirs.okB (dirOf l [] m.segs) = true then .ok (⟨m, dirOf l [] m.segs, stOf l m.base m.segs⟩, segEnd (textAt l (lastOf m))) else .error 4
          else .error 4
        else .error 3
  else .error 1
structure Loads (l : List FileL) (s : ShelfL) (e : Nat) : Prop where
  disk : Disks.ok l
  man : ∃ t, fileAt l nameM = some t ∧ Mans.Got t s.man
  segs : ∀ n ∈ s.man.segs, (fileAt l (segName n)).isSome = true
  full : ∀ n ∈ s.man.segs.dropLast, Full (textAt l n)
  dir : s.dir = dirOf l [] s.man.segs
  stamp : s.stamp = stOf l s.man.base s.man.segs
  right : Dirs.ok s.dir
  ends : e = segEnd (textAt l (lastOf s.man))
theorem load_iff {l : List FileL} {s : ShelfL} {e : Nat} : load l = .ok (s, e) ↔ Loads l s e := by
  constructor
  · intro h
    unfold load at h
    split at h
    · rename_i h0
      split at h
      · cases h
      · rename_i t ht
        split at h
        · cases h
        · rename_i m hm
          split at h
          · rename_i h1
            split at h
            · rename_i h2
              split at h
              · rename_i h3
                simp only [Except.ok.injEq, Prod.mk.injEq] at h
                obtain ⟨rfl, rfl⟩ := h
                refine ⟨(Disks.okB_iff l).1 h0, ⟨t, ht, Mans.manOf_iff.1 hm⟩, List.all_eq_true.1 h1, fun n hn => ?_, rfl, rfl, (Dirs.okB_iff _).1 h3, rfl⟩
                have q := List.all_eq_true.1 h2 n hn
                rw [decide_eq_true_eq] at q
                exact q
              · cases h
            · cases h
          · cases h
    · cases h
  · rintro ⟨h0, ⟨t, ht, hm⟩, h1, h2, h3, h4, h5, rfl⟩
    unfold load
    rw [if_pos ((Disks.okB_iff l).2 h0), ht]
    simp only
    rw [Mans.manOf_iff.2 hm]
    simp only
    rw [if_pos (List.all_eq_true.2 h1), if_pos (List.all_eq_true.2 fun n hn => by have q := h2 n hn; unfold Full at q; rw [decide_eq_true_eq]; exact q), if_pos ((Dirs.okB_iff _).2 (by rw [← h3]; exact h5)), ← h3, ← h4]
def drop1 (n : ByteArray) : RawL := ⟨4, n, ⟨#[]⟩, ⟨#[]⟩⟩
def put1 (n t : ByteArray) : RawL := ⟨1, n, ⟨#[]⟩, t⟩
/-- A file whose name is a segment's that the manifest has not. -/
def stray (m : ManL) (f : FileL) : Bool := match segOf f.1 with
  | none => false
  | some n => !(m.segs.contains (n : Int))
def upTo (t : List UInt8) (e : Nat) : ByteArray := ⟨(t.take e).toArray⟩
/-- The raw writes that clean a disk. -/
def cleans (l : List FileL) (m : ManL) (e : Nat) : List RawL :=
  (if (fileAt l nameNew).isSome = true then [drop1 nameNew] else []) ++ (((l.filter (stray m)).map fun f => drop1 f.1) ++ (if e < (textAt l (lastOf m)).length then [put1 (segName (lastOf m)) (upTo (textAt l (lastOf m)) e)] else []))
def opens (l : List FileL) : Except Int (ShelfL × List RawL) := match load l with
  | .error c => .error c
  | .ok (s, e) => .ok (s, cleans l s.man e)
theorem stray_iff {m : ManL} {f : FileL} : stray m f = true ↔ ∃ n : Nat, n ≤ 999 ∧ f.1 = segName n ∧ (n : Int) ∉ m.segs := by
  unfold stray
  cases h : segOf f.1 with
  | none =>
    constructor
    · intro h2; cases h2
    · rintro ⟨n, h1, h2, h3⟩
      rw [segOf_iff.2 ⟨h1, h2⟩] at h; cases h
  | some k =>
    obtain ⟨h1, h2⟩ := segOf_iff.1 h
    simp only [Bool.not_eq_true', List.contains_eq_mem, decide_eq_false_iff_not]
    constructor
    · intro h3; exact ⟨k, h1, h2, h3⟩
    · rintro ⟨n, g1, g2, g3⟩
      have := segName_inj (a := (k : Int)) (b := (n : Int)) (by omega) (by omega) (h2.symm.trans g2)
      rw [this]; exact g3
/-- A disk that has this shelf and needs no raw writes. -/
structure Clean (l : List FileL) (s : ShelfL) : Prop where
  disk : Disks.ok l
  man : ∃ t, fileAt l nameM = some t ∧ Mans.Got t s.man
  segs : ∀ n ∈ s.man.segs, (fileAt l (segName n)).isSome = true
  full : ∀ n ∈ s.man.segs, Full (textAt l n)
  dir : s.dir = dirOf l [] s.man.segs
  stamp : s.stamp = stOf l s.man.base s.man.segs
  right : Dirs.ok s.dir
  new : fileAt l nameNew = none
  lone : ∀ n : Nat, n ≤ 999 → (n : Int) ∉ s.man.segs → fileAt l (segName n) = none
theorem segs_ne {m : ManL} (h : Mans.ok m) : m.segs = m.segs.dropLast ++ [lastOf m] ∧ ∀ n ∈ m.segs, 0 ≤ n ∧ n ≤ 999 := by
  have h1 := h.1.1
  have hne : m.segs ≠ [] := fun e => by rw [e] at h1; simp at h1
  refine ⟨?_, fun n hn => ?_⟩
  · unfold lastOf
    rw [List.getLast?_eq_some_getLast hne, Option.getD_some, List.dropLast_concat_getLast]
  · have := Mans.asc_in _ _ _ h.2.2.1 n hn
    have := h.2.1
    omega
theorem last_mem {m : ManL} (h : Mans.ok m) : lastOf m ∈ m.segs := by
  rw [(segs_ne h).1]; simp
theorem nil_of_append {α : Type} {a b : List α} : a ++ b = [] ↔ a = [] ∧ b = [] := List.append_eq_nil_iff
theorem opens_clean {l : List FileL} {s : ShelfL} : opens l = .ok (s, []) ↔ Clean l s := by
  unfold opens
  constructor
  · intro h
    cases hl : load l with
    | error c => rw [hl] at h; cases h
    | ok p =>
      obtain ⟨s', e⟩ := p
      rw [hl] at h
      simp only [Except.ok.injEq, Prod.mk.injEq] at h
      obtain ⟨rfl, hc⟩ := h
      obtain ⟨h0, h1, h2, h3, h4, h5, h6, h7⟩ := load_iff.1 hl
      unfold cleans at hc
      rw [nil_of_append, nil_of_append] at hc
      obtain ⟨c1, c2, c3⟩ := hc
      have hok : Mans.ok s'.man := by obtain ⟨t, _, q⟩ := h1; exact q.2
      refine ⟨h0, h1, h2, fun n hn => ?_, h4, h5, h6, ?_, fun n hn hs => ?_⟩
      · rw [(segs_ne hok).1] at hn
        rcases List.mem_append.1 hn with hn | hn
        · exact h3 n hn
        · rw [List.mem_singleton.1 hn]
          have q := Scan.segEnd_le (textAt l (lastOf s'.man))
          unfold Full
          split at c3
          · cases c3
          · omega
      · split at c1
        · cases c1
        · rename_i q
          cases hq : fileAt l nameNew with
          | none => rfl
          | some t => rw [hq] at q; simp at q
      · rw [List.map_eq_nil_iff, List.filter_eq_nil_iff] at c2
        exact Disks.at_none.2 fun f hf e => c2 f hf (stray_iff.2 ⟨n, hn, e, hs⟩)
  · rintro ⟨h0, h1, h2, h3, h4, h5, h6, h7, h8⟩
    have hok : Mans.ok s.man := by obtain ⟨t, _, q⟩ := h1; exact q.2
    have hl := load_iff.2 (⟨h0, h1, h2, fun n hn => h3 n (List.dropLast_subset _ hn), h4, h5, h6, rfl⟩ : Loads l s _)
    rw [hl]
    simp only [Except.ok.injEq, Prod.mk.injEq, true_and]
    unfold cleans
    have e1 : l.filter (stray s.man) = [] := List.filter_eq_nil_iff.2 fun f hf hs => by
      obtain ⟨n, g1, g2, g3⟩ := stray_iff.1 hs
      exact Disks.at_none.1 (h8 n g1 g3) f hf g2
    have e2 : segEnd (textAt l (lastOf s.man)) = (textAt l (lastOf s.man)).length := h3 _ (last_mem hok)
    rw [h7, e1, if_neg (by simp), if_neg (by omega)]
    rfl
end Shelves
end Go.Proofs.YtbcfiiilikkkeaaGreatDoor
namespace Go.Proofs.YtbcfiiilikkkeaaGreatDoor
set_option linter.unusedVariables false
namespace Shelves
open Go
open Batches (by_ by_inj lt)
open Scan (segEnd segSpots segStamp Full valAt by_len)
open Disks (fileAt textOf RawL nameIs)
theorem text_le {l : List FileL} (h : Disks.ok l) (n : Int) : (textAt l n).length ≤ 20000 := by
  unfold textAt
  rw [by_len, Disks.textOf_at]
  cases e : fileAt l (segName n) with
  | none => exact Nat.zero_le _
  | some t => exact (Disks.at_ok h e).2.2
/-- The frame of a batch. -/
def frameOf (st : Nat) (ch : List ChangeL) : List UInt8 := Words.frame (Batches.text st ch)
/-- Is a new segment to begin? -/
def begins (l : List FileL) (m : ManL) : Bool := decide (500 ≤ (textAt l (lastOf m)).length) && (decide (m.segs.length < 8) && decide (m.next ≤ 999))
def grown (m : ManL) : ManL := ⟨m.segs ++ [m.next], m.next + 1, m.base, m.term, m.conf⟩
def manRaws (t : ByteArray) : List RawL := [put1 nameNew t, ⟨3, nameNew, nameM, ⟨#[]⟩⟩]
def addRaws (l : List FileL) (m : ManL) (f : List UInt8) : List RawL :=
  if begins l m = true then put1 (segName m.next) ⟨f.toArray⟩ :: manRaws ⟨(Mans.sealed (Mans.text (grown m))).toArray⟩ else [⟨2, segName (lastOf m), ⟨#[]⟩, ⟨f.toArray⟩⟩]
/-- The shelf behind raw writes that are all done and leave a clean disk. -/
def after (l : List FileL) (rs : List RawL) : Option ShelfL :=
  if (Disks.run l rs).2 = rs.length then (match opens (Disks.run l rs).1 with
    | .ok (s, []) => some s
    | _ => none) else none
theorem after_some {l : List FileL} {rs : List RawL} {s : ShelfL} (h : after l rs = some s) : (Disks.run l rs).2 = rs.length ∧ Clean (Disks.run l rs).1 s := by
  unfold after at h
  split at h
  · rename_i h1
    split at h
    · rename_i s' he
      simp only [Option.some.injEq] at h
      subst h
      exact ⟨h1, opens_clean.1 he⟩
    · cases h
  · cases h
theorem after_clean {l : List FileL} {rs : List RawL} {s : ShelfL} (h1 : (Disks.run l rs).2 = rs.length) (h2 : Clean (Disks.run l rs).1 s) : after l rs = some s := by
  unfold after
  rw [if_pos h1, opens_clean.2 h2]
theorem man_ok {l : List FileL} {s : ShelfL} (h : Clean l s) : Mans.ok s.man := by
  obtain ⟨t, _, q⟩ := h.man
  exact q.2
theorem textAt_put_same {l : List FileL} {t : ByteArray} {k : Int} : textAt (Disks.put l (segName k, t)) k = by_ t := by
  unfold textAt
  rw [Disks.textOf_at, Disks.fileAt_put_same]; rfl
end Shelves
end Go.Proofs.YtbcfiiilikkkeaaGreatDoor
namespace Go.Proofs.YtbcfiiilikkkeaaGreatDoor.Disks
open Go
abbrev key (s : ByteArray) : List UInt8 := s.data.toList
theorem toList_key (s : ByteArray) : s.toList = key s := ByteArray.toList_eq s
theorem key_inj {a b : ByteArray} (h : key a = key b) : a = b := by
  cases a; cases b
  simp only [ByteArray.mk.injEq]
  exact Array.ext' h
theorem less_eq : ∀ (x y : List UInt8), Op.bytesLess x y = decide (x < y)
  | [], [] => by simp [Op.bytesLess]
  | _ :: _, [] => by simp [Op.bytesLess]
  | [], _ :: _ => by simp [Op.bytesLess]
  | a :: x, b :: y => by
    rw [Op.bytesLess, less_eq x y]
    simp only [List.cons_lt_cons_iff]
    by_cases h1 : a < b <;> by_cases h2 : a = b <;> by_cases h3 : x < y <;> simp [h1, h2, h3]
theorem lt_iff (a b : ByteArray) : lt a b = true ↔ key a < key b := by
  unfold lt; rw [less_eq, toList_key, toList_key, decide_eq_true_iff]
theorem lt_irrefl (a : ByteArray) : lt a a = false := by
  cases h : lt a a
  · rfl
  · exact absurd ((lt_iff a a).1 h) (List.lt_irrefl _)
theorem lt_trans {a b c : ByteArray} (h1 : lt a b = true) (h2 : lt b c = true) : lt a c = true :=
  (lt_iff a c).2 (List.lt_trans ((lt_iff a b).1 h1) ((lt_iff b c).1 h2))
theorem lt_total {a b : ByteArray} (h1 : lt a b = false) (h2 : lt b a = false) : a = b := by
  have e1 : ¬ key a < key b := fun h => by rw [(lt_iff a b).2 h] at h1; cases h1
  have e2 : ¬ key b < key a := fun h => by rw [(lt_iff b a).2 h] at h2; cases h2
  exact key_inj (List.le_antisymm (List.not_lt.1 e2) (List.not_lt.1 e1))
theorem nameIs_iff (n : ByteArray) (f : FileL) : nameIs n f = true ↔ f.1 = n := by
  unfold nameIs; rw [toList_key, toList_key, beq_iff_eq]
  exact ⟨key_inj, fun h => by rw [h]⟩
theorem nameIs_false (n : ByteArray) (f : FileL) : nameIs n f = false ↔ f.1 ≠ n := by
  rw [← Bool.not_eq_true, nameIs_iff]
theorem gt_iff (a b : ByteArray) : gt a b = true ↔ lt b a = true := by
  unfold gt
  rw [toList_key, toList_key]
  by_cases h : lt a b = true
  · have : Op.bytesLess (key a) (key b) = true := by unfold lt at h; rwa [toList_key, toList_key] at h
    rw [this]
    simp only [Bool.true_or, Bool.not_true, Bool.false_eq_true, false_iff, Bool.not_eq_true]
    cases h2 : lt b a
    · rfl
    · have := lt_trans h h2; rw [lt_irrefl] at this; cases this
  · have hf : lt a b = false := by simpa using h
    have : Op.bytesLess (key a) (key b) = false := by unfold lt at hf; rwa [toList_key, toList_key] at hf
    rw [this]
    simp only [Bool.false_or, Bool.not_eq_true']
    constructor
    · intro h2
      cases h3 : lt b a
      · exact absurd (lt_total hf h3) (fun e => by rw [e] at h2; simp at h2)
      · rfl
    · intro h2
      cases h3 : (key a == key b)
      · rfl
      · have := key_inj (beq_iff_eq.1 h3)
        rw [this, lt_irrefl] at h2; cases h2
/-- Names that ascend. -/
def asc (l : List FileL) : Prop := l.Pairwise fun e f => lt e.1 f.1 = true
theorem ok_far {l : List FileL} (h : ∀ j, j < l.length → okAt l j) : ∀ (d i : Nat) (hi : i < l.length) (hj : i + d + 1 < l.length), lt l[i].1 l[i + d + 1].1 = true
  | 0, i, hi, hj => by
    obtain ⟨_, _, h2⟩ := h (i + 0 + 1) hj
    obtain ⟨_, h3⟩ := h2 (by omega)
    exact h3
  | d + 1, i, hi, hj => by
    have h1 := ok_far h d i hi (by omega)
    obtain ⟨_, _, h2⟩ := h (i + (d + 1) + 1) hj
    obtain ⟨_, h3⟩ := h2 (by omega)
    exact lt_trans h1 h3
theorem ok_iff (l : List FileL) : ok l ↔ l.length ≤ 30 ∧ (∀ f ∈ l, fileOk f) ∧ asc l := by
  constructor
  · rintro ⟨h1, h2⟩
    refine ⟨h1, fun f hf => ?_, List.pairwise_iff_getElem.2 fun i j hi hj hij => ?_⟩
    · obtain ⟨j, hj, rfl⟩ := List.mem_iff_getElem.1 hf
      exact (h2 j hj).2.1
    · obtain ⟨d, rfl⟩ : ∃ d, j = i + d + 1 := ⟨j - i - 1, by omega⟩
      exact ok_far h2 d i hi hj
  · rintro ⟨h1, h2, h3⟩
    refine ⟨h1, fun j hj => ⟨hj, h2 _ (List.getElem_mem _), fun hp => ⟨by omega, ?_⟩⟩⟩
    exact List.pairwise_iff_getElem.1 h3 (j - 1) j (by omega) hj (by omega)
theorem asc_inj {l : List FileL} (h : asc l) {e f : FileL} (he : e ∈ l) (hf : f ∈ l) (hn : e.1 = f.1) : e = f := by
  obtain ⟨i, hi, rfl⟩ := List.mem_iff_getElem.1 he
  obtain ⟨j, hj, rfl⟩ := List.mem_iff_getElem.1 hf
  rcases Nat.lt_trichotomy i j with q | q | q
  · have := List.pairwise_iff_getElem.1 h i j hi hj q; rw [hn, lt_irrefl] at this; cases this
  · subst q; rfl
  · have := List.pairwise_iff_getElem.1 h j i hj hi q; rw [hn, lt_irrefl] at this; cases this
theorem put_mem_iff {l : List FileL} {f e : FileL} : e ∈ put l f ↔ e = f ∨ (e ∈ l ∧ e.1 ≠ f.1) := by
  unfold put
  simp only [List.mem_append, List.mem_filter, List.mem_singleton, gt_iff]
  constructor
  · rintro ((⟨h1, h2⟩ | h) | ⟨h1, h2⟩)
    · exact Or.inr ⟨h1, fun e => by rw [e, lt_irrefl] at h2; cases h2⟩
    · exact Or.inl h
    · exact Or.inr ⟨h1, fun e => by rw [e, lt_irrefl] at h2; cases h2⟩
  · rintro (h | ⟨h1, h2⟩)
    · exact Or.inl (Or.inr h)
    · cases h3 : lt e.1 f.1
      · cases h4 : lt f.1 e.1
        · exact absurd (lt_total h3 h4) h2
        · exact Or.inr ⟨h1, rfl⟩
      · exact Or.inl (Or.inl ⟨h1, rfl⟩)
theorem put_asc {l : List FileL} (h : asc l) (f : FileL) : asc (put l f) := by
  unfold put asc
  rw [List.pairwise_append, List.pairwise_append]
  refine ⟨⟨h.filter _, by simp, fun a ha b hb => ?_⟩, h.filter _, fun a ha b hb => ?_⟩
  · rw [List.mem_singleton] at hb; subst hb
    exact (List.mem_filter.1 ha).2
  · have hb2 := (gt_iff _ _).1 (List.mem_filter.1 hb).2
    rcases List.mem_append.1 ha with ha | ha
    · exact lt_trans (List.mem_filter.1 ha).2 hb2
    · rw [List.mem_singleton] at ha; subst ha; exact hb2
theorem drop_mem_iff {l : List FileL} {n : ByteArray} {e : FileL} : e ∈ drop l n ↔ e ∈ l ∧ e.1 ≠ n := by
  unfold drop
  rw [List.mem_filter, Bool.not_eq_true', nameIs_false]
theorem drop_asc {l : List FileL} (h : asc l) (n : ByteArray) : asc (drop l n) := h.filter _
theorem asc_nodup {l : List FileL} (h : asc l) : l.Nodup := List.Pairwise.imp (fun {a b} hab e => by rw [e, lt_irrefl] at hab; cases hab) h
theorem asc_keys {l : List FileL} (h : asc l) : (l.map fun f => key f.1).Nodup := List.pairwise_map.2 (List.Pairwise.imp (fun {a b} hab e => by rw [key_inj e, lt_irrefl] at hab; cases hab) h)
theorem asc_ext {l m : List FileL} (hl : asc l) (hm : asc m) (h : ∀ e, e ∈ l ↔ e ∈ m) : l = m :=
  List.Perm.eq_of_pairwise (le := fun (e f : FileL) => lt e.1 f.1 = true) (fun a b _ _ h1 h2 => by have := lt_trans h1 h2; rw [lt_irrefl] at this; cases this) hl hm
    ((List.perm_ext_iff_of_nodup (asc_nodup hl) (asc_nodup hm)).2 h)
theorem any_name {l : List FileL} {n : ByteArray} : l.any (nameIs n) = true ↔ ∃ f ∈ l, f.1 = n := by
  rw [List.any_eq_true]
  exact ⟨fun ⟨f, h1, h2⟩ => ⟨f, h1, (nameIs_iff n f).1 h2⟩, fun ⟨f, h1, h2⟩ => ⟨f, h1, (nameIs_iff n f).2 h2⟩⟩
/-- What is found under a name. -/
def look (l : List FileL) (n : ByteArray) : FileL × Bool := match l.find? (nameIs n) with
  | some f => (f, true)
  | none => ((⟨#[]⟩, ⟨#[]⟩), false)
theorem look_text (l : List FileL) (n : ByteArray) : (look l n).1.2 = textOf l n := by
  unfold look textOf
  cases l.find? (nameIs n) <;> rfl
theorem look_any (l : List FileL) (n : ByteArray) : (look l n).2 = l.any (nameIs n) := by
  unfold look
  cases h : l.find? (nameIs n) with
  | none =>
    simp only
    symm
    rw [← Bool.not_eq_true, List.any_eq_true]
    rintro ⟨f, hf, h2⟩
    exact List.find?_eq_none.1 h f hf h2
  | some f =>
    simp only
    symm
    rw [List.any_eq_true]
    exact ⟨f, List.mem_of_find?_eq_some h, List.find?_some h⟩
theorem look_some {l : List FileL} {n : ByteArray} (h : (look l n).2 = true) : (look l n).1 ∈ l ∧ (look l n).1.1 = n := by
  unfold look at *
  cases h2 : l.find? (nameIs n) with
  | none => rw [h2] at h; cases h
  | some f =>
    exact ⟨List.mem_of_find?_eq_some h2, (nameIs_iff n f).1 (List.find?_some h2)⟩
theorem look_none {l : List FileL} {n : ByteArray} (h : (look l n).2 = false) : look l n = ((⟨#[]⟩, ⟨#[]⟩), false) := by
  unfold look at *
  cases h2 : l.find? (nameIs n) with
  | none => rfl
  | some f => rw [h2] at h; cases h
theorem look_at {l : List FileL} (h : asc l) {j : Nat} (hj : j < l.length) : look l l[j].1 = (l[j], true) := by
  have h1 : (look l l[j].1).2 = true := by rw [look_any, any_name]; exact ⟨_, List.getElem_mem _, rfl⟩
  obtain ⟨h2, h3⟩ := look_some h1
  have h4 := asc_inj h h2 (List.getElem_mem hj) h3
  exact Prod.ext h4 h1
theorem len_split (l : List FileL) (n : ByteArray) : (l.filter (fun e => lt e.1 n)).length + (l.filter (nameIs n)).length + (l.filter (fun e => gt e.1 n)).length = l.length := by
  induction l with
  | nil => rfl
  | cons e r ih =>
    simp only [List.filter_cons]
    cases h1 : lt e.1 n
    · cases h2 : lt n e.1
      · have h3 := lt_total h1 h2
        have h4 : nameIs n e = true := (nameIs_iff n e).2 h3
        have h5 : gt e.1 n = false := by cases h : gt e.1 n; rfl; rw [(gt_iff _ _).1 h] at h2; cases h2
        simp only [h4, h5, if_true, Bool.false_eq_true, if_false, List.length_cons]; omega
      · have h4 : nameIs n e = false := (nameIs_false n e).2 (fun q => by rw [q, lt_irrefl] at h2; cases h2)
        have h5 : gt e.1 n = true := (gt_iff _ _).2 h2
        simp only [h4, h5, if_true, Bool.false_eq_true, if_false, List.length_cons]; omega
    · have h4 : nameIs n e = false := (nameIs_false n e).2 (fun q => by rw [q, lt_irrefl] at h1; cases h1)
      have h5 : gt e.1 n = false := by
        cases h : gt e.1 n
        · rfl
        · have := lt_trans h1 ((gt_iff _ _).1 h); rw [lt_irrefl] at this; cases this
      simp only [h4, h5, if_true, Bool.false_eq_true, if_false, List.length_cons]; omega
theorem len_named {l : List FileL} (h : asc l) (n : ByteArray) : (l.filter (nameIs n)).length = if l.any (nameIs n) then 1 else 0 := by
  induction l with
  | nil => rfl
  | cons e r ih =>
    obtain ⟨h1, h2⟩ := List.pairwise_cons.1 h
    rw [List.filter_cons, List.any_cons]
    cases h3 : nameIs n e
    · simp only [Bool.false_eq_true, if_false, Bool.false_or]; exact ih h2
    · have h4 : r.any (nameIs n) = false := by
        cases h5 : r.any (nameIs n)
        · rfl
        · obtain ⟨f, hf, h6⟩ := any_name.1 h5
          have := h1 f hf
          rw [(nameIs_iff n e).1 h3, h6, lt_irrefl] at this; cases this
      have := ih h2
      rw [h4] at this
      simp only [if_true, Bool.true_or, List.length_cons, this]
      rfl
theorem put_length {l : List FileL} (h : asc l) (f : FileL) : (put l f).length = if l.any (nameIs f.1) then l.length else l.length + 1 := by
  have h1 := len_split l f.1
  have h2 := len_named h f.1
  unfold put
  rw [List.length_append, List.length_append, List.length_singleton]
  split at h2 <;> rename_i h3 <;> simp only [h3, if_true, Bool.false_eq_true, if_false] <;> omega
theorem drop_length {l : List FileL} (h : asc l) {n : ByteArray} (hn : l.any (nameIs n) = true) : (drop l n).length + 1 = l.length := by
  have h2 := len_named h n
  rw [hn] at h2
  simp only [if_true] at h2
  have : ∀ l : List FileL, (l.filter (nameIs n)).length + (l.filter fun f => !nameIs n f).length = l.length := by
    intro l
    induction l with
    | nil => rfl
    | cons e r ih =>
      simp only [List.filter_cons]
      cases nameIs n e <;> simp only [Bool.not_true, Bool.not_false, if_true, Bool.false_eq_true, if_false, List.length_cons] <;> omega
  have h3 := this l
  unfold drop
  omega
theorem take_put {l : List FileL} (h : asc l) {k : Nat} (hk : k < l.length) : put (l.take k) l[k] = l.take (k + 1) := by
  refine asc_ext (put_asc (List.Pairwise.take h) _) (List.Pairwise.take h) fun e => ?_
  rw [put_mem_iff, List.take_succ_eq_append_getElem hk, List.mem_append, List.mem_singleton]
  constructor
  · rintro (q | ⟨q, _⟩)
    · exact Or.inr q
    · exact Or.inl q
  · rintro (q | q)
    · refine Or.inr ⟨q, fun e1 => ?_⟩
      obtain ⟨i, hi, rfl⟩ := List.mem_iff_getElem.1 q
      have hi' : i < k := by rw [List.length_take] at hi; omega
      have := List.pairwise_iff_getElem.1 h i k (by omega) hk hi'
      rw [List.getElem_take] at e1
      rw [e1, lt_irrefl] at this; cases this
    · exact Or.inl q
/-- Raw writes as a table does them. -/
def tput (l : List FileL) (f : FileL) : Option (List FileL) := if (fileOkB f && (l.any (nameIs f.1) || !(l.length == 30))) = true then some (put l f) else none
def tmove (l : List FileL) (n to : ByteArray) : Option (List FileL) := if (l.any (nameIs n) && fileOkB (to, textOf l n)) = true then some (put (drop l n) (to, textOf l n)) else none
def tdrop (l : List FileL) (n : ByteArray) : Option (List FileL) := if l.any (nameIs n) = true then some (drop l n) else none
def tdo (l : List FileL) (r : RawL) : Option (List FileL) :=
  if r.kind = 1 then tput l (r.name, r.text) else if r.kind = 2 then tput l (r.name, textOf l r.name ++ r.text)
  else if r.kind = 3 then tmove l r.name r.to else if r.kind = 4 then tdrop l r.name else none
theorem put_ok_iff {l : List FileL} (h : ok l) (f : FileL) : ok (put l f) ↔ fileOk f ∧ (l.any (nameIs f.1) = true ∨ l.length ≠ 30) := by
  obtain ⟨h1, h2, h3⟩ := (ok_iff l).1 h
  rw [ok_iff, put_length h3]
  constructor
  · rintro ⟨q1, q2, _⟩
    refine ⟨q2 f (put_mem_iff.2 (Or.inl rfl)), ?_⟩
    cases e : l.any (nameIs f.1)
    · rw [e] at q1; simp only [Bool.false_eq_true, if_false] at q1; right; omega
    · exact Or.inl rfl
  · rintro ⟨q1, q2⟩
    refine ⟨?_, fun e he => ?_, put_asc h3 f⟩
    · split
      · exact h1
      · rename_i e; rcases q2 with q2 | q2
        · exact absurd q2 e
        · omega
    · rcases put_mem_iff.1 he with rfl | ⟨he, _⟩
      · exact q1
      · exact h2 e he
theorem tput_is {l : List FileL} (h : ok l) (f : FileL) : tput l f = if okB (put l f) = true then some (put l f) else none := by
  unfold tput
  have e : (fileOkB f && (l.any (nameIs f.1) || !(l.length == 30))) = true ↔ okB (put l f) = true := by
    rw [okB_iff, put_ok_iff h, Bool.and_eq_true, fileOkB_iff, Bool.or_eq_true, Bool.not_eq_true', beq_eq_false_iff_ne]
  by_cases q : okB (put l f) = true
  · rw [if_pos q, if_pos (e.2 q)]
  · rw [if_neg q, if_neg (fun x => q (e.1 x))]
theorem putRaw_low {l : List FileL} (h : ok l) (r : RawL) (hk : 1 ≤ r.kind ∧ r.kind < 3) : putRaw l r = if okB (rawOut l r) = true then some (rawOut l r) else none := by
  by_cases q : okB (rawOut l r) = true
  · rw [if_pos q, putRaw_pos ⟨⟨h, ⟨hk.1, by omega⟩, fun _ => hk.2⟩, (okB_iff _).1 q⟩]
  · rw [if_neg q, putRaw_neg (fun x => q ((okB_iff _).2 x.2))]
theorem drop_ok {l : List FileL} (h : ok l) (n : ByteArray) : ok (drop l n) := by
  obtain ⟨h1, h2, h3⟩ := (ok_iff l).1 h
  refine (ok_iff _).2 ⟨Nat.le_trans (List.length_filter_le _ _) h1, fun f hf => h2 f (drop_mem_iff.1 hf).1, drop_asc h3 n⟩
theorem move_same {l : List FileL} (h : asc l) {n : ByteArray} (hn : l.any (nameIs n) = true) : put (drop l n) (n, textOf l n) = l := by
  have e1 : (look l n).2 = true := by rw [look_any]; exact hn
  obtain ⟨h1, h2⟩ := look_some e1
  have h3 : (look l n).1 = (n, textOf l n) := Prod.ext h2 (look_text l n)
  rw [h3] at h1
  refine asc_ext (put_asc (drop_asc h n) _) h fun e => ?_
  rw [put_mem_iff, drop_mem_iff]
  constructor
  · rintro (rfl | ⟨⟨q, _⟩, _⟩)
    · exact h1
    · exact q
  · intro q
    by_cases he : e.1 = n
    · exact Or.inl (asc_inj h q h1 he)
    · exact Or.inr ⟨⟨q, he⟩, he⟩
theorem drop_any {l : List FileL} {n to : ByteArray} (h : to ≠ n) : (drop l n).any (nameIs to) = l.any (nameIs to) := by
  rw [Bool.eq_iff_iff, any_name, any_name]
  constructor
  · rintro ⟨f, hf, q⟩; exact ⟨f, (drop_mem_iff.1 hf).1, q⟩
  · rintro ⟨f, hf, q⟩; exact ⟨f, drop_mem_iff.2 ⟨hf, by rw [q]; exact h⟩, q⟩
theorem put_drop_ok {l : List FileL} (h : ok l) {n : ByteArray} (hn : l.any (nameIs n) = true) (f : FileL) : ok (put (drop l n) f) ↔ fileOk f := by
  rw [put_ok_iff (drop_ok h n)]
  have h1 := ((ok_iff l).1 h)
  have h2 := drop_length h1.2.2 hn
  exact ⟨fun q => q.1, fun q => ⟨q, Or.inr (by have := h1.1; omega)⟩⟩
theorem look_ok {l : List FileL} (h : ok l) {n : ByteArray} (hn : l.any (nameIs n) = true) : fileOk (n, textOf l n) := by
  have e1 : (look l n).2 = true := by rw [look_any]; exact hn
  obtain ⟨h1, h2⟩ := look_some e1
  have h3 : (look l n).1 = (n, textOf l n) := Prod.ext h2 (look_text l n)
  rw [h3] at h1
  exact ((ok_iff l).1 h).2.1 _ h1
theorem tdo_is {l : List FileL} (h : ok l) (r : RawL) : tdo l r = putRaw l r := by
  unfold tdo
  by_cases k1 : r.kind = 1
  · rw [if_pos k1, tput_is h, putRaw_low h r (by omega)]
    have : rawOut l r = put l (r.name, r.text) := by unfold rawOut; rw [if_pos k1]
    rw [this]
  · rw [if_neg k1]
    by_cases k2 : r.kind = 2
    · rw [if_pos k2, tput_is h, putRaw_low h r (by omega)]
      have : rawOut l r = put l (r.name, textOf l r.name ++ r.text) := by unfold rawOut; rw [if_neg k1, if_pos k2]
      rw [this]
    · rw [if_neg k2]
      by_cases k3 : r.kind = 3
      · rw [if_pos k3]
        unfold tmove
        cases hn : l.any (nameIs r.name)
        · simp only [Bool.false_and, Bool.false_eq_true, if_false]
          rw [putRaw_neg]
          rintro ⟨⟨_, _, q⟩, _⟩
          have := q (fun j hj => by
            cases e : nameIs r.name l[j]
            · rfl
            · have : l.any (nameIs r.name) = true := List.any_eq_true.2 ⟨_, List.getElem_mem _, e⟩
              rw [hn] at this; cases this)
          omega
        · have hg : good l r := ⟨h, by omega, fun q => absurd q ((any_iff _ _).1 hn)⟩
          simp only [Bool.true_and]
          by_cases hs : r.to = r.name
          · have ho : rawOut l r = l := by unfold rawOut; rw [if_neg k1, if_neg k2, if_pos k3, if_pos (by rw [hs]; simp)]
            rw [hs, if_pos ((fileOkB_iff _).2 (look_ok h hn)), move_same ((ok_iff l).1 h).2.2 hn, putRaw_pos ⟨hg, by rw [ho]; exact h⟩, ho]
          · have ho : rawOut l r = put (drop l r.name) (r.to, textOf l r.name) := by
              unfold rawOut
              rw [if_neg k1, if_neg k2, if_pos k3, if_neg]
              rw [toList_key, toList_key, beq_iff_eq]
              exact fun q => hs (key_inj q)
            by_cases hf : fileOk (r.to, textOf l r.name)
            · rw [if_pos ((fileOkB_iff _).2 hf), putRaw_pos ⟨hg, by rw [ho]; exact (put_drop_ok h hn _).2 hf⟩, ho]
            · rw [if_neg (fun q => hf ((fileOkB_iff _).1 q)), putRaw_neg (fun q => hf ((put_drop_ok h hn _).1 (by rw [← ho]; exact q.2)))]
      · rw [if_neg k3]
        by_cases k4 : r.kind = 4
        · rw [if_pos k4]
          unfold tdrop
          have ho : rawOut l r = drop l r.name := by unfold rawOut; rw [if_neg k1, if_neg k2, if_neg k3]
          cases hn : l.any (nameIs r.name)
          · simp only [Bool.false_eq_true, if_false]
            rw [putRaw_neg]
            rintro ⟨⟨_, _, q⟩, _⟩
            have := q (fun j hj => by
              cases e : nameIs r.name l[j]
              · rfl
              · have : l.any (nameIs r.name) = true := List.any_eq_true.2 ⟨_, List.getElem_mem _, e⟩
                rw [hn] at this; cases this)
            omega
          · rw [if_pos rfl, putRaw_pos ⟨⟨h, by omega, fun q => absurd q ((any_iff _ _).1 hn)⟩, by rw [ho]; exact drop_ok h _⟩, ho]
        · rw [if_neg k4, putRaw_neg]
          rintro ⟨⟨_, q, _⟩, _⟩
          omega
end Go.Proofs.YtbcfiiilikkkeaaGreatDoor.Disks
