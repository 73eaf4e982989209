/- Plain facts on directories behind spots: one spot put in, or taken out; no program is named here. Plain facts on a segment's text: its batches, where they end, what is told behind a batch that is added to it, or cut; no program is named here. Plain facts on places in segments: the bytes that stand where a directory says are the values of the batches; no program is named here. Rows of files in memory: two cells each; no program is named but for its types. Plain facts on disks as lists of files: which are right. Plain facts on raw writes. Plain facts on lists of raw writes. Plain facts on disks: which file stands under a name, behind a put and behind a drop; no program is named here. -/
import Derived.Test.YtbcfiiilikkkeaaGreatDoorMathDir
import Derived.Test.YtbcfiiilikkkeaaGreatDoorMathMap
import Derived.Test.YtbcfiiilikkkeaaGreatDoorProg
import Derived.WalkKit
import Derived.WalkSpells
import Derived.WalkLawsBesides
import Derived.Laws.IdiomStrings
import Derived.Laws.BytesArg
import Derived.Laws.BitsAllLaws
namespace Go.Proofs.YtbcfiiilikkkeaaGreatDoor
set_option linter.unusedVariables false
namespace Dirs
open Go
open Batches (by_ lt lt_iff lt_irrefl lt_trans lt_total lt_asymm by_inj)
def asc (l : List SpotL) : Prop := l.Pairwise fun e f => lt e.key f.key = true
def put1 (l : List SpotL) (x : SpotL) : List SpotL := l.filter (fun y => lt y.key x.key) ++ ((if x.size = -1 then [] else [x]) ++ l.filter (fun y => lt x.key y.key))
def more : List SpotL → List SpotL → List SpotL
  | l, [] => l
  | l, x :: xs => more (put1 l x) xs
theorem more_snoc : ∀ (xs l : List SpotL) (x : SpotL), more l (xs ++ [x]) = put1 (more l xs) x
  | [], l, x => rfl
  | y :: xs, l, x => by rw [List.cons_append, more, more, more_snoc xs]
theorem more_take {l xs : List SpotL} {k : Nat} (hk : k < xs.length) : more l (xs.take (k + 1)) = put1 (more l (xs.take k)) xs[k] := by
  rw [List.take_succ_eq_append_getElem hk, more_snoc]
theorem ne_lt {a b : ByteArray} (h : a ≠ b) : lt a b = true ∨ lt b a = true := by
  cases h1 : lt a b
  · cases h2 : lt b a
    · exact absurd (lt_total h1 h2) h
    · exact Or.inr rfl
  · exact Or.inl rfl
theorem put1_mem {l : List SpotL} {x y : SpotL} : y ∈ put1 l x ↔ (y ∈ l ∧ y.key ≠ x.key) ∨ (x.size ≠ -1 ∧ y = x) := by
  unfold put1
  simp only [List.mem_append, List.mem_filter]
  constructor
  · rintro (⟨h1, h2⟩ | h | ⟨h1, h2⟩)
    · exact Or.inl ⟨h1, fun e => by rw [e, lt_irrefl] at h2; cases h2⟩
    · split at h
      · exact (List.not_mem_nil h).elim
      · rename_i hs; exact Or.inr ⟨hs, List.mem_singleton.1 h⟩
    · exact Or.inl ⟨h1, fun e => by rw [e, lt_irrefl] at h2; cases h2⟩
  · rintro (⟨h1, h2⟩ | ⟨h1, rfl⟩)
    · rcases ne_lt h2 with h | h
      · exact Or.inl ⟨h1, h⟩
      · exact Or.inr (Or.inr ⟨h1, h⟩)
    · exact Or.inr (Or.inl (by rw [if_neg h1]; simp))
theorem asc_put1 {l : List SpotL} (h : asc l) (x : SpotL) : asc (put1 l x) := by
  unfold asc put1
  refine List.pairwise_append.2 ⟨h.filter _, List.pairwise_append.2 ⟨?_, h.filter _, ?_⟩, ?_⟩
  · split
    · exact List.Pairwise.nil
    · exact List.pairwise_singleton _ _
  · intro a ha b hb
    split at ha
    · exact (List.not_mem_nil ha).elim
    · rw [List.mem_singleton.1 ha]; exact (List.mem_filter.1 hb).2
  · intro a ha b hb
    have h1 : lt a.key x.key = true := (List.mem_filter.1 ha).2
    rcases List.mem_append.1 hb with hb | hb
    · split at hb
      · exact (List.not_mem_nil hb).elim
      · rw [List.mem_singleton.1 hb]; exact h1
    · exact lt_trans h1 (List.mem_filter.1 hb).2
theorem asc_more : ∀ (xs l : List SpotL), asc l → asc (more l xs)
  | [], l, h => h
  | x :: xs, l, h => asc_more xs _ (asc_put1 h x)
theorem two_filter (x : SpotL) : ∀ l : List SpotL, (l.filter (fun y => lt y.key x.key)).length + (l.filter (fun y => lt x.key y.key)).length ≤ l.length
  | [] => by simp
  | y :: l => by
    have ih := two_filter x l
    cases h1 : lt y.key x.key
    · cases h2 : lt x.key y.key
      · simp only [List.filter_cons, h1, h2, List.length_cons]
        simp only [Bool.false_eq_true, if_false]; omega
      · simp only [List.filter_cons, h1, h2, List.length_cons]
        simp only [Bool.false_eq_true, if_false, if_true, List.length_cons]; omega
    · have h2 : lt x.key y.key = false := lt_asymm h1
      simp only [List.filter_cons, h1, h2, List.length_cons]
      simp only [Bool.false_eq_true, if_false, if_true, List.length_cons]; omega
theorem put1_len (l : List SpotL) (x : SpotL) : (put1 l x).length ≤ l.length + 1 := by
  have := two_filter x l
  unfold put1
  simp only [List.length_append]
  have h2 : (if x.size = -1 then [] else [x]).length ≤ 1 := by split <;> simp
  omega
theorem more_len : ∀ (xs l : List SpotL), (more l xs).length ≤ l.length + xs.length
  | [], l => by simp [more]
  | x :: xs, l => by
    have := more_len xs (put1 l x)
    have := put1_len l x
    rw [more, List.length_cons]
    omega
theorem more_take_len {l xs : List SpotL} (k : Nat) : (more l (xs.take k)).length ≤ l.length + xs.length := by
  have := more_len (xs.take k) l
  rw [List.length_take] at this
  omega
theorem more_all {p : SpotL → Prop} : ∀ (xs l : List SpotL), (∀ c ∈ l, p c) → (∀ c ∈ xs, p c) → ∀ c ∈ more l xs, p c
  | [], l, h1, _ => h1
  | x :: xs, l, h1, h2 => more_all xs _ (fun c hc => by
      rcases put1_mem.1 hc with ⟨h, _⟩ | ⟨_, rfl⟩
      · exact h1 c h
      · exact h2 _ List.mem_cons_self) (fun c hc => h2 c (List.mem_cons_of_mem _ hc))
theorem put1_last {l : List SpotL} {x : SpotL} (h : ∀ y ∈ l, lt y.key x.key = true) (hx : x.size ≠ -1) : put1 l x = l ++ [x] := by
  unfold put1
  rw [List.filter_eq_self.2 h, if_neg hx, List.filter_eq_nil_iff.2 (fun y hy => by rw [lt_asymm (h y hy)]; simp)]
  simp
theorem more_self {l : List SpotL} (h : asc l) (hs : ∀ c ∈ l, c.size ≠ -1) : more [] l = l := by
  have key : ∀ k, k ≤ l.length → more [] (l.take k) = l.take k := by
    intro k
    induction k with
    | zero => intro _; simp [more]
    | succ k ih =>
      intro hk
      have hlt : k < l.length := by omega
      rw [more_take hlt, ih (by omega), put1_last (fun y hy => ?_) (hs _ (List.getElem_mem _)), List.take_succ_eq_append_getElem hlt]
      obtain ⟨i, hi, rfl⟩ := List.getElem_of_mem hy
      rw [List.getElem_take]
      rw [List.length_take] at hi
      exact List.pairwise_iff_getElem.1 h i k _ _ (by omega)
  have := key l.length (Nat.le_refl _)
  rwa [List.take_length] at this
theorem ok_asc {l : List SpotL} (h : ok l) : asc l := by
  refine List.pairwise_iff_getElem.2 ?_
  have step : ∀ i j (hi : i < l.length) (hj : j < l.length), i < j → lt l[i].key l[j].key = true := by
    intro i j
    induction j with
    | zero => intro _ _ h; omega
    | succ j ih =>
      intro hi hj hij
      obtain ⟨_, _, q⟩ := h.2 (j + 1) hj
      obtain ⟨q1, q2⟩ := q (by omega)
      simp only [Nat.add_sub_cancel] at q2
      rcases Nat.lt_succ_iff_lt_or_eq.1 hij with hh | hh
      · exact lt_trans (ih hi (by omega) hh) q2
      · subst hh; exact q2
  exact step
theorem ok_size {l : List SpotL} (h : ok l) : ∀ c ∈ l, c.size ≠ -1 := fun c hc => by
  obtain ⟨_, _, _, h4, _⟩ := ok_mem h c hc
  omega
theorem asc_nodup {l : List SpotL} (h : asc l) : (l.map fun f => by_ f.key).Nodup := List.pairwise_map.2 (List.Pairwise.imp (fun {a b} hab e => by rw [by_inj e, lt_irrefl] at hab; cases hab) h)
/-- What DirMore is to answer. -/
def MoreIs (l xs cs : List SpotL) (R : Bool) : Prop := (ok l ∧ ok (more l xs) ∧ cs = more l xs ∧ R = true) ∨ (¬ (ok l ∧ ok (more l xs)) ∧ cs = [] ∧ R = false)
end Dirs
end Go.Proofs.YtbcfiiilikkkeaaGreatDoor
namespace Go.Proofs.YtbcfiiilikkkeaaGreatDoor
set_option linter.unusedVariables false
namespace Scan
open Go
open Words (frame frames okRec)
open Batches (by_ short lt Got changeOk)
def recs (l : List UInt8) : List (List UInt8) := Words.un (l.length + 1) l 0
def its (l : List UInt8) : List It := itemsOf (recs l)
def segEnd (l : List UInt8) : Nat := itEnd 0 (its l)
def segSpots (seg : Int) (l : List UInt8) : List SpotL := itSpots seg 0 (its l)
def segStamp (l : List UInt8) : Int := itStamp (-1) (its l)
/-- Nothing stands behind its batches. -/
def Full (l : List UInt8) : Prop := segEnd l = l.length
theorem recEnd_frames : ∀ (ts : List (List UInt8)) (a : Nat), recEnd a ts = a + (frames ts).length
  | [], a => rfl
  | t :: ts, a => by
    rw [recEnd, recEnd_frames ts, frames, List.length_append, Words.frame_len]
    unfold hdr
    omega
theorem fr_frame {l : List UInt8} {a e : Nat} {r : List UInt8} (h : Words.fr l a = some (r, e)) : frame r = (l.drop a).take (e - a) := by
  unfold Words.fr at h
  split at h
  · cases h
  · rename_i n b hf
    split at h
    · rename_i hs
      simp only [Option.some.injEq, Prod.mk.injEq] at h
      obtain ⟨rfl, rfl⟩ := h
      exact (Words.frame_iff hf).2 hs
    · cases h
theorem un_frames : ∀ (f : Nat) (l : List UInt8) (a : Nat), a ≤ l.length → (l.drop a).take (frames (Words.un f l a)).length = frames (Words.un f l a) ∧ a + (frames (Words.un f l a)).length ≤ l.length
  | 0, l, a, ha => ⟨by simp [Words.un, frames], by simpa [Words.un, frames] using ha⟩
  | f + 1, l, a, ha => by
    cases h : Words.fr l a with
    | none => rw [(Words.un_end (f + 1) h).1]; exact ⟨by simp [frames], by simpa [frames] using ha⟩
    | some p =>
      obtain ⟨r, e⟩ := p
      have h1 := Words.fr_some h
      have h2 := fr_frame h
      obtain ⟨ih, ih2⟩ := un_frames f l e h1.2
      have hl : (frame r).length = e - a := by rw [h2, List.length_take, List.length_drop]; omega
      rw [(Words.un_more f h).1, frames, List.length_append, hl]
      refine ⟨?_, by omega⟩
      rw [List.take_add, List.drop_drop, show a + (e - a) = e by omega, ih, ← h2]
theorem recs_ok (l : List UInt8) : ∀ t ∈ recs l, okRec t := un_size _ _ _
theorem full_frames {l : List UInt8} (h : Full l) : l = frames (recs l) ∧ (its l).length = (recs l).length := by
  have hr := reads_items (recs l)
  have h1 := reads_end hr (itemsOf (recs l)).length (Nat.le_refl _) 0
  rw [List.take_length] at h1
  have h2 := recEnd_take (rs := recs l) (a := 0) (itemsOf (recs l)).length
  obtain ⟨h3, h4⟩ := un_frames (l.length + 1) l 0 (Nat.zero_le _)
  have h5 := recEnd_frames (recs l) 0
  have h6 := hr.1
  have hh : itEnd 0 (itemsOf (recs l)) = l.length := h
  have h4' : 0 + (frames (recs l)).length ≤ l.length := h4
  have e1 : (itemsOf (recs l)).length = (recs l).length := by omega
  refine ⟨?_, e1⟩
  have e2 : (frames (recs l)).length = l.length := by omega
  have h3' : (l.drop 0).take (frames (recs l)).length = frames (recs l) := h3
  rw [e2, List.drop_zero, List.take_length] at h3'
  exact h3'
theorem recs_cut {ts : List (List UInt8)} {r : List UInt8} {j : Nat} (h : ∀ t ∈ ts, okRec t) (hr : okRec r) (hj : j < (frame r).length) : recs (frames ts ++ (frame r).take j) = ts := by
  have e : frames ts ++ (frame r).take j = (frames (ts ++ [r])).take ((frames ts).length + j) := by
    rw [Words.frames_snoc, List.take_length_add_append]
  unfold recs
  have hlen : (frames ts ++ (frame r).take j).length = (frames ts).length + j := by rw [List.length_append, List.length_take]; omega
  rw [hlen, e]
  obtain ⟨m, h1, h2, h3, h4, h5⟩ := Words.cut_frames (ts ++ [r]) [] ((frames ts).length + j) ((frames ts).length + j + 1) (fun t ht => by
    rcases List.mem_append.1 ht with ht | ht
    · exact h t ht
    · rw [List.mem_singleton.1 ht]; exact hr) (by rw [Words.frames_snoc, List.length_append]; omega) (by omega)
  simp only [List.nil_append, List.length_nil] at h2
  rw [h2]
  rw [List.length_append, List.length_singleton] at h1 h5
  have hm1 : ¬ m = ts.length + 1 := fun hm => by
    rw [hm, List.take_of_length_le (by simp), Words.frames_snoc, List.length_append] at h4
    omega
  have hm2 : ¬ m < ts.length := fun hm => by
    rcases h5 with h5 | h5
    · omega
    · rw [List.take_append_of_le_length (by omega)] at h5
      have := Words.frames_take ts (m + 1)
      omega
  have hm : m = ts.length := by omega
  rw [hm, List.take_left]
theorem recs_add {ts : List (List UInt8)} {r : List UInt8} (h : ∀ t ∈ ts, okRec t) (hr : okRec r) : recs (frames ts ++ frame r) = ts ++ [r] := by
  have := recs_cut (ts := ts ++ [r]) (r := [0]) (j := 0) (fun t ht => by
    rcases List.mem_append.1 ht with ht | ht
    · exact h t ht
    · rw [List.mem_singleton.1 ht]; exact hr) ⟨by simp, by simp⟩ (by rw [Words.frame_len]; simp)
  rw [List.take_zero, List.append_nil, Words.frames_snoc] at this
  exact this
theorem items_snoc {r : List UInt8} {st : Nat} {ch : List ChangeL} (hb : batOf ⟨r.toArray⟩ = some (st, ch)) : ∀ ts : List (List UInt8), (itemsOf ts).length = ts.length → itemsOf (ts ++ [r]) = itemsOf ts ++ [⟨r, st, ch⟩]
  | [], _ => by simp [itemsOf, hb]
  | t :: ts, h => by
    rw [List.cons_append, itemsOf, itemsOf]
    rw [itemsOf] at h
    cases ht : batOf ⟨t.toArray⟩ with
    | none => rw [ht] at h; simp at h
    | some p =>
      rw [ht] at h
      simp only [List.length_cons, Nat.add_right_cancel_iff] at h
      simp only [items_snoc hb ts h, List.cons_append]
theorem seg_add {l r : List UInt8} {st : Nat} {ch : List ChangeL} (hf : Full l) (hr : okRec r) (hb : batOf ⟨r.toArray⟩ = some (st, ch)) : its (l ++ frame r) = its l ++ [⟨r, st, ch⟩] ∧ Full (l ++ frame r) := by
  obtain ⟨h1, h2⟩ := full_frames hf
  have e : recs (l ++ frame r) = recs l ++ [r] := by
    have := recs_add (recs_ok l) hr
    rwa [← h1] at this
  have e2 : its (l ++ frame r) = its l ++ [⟨r, st, ch⟩] := by
    unfold its at *
    rw [e]; exact items_snoc hb _ h2
  refine ⟨e2, ?_⟩
  have hf' : itEnd 0 (its l) = l.length := hf
  unfold Full segEnd
  rw [e2, itEnd_snoc, hf', List.length_append, Words.frame_len]
  unfold itNext hdr
  simp only
  omega
theorem full_nil : Full [] := by
  have : recs [] = [] := by
    exact (Words.un_end _ (Words.fr_end [])).1
  unfold Full segEnd its
  rw [this]; rfl
/-- The batches end within the text; each is the record of its place. -/
theorem segEnd_le (l : List UInt8) : segEnd l ≤ l.length := by
  have hr := reads_items (recs l)
  have h1 := reads_end hr (itemsOf (recs l)).length (Nat.le_refl _) 0
  rw [List.take_length] at h1
  have h2 := recEnd_take (rs := recs l) (a := 0) (itemsOf (recs l)).length
  obtain ⟨h3, h4⟩ := un_frames (l.length + 1) l 0 (Nat.zero_le _)
  have h5 := recEnd_frames (recs l) 0
  have h4' : 0 + (frames (recs l)).length ≤ l.length := h4
  unfold segEnd its
  omega
theorem one_len {c : ChangeL} (h : changeOk c) : (Batches.one c).length ≤ 120 := by
  obtain ⟨_, h1, h2, _⟩ := h
  have e1 := Batches.short_len c.key
  have e2 := Batches.short_len c.value
  rw [Batches.one, List.length_append, List.length_cons]
  omega
theorem many_len : ∀ l : List ChangeL, (∀ c ∈ l, changeOk c) → (Batches.many l).length ≤ 120 * l.length
  | [], _ => by simp [Batches.many]
  | c :: l, h => by
    have h1 := one_len (h c List.mem_cons_self)
    have h2 := many_len l (fun x hx => h x (List.mem_cons_of_mem _ hx))
    rw [Batches.many, List.length_append, List.length_cons]
    omega
theorem ok_all {st : Int} {l : List ChangeL} (h : Batches.ok st l) : ∀ c ∈ l, changeOk c := ((Maps.okC_iff st l).1 h).2.2.1
theorem text_rec {st : Nat} {l : List ChangeL} (h : Batches.ok (st : Int) l) : okRec (Batches.text st l) := by
  have h1 := many_len l (ok_all h)
  have h2 := h.2.1
  have h3 := h.1.2
  have h4 := Dirs.var_len5 (n := st) (by omega)
  have h5 := Dirs.var_len5 (n := l.length) (by omega)
  have h6 := Words.rd_back st (by omega) [] []
  have h7 := (Words.rd_front h6).1
  simp only [List.length_nil, Nat.zero_add] at h7
  unfold okRec Batches.text
  rw [List.length_append, List.length_append]
  omega
theorem bat_text {st : Nat} {l : List ChangeL} (h : Batches.ok (st : Int) l) : batOf ⟨(Batches.text st l).toArray⟩ = some (st, l) := batOf_iff.2 ⟨rfl, h⟩
/-- Each item of a text is a right batch. -/
theorem its_got (l : List UInt8) : ∀ x ∈ its l, x.bytes = Batches.text x.st x.ch ∧ Batches.ok (x.st : Int) x.ch := fun x hx => by
  obtain ⟨i, hi, rfl⟩ := List.getElem_of_mem hx
  have hr := reads_items (recs l)
  obtain ⟨e, h1, h2⟩ := hr.2.1 i hi (Nat.lt_of_lt_of_le hi hr.1)
  exact ⟨e.trans h1, h2⟩
end Scan
end Go.Proofs.YtbcfiiilikkkeaaGreatDoor
namespace Go.Proofs.YtbcfiiilikkkeaaGreatDoor
set_option linter.unusedVariables false
namespace Scan
open Go
open Batches (by_ short lt lt_irrefl lt_asymm lt_trans changeOk one many flag)
open Maps (same same_iff same_lt stepC cutK putK)
open Dirs (asc put1 more)
/-- The bytes at a place. -/
def valAt (l : List UInt8) (x : SpotL) : ByteArray := ⟨((l.drop x.pos.toNat).take x.size.toNat).toArray⟩
theorem by_len (s : ByteArray) : (by_ s).length = s.size := Words.size_list s
theorem more_app : ∀ (xs ys l : List SpotL), more l (xs ++ ys) = more (more l xs) ys
  | [], ys, l => rfl
  | x :: xs, ys, l => by rw [List.cons_append, more, more, more_app xs]
end Scan
end Go.Proofs.YtbcfiiilikkkeaaGreatDoor
namespace Go.Proofs.YtbcfiiilikkkeaaGreatDoor
open Go.RowKit

abbrev FileL := ByteArray × ByteArray
/-- A slice at a whose elements are these files. -/
def FilesAt (w : World) (a : Option Addr) (g off : Nat) (l : List FileL) : Prop :=
  (0 < l.length → a = some ⟨g, off, none⟩) ∧ ∀ j (hj : j < l.length), w.cell? ⟨g, off + j * 2, none⟩ = some (.string l[j].1) ∧ w.cell? ⟨g, off + j * 2 + 1, none⟩ = some (.string l[j].2)
theorem FilesAt.lt {w : World} {a : Option Addr} {g off : Nat} {l : List FileL} (h : FilesAt w a g off l) (hl : 0 < l.length) : g < w.heap.size := by
  have := World.block_lt_of_cell? w _ (h.2 0 hl).1
  exact this
theorem FilesAt.kept {w w' : World} {a : Option Addr} {g off : Nat} {l : List FileL} (h : FilesAt w a g off l) (hb : Below w.heap.size w w') : FilesAt w' a g off l := by
  refine ⟨h.1, fun j hj => ?_⟩
  have hg := h.lt (by omega)
  rw [hb.cell (p := ⟨g, off + j * 2, none⟩) hg, hb.cell (p := ⟨g, off + j * 2 + 1, none⟩) hg]
  exact h.2 j hj
/-- How much files hold. -/
def tot : List FileL → Nat
  | [] => 0
  | f :: r => f.1.size + f.2.size + 1 + tot r
theorem tot_app : ∀ (l m : List FileL), tot (l ++ m) = tot l + tot m
  | [], m => by simp [tot]
  | f :: r, m => by simp only [List.cons_append, tot, tot_app r m]; omega
theorem tot_len : ∀ l : List FileL, l.length ≤ tot l
  | [] => by simp [tot]
  | f :: r => by have := tot_len r; simp only [List.length_cons, tot]; omega
theorem tot_mem : ∀ {l : List FileL} {f : FileL}, f ∈ l → f.1.size + f.2.size + 1 ≤ tot l
  | x :: r, f, h => by
    rcases List.mem_cons.1 h with rfl | h
    · simp only [tot]; omega
    · have := tot_mem h; simp only [tot]; omega
theorem tot_take {l : List FileL} {j : Nat} (hj : j < l.length) : tot (l.take (j + 1)) = tot (l.take j) + (l[j].1.size + l[j].2.size + 1) := by
  rw [List.take_succ_eq_append_getElem hj, tot_app]; simp [tot]
/-- The cells of a row of files. -/
def cellsF (l : List FileL) : List Value := l.flatMap fun f => [.string f.1, .string f.2]
theorem cellsF_len : ∀ l : List FileL, (cellsF l).length = l.length * 2
  | [] => rfl
  | f :: r => by have := cellsF_len r; simp only [cellsF, List.flatMap_cons, List.length_append, List.length_cons, List.length_nil] at *; omega
theorem cellsF_app (l m : List FileL) : cellsF (l ++ m) = cellsF l ++ cellsF m := by simp [cellsF]
theorem cellsF_at : ∀ (l : List FileL) (j : Nat) (hj : j < l.length), (cellsF l)[j * 2]? = some (.string l[j].1) ∧ (cellsF l)[j * 2 + 1]? = some (.string l[j].2)
  | f :: r, 0, _ => ⟨rfl, rfl⟩
  | f :: r, j + 1, hj => by
    have := cellsF_at r j (by simpa using hj)
    simpa [cellsF, Nat.add_mul, Nat.add_assoc] using this
theorem cellsF_set : ∀ (l : List FileL) (j : Nat) (f : FileL), cellsF (l.set j f) = ((cellsF l).set (j * 2) (.string f.1)).set (j * 2 + 1) (.string f.2)
  | [], j, f => by simp [cellsF]
  | x :: r, 0, f => by simp [cellsF]
  | x :: r, j + 1, f => by
    have := cellsF_set r j f
    simp only [cellsF, List.set_cons_succ, List.flatMap_cons, List.cons_append, List.nil_append, Nat.add_mul] at *
    rw [this]
theorem cellsF_empty : ∀ n : Nat, cellsF (List.replicate n (ByteArray.empty, ByteArray.empty)) = List.replicate (n * 2) (.string ByteArray.empty)
  | 0 => rfl
  | n + 1 => by
    have := cellsF_empty n
    rw [show (n + 1) * 2 = n * 2 + 1 + 1 by omega]
    simp only [cellsF, List.replicate_succ, List.flatMap_cons, List.cons_append, List.nil_append] at *
    rw [this]
theorem made_files (n : Nat) : (madeCells #[Value.string ByteArray.empty, Value.string ByteArray.empty] (n * 2)).toList = cellsF (List.replicate n (ByteArray.empty, ByteArray.empty)) := by
  rw [cellsF_empty]
  have key : ∀ i : Nat, (#[Value.string ByteArray.empty, Value.string ByteArray.empty] : Array Value)[i % 2]! = .string ByteArray.empty := by
    intro i
    rcases Nat.mod_two_eq_zero_or_one i with h | h <;> rw [h] <;> rfl
  simp only [madeCells, Array.toList_map, show (#[Value.string ByteArray.empty, Value.string ByteArray.empty] : Array Value).size = 2 from rfl, key]
  rw [List.map_const']
  simp
theorem cell_set2 {w : World} {p q : Addr} {u x y : Value} (hq : w.cell? q = some u) : ((w.setCell p x).setCell q y).cell? q = some y := by
  obtain ⟨v', h⟩ := cell?_setCell_some (p := p) (x := x) hq
  exact World.cell?_setCell_same _ _ _ h
theorem Tryz.info164 : (Tryz.prog.info? 164).map (fun i => (i.zero, i.size, i.bytes)) = some (some (.agg #[.string ByteArray.empty, .string ByteArray.empty]), 2, 32) := by kernel_rfl
theorem own_files {w : World} {base : Nat} {e : TypeId} {g n cap : Nat} {l : List FileL} (hn : l.length = n) (h : w.ownsRow base e 2 (.slice (some ⟨g, 0, none⟩) n cap) n (cellsF l)) : FilesAt w (some ⟨g, 0, none⟩) g 0 l := by
  refine ⟨fun _ => rfl, fun j hj => ?_⟩
  rw [Nat.zero_add, h.cellAt (j * 2) (by omega), h.cellAt (j * 2 + 1) (by omega)]
  exact cellsF_at l j hj
end Go.Proofs.YtbcfiiilikkkeaaGreatDoor
namespace Go.Proofs.YtbcfiiilikkkeaaGreatDoor.Disks
open Go
/-- Texts byte by byte, a beginning being less. -/
def lt (a b : ByteArray) : Bool := Op.bytesLess a.toList b.toList
def fileOk (f : FileL) : Prop := 1 ≤ f.1.size ∧ f.1.size ≤ 12 ∧ f.2.size ≤ 20000
def fileOkB (f : FileL) : Bool := decide (1 ≤ f.1.size ∧ f.1.size ≤ 12 ∧ f.2.size ≤ 20000)
theorem fileOkB_iff (f : FileL) : fileOkB f = true ↔ fileOk f := decide_eq_true_iff
/-- Is the file at j right, and behind the one ahead of it? -/
def okAt (l : List FileL) (j : Nat) : Prop := ∃ hj : j < l.length, fileOk l[j] ∧ (0 < j → ∃ hi : j - 1 < l.length, lt l[j - 1].1 l[j].1 = true)
def ok (l : List FileL) : Prop := l.length ≤ 30 ∧ ∀ j, j < l.length → okAt l j
/-- The same, reckoned. -/
def okAtB (l : List FileL) (j : Nat) : Bool := match l[j]? with
  | none => false
  | some f => fileOkB f && (j == 0 || match l[j - 1]? with | none => false | some e => lt e.1 f.1)
def okB (l : List FileL) : Bool := decide (l.length ≤ 30) && (List.range l.length).all (okAtB l)
theorem okAtB_iff (l : List FileL) (j : Nat) : okAtB l j = true ↔ okAt l j := by
  unfold okAtB okAt
  by_cases hj : j < l.length
  · rw [List.getElem?_eq_getElem hj]
    simp only [Bool.and_eq_true, fileOkB_iff, Bool.or_eq_true, beq_iff_eq]
    constructor
    · rintro ⟨h1, h2⟩
      refine ⟨hj, h1, fun hp => ⟨by omega, ?_⟩⟩
      rcases h2 with h2 | h2
      · omega
      · rw [List.getElem?_eq_getElem (show j - 1 < l.length by omega)] at h2; exact h2
    · rintro ⟨_, h1, h2⟩
      refine ⟨h1, ?_⟩
      by_cases hz : j = 0
      · exact Or.inl hz
      · right
        obtain ⟨hi, h3⟩ := h2 (by omega)
        rw [List.getElem?_eq_getElem hi]; exact h3
  · rw [List.getElem?_eq_none (by omega)]
    simp [hj]
theorem okB_iff (l : List FileL) : okB l = true ↔ ok l := by
  unfold okB ok
  simp only [Bool.and_eq_true, decide_eq_true_eq, List.all_eq_true, List.mem_range, okAtB_iff]
theorem ok_step {l : List FileL} {k : Nat} (h : ∀ j, j < k → okAt l j) (hk : okAt l k) : ∀ j, j < k + 1 → okAt l j := fun j hj => by
  rcases Nat.lt_succ_iff_lt_or_eq.1 hj with h1 | h1
  · exact h j h1
  · rw [h1]; exact hk
theorem not_ok {l : List FileL} {j : Nat} (hj : j < l.length) (h : ¬ okAt l j) : ¬ ok l := fun h2 => h (h2.2 j hj)
/-- Is this the file's name? -/
def nameIs (n : ByteArray) (f : FileL) : Bool := f.1.toList == n.toList
def At (l : List FileL) (n : ByteArray) (k : Nat) : Prop := ∃ hk : k < l.length, nameIs n l[k] = true ∧ ∀ j (hj : j < k), nameIs n (l[j]'(Nat.lt_trans hj hk)) = false
def None (l : List FileL) (n : ByteArray) : Prop := ∀ j (hj : j < l.length), nameIs n l[j] = false
theorem at_or_none (l : List FileL) (n : ByteArray) : None l n ∨ ∃ k, At l n k := by
  cases h : l.findIdx? (nameIs n) with
  | none =>
    left
    intro j hj
    have := List.findIdx?_eq_none_iff.1 h l[j] (List.getElem_mem _)
    simpa using this
  | some k =>
    right
    obtain ⟨hk, h1, h2⟩ := List.findIdx?_eq_some_iff_getElem.1 h
    exact ⟨k, hk, h1, fun j hj => by simpa using h2 j hj⟩
theorem at_unique {l : List FileL} {n : ByteArray} {k k' : Nat} (h : At l n k) (h' : At l n k') : k = k' := by
  obtain ⟨hk, h1, h2⟩ := h
  obtain ⟨hk', h1', h2'⟩ := h'
  rcases Nat.lt_trichotomy k k' with q | q | q
  · have := h2' k q; rw [h1] at this; cases this
  · exact q
  · have := h2 k' q; rw [h1'] at this; cases this
/-- Greater, as the model of the language has it. -/
def gt (a b : ByteArray) : Bool := !(Op.bytesLess a.toList b.toList || a.toList == b.toList)
/-- A file put among others, by name. -/
def put (l : List FileL) (f : FileL) : List FileL := l.filter (fun e => lt e.1 f.1) ++ [f] ++ l.filter (fun e => gt e.1 f.1)
def drop (l : List FileL) (n : ByteArray) : List FileL := l.filter fun f => !nameIs n f
/-- The text of a file, empty when there is none. -/
def TextIs (l : List FileL) (n t : ByteArray) : Prop := (None l n ∧ t = ⟨#[]⟩) ∨ ∃ k, ∃ h : k < l.length, At l n k ∧ t = l[k].2
/-- What FileAt tells. -/
def FileIs (l : List FileL) (n : ByteArray) : Option ByteArray → Prop
  | none => ¬ ok l ∨ None l n
  | some t => ok l ∧ ∃ k, ∃ h : k < l.length, At l n k ∧ t = l[k].2
end Go.Proofs.YtbcfiiilikkkeaaGreatDoor.Disks
namespace Go.Proofs.YtbcfiiilikkkeaaGreatDoor.Disks
open Go
structure RawL where
  kind : Int
  name : ByteArray
  to : ByteArray
  text : ByteArray
def textOf (l : List FileL) (n : ByteArray) : ByteArray := match l.find? (nameIs n) with | some f => f.2 | none => ⟨#[]⟩
theorem textOf_is (l : List FileL) (n : ByteArray) : TextIs l n (textOf l n) := by
  unfold textOf
  cases h : l.find? (nameIs n) with
  | none =>
    left
    refine ⟨fun j hj => ?_, rfl⟩
    have := List.find?_eq_none.1 h l[j] (List.getElem_mem _)
    simpa using this
  | some f =>
    right
    obtain ⟨hf, k, hk, he, h2⟩ := List.find?_eq_some_iff_getElem.1 h
    refine ⟨k, hk, ⟨hk, by rw [he]; exact hf, fun j hj => by simpa using h2 j hj⟩, by rw [he]⟩
def rawOut (l : List FileL) (r : RawL) : List FileL :=
  if r.kind = 1 then put l (r.name, r.text) else if r.kind = 2 then put l (r.name, textOf l r.name ++ r.text)
  else if r.kind = 3 then (if (r.to.toList == r.name.toList) = true then l else put (drop l r.name) (r.to, textOf l r.name)) else drop l r.name
def good (l : List FileL) (r : RawL) : Prop := ok l ∧ (1 ≤ r.kind ∧ r.kind ≤ 4) ∧ (None l r.name → r.kind < 3)
def goodB (l : List FileL) (r : RawL) : Bool := okB l && decide (1 ≤ r.kind ∧ r.kind ≤ 4) && (l.any (nameIs r.name) || decide (r.kind < 3))
theorem any_iff (l : List FileL) (n : ByteArray) : l.any (nameIs n) = true ↔ ¬ None l n := by
  rw [List.any_eq_true]
  constructor
  · rintro ⟨f, hf, h⟩ h2
    obtain ⟨j, hj, rfl⟩ := List.mem_iff_getElem.1 hf
    rw [h2 j hj] at h; cases h
  · intro h
    rcases at_or_none l n with h2 | ⟨k, hk, h2, _⟩
    · exact absurd h2 h
    · exact ⟨_, List.getElem_mem _, h2⟩
theorem goodB_iff (l : List FileL) (r : RawL) : goodB l r = true ↔ good l r := by
  unfold goodB good
  rw [Bool.and_eq_true, Bool.and_eq_true, okB_iff, decide_eq_true_iff, Bool.or_eq_true, any_iff, decide_eq_true_iff]
  constructor
  · rintro ⟨⟨h1, h2⟩, h3⟩
    exact ⟨h1, h2, fun h => h3.resolve_left (fun h4 => h4 h)⟩
  · rintro ⟨h1, h2, h4⟩
    refine ⟨⟨h1, h2⟩, ?_⟩
    rcases Classical.em (None l r.name) with h5 | h5
    · exact Or.inr (h4 h5)
    · exact Or.inl h5
def putRaw (l : List FileL) (r : RawL) : Option (List FileL) := if (goodB l r && okB (rawOut l r)) = true then some (rawOut l r) else none
theorem putRaw_pos {l : List FileL} {r : RawL} (h : good l r ∧ ok (rawOut l r)) : putRaw l r = some (rawOut l r) := by
  unfold putRaw
  rw [if_pos (by rw [Bool.and_eq_true, goodB_iff, okB_iff]; exact h)]
theorem putRaw_neg {l : List FileL} {r : RawL} (h : ¬ (good l r ∧ ok (rawOut l r))) : putRaw l r = none := by
  unfold putRaw
  rw [if_neg (fun h2 => h (by rw [Bool.and_eq_true, goodB_iff, okB_iff] at h2; exact h2))]
theorem putRaw_some {l l' : List FileL} {r : RawL} (h : putRaw l r = some l') : good l r ∧ ok (rawOut l r) ∧ l' = rawOut l r := by
  rcases Classical.em (good l r ∧ ok (rawOut l r)) with h2 | h2
  · rw [putRaw_pos h2] at h; cases h; exact ⟨h2.1, h2.2, rfl⟩
  · rw [putRaw_neg h2] at h; cases h
theorem put_len (l : List FileL) (f : FileL) : (put l f).length ≤ l.length + 1 + l.length := by
  unfold put
  rw [List.length_append, List.length_append]
  have h1 := List.length_filter_le (fun e => lt e.1 f.1) l
  have h2 := List.length_filter_le (fun e => gt e.1 f.1) l
  simp only [List.length_cons, List.length_nil]
  omega
theorem put_mem {l : List FileL} {f e : FileL} (h : e ∈ put l f) : e = f ∨ e ∈ l := by
  unfold put at h
  simp only [List.mem_append, List.mem_filter, List.mem_singleton] at h
  rcases h with (⟨h, _⟩ | h) | ⟨h, _⟩
  · exact Or.inr h
  · exact Or.inl h
  · exact Or.inr h
end Go.Proofs.YtbcfiiilikkkeaaGreatDoor.Disks
namespace Go.Proofs.YtbcfiiilikkkeaaGreatDoor.Disks
open Go
/-- Raw writes done one by one, up to the first that is refused: the disk, and how many were done. -/
def run : List FileL → List RawL → List FileL × Nat
  | l, [] => (l, 0)
  | l, r :: rs => match putRaw l r with
    | none => (l, 0)
    | some l' => ((run l' rs).1, (run l' rs).2 + 1)
theorem run_none {l : List FileL} {r : RawL} {rs : List RawL} (h : putRaw l r = none) : run l (r :: rs) = (l, 0) := by
  rw [run, h]
theorem run_some {l l' : List FileL} {r : RawL} {rs : List RawL} (h : putRaw l r = some l') : run l (r :: rs) = ((run l' rs).1, (run l' rs).2 + 1) := by
  rw [run, h]
theorem put_ok {l l' : List FileL} {r : RawL} (h : putRaw l r = some l') : ok l' := by
  obtain ⟨_, h2, rfl⟩ := putRaw_some h
  exact h2
theorem run_le : ∀ (rs : List RawL) (l : List FileL), (run l rs).2 ≤ rs.length
  | [], l => Nat.le_refl _
  | r :: rs, l => by
    cases h : putRaw l r with
    | none => rw [run_none h]; exact Nat.zero_le _
    | some l' => rw [run_some h]; have := run_le rs l'; simp only [List.length_cons]; omega
theorem run_ok : ∀ (rs : List RawL) {l : List FileL}, ok l → ok (run l rs).1
  | [], l, h => h
  | r :: rs, l, h => by
    cases e : putRaw l r with
    | none => rw [run_none e]; exact h
    | some l' => rw [run_some e]; exact run_ok rs (put_ok e)
end Go.Proofs.YtbcfiiilikkkeaaGreatDoor.Disks
namespace Go.Proofs.YtbcfiiilikkkeaaGreatDoor.Disks
set_option linter.unusedVariables false
open Go
open Batches (by_ by_inj toList_by lt_irrefl lt_asymm lt_trans lt_total)
theorem nameIs_iff_kn {n : ByteArray} {f : FileL} : nameIs n f = true ↔ f.1 = n := by
  unfold nameIs
  rw [beq_iff_eq, toList_by, toList_by]
  exact ⟨by_inj, fun h => by rw [h]⟩
theorem lt_def (a b : ByteArray) : lt a b = Batches.lt a b := rfl
theorem gt_iff_kn {a b : ByteArray} : gt a b = true ↔ Batches.lt b a = true := by
  unfold gt
  have e : (a.toList == b.toList) = true ↔ a = b := by
    rw [beq_iff_eq, toList_by, toList_by]
    exact ⟨by_inj, fun h => by rw [h]⟩
  constructor
  · intro h
    cases h1 : Batches.lt b a
    · exfalso
      cases h2 : Batches.lt a b
      · have h3 := e.2 (lt_total h2 h1)
        rw [h3] at h; simp at h
      · have h2' : Op.bytesLess a.toList b.toList = true := h2
        rw [h2'] at h; simp at h
    · rfl
  · intro h
    have h1 : Op.bytesLess a.toList b.toList = false := lt_asymm h
    have h2 : (a.toList == b.toList) = false := by
      cases h3 : (a.toList == b.toList)
      · rfl
      · rw [e.1 h3, lt_irrefl] at h; cases h
    rw [h1, h2]; rfl
/-- The text of the file of a name. -/
def fileAt (l : List FileL) (n : ByteArray) : Option ByteArray := (l.find? (nameIs n)).map Prod.snd
theorem textOf_at (l : List FileL) (n : ByteArray) : textOf l n = (fileAt l n).getD ⟨#[]⟩ := by
  unfold textOf fileAt
  cases l.find? (nameIs n) <;> rfl
theorem at_mem {l : List FileL} {n t : ByteArray} (h : fileAt l n = some t) : (n, t) ∈ l := by
  unfold fileAt at h
  obtain ⟨f, h1, h2⟩ := Option.map_eq_some_iff.1 h
  have h3 := List.mem_of_find?_eq_some h1
  have h4 := nameIs_iff_kn.1 (List.find?_some h1)
  subst h2 h4
  exact h3
theorem at_none {l : List FileL} {n : ByteArray} : fileAt l n = none ↔ ∀ f ∈ l, f.1 ≠ n := by
  unfold fileAt
  rw [Option.map_eq_none_iff, List.find?_eq_none]
  exact ⟨fun h f hf e => h f hf (nameIs_iff_kn.2 e), fun h f hf e => h f hf (nameIs_iff_kn.1 e)⟩
theorem find_filter {p : FileL → Bool} {n : ByteArray} : ∀ l : List FileL, (∀ f ∈ l, f.1 = n → p f = true) → (l.filter p).find? (nameIs n) = l.find? (nameIs n)
  | [], _ => rfl
  | f :: l, h => by
    have ih := find_filter l (fun g hg => h g (List.mem_cons_of_mem _ hg))
    cases hp : p f
    · rw [List.filter_cons_of_neg (by rw [hp]; simp), ih]
      cases hn : nameIs n f
      · rw [List.find?_cons_of_neg (by rw [hn]; simp)]
      · rw [h f List.mem_cons_self (nameIs_iff_kn.1 hn)] at hp; cases hp
    · rw [List.filter_cons_of_pos hp]
      cases hn : nameIs n f
      · rw [List.find?_cons_of_neg (by rw [hn]; simp), List.find?_cons_of_neg (by rw [hn]; simp), ih]
      · rw [List.find?_cons_of_pos hn, List.find?_cons_of_pos hn]
theorem find_none {l : List FileL} {n : ByteArray} (h : ∀ f ∈ l, f.1 ≠ n) : l.find? (nameIs n) = none := List.find?_eq_none.2 fun f hf e => h f hf (nameIs_iff_kn.1 e)
theorem fileAt_put_same (l : List FileL) (n t : ByteArray) : fileAt (put l (n, t)) n = some t := by
  unfold fileAt put
  rw [List.append_assoc, List.find?_append, find_none (fun f hf e => by
    have := (List.mem_filter.1 hf).2
    rw [e, lt_def, lt_irrefl] at this; cases this)]
  rw [List.singleton_append, List.find?_cons_of_pos (nameIs_iff_kn (f := (n, t)).2 rfl)]
  rfl
theorem fileAt_put_ne {l : List FileL} {n m : ByteArray} (t : ByteArray) (h : m ≠ n) : fileAt (put l (n, t)) m = fileAt l m := by
  unfold fileAt put
  rw [List.append_assoc, List.find?_append, List.singleton_append, List.find?_cons_of_neg (fun e => h (nameIs_iff_kn.1 e).symm)]
  congr 1
  cases h1 : Batches.lt m n
  · have h2 : Batches.lt n m = true := by
      cases h2 : Batches.lt n m
      · exact absurd (lt_total h1 h2) h
      · rfl
    rw [find_none (fun f hf e => by
      have := (List.mem_filter.1 hf).2
      rw [e, lt_def, h1] at this; cases this), Option.none_or]
    exact find_filter l (fun f hf e => by rw [e]; exact gt_iff_kn.2 h2)
  · rw [find_filter l (fun f hf e => by rw [e]; exact h1)]
    rw [find_none (l := l.filter fun e => gt e.1 n) (fun f hf e => by
      have := gt_iff_kn.1 (List.mem_filter.1 hf).2
      rw [e, lt_asymm h1] at this; cases this), Option.or_none]
theorem fileAt_drop_same (l : List FileL) (n : ByteArray) : fileAt (drop l n) n = none := by
  refine at_none.2 fun f hf e => ?_
  have := (List.mem_filter.1 hf).2
  rw [nameIs_iff_kn.2 e] at this; cases this
theorem fileAt_drop_ne {l : List FileL} {n m : ByteArray} (h : m ≠ n) : fileAt (drop l n) m = fileAt l m := by
  unfold fileAt drop
  rw [find_filter l (fun f hf e => by
    cases hn : nameIs n f
    · rfl
    · exact absurd (e.symm.trans (nameIs_iff_kn.1 hn)) h)]
theorem none_at {l : List FileL} {n : ByteArray} : None l n ↔ fileAt l n = none := by
  rw [at_none]
  constructor
  · intro h f hf e
    obtain ⟨j, hj, rfl⟩ := List.getElem_of_mem hf
    have := h j hj
    rw [nameIs_iff_kn.2 e] at this; cases this
  · intro h j hj
    cases hn : nameIs n l[j]
    · rfl
    · exact absurd (nameIs_iff_kn.1 hn) (h _ (List.getElem_mem _))
def Asc (l : List FileL) : Prop := l.Pairwise fun e f => Batches.lt e.1 f.1 = true
theorem ok_iff_kn (l : List FileL) : ok l ↔ l.length ≤ 30 ∧ (∀ f ∈ l, fileOk f) ∧ Asc l := by
  constructor
  · rintro ⟨h1, h2⟩
    refine ⟨h1, fun f hf => ?_, Maps.asc_of (fun f : FileL => f.1) l fun j hj h0 => ?_⟩
    · obtain ⟨j, hj, rfl⟩ := List.getElem_of_mem hf
      obtain ⟨_, h3, _⟩ := h2 j hj
      exact h3
    · obtain ⟨_, _, h3⟩ := h2 j hj
      exact (h3 h0).2
  · rintro ⟨h1, h2, h3⟩
    exact ⟨h1, fun j hj => ⟨hj, h2 _ (List.getElem_mem _), fun h0 => ⟨by omega, Maps.asc_at (fun f : FileL => f.1) h3 hj (by omega)⟩⟩⟩
theorem two_filter (n : ByteArray) : ∀ l : List FileL, (l.filter (fun e => lt e.1 n)).length + (l.filter (fun e => gt e.1 n)).length + (if (fileAt l n).isSome then 1 else 0) ≤ l.length
  | [] => by simp [fileAt]
  | f :: l => by
    have ih := two_filter n l
    by_cases e : f.1 = n
    · have h1 : lt f.1 n = false := by rw [e]; exact lt_irrefl n
      have h2 : gt f.1 n = false := by
        cases h : gt f.1 n
        · rfl
        · have := gt_iff_kn.1 h; rw [e, lt_irrefl] at this; cases this
      rw [List.filter_cons_of_neg (by rw [h1]; simp), List.filter_cons_of_neg (by rw [h2]; simp), List.length_cons]
      have : (if (fileAt (f :: l) n).isSome = true then 1 else 0) ≤ 1 := by split <;> simp
      omega
    · have hn : fileAt (f :: l) n = fileAt l n := by unfold fileAt; rw [List.find?_cons_of_neg (fun h => e (nameIs_iff_kn.1 h))]
      rw [hn, List.length_cons]
      cases h1 : lt f.1 n
      · have h2 : gt f.1 n = true := gt_iff_kn.2 (by
          cases h2 : Batches.lt n f.1
          · exact absurd (lt_total h1 h2) e
          · rfl)
        rw [List.filter_cons_of_neg (by rw [h1]; simp), List.filter_cons_of_pos (by exact h2), List.length_cons]
        omega
      · have h2 : gt f.1 n = false := by
          cases h : gt f.1 n
          · rfl
          · have := gt_iff_kn.1 h; rw [lt_asymm (show Batches.lt f.1 n = true from h1)] at this; cases this
        rw [List.filter_cons_of_pos (by exact h1), List.filter_cons_of_neg (by rw [h2]; simp), List.length_cons]
        omega
theorem at_ok {l : List FileL} {n t : ByteArray} (h : ok l) (ht : fileAt l n = some t) : fileOk (n, t) := ((ok_iff_kn l).1 h).2.1 _ (at_mem ht)
end Go.Proofs.YtbcfiiilikkkeaaGreatDoor.Disks
