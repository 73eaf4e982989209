/- Plain facts on a segment's text: its batches, where they end, what is told behind a batch that is added to it, or cut; no program is named here. Plain facts on places in segments: the bytes that stand where a directory says are the values of the batches; no program is named here. Rows of files in memory: two cells each; no program is named but for its types. Plain facts on disks as lists of files: which are right. Plain facts on raw writes. Plain facts on lists of raw writes. Plain facts on disks: which file stands under a name, behind a put and behind a drop; no program is named here. Plain facts on manifests: which are right, their texts, what is read of a text; no program is named here. -/
import Derived.Test.YtbcfiiilikkkeaaGreatDoorMathMore
import Derived.Test.YtbcfiiilikkkeaaGreatDoorProg
import Derived.WalkKit
import Derived.WalkSpells
import Derived.WalkLawsBesides
import Derived.Laws.IdiomStrings
import Derived.Laws.BytesArg
import Derived.Laws.BitsAllLaws
import Derived.Test.YtbcfiiilikkkeaaGreatDoorMathScan
namespace Go.Proofs.YtbcfiiilikkkeaaGreatDoor
set_option linter.unusedVariables false
namespace Scan
open Go
open Words (frame frames okRec)
open Batches (by_ short lt Got changeOk)
def recs (l : List UInt8) : List (List UInt8) := Words.un (l.length + 1) l 0
def its (l : List UInt8) : List It := itemsOf (recs l)
def segEnd (l : List UInt8) : Nat := itEnd 0 (its l)
def segSpots (seg : Int) (l : List UInt8) : List SpotL := itSpots seg 0 (its l)
def segStamp (l : List UInt8) : Int := itStamp (-1) (its l)
/-- Nothing stands behind its batches. -/
def Full (l : List UInt8) : Prop := segEnd l = l.length
theorem recEnd_frames : ∀ (ts : List (List UInt8)) (a : Nat), recEnd a ts = a + (frames ts).length
  | [], a => rfl
  | t :: ts, a => by
    rw [recEnd, recEnd_frames ts, frames, List.length_append, Words.frame_len]
    unfold hdr
    omega
theorem fr_frame {l : List UInt8} {a e : Nat} {r : List UInt8} (h : Words.fr l a = some (r, e)) : frame r = (l.drop a).take (e - a) := by
  unfold Words.fr at h
  split at h
  · cases h
  · rename_i n b hf
    split at h
    · rename_i hs
      simp only [Option.some.injEq, Prod.mk.injEq] at h
      obtain ⟨rfl, rfl⟩ := h
      exact (Words.frame_iff hf).2 hs
    · cases h
theorem un_frames : ∀ (f : Nat) (l : List UInt8) (a : Nat), a ≤ l.length → (l.drop a).take (frames (Words.un f l a)).length = frames (Words.un f l a) ∧ a + (frames (Words.un f l a)).length ≤ l.length
  | 0, l, a, ha => ⟨by simp [Words.un, frames], by simpa [Words.un, frames] using ha⟩
  | f + 1, l, a, ha => by
    cases h : Words.fr l a with
    | none => rw [(Words.un_end (f + 1) h).1]; exact ⟨by simp [frames], by simpa [frames] using ha⟩
    | some p =>
      obtain ⟨r, e⟩ := p
      have h1 := Words.fr_some h
      have h2 := fr_frame h
      obtain ⟨ih, ih2⟩ := un_frames f l e h1.2
      have hl : (frame r).length = e - a := by rw [h2, List.length_take, List.length_drop]; omega
      rw [(Words.un_more f h).1, frames, List.length_append, hl]
      refine ⟨?_, by omega⟩
      rw [List.take_add, List.drop_drop, show a + (e - a) = e by omega, ih, ← h2]
/-- The batches end within the text; each is the record of its place. -/
theorem segEnd_le (l : List UInt8) : segEnd l ≤ l.length := by
  have hr := reads_items (recs l)
  have h1 := reads_end hr (itemsOf (recs l)).length (Nat.le_refl _) 0
  rw [List.take_length] at h1
  have h2 := recEnd_take (rs := recs l) (a := 0) (itemsOf (recs l)).length
  obtain ⟨h3, h4⟩ := un_frames (l.length + 1) l 0 (Nat.zero_le _)
  have h5 := recEnd_frames (recs l) 0
  have h4' : 0 + (frames (recs l)).length ≤ l.length := h4
  unfold segEnd its
  omega
theorem one_len {c : ChangeL} (h : changeOk c) : (Batches.one c).length ≤ 120 := by
  obtain ⟨_, h1, h2, _⟩ := h
  have e1 := Batches.short_len c.key
  have e2 := Batches.short_len c.value
  rw [Batches.one, List.length_append, List.length_cons]
  omega
theorem many_len : ∀ l : List ChangeL, (∀ c ∈ l, changeOk c) → (Batches.many l).length ≤ 120 * l.length
  | [], _ => by simp [Batches.many]
  | c :: l, h => by
    have h1 := one_len (h c List.mem_cons_self)
    have h2 := many_len l (fun x hx => h x (List.mem_cons_of_mem _ hx))
    rw [Batches.many, List.length_append, List.length_cons]
    omega
theorem ok_all {st : Int} {l : List ChangeL} (h : Batches.ok st l) : ∀ c ∈ l, changeOk c := ((Maps.okC_iff st l).1 h).2.2.1
theorem text_rec {st : Nat} {l : List ChangeL} (h : Batches.ok (st : Int) l) : okRec (Batches.text st l) := by
  have h1 := many_len l (ok_all h)
  have h2 := h.2.1
  have h3 := h.1.2
  have h4 := Dirs.var_len5 (n := st) (by omega)
  have h5 := Dirs.var_len5 (n := l.length) (by omega)
  have h6 := Words.rd_back st (by omega) [] []
  have h7 := (Words.rd_front h6).1
  simp only [List.length_nil, Nat.zero_add] at h7
  unfold okRec Batches.text
  rw [List.length_append, List.length_append]
  omega
/-- Each item of a text is a right batch. -/
theorem its_got (l : List UInt8) : ∀ x ∈ its l, x.bytes = Batches.text x.st x.ch ∧ Batches.ok (x.st : Int) x.ch := fun x hx => by
  obtain ⟨i, hi, rfl⟩ := List.getElem_of_mem hx
  have hr := reads_items (recs l)
  obtain ⟨e, h1, h2⟩ := hr.2.1 i hi (Nat.lt_of_lt_of_le hi hr.1)
  exact ⟨e.trans h1, h2⟩
end Scan
end Go.Proofs.YtbcfiiilikkkeaaGreatDoor
namespace Go.Proofs.YtbcfiiilikkkeaaGreatDoor
set_option linter.unusedVariables false
namespace Scan
open Go
open Batches (by_ short lt lt_irrefl lt_asymm lt_trans changeOk one many flag)
open Maps (same same_iff same_lt stepC cutK putK)
open Dirs (asc put1 more)
/-- The bytes at a place. -/
def valAt (l : List UInt8) (x : SpotL) : ByteArray := ⟨((l.drop x.pos.toNat).take x.size.toNat).toArray⟩
theorem by_len (s : ByteArray) : (by_ s).length = s.size := Words.size_list s
theorem more_app : ∀ (xs ys l : List SpotL), more l (xs ++ ys) = more (more l xs) ys
  | [], ys, l => rfl
  | x :: xs, ys, l => by rw [List.cons_append, more, more, more_app xs]
end Scan
end Go.Proofs.YtbcfiiilikkkeaaGreatDoor
namespace Go.Proofs.YtbcfiiilikkkeaaGreatDoor
open Go.RowKit

abbrev FileL := ByteArray × ByteArray
/-- A slice at a whose elements are these files. -/
def FilesAt (w : World) (a : Option Addr) (g off : Nat) (l : List FileL) : Prop :=
  (0 < l.length → a = some ⟨g, off, none⟩) ∧ ∀ j (hj : j < l.length), w.cell? ⟨g, off + j * 2, none⟩ = some (.string l[j].1) ∧ w.cell? ⟨g, off + j * 2 + 1, none⟩ = some (.string l[j].2)
theorem FilesAt.lt {w : World} {a : Option Addr} {g off : Nat} {l : List FileL} (h : FilesAt w a g off l) (hl : 0 < l.length) : g < w.heap.size := by
  have := World.block_lt_of_cell? w _ (h.2 0 hl).1
  exact this
theorem FilesAt.kept {w w' : World} {a : Option Addr} {g off : Nat} {l : List FileL} (h : FilesAt w a g off l) (hb : Below w.heap.size w w') : FilesAt w' a g off l := by
  refine ⟨h.1, fun j hj => ?_⟩
  have hg := h.lt (by omega)
  rw [hb.cell (p := ⟨g, off + j * 2, none⟩) hg, hb.cell (p := ⟨g, off + j * 2 + 1, none⟩) hg]
  exact h.2 j hj
/-- How much files hold. -/
def tot : List FileL → Nat
  | [] => 0
  | f :: r => f.1.size + f.2.size + 1 + tot r
theorem tot_app : ∀ (l m : List FileL), tot (l ++ m) = tot l + tot m
  | [], m => by simp [tot]
  | f :: r, m => by simp only [List.cons_append, tot, tot_app r m]; omega
theorem tot_len : ∀ l : List FileL, l.length ≤ tot l
  | [] => by simp [tot]
  | f :: r => by have := tot_len r; simp only [List.length_cons, tot]; omega
theorem tot_mem : ∀ {l : List FileL} {f : FileL}, f ∈ l → f.1.size + f.2.size + 1 ≤ tot l
  | x :: r, f, h => by
    rcases List.mem_cons.1 h with rfl | h
    · simp only [tot]; omega
    · have := tot_mem h; simp only [tot]; omega
theorem tot_take {l : List FileL} {j : Nat} (hj : j < l.length) : tot (l.take (j + 1)) = tot (l.take j) + (l[j].1.size + l[j].2.size + 1) := by
  rw [List.take_succ_eq_append_getElem hj, tot_app]; simp [tot]
/-- The cells of a row of files. -/
def cellsF (l : List FileL) : List Value := l.flatMap fun f => [.string f.1, .string f.2]
theorem cellsF_len : ∀ l : List FileL, (cellsF l).length = l.length * 2
  | [] => rfl
  | f :: r => by have := cellsF_len r; simp only [cellsF, List.flatMap_cons, List.length_append, List.length_cons, List.length_nil] at *; omega
theorem cellsF_at : ∀ (l : List FileL) (j : Nat) (hj : j < l.length), (cellsF l)[j * 2]? = some (.string l[j].1) ∧ (cellsF l)[j * 2 + 1]? = some (.string l[j].2)
  | f :: r, 0, _ => ⟨rfl, rfl⟩
  | f :: r, j + 1, hj => by
    have := cellsF_at r j (by simpa using hj)
    simpa [cellsF, Nat.add_mul, Nat.add_assoc] using this
theorem cellsF_set : ∀ (l : List FileL) (j : Nat) (f : FileL), cellsF (l.set j f) = ((cellsF l).set (j * 2) (.string f.1)).set (j * 2 + 1) (.string f.2)
  | [], j, f => by simp [cellsF]
  | x :: r, 0, f => by simp [cellsF]
  | x :: r, j + 1, f => by
    have := cellsF_set r j f
    simp only [cellsF, List.set_cons_succ, List.flatMap_cons, List.cons_append, List.nil_append, Nat.add_mul] at *
    rw [this]
theorem cellsF_empty : ∀ n : Nat, cellsF (List.replicate n (ByteArray.empty, ByteArray.empty)) = List.replicate (n * 2) (.string ByteArray.empty)
  | 0 => rfl
  | n + 1 => by
    have := cellsF_empty n
    rw [show (n + 1) * 2 = n * 2 + 1 + 1 by omega]
    simp only [cellsF, List.replicate_succ, List.flatMap_cons, List.cons_append, List.nil_append] at *
    rw [this]
theorem made_files (n : Nat) : (madeCells #[Value.string ByteArray.empty, Value.string ByteArray.empty] (n * 2)).toList = cellsF (List.replicate n (ByteArray.empty, ByteArray.empty)) := by
  rw [cellsF_empty]
  have key : ∀ i : Nat, (#[Value.string ByteArray.empty, Value.string ByteArray.empty] : Array Value)[i % 2]! = .string ByteArray.empty := by
    intro i
    rcases Nat.mod_two_eq_zero_or_one i with h | h <;> rw [h] <;> rfl
  simp only [madeCells, Array.toList_map, show (#[Value.string ByteArray.empty, Value.string ByteArray.empty] : Array Value).size = 2 from rfl, key]
  rw [List.map_const']
  simp
theorem cell_set2 {w : World} {p q : Addr} {u x y : Value} (hq : w.cell? q = some u) : ((w.setCell p x).setCell q y).cell? q = some y := by
  obtain ⟨v', h⟩ := cell?_setCell_some (p := p) (x := x) hq
  exact World.cell?_setCell_same _ _ _ h
theorem Tryz.info164 : (Tryz.prog.info? 164).map (fun i => (i.zero, i.size, i.bytes)) = some (some (.agg #[.string ByteArray.empty, .string ByteArray.empty]), 2, 32) := by kernel_rfl
theorem own_files {w : World} {base : Nat} {e : TypeId} {g n cap : Nat} {l : List FileL} (hn : l.length = n) (h : w.ownsRow base e 2 (.slice (some ⟨g, 0, none⟩) n cap) n (cellsF l)) : FilesAt w (some ⟨g, 0, none⟩) g 0 l := by
  refine ⟨fun _ => rfl, fun j hj => ?_⟩
  rw [Nat.zero_add, h.cellAt (j * 2) (by omega), h.cellAt (j * 2 + 1) (by omega)]
  exact cellsF_at l j hj
end Go.Proofs.YtbcfiiilikkkeaaGreatDoor
namespace Go.Proofs.YtbcfiiilikkkeaaGreatDoor.Disks
open Go
/-- Texts byte by byte, a beginning being less. -/
def lt (a b : ByteArray) : Bool := Op.bytesLess a.toList b.toList
def fileOk (f : FileL) : Prop := 1 ≤ f.1.size ∧ f.1.size ≤ 12 ∧ f.2.size ≤ 20000
def fileOkB (f : FileL) : Bool := decide (1 ≤ f.1.size ∧ f.1.size ≤ 12 ∧ f.2.size ≤ 20000)
theorem fileOkB_iff (f : FileL) : fileOkB f = true ↔ fileOk f := decide_eq_true_iff
/-- Is the file at j right, and behind the one ahead of it? -/
def okAt (l : List FileL) (j : Nat) : Prop := ∃ hj : j < l.length, fileOk l[j] ∧ (0 < j → ∃ hi : j - 1 < l.length, lt l[j - 1].1 l[j].1 = true)
def ok (l : List FileL) : Prop := l.length ≤ 30 ∧ ∀ j, j < l.length → okAt l j
/-- The same, reckoned. -/
def okAtB (l : List FileL) (j : Nat) : Bool := match l[j]? with
  | none => false
  | some f => fileOkB f && (j == 0 || match l[j - 1]? with | none => false | some e => lt e.1 f.1)
def okB (l : List FileL) : Bool := decide (l.length ≤ 30) && (List.range l.length).all (okAtB l)
theorem okAtB_iff (l : List FileL) (j : Nat) : okAtB l j = true ↔ okAt l j := by
  unfold okAtB okAt
  by_cases hj : j < l.length
  · rw [List.getElem?_eq_getElem hj]
    simp only [Bool.and_eq_true, fileOkB_iff, Bool.or_eq_true, beq_iff_eq]
    constructor
    · rintro ⟨h1, h2⟩
      refine ⟨hj, h1, fun hp => ⟨by omega, ?_⟩⟩
      rcases h2 with h2 | h2
      · omega
      · rw [List.getElem?_eq_getElem (show j - 1 < l.length by omega)] at h2; exact h2
    · rintro ⟨_, h1, h2⟩
      refine ⟨h1, ?_⟩
      by_cases hz : j = 0
      · exact Or.inl hz
      · right
        obtain ⟨hi, h3⟩ := h2 (by omega)
        rw [List.getElem?_eq_getElem hi]; exact h3
  · rw [List.getElem?_eq_none (by omega)]
    simp [hj]
theorem okB_iff (l : List FileL) : okB l = true ↔ ok l := by
  unfold okB ok
  simp only [Bool.and_eq_true, decide_eq_true_eq, List.all_eq_true, List.mem_range, okAtB_iff]
theorem ok_step {l : List FileL} {k : Nat} (h : ∀ j, j < k → okAt l j) (hk : okAt l k) : ∀ j, j < k + 1 → okAt l j := fun j hj => by
  rcases Nat.lt_succ_iff_lt_or_eq.1 hj with h1 | h1
  · exact h j h1
  · rw [h1]; exact hk
theorem not_ok {l : List FileL} {j : Nat} (hj : j < l.length) (h : ¬ okAt l j) : ¬ ok l := fun h2 => h (h2.2 j hj)
/-- Is this the file's name? -/
def nameIs (n : ByteArray) (f : FileL) : Bool := f.1.toList == n.toList
def At (l : List FileL) (n : ByteArray) (k : Nat) : Prop := ∃ hk : k < l.length, nameIs n l[k] = true ∧ ∀ j (hj : j < k), nameIs n (l[j]'(Nat.lt_trans hj hk)) = false
def None (l : List FileL) (n : ByteArray) : Prop := ∀ j (hj : j < l.length), nameIs n l[j] = false
theorem at_or_none (l : List FileL) (n : ByteArray) : None l n ∨ ∃ k, At l n k := by
  cases h : l.findIdx? (nameIs n) with
  | none =>
    left
    intro j hj
    have := List.findIdx?_eq_none_iff.1 h l[j] (List.getElem_mem _)
    simpa using this
  | some k =>
    right
    obtain ⟨hk, h1, h2⟩ := List.findIdx?_eq_some_iff_getElem.1 h
    exact ⟨k, hk, h1, fun j hj => by simpa using h2 j hj⟩
theorem at_unique {l : List FileL} {n : ByteArray} {k k' : Nat} (h : At l n k) (h' : At l n k') : k = k' := by
  obtain ⟨hk, h1, h2⟩ := h
  obtain ⟨hk', h1', h2'⟩ := h'
  rcases Nat.lt_trichotomy k k' with q | q | q
  · have := h2' k q; rw [h1] at this; cases this
  · exact q
  · have := h2 k' q; rw [h1'] at this; cases this
/-- Greater, as the model of the language has it. -/
def gt (a b : ByteArray) : Bool := !(Op.bytesLess a.toList b.toList || a.toList == b.toList)
/-- A file put among others, by name. -/
def put (l : List FileL) (f : FileL) : List FileL := l.filter (fun e => lt e.1 f.1) ++ [f] ++ l.filter (fun e => gt e.1 f.1)
def drop (l : List FileL) (n : ByteArray) : List FileL := l.filter fun f => !nameIs n f
/-- The text of a file, empty when there is none. -/
def TextIs (l : List FileL) (n t : ByteArray) : Prop := (None l n ∧ t = ⟨#[]⟩) ∨ ∃ k, ∃ h : k < l.length, At l n k ∧ t = l[k].2
/-- What FileAt tells. -/
def FileIs (l : List FileL) (n : ByteArray) : Option ByteArray → Prop
  | none => ¬ ok l ∨ None l n
  | some t => ok l ∧ ∃ k, ∃ h : k < l.length, At l n k ∧ t = l[k].2
end Go.Proofs.YtbcfiiilikkkeaaGreatDoor.Disks
namespace Go.Proofs.YtbcfiiilikkkeaaGreatDoor.Disks
open Go
structure RawL where
  kind : Int
  name : ByteArray
  to : ByteArray
  text : ByteArray
def textOf (l : List FileL) (n : ByteArray) : ByteArray := match l.find? (nameIs n) with | some f => f.2 | none => ⟨#[]⟩
def rawOut (l : List FileL) (r : RawL) : List FileL :=
  if r.kind = 1 then put l (r.name, r.text) else if r.kind = 2 then put l (r.name, textOf l r.name ++ r.text)
  else if r.kind = 3 then (if (r.to.toList == r.name.toList) = true then l else put (drop l r.name) (r.to, textOf l r.name)) else drop l r.name
def good (l : List FileL) (r : RawL) : Prop := ok l ∧ (1 ≤ r.kind ∧ r.kind ≤ 4) ∧ (None l r.name → r.kind < 3)
def goodB (l : List FileL) (r : RawL) : Bool := okB l && decide (1 ≤ r.kind ∧ r.kind ≤ 4) && (l.any (nameIs r.name) || decide (r.kind < 3))
def putRaw (l : List FileL) (r : RawL) : Option (List FileL) := if (goodB l r && okB (rawOut l r)) = true then some (rawOut l r) else none
end Go.Proofs.YtbcfiiilikkkeaaGreatDoor.Disks
namespace Go.Proofs.YtbcfiiilikkkeaaGreatDoor.Disks
open Go
/-- Raw writes done one by one, up to the first that is refused: the disk, and how many were done. -/
def run : List FileL → List RawL → List FileL × Nat
  | l, [] => (l, 0)
  | l, r :: rs => match putRaw l r with
    | none => (l, 0)
    | some l' => ((run l' rs).1, (run l' rs).2 + 1)
end Go.Proofs.YtbcfiiilikkkeaaGreatDoor.Disks
namespace Go.Proofs.YtbcfiiilikkkeaaGreatDoor.Disks
set_option linter.unusedVariables false
open Go
open Batches (by_ by_inj toList_by lt_irrefl lt_asymm lt_trans lt_total)
theorem nameIs_iff_kn {n : ByteArray} {f : FileL} : nameIs n f = true ↔ f.1 = n := by
  unfold nameIs
  rw [beq_iff_eq, toList_by, toList_by]
  exact ⟨by_inj, fun h => by rw [h]⟩
/-- The text of the file of a name. -/
def fileAt (l : List FileL) (n : ByteArray) : Option ByteArray := (l.find? (nameIs n)).map Prod.snd
theorem textOf_at (l : List FileL) (n : ByteArray) : textOf l n = (fileAt l n).getD ⟨#[]⟩ := by
  unfold textOf fileAt
  cases l.find? (nameIs n) <;> rfl
theorem at_mem {l : List FileL} {n t : ByteArray} (h : fileAt l n = some t) : (n, t) ∈ l := by
  unfold fileAt at h
  obtain ⟨f, h1, h2⟩ := Option.map_eq_some_iff.1 h
  have h3 := List.mem_of_find?_eq_some h1
  have h4 := nameIs_iff_kn.1 (List.find?_some h1)
  subst h2 h4
  exact h3
theorem at_none {l : List FileL} {n : ByteArray} : fileAt l n = none ↔ ∀ f ∈ l, f.1 ≠ n := by
  unfold fileAt
  rw [Option.map_eq_none_iff, List.find?_eq_none]
  exact ⟨fun h f hf e => h f hf (nameIs_iff_kn.2 e), fun h f hf e => h f hf (nameIs_iff_kn.1 e)⟩
theorem none_at {l : List FileL} {n : ByteArray} : None l n ↔ fileAt l n = none := by
  rw [at_none]
  constructor
  · intro h f hf e
    obtain ⟨j, hj, rfl⟩ := List.getElem_of_mem hf
    have := h j hj
    rw [nameIs_iff_kn.2 e] at this; cases this
  · intro h j hj
    cases hn : nameIs n l[j]
    · rfl
    · exact absurd (nameIs_iff_kn.1 hn) (h _ (List.getElem_mem _))
def Asc (l : List FileL) : Prop := l.Pairwise fun e f => Batches.lt e.1 f.1 = true
theorem ok_iff_kn (l : List FileL) : ok l ↔ l.length ≤ 30 ∧ (∀ f ∈ l, fileOk f) ∧ Asc l := by
  constructor
  · rintro ⟨h1, h2⟩
    refine ⟨h1, fun f hf => ?_, Maps.asc_of (fun f : FileL => f.1) l fun j hj h0 => ?_⟩
    · obtain ⟨j, hj, rfl⟩ := List.getElem_of_mem hf
      obtain ⟨_, h3, _⟩ := h2 j hj
      exact h3
    · obtain ⟨_, _, h3⟩ := h2 j hj
      exact (h3 h0).2
  · rintro ⟨h1, h2, h3⟩
    exact ⟨h1, fun j hj => ⟨hj, h2 _ (List.getElem_mem _), fun h0 => ⟨by omega, Maps.asc_at (fun f : FileL => f.1) h3 hj (by omega)⟩⟩⟩
theorem at_ok {l : List FileL} {n t : ByteArray} (h : ok l) (ht : fileAt l n = some t) : fileOk (n, t) := ((ok_iff_kn l).1 h).2.1 _ (at_mem ht)
end Go.Proofs.YtbcfiiilikkkeaaGreatDoor.Disks
namespace Go.Proofs.YtbcfiiilikkkeaaGreatDoor
structure ManL where
  segs : List Int
  next : Int
  base : Int
  term : Int
  conf : List Int
namespace Mans
open Go
open Batches (by_ cut cut_app cut_self cut_all rd_cut rd_at)
/-- Ascending, in lo .. hi. -/
def asc : Int → Int → List Int → Bool
  | _, _, [] => true
  | lo, hi, n :: r => (decide (lo ≤ n) && decide (n ≤ hi)) && asc (n + 1) hi r
theorem asc_step {lo hi : Int} {l : List Int} {k : Nat} {R : Bool} (hk : k < l.length) (h : asc lo hi (l.drop k) = R) (h1 : lo ≤ l[k]) (h2 : l[k] ≤ hi) : asc (l[k] + 1) hi (l.drop (k + 1)) = R := by
  rw [List.drop_eq_getElem_cons hk, asc] at h
  simpa [h1, h2] using h
theorem asc_bad {lo hi : Int} {l : List Int} {k : Nat} {R : Bool} (hk : k < l.length) (h : asc lo hi (l.drop k) = R) (h1 : ¬ (lo ≤ l[k] ∧ l[k] ≤ hi)) : R = false := by
  rw [List.drop_eq_getElem_cons hk, asc] at h
  rw [← h]
  have : (decide (lo ≤ l[k]) && decide (l[k] ≤ hi)) = false := by
    by_cases q1 : lo ≤ l[k] <;> by_cases q2 : l[k] ≤ hi <;> simp_all
  rw [this]; rfl
theorem asc_end {lo hi : Int} {l : List Int} {k : Nat} {R : Bool} (hk : l.length ≤ k) (h : asc lo hi (l.drop k) = R) : R = true := by
  rw [List.drop_of_length_le hk, asc] at h; exact h.symm
theorem asc_in : ∀ (l : List Int) (lo hi : Int), asc lo hi l = true → ∀ x ∈ l, lo ≤ x ∧ x ≤ hi
  | [], _, _, _, x, hx => (List.not_mem_nil hx).elim
  | n :: r, lo, hi, h, x, hx => by
    simp only [asc, Bool.and_eq_true, decide_eq_true_eq] at h
    rcases List.mem_cons.1 hx with rfl | hx
    · exact h.1
    · have := asc_in r _ _ h.2 x hx; omega
def confOk (l : List Int) : Bool := (decide (1 ≤ l.length) && decide (l.length ≤ 4)) && asc 1 4 l
def ok (m : ManL) : Prop := (1 ≤ m.segs.length ∧ m.segs.length ≤ 8) ∧ (0 ≤ m.next ∧ m.next ≤ 1000) ∧ asc 0 (m.next - 1) m.segs = true ∧ (0 ≤ m.base ∧ m.base ≤ 100000) ∧ (0 ≤ m.term ∧ m.term ≤ 100000) ∧ confOk m.conf = true
theorem confOk_iff {l : List Int} : confOk l = true ↔ (1 ≤ l.length ∧ l.length ≤ 4) ∧ asc 1 4 l = true := by
  unfold confOk
  simp [Bool.and_eq_true]

def many : List Int → List UInt8
  | [] => []
  | x :: l => Words.var x.toNat ++ many l
theorem many_app : ∀ (l m : List Int), many (l ++ m) = many l ++ many m
  | [], m => rfl
  | c :: l, m => by simp [many, many_app l m]
theorem many_take {l : List Int} {k : Nat} (hk : k < l.length) : many (l.take (k + 1)) = many (l.take k) ++ Words.var l[k].toNat := by
  rw [List.take_succ_eq_append_getElem hk, many_app]; simp [many]
def list (l : List Int) : List UInt8 := Words.var l.length ++ many l
def text (m : ManL) : List UInt8 := list m.segs ++ (Words.var m.next.toNat ++ (Words.var m.base.toNat ++ (Words.var m.term.toNat ++ list m.conf)))
def sealed (l : List UInt8) : List UInt8 := l ++ Sums.four (Sums.sumOf l)
theorem var_five (n : Nat) (h : n ≤ 1000000000) : (Words.var n).length ≤ 5 := by
  have h1 := Words.rd_back n h [] []
  have h2 := (Words.rd_front h1).2.1
  simp at h2
  exact h2
theorem many_len : ∀ l : List Int, (∀ x ∈ l, x ≤ 1000000000) → (many l).length ≤ 5 * l.length
  | [], _ => by simp [many]
  | x :: l, h => by
    have h1 := var_five x.toNat (by have := h x List.mem_cons_self; omega)
    have h2 := many_len l (fun y hy => h y (List.mem_cons_of_mem _ hy))
    simp [many]; omega
def smallM (m : ManL) : Prop := m.segs.length ≤ 100 ∧ m.conf.length ≤ 100 ∧ (∀ x ∈ m.segs, x ≤ 1000000000) ∧ (∀ x ∈ m.conf, x ≤ 1000000000) ∧ m.next ≤ 1000000000 ∧ m.base ≤ 1000000000 ∧ m.term ≤ 1000000000
theorem ok_small {m : ManL} (h : ok m) : smallM m := by
  obtain ⟨h1, h2, h3, h4, h5, h6⟩ := h
  obtain ⟨g1, g2⟩ := confOk_iff.1 h6
  exact ⟨by omega, by omega, fun x hx => by have := asc_in _ _ _ h3 x hx; omega, fun x hx => by have := asc_in _ _ _ g2 x hx; omega, by omega, by omega, by omega⟩
theorem ok_nonneg {m : ManL} (h : ok m) : (∀ x ∈ m.segs, 0 ≤ x) ∧ (∀ x ∈ m.conf, 0 ≤ x) := by
  obtain ⟨h1, h2, h3, h4, h5, h6⟩ := h
  obtain ⟨g1, g2⟩ := confOk_iff.1 h6
  exact ⟨fun x hx => (asc_in _ _ _ h3 x hx).1, fun x hx => by have := (asc_in _ _ _ g2 x hx).1; omega⟩
theorem text_len {m : ManL} (h : smallM m) : (text m).length ≤ 1100 := by
  obtain ⟨h1, h2, h3, h4, h5, h6, h7⟩ := h
  have a1 := many_len _ h3
  have a2 := many_len _ h4
  have b1 := var_five m.segs.length (by omega)
  have b2 := var_five m.conf.length (by omega)
  have b3 := var_five m.next.toNat (by omega)
  have b4 := var_five m.base.toNat (by omega)
  have b5 := var_five m.term.toNat (by omega)
  simp only [text, list, List.length_append]
  omega

def rdMany (s : ByteArray) : Nat → Nat → Option (List Int × Nat)
  | 0, a => some ([], a)
  | n + 1, a => match Words.rd (by_ s) a with
    | none => none
    | some (c, a1) => match rdMany s n a1 with
      | none => none
      | some (l, a2) => some ((c : Int) :: l, a2)
theorem rdMany_next {t : ByteArray} {m a e : Nat} {l : List Int} (h : rdMany t (m + 1) a = some (l, e)) : ∃ c a1 r, Words.rd (by_ t) a = some (c, a1) ∧ rdMany t m a1 = some (r, e) ∧ l = (c : Int) :: r := by
  rw [rdMany] at h
  split at h
  · cases h
  · rename_i c a1 h1
    split at h
    · cases h
    · rename_i r a2 h2
      simp only [Option.some.injEq, Prod.mk.injEq] at h
      obtain ⟨rfl, rfl⟩ := h
      exact ⟨c, a1, r, h1, h2, rfl⟩
theorem rdMany_torn {t : ByteArray} {m a : Nat} (h : rdMany t (m + 1) a = none) : Words.rd (by_ t) a = none ∨ ∃ c a1, Words.rd (by_ t) a = some (c, a1) ∧ rdMany t m a1 = none := by
  rw [rdMany] at h
  split at h
  · rename_i h1; exact Or.inl h1
  · rename_i c a1 h1
    split at h
    · rename_i h2; exact Or.inr ⟨c, a1, h1, h2⟩
    · cases h
theorem rdMany_cut {s : ByteArray} : ∀ (n a b : Nat) (l : List Int), a ≤ s.size → rdMany s n a = some (l, b) → a + n ≤ b ∧ b ≤ s.size ∧ cut s a b = many l ∧ l.length = n ∧ ∀ x ∈ l, 0 ≤ x ∧ x ≤ 1000000000
  | 0, a, b, l, ha, h => by
    simp only [rdMany, Option.some.injEq, Prod.mk.injEq] at h
    obtain ⟨rfl, rfl⟩ := h
    exact ⟨by omega, ha, by rw [cut_self]; rfl, rfl, fun x hx => (List.not_mem_nil hx).elim⟩
  | n + 1, a, b, l, ha, h => by
    obtain ⟨c, a1, r, h1, h2, rfl⟩ := rdMany_next h
    obtain ⟨p1, p2, p3, p4⟩ := rd_cut h1
    obtain ⟨q1, q2, q3, q4, q5⟩ := rdMany_cut n a1 b r p2 h2
    refine ⟨by omega, q2, ?_, by simp [q4], fun x hx => ?_⟩
    · rw [cut_app s (b := a1) (by omega) (by omega), p3, q3]; simp [many]
    · rcases List.mem_cons.1 hx with rfl | hx
      · omega
      · exact q5 x hx
theorem rdMany_at {s : ByteArray} : ∀ (l : List Int) (p r : List UInt8), (∀ x ∈ l, 0 ≤ x ∧ x ≤ 1000000000) → by_ s = p ++ (many l ++ r) → rdMany s l.length p.length = some (l, (p ++ many l).length)
  | [], p, r, _, h => by simp [rdMany, many]
  | c :: l, p, r, hs, h => by
    have hc := hs c List.mem_cons_self
    obtain ⟨n, rfl⟩ := Int.eq_ofNat_of_zero_le hc.1
    have e1 : by_ s = p ++ (Words.var n ++ (many l ++ r)) := by rw [h, many]; simp
    have e2 : by_ s = (p ++ Words.var n) ++ (many l ++ r) := by rw [e1]; simp
    rw [List.length_cons, rdMany, rd_at (by omega) e1]
    simp only
    rw [rdMany_at l (p ++ Words.var n) r (fun x hx => hs x (List.mem_cons_of_mem _ hx)) e2]
    simp [many]
/-- What is read of a text, up to e. -/
structure Gets (u : ByteArray) (m : ManL) (a0 a1 a2 a3 a4 a5 e : Nat) : Prop where
  n0 : m.segs.length ≤ 8
  r0 : Words.rd (by_ u) 0 = some (m.segs.length, a0)
  r1 : rdMany u m.segs.length a0 = some (m.segs, a1)
  r2 : Words.rd (by_ u) a1 = some (m.next.toNat, a2)
  r3 : Words.rd (by_ u) a2 = some (m.base.toNat, a3)
  r4 : Words.rd (by_ u) a3 = some (m.term.toNat, a4)
  n5 : m.conf.length ≤ 4
  r5 : Words.rd (by_ u) a4 = some (m.conf.length, a5)
  r6 : rdMany u m.conf.length a5 = some (m.conf, e)
  i2 : 0 ≤ m.next
  i3 : 0 ≤ m.base
  i4 : 0 ≤ m.term
def Got (t : ByteArray) (m : ManL) : Prop := by_ t = sealed (text m) ∧ ok m
theorem text_gets {u : ByteArray} {m : ManL} (h1 : by_ u = text m) (h2 : ok m) : ∃ a0 a1 a2 a3 a4 a5, Gets u m a0 a1 a2 a3 a4 a5 u.size := by
  have hl : (by_ u).length = u.size := Words.size_list u
  have hs := ok_small h2
  have hn := ok_nonneg h2
  obtain ⟨o1, o2, o3, o4, o5, o6⟩ := h2
  obtain ⟨g1, g2⟩ := confOk_iff.1 o6
  have e0 : by_ u = [] ++ (Words.var m.segs.length ++ (many m.segs ++ (Words.var m.next.toNat ++ (Words.var m.base.toNat ++ (Words.var m.term.toNat ++ (Words.var m.conf.length ++ (many m.conf ++ []))))))) := by rw [h1]; simp [text, list]
  have e1 : by_ u = (([] ++ Words.var m.segs.length)) ++ (many m.segs ++ (Words.var m.next.toNat ++ (Words.var m.base.toNat ++ (Words.var m.term.toNat ++ (Words.var m.conf.length ++ (many m.conf ++ [])))))) := by rw [e0]; simp
  have e2 : by_ u = ((([] ++ Words.var m.segs.length)) ++ many m.segs) ++ (Words.var m.next.toNat ++ (Words.var m.base.toNat ++ (Words.var m.term.toNat ++ (Words.var m.conf.length ++ (many m.conf ++ []))))) := by rw [e0]; simp
  have e3 : by_ u = (((([] ++ Words.var m.segs.length)) ++ many m.segs) ++ Words.var m.next.toNat) ++ (Words.var m.base.toNat ++ (Words.var m.term.toNat ++ (Words.var m.conf.length ++ (many m.conf ++ [])))) := by rw [e0]; simp
  have e4 : by_ u = ((((([] ++ Words.var m.segs.length)) ++ many m.segs) ++ Words.var m.next.toNat) ++ Words.var m.base.toNat) ++ (Words.var m.term.toNat ++ (Words.var m.conf.length ++ (many m.conf ++ []))) := by rw [e0]; simp
  have e5 : by_ u = (((((([] ++ Words.var m.segs.length)) ++ many m.segs) ++ Words.var m.next.toNat) ++ Words.var m.base.toNat) ++ Words.var m.term.toNat) ++ (Words.var m.conf.length ++ (many m.conf ++ [])) := by rw [e0]; simp
  have e6 : by_ u = ((((((([] ++ Words.var m.segs.length)) ++ many m.segs) ++ Words.var m.next.toNat) ++ Words.var m.base.toNat) ++ Words.var m.term.toNat) ++ Words.var m.conf.length) ++ (many m.conf ++ []) := by rw [e0]; simp
  have s1 : ∀ x ∈ m.segs, 0 ≤ x ∧ x ≤ 1000000000 := fun x hx => ⟨hn.1 x hx, hs.2.2.1 x hx⟩
  have s2 : ∀ x ∈ m.conf, 0 ≤ x ∧ x ≤ 1000000000 := fun x hx => ⟨hn.2 x hx, hs.2.2.2.1 x hx⟩
  have q := rdMany_at m.conf _ [] s2 e6
  have hq : (((((((([] ++ Words.var m.segs.length)) ++ many m.segs) ++ Words.var m.next.toNat) ++ Words.var m.base.toNat) ++ Words.var m.term.toNat) ++ Words.var m.conf.length) ++ many m.conf).length = u.size := by rw [← hl, e6]; simp
  rw [hq] at q
  exact ⟨_, _, _, _, _, _, ⟨o1.2, rd_at (by omega) e0, rdMany_at m.segs _ _ s1 e1, rd_at (by omega) e2, rd_at (by omega) e3, rd_at (by omega) e4, g1.2, rd_at (by omega) e5, q, o2.1, o4.1, o5.1⟩⟩
theorem gets_text {u : ByteArray} {m : ManL} {a0 a1 a2 a3 a4 a5 : Nat} (h : Gets u m a0 a1 a2 a3 a4 a5 u.size) : by_ u = text m := by
  obtain ⟨p1, p2, p3, _⟩ := rd_cut h.r0
  obtain ⟨q1, q2, q3, _⟩ := rdMany_cut _ _ _ _ p2 h.r1
  obtain ⟨b1, b2, b3, _⟩ := rd_cut h.r2
  obtain ⟨c1, c2, c3, _⟩ := rd_cut h.r3
  obtain ⟨d1, d2, d3, _⟩ := rd_cut h.r4
  obtain ⟨f1, f2, f3, _⟩ := rd_cut h.r5
  obtain ⟨g1, g2, g3, _⟩ := rdMany_cut _ _ _ _ f2 h.r6
  rw [← cut_all u, cut_app u (b := a0) (by omega) (by omega), cut_app u (a := a0) (b := a1) (by omega) (by omega), cut_app u (a := a1) (b := a2) (by omega) (by omega), cut_app u (a := a2) (b := a3) (by omega) (by omega), cut_app u (a := a3) (b := a4) (by omega) (by omega), cut_app u (a := a4) (b := a5) (by omega) (by omega), p3, q3, b3, c3, d3, f3, g3]
  simp [text, list]
/-- How the reading of a list breaks off. -/
def TornL (u : ByteArray) (a M : Nat) : Prop := Words.rd (by_ u) a = none ∨ (∃ n a0, Words.rd (by_ u) a = some (n, a0) ∧ ¬ n ≤ M) ∨ (∃ n a0, Words.rd (by_ u) a = some (n, a0) ∧ n ≤ M ∧ rdMany u n a0 = none)
/-- How the reading of a text breaks off. -/
def Torn (u : ByteArray) : Prop := TornL u 0 8 ∨ ∃ n a0 a1 l, Words.rd (by_ u) 0 = some (n, a0) ∧ n ≤ 8 ∧ rdMany u n a0 = some (l, a1) ∧
    (Words.rd (by_ u) a1 = none ∨ ∃ x a2, Words.rd (by_ u) a1 = some (x, a2) ∧ (Words.rd (by_ u) a2 = none ∨ ∃ y a3, Words.rd (by_ u) a2 = some (y, a3) ∧ (Words.rd (by_ u) a3 = none ∨ ∃ z a4, Words.rd (by_ u) a3 = some (z, a4) ∧ TornL u a4 4)))
theorem torn_or (u : ByteArray) : Torn u ∨ ∃ m a0 a1 a2 a3 a4 a5 e, Gets u m a0 a1 a2 a3 a4 a5 e := by
  rcases h0 : Words.rd (by_ u) 0 with _ | ⟨n, a0⟩
  · exact Or.inl (Or.inl (Or.inl h0))
  by_cases hn : n ≤ 8
  · rcases h1 : rdMany u n a0 with _ | ⟨l, a1⟩
    · exact Or.inl (Or.inl (Or.inr (Or.inr ⟨n, a0, h0, hn, h1⟩)))
    rcases h2 : Words.rd (by_ u) a1 with _ | ⟨x, a2⟩
    · exact Or.inl (Or.inr ⟨n, a0, a1, l, h0, hn, h1, Or.inl h2⟩)
    rcases h3 : Words.rd (by_ u) a2 with _ | ⟨y, a3⟩
    · exact Or.inl (Or.inr ⟨n, a0, a1, l, h0, hn, h1, Or.inr ⟨x, a2, h2, Or.inl h3⟩⟩)
    rcases h4 : Words.rd (by_ u) a3 with _ | ⟨z, a4⟩
    · exact Or.inl (Or.inr ⟨n, a0, a1, l, h0, hn, h1, Or.inr ⟨x, a2, h2, Or.inr ⟨y, a3, h3, Or.inl h4⟩⟩⟩)
    have deep : TornL u a4 4 → Torn u := fun h => Or.inr ⟨n, a0, a1, l, h0, hn, h1, Or.inr ⟨x, a2, h2, Or.inr ⟨y, a3, h3, Or.inr ⟨z, a4, h4, h⟩⟩⟩⟩
    rcases h5 : Words.rd (by_ u) a4 with _ | ⟨k, a5⟩
    · exact Or.inl (deep (Or.inl h5))
    by_cases hk : k ≤ 4
    · rcases h6 : rdMany u k a5 with _ | ⟨c, e⟩
      · exact Or.inl (deep (Or.inr (Or.inr ⟨k, a5, h5, hk, h6⟩)))
      · have q1 := (rdMany_cut _ _ _ _ (rd_cut h0).2.1 h1).2.2.2.1
        have q2 := (rdMany_cut _ _ _ _ (rd_cut h5).2.1 h6).2.2.2.1
        subst q1 q2
        exact Or.inr ⟨⟨l, x, y, z, c⟩, a0, a1, a2, a3, a4, a5, e, ⟨hn, h0, h1, h2, h3, h4, hk, h5, h6, by simp, by simp, by simp⟩⟩
    · exact Or.inl (deep (Or.inr (Or.inl ⟨k, a5, h5, hk⟩)))
  · exact Or.inl (Or.inl (Or.inr (Or.inl ⟨n, a0, h0, hn⟩)))
theorem unsealed_iff {t u : List UInt8} : Sums.unsealed t = some u ↔ t = sealed u ∧ u.length ≤ 20000 := by
  unfold sealed
  constructor
  · intro h
    unfold Sums.unsealed at h
    split at h
    · rename_i hc
      simp only [Option.some.injEq] at h
      subst h
      obtain ⟨h1, h2, h3⟩ := hc
      rw [← h3]
      exact ⟨(List.take_append_drop _ _).symm, by rw [List.length_take]; omega⟩
    · cases h
  · rintro ⟨rfl, h⟩
    exact Sums.unsealed_back u h
theorem got_unsealed {t : ByteArray} {m : ManL} (h : Got t m) : Sums.unsealed (by_ t) = some (text m) := unsealed_iff.2 ⟨h.1, by have := text_len (ok_small h.2); omega⟩
theorem unsealed_got {t : ByteArray} {m : ManL} (h : Sums.unsealed (by_ t) = some (text m)) (ho : ok m) : Got t m := ⟨(unsealed_iff.1 h).1, ho⟩
end Mans
end Go.Proofs.YtbcfiiilikkkeaaGreatDoor
