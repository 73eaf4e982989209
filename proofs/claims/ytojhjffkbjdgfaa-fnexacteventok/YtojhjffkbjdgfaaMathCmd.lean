/- Right commands and their texts as plain lists; no program is named here. -/
import Derived.Test.YtojhjffkbjdgfaaMathBatch
namespace Go.Proofs.Ytojhjffkbjdgfaa
set_option linter.unusedVariables false
set_option linter.unusedSimpArgs false

/-- A command. -/
structure CmdL where
  op : Int
  ses : Int
  seq : Int
  key : ByteArray
  val : ByteArray
  old : ByteArray

namespace Cmds
open Batches (by_ short rdShort cut cut_app cut_all rd_cut rdShort_cut rd_at rdShort_at by_inj)
def inB (lo hi x : Int) : Bool := decide (lo ≤ x) && decide (x ≤ hi)
theorem inB_iff {lo hi x : Int} : inB lo hi x = true ↔ lo ≤ x ∧ x ≤ hi := by simp [inB]
theorem inB_no {lo hi x : Int} : inB lo hi x = false ↔ ¬ (lo ≤ x ∧ x ≤ hi) := by rw [← inB_iff]; simp
def em (s : ByteArray) : Bool := s.toList.isEmpty
theorem em_iff {s : ByteArray} : em s = true ↔ s = ⟨#[]⟩ := by
  unfold em
  rw [ByteArray.toList_eq]
  constructor
  · intro h
    apply by_inj
    simpa [by_] using h
  · rintro rfl; rfl
theorem em_size {s : ByteArray} : em s = true ↔ s.size = 0 := by
  rw [em_iff]
  constructor
  · rintro rfl; rfl
  · intro h
    apply by_inj
    have : (by_ s).length = s.size := Words.size_list s
    rw [h] at this
    rw [List.length_eq_zero_iff.1 this]
def noC : CmdL := ⟨0, 0, 0, ⟨#[]⟩, ⟨#[]⟩, ⟨#[]⟩⟩
/-- The fields that an op does not use are zero; an op that is none has no such. -/
def leftB (c : CmdL) : Bool :=
  if c.op = 1 then (decide (c.ses = 0) && decide (c.seq = 0)) && (em c.val && em c.old)
  else if c.op = 2 ∨ c.op = 4 then em c.val && em c.old
  else if c.op = 3 then em c.old
  else decide (c.op = 5)
/-- A right command. -/
def okC (c : CmdL) : Bool := ((inB 0 100000 c.ses && inB 0 100000 c.seq) && (decide (c.key.size < 10) && (decide (c.val.size ≤ 12) && decide (c.old.size ≤ 12)))) && ((em c.key == decide (c.op = 1)) && leftB c)
structure Fits (c : CmdL) : Prop where
  op : 1 ≤ c.op ∧ c.op ≤ 5
  ses : 0 ≤ c.ses ∧ c.ses ≤ 100000
  seq : 0 ≤ c.seq ∧ c.seq ≤ 100000
  key : c.key.size ≤ 9
  val : c.val.size ≤ 12
  old : c.old.size ≤ 12
theorem leftB_op {c : CmdL} (h : leftB c = true) : 1 ≤ c.op ∧ c.op ≤ 5 := by
  unfold leftB at h
  split at h
  · omega
  · split at h
    · omega
    · split at h
      · omega
      · simp at h; omega
theorem fits {c : CmdL} (h : okC c = true) : Fits c := by
  simp only [okC, Bool.and_eq_true, inB_iff, decide_eq_true_eq] at h
  obtain ⟨⟨⟨h1, h2⟩, h3, h4, h5⟩, h6, h7⟩ := h
  exact ⟨leftB_op h7, h1, h2, by omega, h4, h5⟩
/-- One byte of a small number. -/
def bt (x : Int) : UInt8 := UInt8.ofNat x.toNat
/-- A command's text. -/
def text (c : CmdL) : List UInt8 := [bt c.op] ++ Words.var c.ses.toNat ++ Words.var c.seq.toNat ++ short c.key ++ short c.val ++ short c.old
def textS (c : CmdL) : ByteArray := ⟨(text c).toArray⟩
theorem by_textS (c : CmdL) : by_ (textS c) = text c := rfl
theorem textS_size {c : CmdL} (h : okC c = true) : (textS c).size ≤ 400000 := by
  have f := fits h
  have e : (textS c).size = (text c).length := by show (text c).toArray.size = _; simp
  have v1 := Words.var_len c.ses.toNat
  have v2 := Words.var_len c.seq.toNat
  have s1 := Batches.short_len c.key
  have s2 := Batches.short_len c.val
  have s3 := Batches.short_len c.old
  have := f.ses; have := f.seq; have := f.key; have := f.val; have := f.old
  rw [e]
  simp only [text, List.length_append, List.length_cons, List.length_nil]
  omega
def Got (t : ByteArray) (c : CmdL) : Prop := by_ t = text c ∧ okC c = true

/-- What stands in a text, one field behind the other. -/
structure Reads (t : ByteArray) (c : CmdL) (a b d e f : Nat) : Prop where
  op : ∃ h : 0 < t.size, c.op = ((t[0]'h).toNat : Int)
  ses : Words.rd (by_ t) 1 = some (c.ses.toNat, a) ∧ 0 ≤ c.ses
  seq : Words.rd (by_ t) a = some (c.seq.toNat, b) ∧ 0 ≤ c.seq
  key : rdShort t b = some (c.key, d)
  val : rdShort t d = some (c.val, e)
  old : rdShort t e = some (c.old, f)
theorem bt_of (x : UInt8) : bt (x.toNat : Int) = x := by unfold bt; simp
theorem reads_cut {t : ByteArray} {c : CmdL} {a b d e f : Nat} (h : Reads t c a b d e f) : cut t 0 f = text c ∧ f ≤ t.size := by
  obtain ⟨⟨h0, ho⟩, ⟨h1, _⟩, ⟨h2, _⟩, h3, h4, h5⟩ := h
  obtain ⟨a1, a2, a3, _⟩ := rd_cut h1
  obtain ⟨b1, b2, b3, _⟩ := rd_cut h2
  obtain ⟨d1, d2, d3, _⟩ := rdShort_cut h3
  obtain ⟨e1, e2, e3, _⟩ := rdShort_cut h4
  obtain ⟨f1, f2, f3, _⟩ := rdShort_cut h5
  refine ⟨?_, f2⟩
  have c0 : cut t 0 1 = [bt c.op] := by
    rw [ho, bt_of]
    unfold cut
    have hl : (by_ t).length = t.size := Words.size_list t
    rw [List.drop_zero]
    have : by_ t = (by_ t)[0]'(by omega) :: (by_ t).drop 1 := by rw [← List.drop_eq_getElem_cons]; simp
    rw [this]
    simp [by_]
    rfl
  rw [cut_app t (Nat.zero_le _) (show e ≤ f by omega), cut_app t (Nat.zero_le _) (show d ≤ e by omega), cut_app t (Nat.zero_le _) (show b ≤ d by omega), cut_app t (Nat.zero_le _) (show a ≤ b by omega), cut_app t (Nat.zero_le 1) (show 1 ≤ a by omega), c0, a3, b3, d3, e3, f3]
  rfl
theorem reads_got {t : ByteArray} {c : CmdL} {a b d e : Nat} (h : Reads t c a b d e t.size) (ho : okC c = true) : Got t c := by
  refine ⟨?_, ho⟩
  rw [← cut_all]
  exact (reads_cut h).1
theorem got_reads {t : ByteArray} {c : CmdL} (h : Got t c) : ∃ a b d e, Reads t c a b d e t.size := by
  obtain ⟨h1, h2⟩ := h
  have f := fits h2
  have := f.op; have := f.ses; have := f.seq; have := f.key; have := f.val; have := f.old
  have hl : (by_ t).length = t.size := Words.size_list t
  have p1 : by_ t = [bt c.op] ++ (Words.var c.ses.toNat ++ (Words.var c.seq.toNat ++ (short c.key ++ (short c.val ++ short c.old)))) := by rw [h1]; simp [text, List.append_assoc]
  have p2 : by_ t = ([bt c.op] ++ Words.var c.ses.toNat) ++ (Words.var c.seq.toNat ++ (short c.key ++ (short c.val ++ short c.old))) := by rw [h1]; simp [text, List.append_assoc]
  have p3 : by_ t = ([bt c.op] ++ Words.var c.ses.toNat ++ Words.var c.seq.toNat) ++ (short c.key ++ (short c.val ++ short c.old)) := by rw [h1]; simp [text, List.append_assoc]
  have p4 : by_ t = ([bt c.op] ++ Words.var c.ses.toNat ++ Words.var c.seq.toNat ++ short c.key) ++ (short c.val ++ short c.old) := by rw [h1]; simp [text, List.append_assoc]
  have p5 : by_ t = ([bt c.op] ++ Words.var c.ses.toNat ++ Words.var c.seq.toNat ++ short c.key ++ short c.val) ++ (short c.old ++ []) := by rw [h1]; simp [text, List.append_assoc]
  have r5 := rdShort_at (by omega) p5
  have e5 : ([bt c.op] ++ Words.var c.ses.toNat ++ Words.var c.seq.toNat ++ short c.key ++ short c.val ++ short c.old).length = t.size := by rw [← hl, h1]; rfl
  rw [e5] at r5
  have hs : 0 < t.size := by rw [← hl, p1]; simp
  refine ⟨_, _, _, _, ⟨hs, ?_⟩, ⟨rd_at (by omega) p1, by omega⟩, ⟨rd_at (by omega) p2, by omega⟩, rdShort_at (by omega) p3, rdShort_at (by omega) p4, r5⟩
  have : (by_ t)[0]'(by omega) = bt c.op := by simp only [p1]; rfl
  have e0 : (by_ t)[0]'(by omega) = t[0]'hs := by simp [by_]; rfl
  rw [← e0, this]
  unfold bt
  rw [Words.ofNat_toNat _ (by omega)]
  omega
theorem reads_one {t : ByteArray} {c c' : CmdL} {a b d e f a' b' d' e' f' : Nat} (h : Reads t c a b d e f) (h' : Reads t c' a' b' d' e' f') : c = c' ∧ f = f' := by
  obtain ⟨⟨h0, ho⟩, ⟨h1, s1⟩, ⟨h2, s2⟩, h3, h4, h5⟩ := h
  obtain ⟨⟨_, ko⟩, ⟨k1, t1⟩, ⟨k2, t2⟩, k3, k4, k5⟩ := h'
  rw [h1] at k1; obtain ⟨q1, rfl⟩ := Prod.mk.inj (Option.some.inj k1)
  rw [h2] at k2; obtain ⟨q2, rfl⟩ := Prod.mk.inj (Option.some.inj k2)
  rw [h3] at k3; obtain ⟨q3, rfl⟩ := Prod.mk.inj (Option.some.inj k3)
  rw [h4] at k4; obtain ⟨q4, rfl⟩ := Prod.mk.inj (Option.some.inj k4)
  rw [h5] at k5; obtain ⟨q5, rfl⟩ := Prod.mk.inj (Option.some.inj k5)
  refine ⟨?_, rfl⟩
  cases c; cases c'
  simp only at *
  subst q3 q4 q5
  congr 1 <;> omega
theorem text_inj {c c' : CmdL} (h : text c = text c') (h1 : okC c = true) (h2 : okC c' = true) : c = c' := by
  obtain ⟨_, _, _, _, r1⟩ := got_reads (t := textS c) (c := c) ⟨rfl, h1⟩
  obtain ⟨_, _, _, _, r2⟩ := got_reads (t := textS c) (c := c') ⟨h, h2⟩
  exact (reads_one r1 r2).1
end Cmds
end Go.Proofs.Ytojhjffkbjdgfaa
