/- Right commands and their texts as plain lists; no program is named here. -/
import Derived.Test.YtlmjhobijgmolaaMathBatch
namespace Go.Proofs.Ytlmjhobijgmolaa
set_option linter.unusedVariables false
set_option linter.unusedSimpArgs false

/-- A command. -/
structure CmdL where
  op : Int
  ses : Int
  seq : Int
  key : ByteArray
  val : ByteArray
  old : ByteArray

namespace Cmds
open Batches (by_ short rdShort cut cut_app cut_all rd_cut rdShort_cut rd_at rdShort_at by_inj)
def inB (lo hi x : Int) : Bool := decide (lo ≤ x) && decide (x ≤ hi)
theorem inB_iff {lo hi x : Int} : inB lo hi x = true ↔ lo ≤ x ∧ x ≤ hi := by simp [inB]
def em (s : ByteArray) : Bool := s.toList.isEmpty
theorem em_iff {s : ByteArray} : em s = true ↔ s = ⟨#[]⟩ := by
  unfold em
  rw [ByteArray.toList_eq]
  constructor
  · intro h
    apply by_inj
    simpa [by_] using h
  · rintro rfl; rfl
theorem em_size {s : ByteArray} : em s = true ↔ s.size = 0 := by
  rw [em_iff]
  constructor
  · rintro rfl; rfl
  · intro h
    apply by_inj
    have : (by_ s).length = s.size := Words.size_list s
    rw [h] at this
    rw [List.length_eq_zero_iff.1 this]
/-- The fields that an op does not use are zero; an op that is none has no such. -/
def leftB (c : CmdL) : Bool :=
  if c.op = 1 then (decide (c.ses = 0) && decide (c.seq = 0)) && (em c.val && em c.old)
  else if c.op = 2 ∨ c.op = 4 then em c.val && em c.old
  else if c.op = 3 then em c.old
  else decide (c.op = 5)
/-- A right command. -/
def okC (c : CmdL) : Bool := ((inB 0 100000 c.ses && inB 0 100000 c.seq) && (decide (c.key.size < 10) && (decide (c.val.size ≤ 12) && decide (c.old.size ≤ 12)))) && ((em c.key == decide (c.op = 1)) && leftB c)
structure Fits (c : CmdL) : Prop where
  op : 1 ≤ c.op ∧ c.op ≤ 5
  ses : 0 ≤ c.ses ∧ c.ses ≤ 100000
  seq : 0 ≤ c.seq ∧ c.seq ≤ 100000
  key : c.key.size ≤ 9
  val : c.val.size ≤ 12
  old : c.old.size ≤ 12
theorem leftB_op {c : CmdL} (h : leftB c = true) : 1 ≤ c.op ∧ c.op ≤ 5 := by
  unfold leftB at h
  split at h
  · omega
  · split at h
    · omega
    · split at h
      · omega
      · simp at h; omega
theorem fits {c : CmdL} (h : okC c = true) : Fits c := by
  simp only [okC, Bool.and_eq_true, inB_iff, decide_eq_true_eq] at h
  obtain ⟨⟨⟨h1, h2⟩, h3, h4, h5⟩, h6, h7⟩ := h
  exact ⟨leftB_op h7, h1, h2, by omega, h4, h5⟩
/-- One byte of a small number. -/
def bt (x : Int) : UInt8 := UInt8.ofNat x.toNat
/-- A command's text. -/
def text (c : CmdL) : List UInt8 := [bt c.op] ++ Words.var c.ses.toNat ++ Words.var c.seq.toNat ++ short c.key ++ short c.val ++ short c.old
def Got (t : ByteArray) (c : CmdL) : Prop := by_ t = text c ∧ okC c = true

/-- What stands in a text, one field behind the other. -/
structure Reads (t : ByteArray) (c : CmdL) (a b d e f : Nat) : Prop where
  op : ∃ h : 0 < t.size, c.op = ((t[0]'h).toNat : Int)
  ses : Words.rd (by_ t) 1 = some (c.ses.toNat, a) ∧ 0 ≤ c.ses
  seq : Words.rd (by_ t) a = some (c.seq.toNat, b) ∧ 0 ≤ c.seq
  key : rdShort t b = some (c.key, d)
  val : rdShort t d = some (c.val, e)
  old : rdShort t e = some (c.old, f)
end Cmds
end Go.Proofs.Ytlmjhobijgmolaa
