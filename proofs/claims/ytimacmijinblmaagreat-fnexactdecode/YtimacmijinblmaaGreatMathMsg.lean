/- Right messages and their texts as plain lists; no program is named here. -/
import Derived.Test.YtimacmijinblmaaGreatReadLaw
namespace Go.Proofs.YtimacmijinblmaaGreat
set_option linter.unusedVariables false
set_option linter.unusedSimpArgs false

structure MsgL where
  kind : Int
  frm : Int
  dst : Int
  term : Int
  index : Int
  lterm : Int
  commit : Int
  ok : Bool
  ents : List EntL
  conf : List Int
  data : ByteArray
  last : Bool

namespace Msgs
open Batches (by_ short flag)
open Ents (okB)
def inB (lo hi x : Int) : Bool := decide (lo ≤ x) && decide (x ≤ hi)
theorem inB_iff {lo hi x : Int} : inB lo hi x = true ↔ lo ≤ x ∧ x ≤ hi := by simp [inB]
/-- Right entries whose terms do not fall, from a term on, up to another. -/
def rise (hi : Int) : Int → List EntL → Bool
  | _, [] => true
  | t, e :: r => (okB e && (decide (t ≤ e.term) && decide (e.term ≤ hi))) && rise hi e.term r
theorem rise_step {hi t : Int} {l : List EntL} {k : Nat} {R : Bool} (hk : k < l.length) (h : rise hi t (l.drop k) = R) (h1 : okB l[k] = true) (h2 : t ≤ l[k].term) (h3 : l[k].term ≤ hi) : rise hi l[k].term (l.drop (k + 1)) = R := by
  rw [List.drop_eq_getElem_cons hk] at h
  simpa [rise, h1, h2, h3] using h
theorem rise_bad {hi t : Int} {l : List EntL} {k : Nat} {R : Bool} (hk : k < l.length) (h : rise hi t (l.drop k) = R) (h1 : okB l[k] = false ∨ ¬ t ≤ l[k].term ∨ ¬ l[k].term ≤ hi) : R = false := by
  rw [List.drop_eq_getElem_cons hk] at h
  rw [← h]
  rcases h1 with h1 | h1 | h1 <;> simp [rise, h1]
theorem rise_end {hi t : Int} {l : List EntL} {k : Nat} {R : Bool} (hk : l.length ≤ k) (h : rise hi t (l.drop k) = R) : R = true := by
  rw [List.drop_of_length_le hk] at h
  exact h.symm
theorem rise_mem : ∀ (l : List EntL) (hi t : Int), rise hi t l = true → ∀ e ∈ l, okB e = true
  | [], _, _, _, e, he => by cases he
  | x :: l, hi, t, h, e, he => by
    simp only [rise, Bool.and_eq_true] at h
    rcases List.mem_cons.1 he with rfl | he
    · exact h.1.1
    · exact rise_mem l hi x.term h.2 e he
def headB (m : MsgL) : Bool := (inB 1 6 m.kind && inB 1 4 m.frm) && (inB 1 4 m.dst && !(m.frm == m.dst))
def numsB (m : MsgL) : Bool := (inB 0 100000 m.term && inB 0 100000 m.lterm) && (inB 0 100000 m.index && inB 0 100000 m.commit)
def sendB (m : MsgL) : Bool := decide (m.ents.length ≤ 4) && (decide (m.ents.length = 0) || decide (m.kind = 3))
def tailB (m : MsgL) : Bool := if m.kind = 5 then Mans.confOk m.conf && decide (m.data.size ≤ 60) else (decide (m.conf.length = 0) && decide (m.data.size = 0)) && !m.last
/-- A right message. -/
def okM (m : MsgL) : Bool := headB m && (numsB m && (sendB m && (rise m.term m.lterm m.ents && tailB m)))
/-- A right message's parts. -/
structure Fits (m : MsgL) : Prop where
  kind : 1 ≤ m.kind ∧ m.kind ≤ 6
  frm : 1 ≤ m.frm ∧ m.frm ≤ 4
  dst : 1 ≤ m.dst ∧ m.dst ≤ 4
  term : 0 ≤ m.term ∧ m.term ≤ 100000
  lterm : 0 ≤ m.lterm ∧ m.lterm ≤ 100000
  index : 0 ≤ m.index ∧ m.index ≤ 100000
  commit : 0 ≤ m.commit ∧ m.commit ≤ 100000
  len : m.ents.length ≤ 4
  ents : ∀ e ∈ m.ents, okB e = true
  conf : Mans.confOk m.conf = true ∨ m.conf = []
  data : m.data.size ≤ 60
theorem fits {m : MsgL} (h : okM m = true) : Fits m := by
  simp only [okM, headB, numsB, sendB, Bool.and_eq_true, inB_iff] at h
  obtain ⟨⟨⟨h1, h2⟩, h3, h4⟩, ⟨⟨h5, h6⟩, h7, h8⟩, ⟨h9, h10⟩, h11, h12⟩ := h
  have ht : (Mans.confOk m.conf = true ∨ m.conf = []) ∧ m.data.size ≤ 60 := by
    unfold tailB at h12
    split at h12
    · simp only [Bool.and_eq_true, decide_eq_true_eq] at h12
      exact ⟨Or.inl h12.1, h12.2⟩
    · simp only [Bool.and_eq_true, decide_eq_true_eq] at h12
      exact ⟨Or.inr (List.length_eq_zero_iff.1 h12.1.1), by omega⟩
  exact ⟨h1, h2, h3, h5, h6, h7, h8, by simpa using h9, rise_mem _ _ _ h11, ht.1, ht.2⟩

/-- One byte of a small number. -/
def bt (x : Int) : UInt8 := UInt8.ofNat x.toNat
def many : List EntL → List UInt8
  | [] => []
  | e :: r => short (Ents.textS 1 e) ++ many r
theorem many_app : ∀ l m : List EntL, many (l ++ m) = many l ++ many m
  | [], m => rfl
  | e :: l, m => by simp [many, many_app l m]
theorem many_snoc (l : List EntL) (e : EntL) : many (l ++ [e]) = many l ++ short (Ents.textS 1 e) := by rw [many_app]; simp [many]
/-- The bytes ahead of the entries. -/
def front (m : MsgL) : List UInt8 := [bt m.kind, bt m.frm, bt m.dst] ++ Words.var m.term.toNat ++ Words.var m.index.toNat ++ Words.var m.lterm.toNat ++ Words.var m.commit.toNat ++ [flag m.ok] ++ [flag m.last] ++ Words.var m.ents.length
/-- A message's text. -/
def text (m : MsgL) : List UInt8 := front m ++ many m.ents ++ short (Ents.confS m.conf) ++ short m.data
def textS (m : MsgL) : ByteArray := ⟨(text m).toArray⟩
def Got (t : ByteArray) (m : MsgL) : Prop := by_ t = text m ∧ okM m = true
end Msgs
end Go.Proofs.YtimacmijinblmaaGreat
