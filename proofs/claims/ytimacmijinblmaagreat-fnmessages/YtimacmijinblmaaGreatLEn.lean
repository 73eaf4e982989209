/- Right messages and their texts as plain lists; no program is named here. Plain facts on decimal figures; no program is named here. Texts that a call owns; the law's own marks, walked. Lists of entries in memory, 3 cells each; measured, copied, held against each other, marked. Made by program. -/
import Derived.Test.YtimacmijinblmaaGreatReadLaw
import Derived.Test.YtimacmijinblmaaGreatMathBack
import Derived.Test.YtimacmijinblmaaGreatVar
import Derived.Test.YtimacmijinblmaaGreatKit
import Derived.Test.YtimacmijinblmaaGreatImplConf
import Derived.Laws.AppendOwnNone
import Derived.Deep.RegionHeld3
import Derived.Deep.DeepCutAuto
namespace Go.Proofs.YtimacmijinblmaaGreat
set_option linter.unusedVariables false
set_option linter.unusedSimpArgs false

structure MsgL where
  kind : Int
  frm : Int
  dst : Int
  term : Int
  index : Int
  lterm : Int
  commit : Int
  ok : Bool
  ents : List EntL
  conf : List Int
  data : ByteArray
  last : Bool

namespace Msgs
open Batches (by_ short flag)
open Ents (okB)
def inB (lo hi x : Int) : Bool := decide (lo ≤ x) && decide (x ≤ hi)
theorem inB_iff {lo hi x : Int} : inB lo hi x = true ↔ lo ≤ x ∧ x ≤ hi := by simp [inB]
/-- Right entries whose terms do not fall, from a term on, up to another. -/
def rise (hi : Int) : Int → List EntL → Bool
  | _, [] => true
  | t, e :: r => (okB e && (decide (t ≤ e.term) && decide (e.term ≤ hi))) && rise hi e.term r
theorem rise_step {hi t : Int} {l : List EntL} {k : Nat} {R : Bool} (hk : k < l.length) (h : rise hi t (l.drop k) = R) (h1 : okB l[k] = true) (h2 : t ≤ l[k].term) (h3 : l[k].term ≤ hi) : rise hi l[k].term (l.drop (k + 1)) = R := by
  rw [List.drop_eq_getElem_cons hk] at h
  simpa [rise, h1, h2, h3] using h
theorem rise_bad {hi t : Int} {l : List EntL} {k : Nat} {R : Bool} (hk : k < l.length) (h : rise hi t (l.drop k) = R) (h1 : okB l[k] = false ∨ ¬ t ≤ l[k].term ∨ ¬ l[k].term ≤ hi) : R = false := by
  rw [List.drop_eq_getElem_cons hk] at h
  rw [← h]
  rcases h1 with h1 | h1 | h1 <;> simp [rise, h1]
theorem rise_end {hi t : Int} {l : List EntL} {k : Nat} {R : Bool} (hk : l.length ≤ k) (h : rise hi t (l.drop k) = R) : R = true := by
  rw [List.drop_of_length_le hk] at h
  exact h.symm
theorem rise_mem : ∀ (l : List EntL) (hi t : Int), rise hi t l = true → ∀ e ∈ l, okB e = true
  | [], _, _, _, e, he => by cases he
  | x :: l, hi, t, h, e, he => by
    simp only [rise, Bool.and_eq_true] at h
    rcases List.mem_cons.1 he with rfl | he
    · exact h.1.1
    · exact rise_mem l hi x.term h.2 e he
def headB (m : MsgL) : Bool := (inB 1 6 m.kind && inB 1 4 m.frm) && (inB 1 4 m.dst && !(m.frm == m.dst))
def numsB (m : MsgL) : Bool := (inB 0 100000 m.term && inB 0 100000 m.lterm) && (inB 0 100000 m.index && inB 0 100000 m.commit)
def sendB (m : MsgL) : Bool := decide (m.ents.length ≤ 4) && (decide (m.ents.length = 0) || decide (m.kind = 3))
def tailB (m : MsgL) : Bool := if m.kind = 5 then Mans.confOk m.conf && decide (m.data.size ≤ 60) else (decide (m.conf.length = 0) && decide (m.data.size = 0)) && !m.last
/-- A right message. -/
def okM (m : MsgL) : Bool := headB m && (numsB m && (sendB m && (rise m.term m.lterm m.ents && tailB m)))
/-- A right message's parts. -/
structure Fits (m : MsgL) : Prop where
  kind : 1 ≤ m.kind ∧ m.kind ≤ 6
  frm : 1 ≤ m.frm ∧ m.frm ≤ 4
  dst : 1 ≤ m.dst ∧ m.dst ≤ 4
  term : 0 ≤ m.term ∧ m.term ≤ 100000
  lterm : 0 ≤ m.lterm ∧ m.lterm ≤ 100000
  index : 0 ≤ m.index ∧ m.index ≤ 100000
  commit : 0 ≤ m.commit ∧ m.commit ≤ 100000
  len : m.ents.length ≤ 4
  ents : ∀ e ∈ m.ents, okB e = true
  conf : Mans.confOk m.conf = true ∨ m.conf = []
  data : m.data.size ≤ 60
theorem fits {m : MsgL} (h : okM m = true) : Fits m := by
  simp only [okM, headB, numsB, sendB, Bool.and_eq_true, inB_iff] at h
  obtain ⟨⟨⟨h1, h2⟩, h3, h4⟩, ⟨⟨h5, h6⟩, h7, h8⟩, ⟨h9, h10⟩, h11, h12⟩ := h
  have ht : (Mans.confOk m.conf = true ∨ m.conf = []) ∧ m.data.size ≤ 60 := by
    unfold tailB at h12
    split at h12
    · simp only [Bool.and_eq_true, decide_eq_true_eq] at h12
      exact ⟨Or.inl h12.1, h12.2⟩
    · simp only [Bool.and_eq_true, decide_eq_true_eq] at h12
      exact ⟨Or.inr (List.length_eq_zero_iff.1 h12.1.1), by omega⟩
  exact ⟨h1, h2, h3, h5, h6, h7, h8, by simpa using h9, rise_mem _ _ _ h11, ht.1, ht.2⟩

/-- One byte of a small number. -/
def bt (x : Int) : UInt8 := UInt8.ofNat x.toNat
def many : List EntL → List UInt8
  | [] => []
  | e :: r => short (Ents.textS 1 e) ++ many r
theorem many_app : ∀ l m : List EntL, many (l ++ m) = many l ++ many m
  | [], m => rfl
  | e :: l, m => by simp [many, many_app l m]
theorem many_snoc (l : List EntL) (e : EntL) : many (l ++ [e]) = many l ++ short (Ents.textS 1 e) := by rw [many_app]; simp [many]
/-- The bytes ahead of the entries. -/
def front (m : MsgL) : List UInt8 := [bt m.kind, bt m.frm, bt m.dst] ++ Words.var m.term.toNat ++ Words.var m.index.toNat ++ Words.var m.lterm.toNat ++ Words.var m.commit.toNat ++ [flag m.ok] ++ [flag m.last] ++ Words.var m.ents.length
/-- A message's text. -/
def text (m : MsgL) : List UInt8 := front m ++ many m.ents ++ short (Ents.confS m.conf) ++ short m.data
def textS (m : MsgL) : ByteArray := ⟨(text m).toArray⟩
def Got (t : ByteArray) (m : MsgL) : Prop := by_ t = text m ∧ okM m = true
end Msgs
end Go.Proofs.YtimacmijinblmaaGreat
namespace Go.Proofs.YtimacmijinblmaaGreat
section
namespace Words
def digF : Nat → Nat → List UInt8
  | 0, _ => []
  | f + 1, m => if m = 0 then [] else digF f (m / 10) ++ [fig (m % 10)]
def dig (m : Nat) : List UInt8 := digF m m
end Words
end
section
open Go.RowKit

theorem Tryz.info9 : (Tryz.prog.info? 9).map (fun i => (i.zero, i.size, i.bytes)) = some (some (.string ⟨#[]⟩), 1, 16) := by kernel_rfl
def mark (k : Nat) : List UInt8 := 109 :: Words.dig k
def mk (k : Nat) : ByteArray := ⟨(mark k).toArray⟩
end
end Go.Proofs.YtimacmijinblmaaGreat
namespace Go.Proofs.YtimacmijinblmaaGreat
open Go.RowKit
set_option linter.unusedVariables false
set_option linter.unusedSimpArgs false

/-- A slice at a whose elements are these. -/
def EnAt (w : World) (a : Option Addr) (g off : Nat) (l : List EntL) : Prop :=
  (0 < l.length → a = some ⟨g, off, none⟩) ∧ ∀ j (hj : j < l.length), w.cell? ⟨g, off + j * 3, none⟩ = some (.int .i64 l[j].term) ∧ w.cell? ⟨g, off + j * 3 + 1, none⟩ = some (.int .i64 l[j].kind) ∧ w.cell? ⟨g, off + j * 3 + 2, none⟩ = some (.string l[j].data)
theorem EnAt.lt {w : World} {a : Option Addr} {g off : Nat} {l : List EntL} (h : EnAt w a g off l) (hl : 0 < l.length) : g < w.heap.size := World.block_lt_of_cell? w _ (h.2 0 hl).1
theorem EnAt.kept {w w' : World} {a : Option Addr} {g off : Nat} {l : List EntL} (h : EnAt w a g off l) (hb : Below w.heap.size w w') : EnAt w' a g off l := by
  refine ⟨h.1, fun j hj => ?_⟩
  have hg := h.lt (by omega)
  rw [hb.cell (p := ⟨g, off + j * 3, none⟩) hg, hb.cell (p := ⟨g, off + j * 3 + 1, none⟩) hg, hb.cell (p := ⟨g, off + j * 3 + 2, none⟩) hg]
  exact h.2 j hj
def cellsEn (l : List EntL) : List Value := l.flatMap fun r => [.int .i64 r.term, .int .i64 r.kind, .string r.data]
theorem cellsEn_len : ∀ l : List EntL, (cellsEn l).length = l.length * 3
  | [] => rfl
  | r :: l => by have := cellsEn_len l; simp only [cellsEn, List.flatMap_cons, List.length_append, List.length_cons, List.length_nil] at *; omega
theorem cellsEn_app (l m : List EntL) : cellsEn (l ++ m) = cellsEn l ++ cellsEn m := by simp [cellsEn]
theorem cellsEn_at : ∀ (l : List EntL) (j : Nat) (hj : j < l.length), (cellsEn l)[j * 3]? = some (.int .i64 l[j].term) ∧ (cellsEn l)[j * 3 + 1]? = some (.int .i64 l[j].kind) ∧ (cellsEn l)[j * 3 + 2]? = some (.string l[j].data)
  | r :: l, 0, _ => ⟨rfl, rfl, rfl⟩
  | r :: l, j + 1, hj => by
    have := cellsEn_at l j (by simpa using hj)
    simpa [cellsEn, Nat.add_mul, Nat.add_assoc] using this
theorem cellsEn_own {w : World} {base : Nat} {e : TypeId} {g n cap : Nat} {l : List EntL} (hn : l.length = n) (h : w.ownsRow base e 3 (.slice (some ⟨g, 0, none⟩) n cap) n (cellsEn l)) : EnAt w (some ⟨g, 0, none⟩) g 0 l := by
  refine ⟨fun _ => rfl, fun j hj => ?_⟩
  rw [Nat.zero_add, h.cellAt (j * 3) (by omega), h.cellAt (j * 3 + 1) (by omega), h.cellAt (j * 3 + 2) (by omega)]
  exact cellsEn_at l j hj
theorem Tryz.info44 : (Tryz.prog.info? 44).map (fun i => (i.zero, i.size, i.bytes)) = some (some (.agg #[.int .i64 0, .int .i64 0, .string ByteArray.empty]), 3, 32) := by kernel_rfl
theorem cellsEn_one {l : List EntL} : ∀ u ∈ cellsEn l, u.oneCell' = true := by
  intro u hu
  unfold cellsEn at hu
  obtain ⟨r, _, hr⟩ := List.mem_flatMap.1 hu
  simp only [List.mem_cons, List.not_mem_nil, or_false] at hr
  rcases hr with rfl | rfl | rfl <;> rfl
end Go.Proofs.YtimacmijinblmaaGreat
