/- Plain facts on the specification's cursor: what it reads of a text, number by number, list by list, as functions; no program is named here. Plain facts on confs and entries: their texts, and reading; no program is named here. -/
import Derived.Test.YtimacmijinblmaaGreatMathMan
import Derived.Test.YtimacmijinblmaaGreatMathBack
namespace Go.Proofs.YtimacmijinblmaaGreat
namespace Mans
open Batches (by_)
/-- One number: what is read, and the place and whether it went bad. -/
def cv (u : ByteArray) (s : Nat × Bool) : Nat × (Nat × Bool) :=
  if s.2 = true then (0, (s.1, true)) else match Words.rd (by_ u) s.1 with
    | none => (0, (s.1, true))
    | some (n, b) => (n, (b, false))
theorem cv_bad (u : ByteArray) (a : Nat) : cv u (a, true) = (0, (a, true)) := by simp [cv]
theorem cv_none {u : ByteArray} {a : Nat} (h : Words.rd (by_ u) a = none) : cv u (a, false) = (0, (a, true)) := by simp [cv, h]
theorem cv_some {u : ByteArray} {a n b : Nat} (h : Words.rd (by_ u) a = some (n, b)) : cv u (a, false) = (n, (b, false)) := by simp [cv, h]
end Mans
end Go.Proofs.YtimacmijinblmaaGreat
namespace Go.Proofs.YtimacmijinblmaaGreat
set_option linter.unusedVariables false
/-- An entry. -/
structure EntL where
  term : Int
  kind : Int
  data : ByteArray
namespace Ents
open Batches (by_ by_inj)
def confB (l : List Int) : List UInt8 := l.map fun n => UInt8.ofNat n.toNat
def confS (l : List Int) : ByteArray := ⟨(confB l).toArray⟩
def confOf (t : ByteArray) : List Int := (by_ t).map fun b => (b.toNat : Int)
theorem by_confS (l : List Int) : by_ (confS l) = confB l := rfl
theorem confOf_len (t : ByteArray) : (confOf t).length = t.size := by
  unfold confOf
  rw [List.length_map]
  exact Words.size_list t
theorem asc_mem : ∀ (l : List Int) (lo hi : Int), Mans.asc lo hi l = true → ∀ n ∈ l, lo ≤ n ∧ n ≤ hi
  | [], _, _, _, n, hn => (List.not_mem_nil hn).elim
  | x :: r, lo, hi, h, n, hn => by
    simp only [Mans.asc, Bool.and_eq_true, decide_eq_true_eq] at h
    rcases List.mem_cons.1 hn with rfl | hn
    · exact h.1
    · have := asc_mem r _ _ h.2 n hn
      omega
theorem conf_in {l : List Int} (h : Mans.confOk l = true) : (1 ≤ l.length ∧ l.length ≤ 4) ∧ ∀ n ∈ l, 1 ≤ n ∧ n ≤ 4 := by
  obtain ⟨h1, h2⟩ := Mans.confOk_iff.1 h
  exact ⟨h1, asc_mem l 1 4 h2⟩
theorem confOf_confS {l : List Int} (h : ∀ n ∈ l, 0 ≤ n ∧ n ≤ 255) : confOf (confS l) = l := by
  unfold confOf
  rw [by_confS]
  unfold confB
  rw [List.map_map]
  conv => rhs; rw [← List.map_id l]
  refine List.map_congr_left fun n hn => ?_
  have := h n hn
  simp only [Function.comp, id]
  rw [UInt8.toNat_ofNat']
  omega
theorem confS_confOf (t : ByteArray) : confS (confOf t) = t := by
  apply by_inj
  rw [by_confS]
  unfold confB confOf
  rw [List.map_map]
  conv => rhs; rw [← List.map_id (by_ t)]
  refine List.map_congr_left fun b _ => ?_
  simp
/-- The conf whose text this is. -/
def readC (t : ByteArray) : Option (List Int) := if Mans.confOk (confOf t) = true then some (confOf t) else none
theorem readC_iff {t : ByteArray} {l : List Int} : readC t = some l ↔ Mans.confOk l = true ∧ t = confS l := by
  unfold readC
  constructor
  · intro h
    split at h
    · rename_i hc
      cases h
      exact ⟨hc, (confS_confOf t).symm⟩
    · cases h
  · rintro ⟨h, rfl⟩
    have e := confOf_confS (l := l) fun n hn => by have := (conf_in h).2 n hn; omega
    rw [e, if_pos h]
def kindB (e : EntL) : Bool := if e.kind = 1 then decide (e.data.size = 0) else if e.kind = 2 then Mans.confOk (confOf e.data) else if e.kind = 3 then decide (e.data.size ≤ 120) else false
def okB (e : EntL) : Bool := decide (0 ≤ e.term ∧ e.term ≤ 100000) && kindB e
theorem okB_iff {e : EntL} : okB e = true ↔ (0 ≤ e.term ∧ e.term ≤ 100000) ∧ kindB e = true := by
  unfold okB
  simp [Bool.and_eq_true]
theorem kind_in {e : EntL} (h : kindB e = true) : (1 ≤ e.kind ∧ e.kind ≤ 3) ∧ e.data.size ≤ 120 := by
  unfold kindB at h
  split at h
  · have := of_decide_eq_true h
    exact ⟨by omega, by omega⟩
  · split at h
    · have := (conf_in h).1.2
      rw [confOf_len] at this
      exact ⟨by omega, by omega⟩
    · split at h
      · have := of_decide_eq_true h
        exact ⟨by omega, by omega⟩
      · cases h
/-- The text of an entry. -/
def text (i : Nat) (e : EntL) : List UInt8 := 69 :: (Words.var i ++ (Words.var e.term.toNat ++ (UInt8.ofNat e.kind.toNat :: by_ e.data)))
def textS (i : Nat) (e : EntL) : ByteArray := ⟨(text i e).toArray⟩
def right (i : Int) (e : EntL) : Prop := okB e = true ∧ 1 ≤ i ∧ i ≤ 100000
def Got (t : ByteArray) (i : Nat) (e : EntL) : Prop := by_ t = text i e ∧ right (i : Int) e
end Ents
end Go.Proofs.YtimacmijinblmaaGreat
