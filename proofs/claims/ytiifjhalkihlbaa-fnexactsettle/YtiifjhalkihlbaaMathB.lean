/- Plain facts on manifests: which are right, their texts, what is read of a text; no program is named here. Plain facts on the specification's cursor: what it reads of a text, number by number, list by list, as functions; no program is named here. Plain facts on confs and entries: their texts, and reading; no program is named here. Plain facts on reading an entry; no program is named here. Plain facts on frames in lists of bytes: what stands whole at a place, and what is told from there on; no program is named here. Plain facts on logs; no program is named here. -/
import Derived.Test.YtiifjhalkihlbaaMathBatch
import Derived.Test.YtiifjhalkihlbaaVar
namespace Go.Proofs.Ytiifjhalkihlbaa
section
namespace Mans
open Go
open Batches (by_)
/-- Ascending, in lo .. hi. -/
def asc : Int → Int → List Int → Bool
  | _, _, [] => true
  | lo, hi, n :: r => (decide (lo ≤ n) && decide (n ≤ hi)) && asc (n + 1) hi r
theorem asc_step {lo hi : Int} {l : List Int} {k : Nat} {R : Bool} (hk : k < l.length) (h : asc lo hi (l.drop k) = R) (h1 : lo ≤ l[k]) (h2 : l[k] ≤ hi) : asc (l[k] + 1) hi (l.drop (k + 1)) = R := by
  rw [List.drop_eq_getElem_cons hk, asc] at h
  simpa [h1, h2] using h
theorem asc_bad {lo hi : Int} {l : List Int} {k : Nat} {R : Bool} (hk : k < l.length) (h : asc lo hi (l.drop k) = R) (h1 : ¬ (lo ≤ l[k] ∧ l[k] ≤ hi)) : R = false := by
  rw [List.drop_eq_getElem_cons hk, asc] at h
  rw [← h]
  have : (decide (lo ≤ l[k]) && decide (l[k] ≤ hi)) = false := by
    by_cases q1 : lo ≤ l[k] <;> by_cases q2 : l[k] ≤ hi <;> simp_all
  rw [this]; rfl
theorem asc_end {lo hi : Int} {l : List Int} {k : Nat} {R : Bool} (hk : l.length ≤ k) (h : asc lo hi (l.drop k) = R) : R = true := by
  rw [List.drop_of_length_le hk, asc] at h; exact h.symm
theorem asc_in : ∀ (l : List Int) (lo hi : Int), asc lo hi l = true → ∀ x ∈ l, lo ≤ x ∧ x ≤ hi
  | [], _, _, _, x, hx => (List.not_mem_nil hx).elim
  | n :: r, lo, hi, h, x, hx => by
    simp only [asc, Bool.and_eq_true, decide_eq_true_eq] at h
    rcases List.mem_cons.1 hx with rfl | hx
    · exact h.1
    · have := asc_in r _ _ h.2 x hx; omega
def confOk (l : List Int) : Bool := (decide (1 ≤ l.length) && decide (l.length ≤ 4)) && asc 1 4 l
theorem confOk_iff {l : List Int} : confOk l = true ↔ (1 ≤ l.length ∧ l.length ≤ 4) ∧ asc 1 4 l = true := by
  unfold confOk
  simp [Bool.and_eq_true]

end Mans
end
section
namespace Mans
open Batches (by_)
end Mans
end
section
set_option linter.unusedVariables false
/-- An entry. -/
structure EntL where
  term : Int
  kind : Int
  data : ByteArray
namespace Ents
open Batches (by_ by_inj)
def confB (l : List Int) : List UInt8 := l.map fun n => UInt8.ofNat n.toNat
def confS (l : List Int) : ByteArray := ⟨(confB l).toArray⟩
def confOf (t : ByteArray) : List Int := (by_ t).map fun b => (b.toNat : Int)
theorem by_confS (l : List Int) : by_ (confS l) = confB l := rfl
theorem confOf_len (t : ByteArray) : (confOf t).length = t.size := by
  unfold confOf
  rw [List.length_map]
  exact Words.size_list t
theorem asc_mem : ∀ (l : List Int) (lo hi : Int), Mans.asc lo hi l = true → ∀ n ∈ l, lo ≤ n ∧ n ≤ hi
  | [], _, _, _, n, hn => (List.not_mem_nil hn).elim
  | x :: r, lo, hi, h, n, hn => by
    simp only [Mans.asc, Bool.and_eq_true, decide_eq_true_eq] at h
    rcases List.mem_cons.1 hn with rfl | hn
    · exact h.1
    · have := asc_mem r _ _ h.2 n hn
      omega
theorem conf_in {l : List Int} (h : Mans.confOk l = true) : (1 ≤ l.length ∧ l.length ≤ 4) ∧ ∀ n ∈ l, 1 ≤ n ∧ n ≤ 4 := by
  obtain ⟨h1, h2⟩ := Mans.confOk_iff.1 h
  exact ⟨h1, asc_mem l 1 4 h2⟩
theorem confOf_confS {l : List Int} (h : ∀ n ∈ l, 0 ≤ n ∧ n ≤ 255) : confOf (confS l) = l := by
  unfold confOf
  rw [by_confS]
  unfold confB
  rw [List.map_map]
  conv => rhs; rw [← List.map_id l]
  refine List.map_congr_left fun n hn => ?_
  have := h n hn
  simp only [Function.comp, id]
  rw [UInt8.toNat_ofNat']
  omega
theorem confS_confOf (t : ByteArray) : confS (confOf t) = t := by
  apply by_inj
  rw [by_confS]
  unfold confB confOf
  rw [List.map_map]
  conv => rhs; rw [← List.map_id (by_ t)]
  refine List.map_congr_left fun b _ => ?_
  simp
/-- The conf whose text this is. -/
def readC (t : ByteArray) : Option (List Int) := if Mans.confOk (confOf t) = true then some (confOf t) else none
theorem readC_iff {t : ByteArray} {l : List Int} : readC t = some l ↔ Mans.confOk l = true ∧ t = confS l := by
  unfold readC
  constructor
  · intro h
    split at h
    · rename_i hc
      cases h
      exact ⟨hc, (confS_confOf t).symm⟩
    · cases h
  · rintro ⟨h, rfl⟩
    have e := confOf_confS (l := l) fun n hn => by have := (conf_in h).2 n hn; omega
    rw [e, if_pos h]
def kindB (e : EntL) : Bool := if e.kind = 1 then decide (e.data.size = 0) else if e.kind = 2 then Mans.confOk (confOf e.data) else if e.kind = 3 then decide (e.data.size ≤ 120) else false
def okB (e : EntL) : Bool := decide (0 ≤ e.term ∧ e.term ≤ 100000) && kindB e
theorem okB_iff {e : EntL} : okB e = true ↔ (0 ≤ e.term ∧ e.term ≤ 100000) ∧ kindB e = true := by
  unfold okB
  simp [Bool.and_eq_true]
theorem kind_in {e : EntL} (h : kindB e = true) : (1 ≤ e.kind ∧ e.kind ≤ 3) ∧ e.data.size ≤ 120 := by
  unfold kindB at h
  split at h
  · have := of_decide_eq_true h
    exact ⟨by omega, by omega⟩
  · split at h
    · have := (conf_in h).1.2
      rw [confOf_len] at this
      exact ⟨by omega, by omega⟩
    · split at h
      · have := of_decide_eq_true h
        exact ⟨by omega, by omega⟩
      · cases h
end Ents
end
section
set_option linter.unusedVariables false
namespace Ents
open Batches (by_ by_inj)
end Ents
end
section
namespace Words

end Words
end
section
set_option linter.unusedVariables false
/-- A log. -/
structure LogL where
  start : Int
  sterm : Int
  ents : List EntL
namespace Logs
open Ents (okB)
open Batches (by_)
/-- Right entries whose terms never fall, from t on. -/
def rises : Int → List EntL → Bool
  | _, [] => true
  | t, e :: r => (okB e && decide (t ≤ e.term)) && rises e.term r
theorem rises_step {t : Int} {l : List EntL} {k : Nat} {R : Bool} (hk : k < l.length) (h : rises t (l.drop k) = R) (h1 : okB l[k] = true) (h2 : t ≤ l[k].term) : rises l[k].term (l.drop (k + 1)) = R := by
  rw [List.drop_eq_getElem_cons hk] at h
  simpa [rises, h1, h2] using h
theorem rises_bad {t : Int} {l : List EntL} {k : Nat} {R : Bool} (hk : k < l.length) (h : rises t (l.drop k) = R) (h1 : okB l[k] = false ∨ ¬ t ≤ l[k].term) : R = false := by
  rw [List.drop_eq_getElem_cons hk] at h
  rw [← h]
  rcases h1 with h1 | h1
  · simp [rises, h1]
  · simp [rises, h1]
theorem rises_end {t : Int} {l : List EntL} {k : Nat} {R : Bool} (hk : l.length ≤ k) (h : rises t (l.drop k) = R) : R = true := by
  rw [List.drop_of_length_le hk] at h
  exact h.symm
def inB (lo hi x : Int) : Bool := decide (lo ≤ x) && decide (x ≤ hi)
/-- A right log. -/
def okL (l : LogL) : Bool := (inB 0 100000 l.start && inB 0 100000 l.sterm) && (decide (l.ents.length ≤ 120) && decide (l.start + (l.ents.length : Int) ≤ 100000)) && rises l.sterm l.ents
structure Fits (l : LogL) : Prop where
  s0 : 0 ≤ l.start
  s1 : l.start ≤ 100000
  t0 : 0 ≤ l.sterm
  t1 : l.sterm ≤ 100000
  n : l.ents.length ≤ 120
  m : l.start + (l.ents.length : Int) ≤ 100000
theorem okL_iff {l : LogL} : okL l = true ↔ Fits l ∧ rises l.sterm l.ents = true := by
  unfold okL inB
  simp only [Bool.and_eq_true, decide_eq_true_eq]
  constructor
  · rintro ⟨⟨⟨⟨a, b⟩, c, d⟩, e, f⟩, g⟩
    exact ⟨⟨a, b, c, d, e, f⟩, g⟩
  · rintro ⟨⟨a, b, c, d, e, f⟩, g⟩
    exact ⟨⟨⟨⟨a, b⟩, c, d⟩, e, f⟩, g⟩
theorem rises_mem : ∀ (l : List EntL) (t : Int), rises t l = true → ∀ e ∈ l, okB e = true ∧ t ≤ e.term
  | [], _, _, e, he => (List.not_mem_nil he).elim
  | x :: r, t, h, e, he => by
    simp only [rises, Bool.and_eq_true, decide_eq_true_eq] at h
    rcases List.mem_cons.1 he with rfl | he
    · exact h.1
    · have := rises_mem r _ h.2 e he
      exact ⟨this.1, by omega⟩
/-- The term of the last entry. -/
def lastT (l : LogL) : Int := (l.ents.getLast?.map (·.term)).getD l.sterm
theorem lastT_nil {l : LogL} (h : l.ents.length = 0) : lastT l = l.sterm := by
  have : l.ents = [] := List.length_eq_zero_iff.1 h
  simp [lastT, this]
theorem lastT_some {l : LogL} {n : Nat} (h : l.ents.length = n + 1) (hn : n < l.ents.length) : lastT l = l.ents[n].term := by
  unfold lastT
  rw [List.getLast?_eq_getElem?, h, Nat.add_sub_cancel, List.getElem?_eq_getElem hn]
  rfl
end Logs
end
end Go.Proofs.Ytiifjhalkihlbaa
