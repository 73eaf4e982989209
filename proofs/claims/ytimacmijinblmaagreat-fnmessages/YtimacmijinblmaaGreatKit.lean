/- Plain facts on the specification's cursor: what it reads of a text, number by number, list by list, as functions; no program is named here. Plain facts on confs and entries: their texts, and reading; no program is named here. What the walks share: rows that a call owns, regions that draw their order and whose calls lay memory of their own alone, a measure. -/
import Derived.Test.YtimacmijinblmaaGreatMathMan
import Derived.Test.YtimacmijinblmaaGreatMathBack
import Derived.Test.YtimacmijinblmaaGreatVar
import Derived.BigQuiet
import Derived.Deep.RegionWith
import Derived.Deep.QuietTactic
import Derived.Deep.RegionHeld3
import Derived.Deep.RegionLaw
import Derived.Deep.AppendLies
namespace Go.Proofs.YtimacmijinblmaaGreat
namespace Mans
open Batches (by_)
/-- One number: what is read, and the place and whether it went bad. -/
def cv (u : ByteArray) (s : Nat × Bool) : Nat × (Nat × Bool) :=
  if s.2 = true then (0, (s.1, true)) else match Words.rd (by_ u) s.1 with
    | none => (0, (s.1, true))
    | some (n, b) => (n, (b, false))
theorem cv_bad (u : ByteArray) (a : Nat) : cv u (a, true) = (0, (a, true)) := by simp [cv]
theorem cv_none {u : ByteArray} {a : Nat} (h : Words.rd (by_ u) a = none) : cv u (a, false) = (0, (a, true)) := by simp [cv, h]
theorem cv_some {u : ByteArray} {a n b : Nat} (h : Words.rd (by_ u) a = some (n, b)) : cv u (a, false) = (n, (b, false)) := by simp [cv, h]
end Mans
end Go.Proofs.YtimacmijinblmaaGreat
namespace Go.Proofs.YtimacmijinblmaaGreat
set_option linter.unusedVariables false
/-- An entry. -/
structure EntL where
  term : Int
  kind : Int
  data : ByteArray
namespace Ents
open Batches (by_ by_inj)
def confB (l : List Int) : List UInt8 := l.map fun n => UInt8.ofNat n.toNat
def confS (l : List Int) : ByteArray := ⟨(confB l).toArray⟩
def confOf (t : ByteArray) : List Int := (by_ t).map fun b => (b.toNat : Int)
theorem by_confS (l : List Int) : by_ (confS l) = confB l := rfl
theorem confOf_len (t : ByteArray) : (confOf t).length = t.size := by
  unfold confOf
  rw [List.length_map]
  exact Words.size_list t
theorem asc_mem : ∀ (l : List Int) (lo hi : Int), Mans.asc lo hi l = true → ∀ n ∈ l, lo ≤ n ∧ n ≤ hi
  | [], _, _, _, n, hn => (List.not_mem_nil hn).elim
  | x :: r, lo, hi, h, n, hn => by
    simp only [Mans.asc, Bool.and_eq_true, decide_eq_true_eq] at h
    rcases List.mem_cons.1 hn with rfl | hn
    · exact h.1
    · have := asc_mem r _ _ h.2 n hn
      omega
theorem conf_in {l : List Int} (h : Mans.confOk l = true) : (1 ≤ l.length ∧ l.length ≤ 4) ∧ ∀ n ∈ l, 1 ≤ n ∧ n ≤ 4 := by
  obtain ⟨h1, h2⟩ := Mans.confOk_iff.1 h
  exact ⟨h1, asc_mem l 1 4 h2⟩
theorem confOf_confS {l : List Int} (h : ∀ n ∈ l, 0 ≤ n ∧ n ≤ 255) : confOf (confS l) = l := by
  unfold confOf
  rw [by_confS]
  unfold confB
  rw [List.map_map]
  conv => rhs; rw [← List.map_id l]
  refine List.map_congr_left fun n hn => ?_
  have := h n hn
  simp only [Function.comp, id]
  rw [UInt8.toNat_ofNat']
  omega
theorem confS_confOf (t : ByteArray) : confS (confOf t) = t := by
  apply by_inj
  rw [by_confS]
  unfold confB confOf
  rw [List.map_map]
  conv => rhs; rw [← List.map_id (by_ t)]
  refine List.map_congr_left fun b _ => ?_
  simp
/-- The conf whose text this is. -/
def readC (t : ByteArray) : Option (List Int) := if Mans.confOk (confOf t) = true then some (confOf t) else none
theorem readC_iff {t : ByteArray} {l : List Int} : readC t = some l ↔ Mans.confOk l = true ∧ t = confS l := by
  unfold readC
  constructor
  · intro h
    split at h
    · rename_i hc
      cases h
      exact ⟨hc, (confS_confOf t).symm⟩
    · cases h
  · rintro ⟨h, rfl⟩
    have e := confOf_confS (l := l) fun n hn => by have := (conf_in h).2 n hn; omega
    rw [e, if_pos h]
def kindB (e : EntL) : Bool := if e.kind = 1 then decide (e.data.size = 0) else if e.kind = 2 then Mans.confOk (confOf e.data) else if e.kind = 3 then decide (e.data.size ≤ 120) else false
def okB (e : EntL) : Bool := decide (0 ≤ e.term ∧ e.term ≤ 100000) && kindB e
theorem okB_iff {e : EntL} : okB e = true ↔ (0 ≤ e.term ∧ e.term ≤ 100000) ∧ kindB e = true := by
  unfold okB
  simp [Bool.and_eq_true]
theorem kind_in {e : EntL} (h : kindB e = true) : (1 ≤ e.kind ∧ e.kind ≤ 3) ∧ e.data.size ≤ 120 := by
  unfold kindB at h
  split at h
  · have := of_decide_eq_true h
    exact ⟨by omega, by omega⟩
  · split at h
    · have := (conf_in h).1.2
      rw [confOf_len] at this
      exact ⟨by omega, by omega⟩
    · split at h
      · have := of_decide_eq_true h
        exact ⟨by omega, by omega⟩
      · cases h
/-- The text of an entry. -/
def text (i : Nat) (e : EntL) : List UInt8 := 69 :: (Words.var i ++ (Words.var e.term.toNat ++ (UInt8.ofNat e.kind.toNat :: by_ e.data)))
def textS (i : Nat) (e : EntL) : ByteArray := ⟨(text i e).toArray⟩
def right (i : Int) (e : EntL) : Prop := okB e = true ∧ 1 ≤ i ∧ i ≤ 100000
def Got (t : ByteArray) (i : Nat) (e : EntL) : Prop := by_ t = text i e ∧ right (i : Int) e
end Ents
end Go.Proofs.YtimacmijinblmaaGreat
namespace Go.Proofs.YtimacmijinblmaaGreat
open Go.RowKit

/-- A world that has all of W's memory as it was. -/
structure Abv (W : World) where
  w : World
  b : Below W.heap.size W w
theorem Abv.ne (W : World) : Nonempty (Abv W) := ⟨⟨W, Below.refl _ _⟩⟩
theorem Abv.cell {W : World} {p : Addr} {v : Value} (h : W.cell? p = some v) (x : Abv W) : x.w.cell? p = some v := by
  rw [x.b.cell (p := p) (World.block_lt_of_cell? W _ h)]; exact h
theorem Abv.up {W : World} (x : Abv W) : W.heap.size ≤ x.w.heap.size := x.b.size
theorem calls_above {P : Program} {f : FuncId} {args : Array Value} {W : World} {v : Value} {x : Abv W} (h : Calls P f args x.w fun e w' => e = .returned v ∧ Below x.w.heap.size x.w w') :
    Calls P f args x.w fun e w'' => e = .returned v ∧ ∃ y : Abv W, w'' = y.w :=
  h.mono fun _ w' ⟨he, hb⟩ => ⟨he, ⟨w', x.b.trans (hb.mono x.b.size)⟩, rfl⟩
theorem calls_above_same {P : Program} {f : FuncId} {args : Array Value} {W : World} {v : Value} {x : Abv W} (h : Calls P f args x.w fun e w' => e = .returned v ∧ x.w = w') :
    Calls P f args x.w fun e w'' => e = .returned v ∧ ∃ y : Abv W, w'' = y.w :=
  h.mono fun _ _ ⟨he, hb⟩ => ⟨he, x, hb.symm⟩
theorem wp_region_above {P : Program} {id : Nat} {Q : Exit → Act → World → Prop} {a : Act} {w : World} {l : List Oper} (hm : P.follows .mixedOrders = true) (hB : Region.lexB .any l.toArray = true)
    (h : wpQuiet P l.toArray (fun w' => ∃ x : Abv w, w' = x.w) (fun a' => ∀ w', (∃ x : Abv w, w' = x.w) → Q .normal a' w') l a) : (Code.region id l.toArray true).wp P Q a w :=
  wp_region_quiet (C := fun w' => ∃ x : Abv w, w' = x.w) hm hB ⟨⟨w.drew, (Below.refl _ _).drew⟩, rfl⟩ (by simpa using h)

theorem own_kept {B : Nat} {e : TypeId} {k : Nat} {v : Value} {n : Nat} {xs : List Value} {w w' : World} (h : w.ownsRow B e k v n xs) (hb : Below w.heap.size w w') : w'.ownsRow B e k v n xs := by
  refine ⟨h.1, ?_⟩
  rcases h.2 with h1 | ⟨g, cap, cur, h2, hg, hh, h3⟩
  · exact .inl h1
  · exact .inr ⟨g, cap, cur, h2, hg, by rw [hb.block g (Array.getElem?_eq_some_iff.1 hh).1]; exact hh, h3⟩
theorem take_set_step {α : Type} {pre l : List α} {k : Nat} {x : α} (hk : k < l.length) (hl : pre.length = l.length) (h : pre.take k = l.take k) (hx : l[k] = x) : (pre.set k x).take (k + 1) = l.take (k + 1) := by
  rw [List.take_succ_eq_append_getElem hk, List.take_succ_eq_append_getElem (by rw [List.length_set]; omega), List.take_set_of_le (Nat.le_refl _), h, hx]
  simp
theorem grown_set (w : World) (g j : Nat) (v : Value) : w.grownBy (w.setCell ⟨g, j, none⟩ v) (some g) :=
  ⟨rfl, rfl, rfl, by simp [World.setCell], fun k _ hk => Below.heap_setCell w ⟨g, j, none⟩ v k (fun e => hk (by simp [e]))⟩
theorem own_set {B : Nat} {e : TypeId} {k : Nat} {v : Value} {n : Nat} {xs : List Value} {w : World} (h : w.ownsRow B e k v n xs) (g j : Nat) (x : Value) (hne : v.ownBlock ≠ some g) : (w.setCell ⟨g, j, none⟩ x).ownsRow B e k v n xs :=
  h.kept (grown_set w g j x) (Or.inr hne)
theorem own_mono {w : World} {base base' : Nat} {t : TypeId} {sz : Nat} {v : Value} {n : Nat} {xs : List Value} (h : w.ownsRow base t sz v n xs) (hb : base' ≤ base) : w.ownsRow base' t sz v n xs := by
  refine ⟨h.1, ?_⟩
  rcases h.2 with h1 | ⟨g, cap, cur, h2, hg, h3⟩
  · exact .inl h1
  · exact .inr ⟨g, cap, cur, h2, Nat.le_trans hb hg, h3⟩
theorem own_below' {w w' : World} {g : Nat} (h : Below w.heap.size w w') : w.grownBy w' (some g) := ⟨h.os, h.tape, h.output, h.size, fun k hk _ => h.block k hk⟩
theorem below_drewN {b : Nat} {w w' : World} (h : Below b w w') : ∀ n, Below b w (w'.drewN n)
  | 0 => h
  | n + 1 => (below_drewN h n).drew
theorem ans_no {R : Bool} {p : Prop} (h : R = true ↔ p) (hp : ¬ p) : R = false := by
  cases R with
  | false => rfl
  | true => exact absurd (h.1 rfl) hp
theorem three_set {W : World} {Z : Nat} {a0 a1 a2 : Value} {t : TypeId} (h : W.heap[Z]? = some (.cells #[a0, a1, a2] t (0, 0))) (v0 v1 v2 : Value) :
    (((W.setCell ⟨Z, 0, none⟩ v0).setCell ⟨Z, 1, none⟩ v1).setCell ⟨Z, 2, none⟩ v2).heap[Z]? = some (.cells #[v0, v1, v2] t (0, 0)) := by
  have h1 := heap_setCell_same W Z 0 _ t v0 h
  have h2 := heap_setCell_same _ Z 1 _ t v1 h1
  have h3 := heap_setCell_same _ Z 2 _ t v2 h2
  simpa using h3
theorem three_cell {W : World} {Z : Nat} {a0 a1 a2 : Value} {t : TypeId} (h : W.heap[Z]? = some (.cells #[a0, a1, a2] t (0, 0))) (v0 v1 v2 : Value) :
    let L := ((W.setCell ⟨Z, 0, none⟩ v0).setCell ⟨Z, 1, none⟩ v1).setCell ⟨Z, 2, none⟩ v2
    L.cell? ⟨Z, 0, none⟩ = some v0 ∧ L.cell? ⟨Z, 1, none⟩ = some v1 ∧ L.cell? ⟨Z, 2, none⟩ = some v2 :=
  have h4 := three_set h v0 v1 v2
  ⟨cell_of_row _ _ 0 _ _ _ h4, cell_of_row _ _ 1 _ _ _ h4, cell_of_row _ _ 2 _ _ _ h4⟩
theorem set_far {W : World} {R Z : Nat} {o : Obj} (h : W.heap[Z]? = some o) (hne : Z ≠ R) (j : Nat) (v : Value) : (W.setCell ⟨R, j, none⟩ v).heap[Z]? = some o := (Below.heap_setCell W ⟨R, j, none⟩ v Z (by simpa using hne)).trans h
/-- What is left of a measure, or -1. -/
def Left (left n : Nat) (x : Int) : Prop := (n ≤ left ∧ x = ((left - n : Nat) : Int)) ∨ (¬ n ≤ left ∧ x = -1)
theorem grown_drew {w w' : World} {row : Option Nat} (h : w.grownBy w' row) : w.grownBy w'.drew row := ⟨h.os, h.tape, h.output, h.size, h.block⟩
theorem grown_below {w w1 w2 : World} {g : Nat} (h : w.grownBy w1 (some g)) (hb : Below w1.heap.size w1 w2) : w.grownBy w2 (some g) := h.trans (own_below' hb)
theorem grown_drewN {w w' : World} {row : Option Nat} (h : w.grownBy w' row) (n : Nat) : w.grownBy (w'.drewN n) row := ⟨h.os, h.tape, h.output, h.size, h.block⟩
theorem grown_keep {w w' : World} {k g : Nat} {o : Obj} (h : w.heap[k]? = some o) (hg : w.grownBy w' (some g)) (hne : k ≠ g) : w'.heap[k]? = some o :=
  (hg.block k (Array.getElem?_eq_some_iff.1 h).1 (fun e => hne (Option.some.inj e))).trans h
theorem grown_alloc {w : World} (o : Obj) (g : Nat) : w.grownBy (w.alloc o) (some g) := own_below' ((Below.refl _ _).alloc (Nat.le_refl _) _)
theorem grown_new {w W : World} {g k : Nat} (h : w.grownBy W (some g)) (hk : w.heap.size ≤ k) (j : Nat) (v : Value) : w.grownBy (W.setCell ⟨k, j, none⟩ v) (some g) := h.andThen (grown_set W k j v) (fun r e => Or.inl (by cases e; exact hk))
theorem own_slice {w : World} {base : Nat} {t : TypeId} {sz : Nat} {v : Value} {n : Nat} {xs : List Value} (h : w.ownsRow base t sz v n xs) : ∃ a c, v = .slice a n c := by
  rcases h.2 with ⟨rfl, rfl⟩ | ⟨g, cap, cur, rfl, _⟩
  · exact ⟨_, _, rfl⟩
  · exact ⟨_, _, rfl⟩
theorem own_not {W : World} {b k n : Nat} {e t : TypeId} {v : Value} {xs : List Value} (h : W.ownsRow b e k v n xs) {q : Nat} {cs : Array Value} {fz : Nat × Nat} (ho : W.heap[q]? = some (.cells cs t fz)) (hne : e ≠ t) : v.ownBlock ≠ some q := by
  intro hq
  rcases h.2 with ⟨h1, _⟩ | ⟨g, cap, cur, h1, _, hh, _⟩
  · rw [h1] at hq; simp [Value.ownBlock] at hq
  · rw [h1] at hq
    obtain rfl : g = q := by simpa [Value.ownBlock] using hq
    rw [ho] at hh; cases hh; exact hne rfl
theorem grown_keep' {w w' : World} {k : Nat} {o : Obj} {r : Option Nat} (h : w.heap[k]? = some o) (hg : w.grownBy w' r) (hne : r ≠ some k) : w'.heap[k]? = some o :=
  (hg.block k (Array.getElem?_eq_some_iff.1 h).1 (fun e => hne e.symm)).trans h
end Go.Proofs.YtimacmijinblmaaGreat
