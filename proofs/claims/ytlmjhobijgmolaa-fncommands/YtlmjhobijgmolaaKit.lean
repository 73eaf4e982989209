/- What the walks share: rows that a call owns, regions that draw their order and whose calls lay memory of their own alone, a measure. -/
import Derived.Test.YtlmjhobijgmolaaVar
import Derived.BigQuiet
import Derived.Deep.RegionWith
import Derived.Deep.QuietTactic
import Derived.Deep.RegionHeld3
import Derived.Deep.RegionLaw
import Derived.Deep.AppendLies
namespace Go.Proofs.Ytlmjhobijgmolaa
open Go.RowKit

/-- A world that has all of W's memory as it was. -/
structure Abv (W : World) where
  w : World
  b : Below W.heap.size W w
theorem Abv.ne (W : World) : Nonempty (Abv W) := ⟨⟨W, Below.refl _ _⟩⟩
theorem Abv.cell {W : World} {p : Addr} {v : Value} (h : W.cell? p = some v) (x : Abv W) : x.w.cell? p = some v := by
  rw [x.b.cell (p := p) (World.block_lt_of_cell? W _ h)]; exact h
theorem Abv.up {W : World} (x : Abv W) : W.heap.size ≤ x.w.heap.size := x.b.size
theorem calls_above {P : Program} {f : FuncId} {args : Array Value} {W : World} {v : Value} {x : Abv W} (h : Calls P f args x.w fun e w' => e = .returned v ∧ Below x.w.heap.size x.w w') :
    Calls P f args x.w fun e w'' => e = .returned v ∧ ∃ y : Abv W, w'' = y.w :=
  h.mono fun _ w' ⟨he, hb⟩ => ⟨he, ⟨w', x.b.trans (hb.mono x.b.size)⟩, rfl⟩
theorem wp_region_above {P : Program} {id : Nat} {Q : Exit → Act → World → Prop} {a : Act} {w : World} {l : List Oper} (hm : P.follows .mixedOrders = true) (hB : Region.lexB .any l.toArray = true)
    (h : wpQuiet P l.toArray (fun w' => ∃ x : Abv w, w' = x.w) (fun a' => ∀ w', (∃ x : Abv w, w' = x.w) → Q .normal a' w') l a) : (Code.region id l.toArray true).wp P Q a w :=
  wp_region_quiet (C := fun w' => ∃ x : Abv w, w' = x.w) hm hB ⟨⟨w.drew, (Below.refl _ _).drew⟩, rfl⟩ (by simpa using h)

theorem own_kept {B : Nat} {e : TypeId} {k : Nat} {v : Value} {n : Nat} {xs : List Value} {w w' : World} (h : w.ownsRow B e k v n xs) (hb : Below w.heap.size w w') : w'.ownsRow B e k v n xs := by
  refine ⟨h.1, ?_⟩
  rcases h.2 with h1 | ⟨g, cap, cur, h2, hg, hh, h3⟩
  · exact .inl h1
  · exact .inr ⟨g, cap, cur, h2, hg, by rw [hb.block g (Array.getElem?_eq_some_iff.1 hh).1]; exact hh, h3⟩
theorem grown_set (w : World) (g j : Nat) (v : Value) : w.grownBy (w.setCell ⟨g, j, none⟩ v) (some g) :=
  ⟨rfl, rfl, rfl, by simp [World.setCell], fun k _ hk => Below.heap_setCell w ⟨g, j, none⟩ v k (fun e => hk (by simp [e]))⟩
theorem own_below' {w w' : World} {g : Nat} (h : Below w.heap.size w w') : w.grownBy w' (some g) := ⟨h.os, h.tape, h.output, h.size, fun k hk _ => h.block k hk⟩
theorem ans_no {R : Bool} {p : Prop} (h : R = true ↔ p) (hp : ¬ p) : R = false := by
  cases R with
  | false => rfl
  | true => exact absurd (h.1 rfl) hp
theorem set_far {W : World} {R Z : Nat} {o : Obj} (h : W.heap[Z]? = some o) (hne : Z ≠ R) (j : Nat) (v : Value) : (W.setCell ⟨R, j, none⟩ v).heap[Z]? = some o := (Below.heap_setCell W ⟨R, j, none⟩ v Z (by simpa using hne)).trans h
/-- What is left of a measure, or -1. -/
def Left (left n : Nat) (x : Int) : Prop := (n ≤ left ∧ x = ((left - n : Nat) : Int)) ∨ (¬ n ≤ left ∧ x = -1)
theorem grown_drew {w w' : World} {row : Option Nat} (h : w.grownBy w' row) : w.grownBy w'.drew row := ⟨h.os, h.tape, h.output, h.size, h.block⟩
theorem grown_drewN {w w' : World} {row : Option Nat} (h : w.grownBy w' row) (n : Nat) : w.grownBy (w'.drewN n) row := ⟨h.os, h.tape, h.output, h.size, h.block⟩
theorem grown_keep {w w' : World} {k g : Nat} {o : Obj} (h : w.heap[k]? = some o) (hg : w.grownBy w' (some g)) (hne : k ≠ g) : w'.heap[k]? = some o :=
  (hg.block k (Array.getElem?_eq_some_iff.1 h).1 (fun e => hne (Option.some.inj e))).trans h
theorem grown_alloc {w : World} (o : Obj) (g : Nat) : w.grownBy (w.alloc o) (some g) := own_below' ((Below.refl _ _).alloc (Nat.le_refl _) _)
theorem grown_new {w W : World} {g k : Nat} (h : w.grownBy W (some g)) (hk : w.heap.size ≤ k) (j : Nat) (v : Value) : w.grownBy (W.setCell ⟨k, j, none⟩ v) (some g) := h.andThen (grown_set W k j v) (fun r e => Or.inl (by cases e; exact hk))
end Go.Proofs.Ytlmjhobijgmolaa
