/- The specification's LogBehind, walked. -/
import Derived.Test.YtddmogggdckneaaSpecLog
import Derived.Test.YtddmogggdckneaaAgg
namespace Go.Proofs.Ytddmogggdckneaa
open Go.RowKit
open Ents (okB)
open Logs (okL rises Fits inB)
set_option linter.unusedVariables false
set_option linter.unusedSimpArgs false

/-- The entries behind base, where the log has it with this term. -/
def behindL (l : LogL) (base term : Int) : List EntL := if okL l = true ∧ (l.start ≤ base ∧ base ≤ lastI l) ∧ termI l base = term then l.ents.drop (base - l.start).toNat else []
def BehindPost (w : World) (base term : Int) (r : List EntL) (en : Ending) (w' : World) : Prop := ∃ v, en = .returned (.agg #[.int .i64 base, .int .i64 term, v]) ∧ w'.ownsRow w.heap.size 27 3 v r.length (cellsEn r) ∧ Below w.heap.size w w'
theorem EnAt.drop {w : World} {g off : Nat} {l : List EntL} (h : EnAt w (some ⟨g, off, none⟩) g off l) (d : Nat) : EnAt w (some ⟨g, off + d * 3, none⟩) g (off + d * 3) (l.drop d) := by
  refine ⟨fun _ => rfl, fun j hj => ?_⟩
  have hj' : d + j < l.length := by rw [List.length_drop] at hj; omega
  have := h.2 (d + j) hj'
  rw [List.getElem_drop]
  have e : off + d * 3 + j * 3 = off + (d + j) * 3 := by omega
  rw [e]
  exact this
theorem own_row {B : Nat} {e : TypeId} {k : Nat} {v : Value} {n : Nat} {xs : List Value} {w : World} (h : w.ownsRow B e k v n xs) (g : Nat) (A : Array Value) (hne : v.ownBlock ≠ some g) : (w.setRow g A).ownsRow B e k v n xs :=
  h.kept (grown_setRow w g A) (Or.inr hne)
theorem log_one (p q : Int) (x : Option Addr) (n c : Nat) : ∀ v ∈ (#[.int .i64 p, .int .i64 q, .slice x n c] : Array Value).toList, v.oneCell' = true := by
  intro v hv
  simp at hv
  rcases hv with rfl | rfl | rfl <;> rfl
theorem behind_start (w : World) (L O : Array Value) : ∃ W, W = ((w.alloc (.cells L 32)).alloc (.cells #[.int .i64 0, .int .i64 0, .slice none 0 0] 32)).alloc (.cells O 32) ∧ Below w.heap.size w W ∧ W.heap[w.heap.size]? = some (.cells L 32 (0, 0)) ∧ W.heap[w.heap.size + 1]? = some (.cells #[.int .i64 0, .int .i64 0, .slice none 0 0] 32 (0, 0)) ∧ W.heap[w.heap.size + 1 + 1]? = some (.cells O 32 (0, 0)) := by
  refine ⟨_, rfl, (((Below.refl _ _).alloc (Nat.le_refl _) _).alloc (by simp) _).alloc (by simp; omega) _, ?_, ?_, ?_⟩
  · rw [Below.heap_alloc _ _ _ (by simp; omega), Below.heap_alloc _ _ _ (by simp)]
    exact heap_alloc_new w _
  · rw [Below.heap_alloc _ _ _ (by simp)]
    have := heap_alloc_new (w.alloc (.cells L 32)) (.cells #[.int .i64 0, .int .i64 0, .slice none 0 0] 32)
    simpa using this
  · have := heap_alloc_new ((w.alloc (.cells L 32)).alloc (.cells #[.int .i64 0, .int .i64 0, .slice none 0 0] 32)) (.cells O 32)
    simpa using this
end Go.Proofs.Ytddmogggdckneaa
