/- Texts that a call owns; the law's own marks, walked. Lists of changes in memory, 3 cells each; measured, copied, held against each other, marked. Made by program. The call of the specification's BatchOk, walked. -/
import Derived.Test.YtpedpdgkbmpfjaaDoorMathBatch
import Derived.Test.YtpedpdgkbmpfjaaDoorMathDec
import Derived.Test.YtpedpdgkbmpfjaaDoorDec
import Derived.Test.YtpedpdgkbmpfjaaDoorMathCmd
import Derived.Laws.AppendOwnNone
import Derived.Deep.RegionHeld3
import Derived.Deep.DeepCutAuto
namespace Go.Proofs.YtpedpdgkbmpfjaaDoor
open Go.RowKit

theorem Tryd.info9 : (Tryd.prog.info? 9).map (fun i => (i.zero, i.size, i.bytes)) = some (some (.string ⟨#[]⟩), 1, 16) := by kernel_rfl
theorem grown_of {w w' : World} (h : Below w.heap.size w w') (row : Option Nat) : w.grownBy w' row := ⟨h.os, h.tape, h.output, h.size, fun k hk _ => h.block k hk⟩
end Go.Proofs.YtpedpdgkbmpfjaaDoor
namespace Go.Proofs.YtpedpdgkbmpfjaaDoor
open Go.RowKit
set_option linter.unusedVariables false
set_option linter.unusedSimpArgs false

def changeV (r : ChangeL) : Value := .agg #[.string r.key, .string r.value, .bool r.gone]
/-- A slice at a whose elements are these. -/
def ChangeAt (w : World) (a : Option Addr) (g off : Nat) (l : List ChangeL) : Prop :=
  (0 < l.length → a = some ⟨g, off, none⟩) ∧ ∀ j (hj : j < l.length), w.cell? ⟨g, off + j * 3, none⟩ = some (.string l[j].key) ∧ w.cell? ⟨g, off + j * 3 + 1, none⟩ = some (.string l[j].value) ∧ w.cell? ⟨g, off + j * 3 + 2, none⟩ = some (.bool l[j].gone)
theorem ChangeAt.lt {w : World} {a : Option Addr} {g off : Nat} {l : List ChangeL} (h : ChangeAt w a g off l) (hl : 0 < l.length) : g < w.heap.size := World.block_lt_of_cell? w _ (h.2 0 hl).1
theorem ChangeAt.kept {w w' : World} {a : Option Addr} {g off : Nat} {l : List ChangeL} (h : ChangeAt w a g off l) (hb : Below w.heap.size w w') : ChangeAt w' a g off l := by
  refine ⟨h.1, fun j hj => ?_⟩
  have hg := h.lt (by omega)
  rw [hb.cell (p := ⟨g, off + j * 3, none⟩) hg, hb.cell (p := ⟨g, off + j * 3 + 1, none⟩) hg, hb.cell (p := ⟨g, off + j * 3 + 2, none⟩) hg]
  exact h.2 j hj
def cellsChange (l : List ChangeL) : List Value := l.flatMap fun r => [.string r.key, .string r.value, .bool r.gone]
theorem cellsChange_app (l m : List ChangeL) : cellsChange (l ++ m) = cellsChange l ++ cellsChange m := by simp [cellsChange]
theorem cellsChange_at : ∀ (l : List ChangeL) (j : Nat) (hj : j < l.length), (cellsChange l)[j * 3]? = some (.string l[j].key) ∧ (cellsChange l)[j * 3 + 1]? = some (.string l[j].value) ∧ (cellsChange l)[j * 3 + 2]? = some (.bool l[j].gone)
  | r :: l, 0, _ => ⟨rfl, rfl, rfl⟩
  | r :: l, j + 1, hj => by
    have := cellsChange_at l j (by simpa using hj)
    simpa [cellsChange, Nat.add_mul, Nat.add_assoc] using this
theorem cellsChange_own {w : World} {base : Nat} {e : TypeId} {g n cap : Nat} {l : List ChangeL} (hn : l.length = n) (h : w.ownsRow base e 3 (.slice (some ⟨g, 0, none⟩) n cap) n (cellsChange l)) : ChangeAt w (some ⟨g, 0, none⟩) g 0 l := by
  refine ⟨fun _ => rfl, fun j hj => ?_⟩
  rw [Nat.zero_add, h.cellAt (j * 3) (by omega), h.cellAt (j * 3 + 1) (by omega), h.cellAt (j * 3 + 2) (by omega)]
  exact cellsChange_at l j hj
theorem cellsChange_slice {w : World} {base : Nat} {v : Value} {l : List ChangeL} (h : w.ownsRow base 100 3 v l.length (cellsChange l)) : ∃ a g cap, v = .slice a l.length cap ∧ ChangeAt w a g 0 l := by
  rcases h.2 with ⟨h1, h2⟩ | ⟨g, cap, cur, h1, _⟩
  · exact ⟨none, 0, 0, by rw [h1, h2], fun q => by omega, fun j hj => by omega⟩
  · subst h1; exact ⟨_, g, cap, rfl, cellsChange_own rfl h⟩
def smallChange (B : Nat) (r : ChangeL) : Prop := r.key.size ≤ B ∧ r.value.size ≤ B
theorem Tryd.info100 : (Tryd.prog.info? 100).map (fun i => (i.zero, i.size, i.bytes)) = some (some (.agg #[.string ByteArray.empty, .string ByteArray.empty, .bool false]), 3, 40) := by kernel_rfl
end Go.Proofs.YtpedpdgkbmpfjaaDoor
namespace Go.Proofs.YtpedpdgkbmpfjaaDoor
open Go.RowKit

set_option maxHeartbeats 400000 in
theorem l05Key_is (k : ByteArray) (hk : k.size ≤ 9223372036854775807) (R : Bool) (hR : R = true ↔ 1 ≤ k.size ∧ k.size ≤ 10) (w : World) :
    Calls Tryd.prog 46 #[.string k] w fun e w' => e = .returned (.bool R) ∧ w' = w := by
  by_cases h : 1 ≤ k.size ∧ k.size ≤ 10
  · have hR' : R = true := hR.2 h
    subst hR'
    clear hR
    go_enter Tryd.func46, Tryd.ntmps46
    go_wp2_with (go_at_call 24; refine (in_yes (k.size : Int) 1 10 (by omega) _).mono ?_; rintro e w1 ⟨rfl, rfl⟩)
    go_ret
    exact ⟨rfl, rfl⟩
  · have hR' : R = false := ans_no hR h
    subst hR'
    clear hR
    go_enter Tryd.func46, Tryd.ntmps46
    go_wp2_with (go_at_call 24; refine (in_no (k.size : Int) 1 10 (by omega) _).mono ?_; rintro e w1 ⟨rfl, rfl⟩)
    go_ret
    exact ⟨rfl, rfl⟩
theorem empty_iff (V : ByteArray) : V.size = 0 ↔ V = ⟨#[]⟩ := by
  constructor
  · intro h
    exact Batches.by_inj (List.eq_nil_iff_length_eq_zero.2 h)
  · rintro rfl; rfl

theorem empty_no {V : ByteArray} (h : ¬ V = ⟨#[]⟩) : (V.toList == []) = false := by
  rw [Batches.toList_by]
  cases e : V.data.toList with
  | nil => exact absurd (Batches.by_inj (a := V) (b := ⟨#[]⟩) e) h
  | cons x r => simp only [Batches.by_, e]; rfl
theorem calls_above_q {P : Program} {f : FuncId} {args : Array Value} {W : World} {v : Value} {x : Abv W} (h : Calls P f args x.w fun e w' => e = .returned v ∧ w' = x.w) :
    Calls P f args x.w fun e w'' => e = .returned v ∧ ∃ y : Abv W, w'' = y.w :=
  h.mono fun _ _ ⟨he, hb⟩ => ⟨he, x, hb⟩
end Go.Proofs.YtpedpdgkbmpfjaaDoor
