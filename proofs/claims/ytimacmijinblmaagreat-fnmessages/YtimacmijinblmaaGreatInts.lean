/- Lists of ints in memory; measured, copied, held against each other, marked. -/
import Derived.Test.YtimacmijinblmaaGreatMathMan
import Derived.Test.YtimacmijinblmaaGreatKit
import Derived.Laws.AppendOwnNone
import Derived.Deep.DeepCutAuto
namespace Go.Proofs.YtimacmijinblmaaGreat
open Go.RowKit
set_option linter.unusedVariables false
set_option linter.unusedSimpArgs false

/-- A slice at a whose elements are these. -/
def IntAt (w : World) (a : Option Addr) (g off : Nat) (l : List Int) : Prop :=
  (0 < l.length → a = some ⟨g, off, none⟩) ∧ ∀ j (hj : j < l.length), w.cell? ⟨g, off + j, none⟩ = some (.int .i64 l[j])
theorem IntAt.lt {w : World} {a : Option Addr} {g off : Nat} {l : List Int} (h : IntAt w a g off l) (hl : 0 < l.length) : g < w.heap.size := World.block_lt_of_cell? w _ (h.2 0 hl)
theorem IntAt.kept {w w' : World} {a : Option Addr} {g off : Nat} {l : List Int} (h : IntAt w a g off l) (hb : Below w.heap.size w w') : IntAt w' a g off l := by
  refine ⟨h.1, fun j hj => ?_⟩
  have hg := h.lt (by omega)
  rw [hb.cell (p := ⟨g, off + j, none⟩) hg]
  exact h.2 j hj
theorem IntAt.nil (w : World) : IntAt w none 0 0 [] := by
  refine ⟨fun h => ?_, fun j hj => ?_⟩
  · simp at h
  · simp at hj
def cellsI (l : List Int) : List Value := l.map fun n => .int .i64 n
theorem cellsI_app (l m : List Int) : cellsI (l ++ m) = cellsI l ++ cellsI m := by simp [cellsI]
theorem cellsI_len (l : List Int) : (cellsI l).length = l.length := by simp [cellsI]
theorem cellsI_at (l : List Int) (j : Nat) (hj : j < l.length) : (cellsI l)[j]? = some (.int .i64 l[j]) := by simp [cellsI, hj]
theorem cellsI_set (l : List Int) (j : Nat) (x : Int) : cellsI (l.set j x) = (cellsI l).set j (.int .i64 x) := by simp [cellsI, List.map_set]
theorem ownI_snoc {w : World} {base : Nat} {v : Value} {pre : List Int} {c : Int} (h : w.ownsRow base 3 1 v (pre.length + 1) (cellsI pre ++ [.int .i64 c])) :
    w.ownsRow base 3 1 v (pre ++ [c]).length (cellsI (pre ++ [c])) := by
  rw [cellsI_app, List.length_append]; exact h
theorem cellsI_own {w : World} {base : Nat} {g n cap : Nat} {l : List Int} (hn : l.length = n) (h : w.ownsRow base 3 1 (.slice (some ⟨g, 0, none⟩) n cap) n (cellsI l)) : IntAt w (some ⟨g, 0, none⟩) g 0 l := by
  refine ⟨fun _ => rfl, fun j hj => ?_⟩
  rw [Nat.zero_add, h.cellAt j (by omega)]
  exact cellsI_at l j hj
theorem cellsI_slice {w : World} {base : Nat} {v : Value} {l : List Int} (h : w.ownsRow base 3 1 v l.length (cellsI l)) : ∃ a g cap, v = .slice a l.length cap ∧ IntAt w a g 0 l := by
  rcases h.2 with ⟨h1, h2⟩ | ⟨g, cap, cur, h1, _⟩
  · exact ⟨none, 0, 0, by rw [h1, h2], fun q => by omega, fun j hj => by omega⟩
  · subst h1; exact ⟨_, g, cap, rfl, cellsI_own rfl h⟩
theorem madeI (n : Nat) : (madeCells #[Value.int .i64 0] n).toList = cellsI (List.replicate n 0) := by
  simp only [madeCells, cellsI, Array.toList_map, Array.toList_range, List.map_replicate]
  apply List.ext_getElem
  · simp
  · intro i h1 h2
    simp [Nat.mod_one]
theorem Tryz.info3 : (Tryz.prog.info? 3).map (fun i => (i.zero, i.size, i.bytes)) = some (some (.int .i64 0), 1, 8) := by kernel_rfl
theorem own_cell_ex {w : World} {B : Nat} {t : TypeId} {k g n cap q : Nat} {xs : List Value} (h : w.ownsRow B t k (.slice (some ⟨g, 0, none⟩) n cap) n xs) (hq : q < n * k) (hx : xs.length = n * k) : ∃ u, w.cell? ⟨g, q, none⟩ = some u := by
  rw [h.cellAt q hq, List.getElem?_eq_getElem (by omega)]
  exact ⟨_, rfl⟩

set_option maxHeartbeats 2000000 in
set_option maxRecDepth 100000 in
theorem sameInts_same {a b : Option Addr} {g off cap h off' cap' : Nat} (l : List Int) (hlen : l.length ≤ 1048576) (w : World) (hf : IntAt w a g off l) (hf' : IntAt w b h off' l) :
    Calls Tryz.prog 39 #[.slice a l.length cap, .slice b l.length cap'] w fun e w' => e = .returned (.bool true) ∧ Below w.heap.size w w' := by
  have HF : Hid (IntAt w a g off l) := hf
  have HF' : Hid (IntAt w b h off' l) := hf'
  clear hf hf'
  go_enter Tryz.func39, Tryz.ntmps39
  go_wp2
  go_loopw [5] (fun i wr => ∃ k : Nat, k ≤ l.length ∧ i = .int .i64 (k : Int) ∧ Below w.heap.size w wr)
    (fun i _ => l.length - (intOf i).toNat)
  case atStart => exact ⟨0, Nat.zero_le _, rfl, Below.refl _ _⟩
  case round =>
    obtain ⟨k, hk, rfl, hbel⟩ := hrel
    by_cases hlt : k < l.length
    · have c0 := (HF.out.kept hbel).2 k hlt
      have d0 := (HF'.out.kept hbel).2 k hlt
      have ea := HF.out.1 (by omega)
      have eb := HF'.out.1 (by omega)
      subst ea eb
      obtain ⟨X, hX⟩ : ∃ X, X = l[k] := ⟨_, rfl⟩
      rw [← hX] at c0 d0
      clear hX
      have hk0 : (0 : Int) ≤ (k : Int) := by omega
      have hk1 : (k : Int) < (l.length : Int) := by omega
      go_wp2
      have NE := Abv.ne wr
      have C0 := fun x : Abv wr => x.cell c0
      have D0 := fun x : Abv wr => x.cell d0
      refine wp_region_above (by kernel_rfl) (by kernel_rfl) ?_
      repeat (go_big_quiet_step (fail))
      refine wpQuiet_nil ?_
      rintro w1 ⟨⟨_, hb1⟩, rfl⟩
      clear NE C0 D0
      go_wp2
      go_roundw
      case rel => exact ⟨k + 1, by omega, by go_num, hbel.trans (hb1.mono hbel.size)⟩
      case measure => simp [intOf]; omega
    · have hk1 : ¬ (k : Int) < (l.length : Int) := by omega
      go_wp2
      go_ret
      exact ⟨rfl, hbel⟩
end Go.Proofs.YtimacmijinblmaaGreat
