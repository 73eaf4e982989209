/- Lists of ints in memory; measured, copied, held against each other, marked. -/
import Derived.Test.YtojhjffkbjdgfaaMathMan
import Derived.Test.YtojhjffkbjdgfaaKit
import Derived.Laws.AppendOwnNone
import Derived.Deep.DeepCutAuto
namespace Go.Proofs.Ytojhjffkbjdgfaa
open Go.RowKit
set_option linter.unusedVariables false
set_option linter.unusedSimpArgs false

/-- A slice at a whose elements are these. -/
def IntAt (w : World) (a : Option Addr) (g off : Nat) (l : List Int) : Prop :=
  (0 < l.length → a = some ⟨g, off, none⟩) ∧ ∀ j (hj : j < l.length), w.cell? ⟨g, off + j, none⟩ = some (.int .i64 l[j])
theorem IntAt.lt {w : World} {a : Option Addr} {g off : Nat} {l : List Int} (h : IntAt w a g off l) (hl : 0 < l.length) : g < w.heap.size := World.block_lt_of_cell? w _ (h.2 0 hl)
theorem IntAt.kept {w w' : World} {a : Option Addr} {g off : Nat} {l : List Int} (h : IntAt w a g off l) (hb : Below w.heap.size w w') : IntAt w' a g off l := by
  refine ⟨h.1, fun j hj => ?_⟩
  have hg := h.lt (by omega)
  rw [hb.cell (p := ⟨g, off + j, none⟩) hg]
  exact h.2 j hj
theorem IntAt.nil (w : World) : IntAt w none 0 0 [] := by
  refine ⟨fun h => ?_, fun j hj => ?_⟩
  · simp at h
  · simp at hj
def cellsI (l : List Int) : List Value := l.map fun n => .int .i64 n
theorem cellsI_app (l m : List Int) : cellsI (l ++ m) = cellsI l ++ cellsI m := by simp [cellsI]
theorem cellsI_len (l : List Int) : (cellsI l).length = l.length := by simp [cellsI]
theorem cellsI_at (l : List Int) (j : Nat) (hj : j < l.length) : (cellsI l)[j]? = some (.int .i64 l[j]) := by simp [cellsI, hj]
theorem cellsI_set (l : List Int) (j : Nat) (x : Int) : cellsI (l.set j x) = (cellsI l).set j (.int .i64 x) := by simp [cellsI, List.map_set]
theorem ownI_snoc {w : World} {base : Nat} {v : Value} {pre : List Int} {c : Int} (h : w.ownsRow base 3 1 v (pre.length + 1) (cellsI pre ++ [.int .i64 c])) :
    w.ownsRow base 3 1 v (pre ++ [c]).length (cellsI (pre ++ [c])) := by
  rw [cellsI_app, List.length_append]; exact h
theorem cellsI_own {w : World} {base : Nat} {g n cap : Nat} {l : List Int} (hn : l.length = n) (h : w.ownsRow base 3 1 (.slice (some ⟨g, 0, none⟩) n cap) n (cellsI l)) : IntAt w (some ⟨g, 0, none⟩) g 0 l := by
  refine ⟨fun _ => rfl, fun j hj => ?_⟩
  rw [Nat.zero_add, h.cellAt j (by omega)]
  exact cellsI_at l j hj
theorem cellsI_slice {w : World} {base : Nat} {v : Value} {l : List Int} (h : w.ownsRow base 3 1 v l.length (cellsI l)) : ∃ a g cap, v = .slice a l.length cap ∧ IntAt w a g 0 l := by
  rcases h.2 with ⟨h1, h2⟩ | ⟨g, cap, cur, h1, _⟩
  · exact ⟨none, 0, 0, by rw [h1, h2], fun q => by omega, fun j hj => by omega⟩
  · subst h1; exact ⟨_, g, cap, rfl, cellsI_own rfl h⟩
theorem madeI (n : Nat) : (madeCells #[Value.int .i64 0] n).toList = cellsI (List.replicate n 0) := by
  simp only [madeCells, cellsI, Array.toList_map, Array.toList_range, List.map_replicate]
  apply List.ext_getElem
  · simp
  · intro i h1 h2
    simp [Nat.mod_one]
theorem Try.info3 : (Try.prog.info? 3).map (fun i => (i.zero, i.size, i.bytes)) = some (some (.int .i64 0), 1, 8) := by kernel_rfl
theorem own_cell_ex {w : World} {B : Nat} {t : TypeId} {k g n cap q : Nat} {xs : List Value} (h : w.ownsRow B t k (.slice (some ⟨g, 0, none⟩) n cap) n xs) (hq : q < n * k) (hx : xs.length = n * k) : ∃ u, w.cell? ⟨g, q, none⟩ = some u := by
  rw [h.cellAt q hq, List.getElem?_eq_getElem (by omega)]
  exact ⟨_, rfl⟩

set_option maxHeartbeats 1000000 in
theorem szIntS_is {a : Option Addr} {cap n left : Nat} (hn : n ≤ maxLen) (hl : left ≤ 1048576) (w : World) :
    Calls Try.prog 10 #[.slice a n cap, .int .i64 (left : Int)] w fun e w' => ∃ x : Int, e = .returned (.int .i64 x) ∧ Left left n x ∧ Below w.heap.size w w' := by
  unfold maxLen at hn
  by_cases h0 : left < n
  · have h1 : (left : Int) - (n : Int) < 0 := by omega
    go_enter Try.func10, Try.ntmps10
    go_wp2
    go_ret
    exact ⟨_, rfl, Or.inr ⟨by omega, rfl⟩, Below.refl _ _⟩
  · have h1 : ¬ (left : Int) - (n : Int) < 0 := by omega
    go_enter Try.func10, Try.ntmps10
    go_wp2
    go_ret
    exact ⟨_, rfl, Or.inl ⟨by omega, by omega⟩, Below.refl _ _⟩
set_option maxHeartbeats 2000000 in
set_option maxRecDepth 100000 in
theorem toIntS_is {a : Option Addr} {g off cap : Nat} (l : List Int) (hlen : l.length ≤ 1048576) (w : World) (hf : IntAt w a g off l) :
    Calls Try.prog 15 #[.slice a l.length cap] w fun e w' => e = .returned (.slice (some ⟨w.heap.size, 0, none⟩) l.length l.length) ∧
      w'.ownsRow w.heap.size 3 1 (.slice (some ⟨w.heap.size, 0, none⟩) l.length l.length) l.length (cellsI l) ∧ Below w.heap.size w w' := by
  obtain ⟨i0, hi, hz0, hz1, hz2⟩ := info_parts Try.info3
  have HF : Hid (IntAt w a g off l) := hf
  clear hf
  go_enter Try.func15, Try.ntmps15
  go_wp2_with (at_make; refine wpList_make_full _ rfl _ _ 24 rfl w.heap.size 3 i0 (.int .i64 0) 1 Try.underlying24 hi hz0 hz1 _ _ _ _ l.length rfl rfl (by omega) (by omega) ?b2 ?b3 (Nat.le_refl _) ?_)
  case b2 => rw [hz2]; omega
  case b3 => unfold maxLen; omega
  intro w0 hown0 hgrow0
  have hbel0 : Below w.heap.size w w0 := (Below.refl _ _).grown hgrow0 (Nat.le_refl _) (by simp)
  have hown0' : w0.ownsRow w.heap.size 3 1 (.slice (some ⟨w.heap.size, 0, none⟩) l.length l.length) l.length (cellsI (List.replicate l.length 0)) := by
    rw [← madeI]; simpa using hown0
  clear hgrow0 hown0
  go_wp2
  go_loopw [4] (fun i wr => ∃ (k : Nat) (pre : List Int), k ≤ l.length ∧ i = .int .i64 (k : Int) ∧ pre.length = l.length ∧ pre.take k = l.take k ∧
      wr.ownsRow w.heap.size 3 1 (.slice (some ⟨w.heap.size, 0, none⟩) l.length l.length) l.length (cellsI pre) ∧ Below w.heap.size w wr)
    (fun i _ => l.length - (intOf i).toNat)
  case atStart => exact ⟨0, _, Nat.zero_le _, rfl, by simp, by simp, hown0', hbel0⟩
  case round =>
    obtain ⟨k, pre, hk, rfl, hpl, hpt, hown, hbel⟩ := hrel
    have HL : Hid (pre.length = l.length) := hpl
    have HT : Hid (pre.take k = l.take k) := hpt
    clear hpl hpt hown0' hbel0
    by_cases hlt : k < l.length
    · have c0 := (HF.out.kept hbel).2 k hlt
      have ea := HF.out.1 (by omega)
      subst ea
      have hgz := HF.out.lt (by omega)
      obtain ⟨X, hX⟩ : ∃ X, X = l[k] := ⟨_, rfl⟩
      have HEL : Hid (l[k] = X) := hX.symm
      rw [← hX] at c0
      clear hX
      have hk0 : (0 : Int) ≤ (k : Int) := by omega
      have hk1 : (k : Int) < (l.length : Int) := by omega
      have hf0 := hown.frozenAt k
      obtain ⟨u0, hu0⟩ := own_cell_ex (q := k) hown (by omega) (by rw [cellsI_len, HL.out]; omega)
      have hst := hown.stored k (.int .i64 X)
      rw [← cellsI_set pre k X] at hst
      have HST : Hid (_ ∧ _) := hst
      clear hst hown
      go_wp2
      go_roundw
      case rel => exact ⟨k + 1, pre.set k X, by omega, by go_num, by rw [List.length_set]; exact HL.out, take_set_step hlt HL.out HT.out HEL.out, HST.out.1, hbel.setCell (Nat.le_refl _) _⟩
      case measure => simp [intOf]; omega
    · have hk1 : ¬ (k : Int) < (l.length : Int) := by omega
      have HE : Hid (pre = l) := by
        show _ = _
        have h := HT.out
        rwa [List.take_of_length_le (by rw [HL.out]; omega), List.take_of_length_le (by omega)] at h
      go_wp2
      go_ret
      exact ⟨rfl, by rw [HE.out] at hown; exact hown, hbel⟩
set_option maxHeartbeats 2000000 in
set_option maxRecDepth 100000 in
theorem eqIntS_same {a b : Option Addr} {g off cap h off' cap' : Nat} (l : List Int) (hlen : l.length ≤ 1048576) (w : World) (hf : IntAt w a g off l) (hf' : IntAt w b h off' l) :
    Calls Try.prog 19 #[.slice a l.length cap, .slice b l.length cap'] w fun e w' => e = .returned (.bool true) ∧ Below w.heap.size w w' := by
  have HF : Hid (IntAt w a g off l) := hf
  have HF' : Hid (IntAt w b h off' l) := hf'
  clear hf hf'
  go_enter Try.func19, Try.ntmps19
  go_wp2
  go_loopw [5] (fun i wr => ∃ k : Nat, k ≤ l.length ∧ i = .int .i64 (k : Int) ∧ Below w.heap.size w wr)
    (fun i _ => l.length - (intOf i).toNat)
  case atStart => exact ⟨0, Nat.zero_le _, rfl, Below.refl _ _⟩
  case round =>
    obtain ⟨k, hk, rfl, hbel⟩ := hrel
    by_cases hlt : k < l.length
    · have c0 := (HF.out.kept hbel).2 k hlt
      have d0 := (HF'.out.kept hbel).2 k hlt
      have ea := HF.out.1 (by omega)
      have eb := HF'.out.1 (by omega)
      subst ea eb
      obtain ⟨X, hX⟩ : ∃ X, X = l[k] := ⟨_, rfl⟩
      rw [← hX] at c0 d0
      clear hX
      have hk0 : (0 : Int) ≤ (k : Int) := by omega
      have hk1 : (k : Int) < (l.length : Int) := by omega
      go_wp2
      have NE := Abv.ne wr
      have C0 := fun x : Abv wr => x.cell c0
      have D0 := fun x : Abv wr => x.cell d0
      refine wp_region_above (by kernel_rfl) (by kernel_rfl) ?_
      repeat (go_big_quiet_step (fail))
      refine wpQuiet_nil ?_
      rintro w1 ⟨⟨_, hb1⟩, rfl⟩
      clear NE C0 D0
      go_wp2
      go_roundw
      case rel => exact ⟨k + 1, by omega, by go_num, hbel.trans (hb1.mono hbel.size)⟩
      case measure => simp [intOf]; omega
    · have hk1 : ¬ (k : Int) < (l.length : Int) := by omega
      go_wp2
      go_ret
      exact ⟨rfl, hbel⟩
/-- Marked ones: from k on. -/
def marksI (k n : Nat) : List Int := (List.range n).map fun i => ((k + i : Nat) : Int)
theorem marksI_len (k n : Nat) : (marksI k n).length = n := by simp [marksI]
theorem marksI_at (k n j : Nat) (hj : j < (marksI k n).length) : (marksI k n)[j] = ((k + j : Nat) : Int) := by simp [marksI]
end Go.Proofs.Ytojhjffkbjdgfaa
