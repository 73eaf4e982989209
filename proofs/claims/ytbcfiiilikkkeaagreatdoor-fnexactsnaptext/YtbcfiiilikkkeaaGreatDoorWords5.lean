/- Lists of ints in memory; measured, copied, held against each other, marked. The calls of both ConfOk, of l07Rise and ascendWithin, and the exact law of ConfOk, walked. The calls of both ConfOk and the exact law of ConfOk, walked. The calls of the program's wordsOf and wordsOk, walked. -/
import Derived.Test.YtbcfiiilikkkeaaGreatDoorMathMan
import Derived.Test.YtbcfiiilikkkeaaGreatDoorKit
import Derived.Laws.AppendOwnNone
import Derived.Deep.DeepCutAuto
namespace Go.Proofs.YtbcfiiilikkkeaaGreatDoor
open Go.RowKit
set_option linter.unusedVariables false
set_option linter.unusedSimpArgs false

/-- A slice at a whose elements are these. -/
def IntAt (w : World) (a : Option Addr) (g off : Nat) (l : List Int) : Prop :=
  (0 < l.length → a = some ⟨g, off, none⟩) ∧ ∀ j (hj : j < l.length), w.cell? ⟨g, off + j, none⟩ = some (.int .i64 l[j])
theorem IntAt.lt {w : World} {a : Option Addr} {g off : Nat} {l : List Int} (h : IntAt w a g off l) (hl : 0 < l.length) : g < w.heap.size := World.block_lt_of_cell? w _ (h.2 0 hl)
theorem IntAt.kept {w w' : World} {a : Option Addr} {g off : Nat} {l : List Int} (h : IntAt w a g off l) (hb : Below w.heap.size w w') : IntAt w' a g off l := by
  refine ⟨h.1, fun j hj => ?_⟩
  have hg := h.lt (by omega)
  rw [hb.cell (p := ⟨g, off + j, none⟩) hg]
  exact h.2 j hj
def cellsI (l : List Int) : List Value := l.map fun n => .int .i64 n
theorem cellsI_app (l m : List Int) : cellsI (l ++ m) = cellsI l ++ cellsI m := by simp [cellsI]
theorem cellsI_len (l : List Int) : (cellsI l).length = l.length := by simp [cellsI]
theorem cellsI_at (l : List Int) (j : Nat) (hj : j < l.length) : (cellsI l)[j]? = some (.int .i64 l[j]) := by simp [cellsI, hj]
theorem cellsI_set (l : List Int) (j : Nat) (x : Int) : cellsI (l.set j x) = (cellsI l).set j (.int .i64 x) := by simp [cellsI, List.map_set]
theorem ownI_snoc {w : World} {base : Nat} {v : Value} {pre : List Int} {c : Int} (h : w.ownsRow base 3 1 v (pre.length + 1) (cellsI pre ++ [.int .i64 c])) :
    w.ownsRow base 3 1 v (pre ++ [c]).length (cellsI (pre ++ [c])) := by
  rw [cellsI_app, List.length_append]; exact h
theorem cellsI_own {w : World} {base : Nat} {g n cap : Nat} {l : List Int} (hn : l.length = n) (h : w.ownsRow base 3 1 (.slice (some ⟨g, 0, none⟩) n cap) n (cellsI l)) : IntAt w (some ⟨g, 0, none⟩) g 0 l := by
  refine ⟨fun _ => rfl, fun j hj => ?_⟩
  rw [Nat.zero_add, h.cellAt j (by omega)]
  exact cellsI_at l j hj
theorem cellsI_slice {w : World} {base : Nat} {v : Value} {l : List Int} (h : w.ownsRow base 3 1 v l.length (cellsI l)) : ∃ a g cap, v = .slice a l.length cap ∧ IntAt w a g 0 l := by
  rcases h.2 with ⟨h1, h2⟩ | ⟨g, cap, cur, h1, _⟩
  · exact ⟨none, 0, 0, by rw [h1, h2], fun q => by omega, fun j hj => by omega⟩
  · subst h1; exact ⟨_, g, cap, rfl, cellsI_own rfl h⟩
theorem madeI (n : Nat) : (madeCells #[Value.int .i64 0] n).toList = cellsI (List.replicate n 0) := by
  simp only [madeCells, cellsI, Array.toList_map, Array.toList_range, List.map_replicate]
  apply List.ext_getElem
  · simp
  · intro i h1 h2
    simp [Nat.mod_one]
theorem Tryz.info3 : (Tryz.prog.info? 3).map (fun i => (i.zero, i.size, i.bytes)) = some (some (.int .i64 0), 1, 8) := by kernel_rfl
theorem own_cell_ex_cm {w : World} {B : Nat} {t : TypeId} {k g n cap q : Nat} {xs : List Value} (h : w.ownsRow B t k (.slice (some ⟨g, 0, none⟩) n cap) n xs) (hq : q < n * k) (hx : xs.length = n * k) : ∃ u, w.cell? ⟨g, q, none⟩ = some u := by
  rw [h.cellAt q hq, List.getElem?_eq_getElem (by omega)]
  exact ⟨_, rfl⟩

set_option maxHeartbeats 1000000 in
theorem szIntS_is {a : Option Addr} {cap n left : Nat} (hn : n ≤ maxLen) (hl : left ≤ 1048576) (w : World) :
    Calls Tryz.prog 125 #[.slice a n cap, .int .i64 (left : Int)] w fun e w' => ∃ x : Int, e = .returned (.int .i64 x) ∧ Left left n x ∧ Below w.heap.size w w' := by
  unfold maxLen at hn
  by_cases h0 : left < n
  · have h1 : (left : Int) - (n : Int) < 0 := by omega
    go_enter Tryz.func125, Tryz.ntmps125
    go_wp2
    go_ret
    exact ⟨_, rfl, Or.inr ⟨by omega, rfl⟩, Below.refl _ _⟩
  · have h1 : ¬ (left : Int) - (n : Int) < 0 := by omega
    go_enter Tryz.func125, Tryz.ntmps125
    go_wp2
    go_ret
    exact ⟨_, rfl, Or.inl ⟨by omega, by omega⟩, Below.refl _ _⟩
set_option maxHeartbeats 2000000 in
set_option maxRecDepth 100000 in
theorem toIntS_is {a : Option Addr} {g off cap : Nat} (l : List Int) (hlen : l.length ≤ 1048576) (w : World) (hf : IntAt w a g off l) :
    Calls Tryz.prog 42 #[.slice a l.length cap] w fun e w' => e = .returned (.slice (some ⟨w.heap.size, 0, none⟩) l.length l.length) ∧
      w'.ownsRow w.heap.size 3 1 (.slice (some ⟨w.heap.size, 0, none⟩) l.length l.length) l.length (cellsI l) ∧ Below w.heap.size w w' := by
  obtain ⟨i0, hi, hz0, hz1, hz2⟩ := info_parts Tryz.info3
  have HF : Hid (IntAt w a g off l) := hf
  clear hf
  go_enter Tryz.func42, Tryz.ntmps42
  go_wp2_with (at_make; refine wpList_make_full _ rfl _ _ 25 rfl w.heap.size 3 i0 (.int .i64 0) 1 Tryz.underlying25 hi hz0 hz1 _ _ _ _ l.length rfl rfl (by omega) (by omega) ?b2 ?b3 (Nat.le_refl _) ?_)
  case b2 => rw [hz2]; omega
  case b3 => unfold maxLen; omega
  intro w0 hown0 hgrow0
  have hbel0 : Below w.heap.size w w0 := (Below.refl _ _).grown hgrow0 (Nat.le_refl _) (by simp)
  have hown0' : w0.ownsRow w.heap.size 3 1 (.slice (some ⟨w.heap.size, 0, none⟩) l.length l.length) l.length (cellsI (List.replicate l.length 0)) := by
    rw [← madeI]; simpa using hown0
  clear hgrow0 hown0
  go_wp2
  go_loopw [4] (fun i wr => ∃ (k : Nat) (pre : List Int), k ≤ l.length ∧ i = .int .i64 (k : Int) ∧ pre.length = l.length ∧ pre.take k = l.take k ∧
      wr.ownsRow w.heap.size 3 1 (.slice (some ⟨w.heap.size, 0, none⟩) l.length l.length) l.length (cellsI pre) ∧ Below w.heap.size w wr)
    (fun i _ => l.length - (intOf i).toNat)
  case atStart => exact ⟨0, _, Nat.zero_le _, rfl, by simp, by simp, hown0', hbel0⟩
  case round =>
    obtain ⟨k, pre, hk, rfl, hpl, hpt, hown, hbel⟩ := hrel
    have HL : Hid (pre.length = l.length) := hpl
    have HT : Hid (pre.take k = l.take k) := hpt
    clear hpl hpt hown0' hbel0
    by_cases hlt : k < l.length
    · have c0 := (HF.out.kept hbel).2 k hlt
      have ea := HF.out.1 (by omega)
      subst ea
      have hgz := HF.out.lt (by omega)
      obtain ⟨X, hX⟩ : ∃ X, X = l[k] := ⟨_, rfl⟩
      have HEL : Hid (l[k] = X) := hX.symm
      rw [← hX] at c0
      clear hX
      have hk0 : (0 : Int) ≤ (k : Int) := by omega
      have hk1 : (k : Int) < (l.length : Int) := by omega
      have hf0 := hown.frozenAt k
      obtain ⟨u0, hu0⟩ := own_cell_ex_cm (q := k) hown (by omega) (by rw [cellsI_len, HL.out]; omega)
      have hst := hown.stored k (.int .i64 X)
      rw [← cellsI_set pre k X] at hst
      have HST : Hid (_ ∧ _) := hst
      clear hst hown
      go_wp2
      go_roundw
      case rel => exact ⟨k + 1, pre.set k X, by omega, by go_num, by rw [List.length_set]; exact HL.out, take_set_step hlt HL.out HT.out HEL.out, HST.out.1, hbel.setCell (Nat.le_refl _) _⟩
      case measure => simp [intOf]; omega
    · have hk1 : ¬ (k : Int) < (l.length : Int) := by omega
      have HE : Hid (pre = l) := by
        show _ = _
        have h := HT.out
        rwa [List.take_of_length_le (by rw [HL.out]; omega), List.take_of_length_le (by omega)] at h
      go_wp2
      go_ret
      exact ⟨rfl, by rw [HE.out] at hown; exact hown, hbel⟩
set_option maxHeartbeats 2000000 in
set_option maxRecDepth 100000 in
theorem eqIntS_same {a b : Option Addr} {g off cap h off' cap' : Nat} (l : List Int) (hlen : l.length ≤ 1048576) (w : World) (hf : IntAt w a g off l) (hf' : IntAt w b h off' l) :
    Calls Tryz.prog 44 #[.slice a l.length cap, .slice b l.length cap'] w fun e w' => e = .returned (.bool true) ∧ Below w.heap.size w w' := by
  have HF : Hid (IntAt w a g off l) := hf
  have HF' : Hid (IntAt w b h off' l) := hf'
  clear hf hf'
  go_enter Tryz.func44, Tryz.ntmps44
  go_wp2
  go_loopw [5] (fun i wr => ∃ k : Nat, k ≤ l.length ∧ i = .int .i64 (k : Int) ∧ Below w.heap.size w wr)
    (fun i _ => l.length - (intOf i).toNat)
  case atStart => exact ⟨0, Nat.zero_le _, rfl, Below.refl _ _⟩
  case round =>
    obtain ⟨k, hk, rfl, hbel⟩ := hrel
    by_cases hlt : k < l.length
    · have c0 := (HF.out.kept hbel).2 k hlt
      have d0 := (HF'.out.kept hbel).2 k hlt
      have ea := HF.out.1 (by omega)
      have eb := HF'.out.1 (by omega)
      subst ea eb
      obtain ⟨X, hX⟩ : ∃ X, X = l[k] := ⟨_, rfl⟩
      rw [← hX] at c0 d0
      clear hX
      have hk0 : (0 : Int) ≤ (k : Int) := by omega
      have hk1 : (k : Int) < (l.length : Int) := by omega
      go_wp2
      have NE := Abv.ne wr
      have C0 := fun x : Abv wr => x.cell c0
      have D0 := fun x : Abv wr => x.cell d0
      refine wp_region_above (by kernel_rfl) (by kernel_rfl) ?_
      repeat (go_big_quiet_step (fail))
      refine wpQuiet_nil ?_
      rintro w1 ⟨⟨_, hb1⟩, rfl⟩
      clear NE C0 D0
      go_wp2
      go_roundw
      case rel => exact ⟨k + 1, by omega, by go_num, hbel.trans (hb1.mono hbel.size)⟩
      case measure => simp [intOf]; omega
    · have hk1 : ¬ (k : Int) < (l.length : Int) := by omega
      go_wp2
      go_ret
      exact ⟨rfl, hbel⟩
end Go.Proofs.YtbcfiiilikkkeaaGreatDoor
namespace Go.Proofs.YtbcfiiilikkkeaaGreatDoor
open Go.RowKit
set_option linter.unusedVariables false

set_option maxHeartbeats 1000000 in
theorem ascend_is {a : Option Addr} {g off cap : Nat} (l : List Int) (hlen : l.length ≤ 1048576) (lo hi : Int) (h0 : -1000000 ≤ lo ∧ lo ≤ 1000000) (h1 : -1000000 ≤ hi ∧ hi ≤ 1000000) (R : Bool) (hR : Mans.asc lo hi l = R) (w : World) (hf : IntAt w a g off l) :
    Calls Tryz.prog 231 #[.slice a l.length cap, .int .i64 lo, .int .i64 hi] w fun e w' => e = .returned (.bool R) ∧ w = w' := by
  have HF : Hid (IntAt w a g off l) := hf
  have HR : Hid (Mans.asc lo hi l = R) := hR
  clear hf hR
  go_enter Tryz.func231, Tryz.ntmps231
  go_wp2
  go_loopw [1, 11] (fun x i wr => ∃ (k : Nat) (z : Int), k ≤ l.length ∧ i = .int .i64 (k : Int) ∧ x = .int .i64 z ∧ (-1000000 ≤ z ∧ z ≤ 1000001) ∧ Mans.asc z hi (l.drop k) = R ∧ w = wr) (fun _ i _ => l.length - (intOf i).toNat)
  case atStart => exact ⟨0, lo, Nat.zero_le _, rfl, rfl, ⟨by omega, by omega⟩, by rw [List.drop_zero]; exact HR.out, rfl⟩
  case round =>
    obtain ⟨k, z, hk, rfl, rfl, hz, hasc, rfl⟩ := hrel
    have HA : Hid (Mans.asc z hi (l.drop k) = R) := hasc
    clear hasc
    by_cases hlt : k < l.length
    · have c0 := HF.out.2 k hlt
      have ea := HF.out.1 (by omega)
      subst ea
      have hst := fun (p1 : z ≤ l[k]) (p2 : l[k] ≤ hi) => Mans.asc_step hlt HA.out p1 p2
      have hbd := fun (p : ¬ (z ≤ l[k] ∧ l[k] ≤ hi)) => Mans.asc_bad hlt HA.out p
      obtain ⟨X, hX⟩ : ∃ X, X = l[k] := ⟨_, rfl⟩
      rw [← hX] at c0 hst hbd
      have HST : Hid (z ≤ X → X ≤ hi → Mans.asc (X + 1) hi (l.drop (k + 1)) = R) := hst
      have HBD : Hid (¬ (z ≤ X ∧ X ≤ hi) → R = false) := hbd
      clear hX hst hbd
      have hk0 : (0 : Int) ≤ (k : Int) := by omega
      have hk1 : (k : Int) < (l.length : Int) := by omega
      by_cases p1 : X < z
      · have HB : Hid (R = false) := HBD.out (by omega)
        go_wp2
        go_ret
        exact ⟨by rw [HB.out]; rfl, rfl⟩
      · by_cases p2 : hi < X
        · have HB : Hid (R = false) := HBD.out (by omega)
          go_wp2
          go_ret
          exact ⟨by rw [HB.out]; rfl, rfl⟩
        · have HB : Hid (Mans.asc (X + 1) hi (l.drop (k + 1)) = R) := HST.out (by omega) (by omega)
          go_wp2
          go_roundw
          case rel => exact ⟨k + 1, X + 1, by omega, by go_num, by go_num, ⟨by omega, by omega⟩, HB.out, trivial⟩
          case measure => simp [intOf]; omega
    · have hk1 : ¬ (k : Int) < (l.length : Int) := by omega
      have HE : Hid (R = true) := Mans.asc_end (by omega) HA.out
      go_wp2
      go_ret
      exact ⟨by rw [HE.out]; rfl, rfl⟩
theorem in_is (n lo hi : Int) (R : Bool) (hR : R = true ↔ lo ≤ n ∧ n ≤ hi) (w : World) : Calls Tryz.prog 130 #[.int .i64 n, .int .i64 lo, .int .i64 hi] w fun e w' => e = .returned (.bool R) ∧ w' = w := by
  by_cases h1 : lo ≤ n
  · by_cases h2 : n ≤ hi
    · obtain rfl : R = true := hR.2 ⟨h1, h2⟩
      clear hR
      go_enter Tryz.func130, Tryz.ntmps130
      go_wp2
      go_ret
      exact ⟨rfl, rfl⟩
    · obtain rfl : R = false := ans_no hR (fun h => h2 h.2)
      clear hR
      go_enter Tryz.func130, Tryz.ntmps130
      go_wp2
      go_ret
      exact ⟨rfl, rfl⟩
  · obtain rfl : R = false := ans_no hR (fun h => h1 h.1)
    clear hR
    go_enter Tryz.func130, Tryz.ntmps130
    go_wp2
    go_ret
    exact ⟨rfl, rfl⟩
/-- The least that may come at k. -/
def loAt (lo : Int) (l : List Int) (k : Nat) (z : Int) : Prop := (k = 0 ∧ z = lo) ∨ (0 < k ∧ ∃ h : k - 1 < l.length, z = l[k - 1] + 1 ∧ lo ≤ z)
set_option maxHeartbeats 1000000 in
theorem rise_is {a : Option Addr} {g off cap : Nat} (l : List Int) (hlen : l.length ≤ 1048576) (lo hi : Int) (R : Bool) (hR : Mans.asc lo hi l = R) (w : World) (hf : IntAt w a g off l) :
    Calls Tryz.prog 234 #[.slice a l.length cap, .int .i64 lo, .int .i64 hi] w fun e w' => e = .returned (.bool R) ∧ Below w.heap.size w w' := by
  have HF : Hid (IntAt w a g off l) := hf
  have HR : Hid (Mans.asc lo hi l = R) := hR
  clear hf hR
  go_enter Tryz.func234, Tryz.ntmps234
  go_wp2
  go_loopw [7] (fun i wr => ∃ (k : Nat) (z : Int), k ≤ l.length ∧ i = .int .i64 (k : Int) ∧ loAt lo l k z ∧ Mans.asc z hi (l.drop k) = R ∧ Below w.heap.size w wr) (fun i _ => l.length - (intOf i).toNat)
  case atStart => exact ⟨0, lo, Nat.zero_le _, rfl, Or.inl ⟨rfl, rfl⟩, by rw [List.drop_zero]; exact HR.out, Below.refl _ _⟩
  case round =>
    obtain ⟨k, z, hk, rfl, hz, hasc, hbel⟩ := hrel
    have HA : Hid (Mans.asc z hi (l.drop k) = R) := hasc
    have HZ : Hid (loAt lo l k z) := hz
    clear hasc hz
    by_cases hlt : k < l.length
    · have hF := HF.out.kept hbel
      have c0 := hF.2 k hlt
      have ea := HF.out.1 (by omega)
      subst ea
      have hst := fun (p1 : z ≤ l[k]) (p2 : l[k] ≤ hi) => Mans.asc_step hlt HA.out p1 p2
      have hbd := fun (p : ¬ (z ≤ l[k] ∧ l[k] ≤ hi)) => Mans.asc_bad hlt HA.out p
      obtain ⟨X, hX⟩ : ∃ X, X = l[k] := ⟨_, rfl⟩
      have HX : Hid (X = l[k]) := hX
      rw [← hX] at c0 hst hbd
      have HST : Hid (z ≤ X → X ≤ hi → Mans.asc (X + 1) hi (l.drop (k + 1)) = R) := hst
      have HBD : Hid (¬ (z ≤ X ∧ X ≤ hi) → R = false) := hbd
      clear hX hst hbd
      have hk0 : (0 : Int) ≤ (k : Int) := by omega
      have hk1 : (k : Int) < (l.length : Int) := by omega
      by_cases hkz : k = 0
      · subst hkz
        have hzl : z = lo := by
          rcases HZ.out with ⟨_, h⟩ | ⟨h, _⟩
          · exact h
          · omega
        subst hzl
        rw [Nat.add_zero] at c0
        by_cases p : z ≤ X ∧ X ≤ hi
        · have HB : Hid (Mans.asc (X + 1) hi (l.drop (0 + 1)) = R) := HST.out p.1 p.2
          have HP : Hid (z ≤ X ∧ X ≤ hi) := p
          have HL : Hid (loAt z l 1 (X + 1)) := Or.inr ⟨by omega, hlt, by simp [HX.out], by omega⟩
          clear p
          go_wp2_with fail
          have NE := Abv.ne wr
          have C0 := fun x : Abv wr => x.cell c0
          refine wp_region_above (by kernel_rfl) (by kernel_rfl) ?_
          repeat (go_big_quiet_step (first | (go_at_call 130; exact calls_above_same ((in_is _ _ _ true (by simp [HP.out]) _).mono fun _ _ ⟨h1, h2⟩ => ⟨h1, h2.symm⟩))))
          refine wpQuiet_nil ?_
          rintro w1 ⟨⟨_, hb1⟩, rfl⟩
          clear NE C0
          go_wp2
          go_roundw
          case rel => exact ⟨1, X + 1, by omega, by go_num, HL.out, HB.out, hbel.trans (hb1.mono hbel.size)⟩
          case measure => simp [intOf]; omega
        · have HB : Hid (R = false) := HBD.out p
          have HP : Hid (¬ (z ≤ X ∧ X ≤ hi)) := p
          clear p
          go_wp2_with fail
          have NE := Abv.ne wr
          have C0 := fun x : Abv wr => x.cell c0
          refine wp_region_above (by kernel_rfl) (by kernel_rfl) ?_
          repeat (go_big_quiet_step (first | (go_at_call 130; exact calls_above_same ((in_is _ _ _ false (by simp only [Bool.false_eq_true, false_iff]; exact HP.out) _).mono fun _ _ ⟨h1, h2⟩ => ⟨h1, h2.symm⟩))))
          refine wpQuiet_nil ?_
          rintro w1 ⟨⟨_, hb1⟩, rfl⟩
          clear NE C0
          go_wp2
          go_ret
          exact ⟨by rw [HB.out]; rfl, hbel.trans (hb1.mono hbel.size)⟩
      · have hj : k - 1 < l.length := by omega
        obtain ⟨Y, hY⟩ : ∃ Y, Y = l[k - 1] := ⟨_, rfl⟩
        have d0 := hF.2 (k - 1) hj
        rw [← hY] at d0
        have hzl : z = Y + 1 ∧ lo ≤ z := by
          rcases HZ.out with ⟨h, _⟩ | ⟨_, _, h, h'⟩
          · exact absurd h hkz
          · exact ⟨by rw [h, hY], h'⟩
        obtain ⟨hz1, hz2⟩ := hzl
        subst hz1
        obtain ⟨j, hjk⟩ : ∃ j : Nat, k = j + 1 := ⟨k - 1, by omega⟩
        subst hjk
        have hw : IntKind.i64.wrap (((j + 1 : Nat) : Int) - 1) = (j : Int) := by rw [IntWalk.i64_in _ (by omega)]; omega
        have d1 : wr.cell? ⟨g, off + j, none⟩ = some (.int .i64 Y) := by simpa using d0
        clear hY d0 hF
        have hjp : decide ((0 : Int) < ((j + 1 : Nat) : Int)) = true := decide_eq_true (by omega)
        have hj1 : (j : Int) < (l.length : Int) := by omega
        have hj0 : (0 : Int) ≤ (j : Int) := by omega
        by_cases q : lo ≤ X ∧ X ≤ hi
        · have HQ : Hid (lo ≤ X ∧ X ≤ hi) := q
          by_cases p : X ≤ Y
          · have HB : Hid (R = false) := HBD.out (by omega)
            have hp : decide (X ≤ Y) = true := decide_eq_true p
            clear q
            go_wp2_with fail
            have NE := Abv.ne wr
            have C0 := fun x : Abv wr => x.cell c0
            have D0 := fun x : Abv wr => x.cell d1
            refine wp_region_above (by kernel_rfl) (by kernel_rfl) ?_
            repeat (go_big_quiet_step (first | (go_at_call 130; exact calls_above_same ((in_is _ _ _ true (by simp [HQ.out]) _).mono fun _ _ ⟨h1, h2⟩ => ⟨h1, h2.symm⟩))))
            refine wpQuiet_nil ?_
            rintro w1 ⟨⟨_, hb1⟩, rfl⟩
            clear NE C0 D0 hw
            go_wp2
            go_ret
            exact ⟨by rw [HB.out]; rfl, hbel.trans (hb1.mono hbel.size)⟩
          · have HB : Hid (Mans.asc (X + 1) hi (l.drop (j + 1 + 1)) = R) := HST.out (by omega) q.2
            have hp : decide (X ≤ Y) = false := decide_eq_false p
            have HL : Hid (loAt lo l (j + 1 + 1) (X + 1)) := Or.inr ⟨by omega, hlt, by simp [HX.out], by omega⟩
            clear q
            go_wp2_with fail
            have NE := Abv.ne wr
            have C0 := fun x : Abv wr => x.cell c0
            have D0 := fun x : Abv wr => x.cell d1
            refine wp_region_above (by kernel_rfl) (by kernel_rfl) ?_
            repeat (go_big_quiet_step (first | (go_at_call 130; exact calls_above_same ((in_is _ _ _ true (by simp [HQ.out]) _).mono fun _ _ ⟨h1, h2⟩ => ⟨h1, h2.symm⟩))))
            refine wpQuiet_nil ?_
            rintro w1 ⟨⟨_, hb1⟩, rfl⟩
            clear NE C0 D0 hw
            go_wp2
            go_roundw
            case rel => exact ⟨j + 1 + 1, X + 1, by omega, by go_num, HL.out, HB.out, hbel.trans (hb1.mono hbel.size)⟩
            case measure => simp [intOf]; omega
        · have HB : Hid (R = false) := HBD.out (by omega)
          have HQ : Hid (¬ (lo ≤ X ∧ X ≤ hi)) := q
          clear q
          go_wp2_with fail
          have NE := Abv.ne wr
          have C0 := fun x : Abv wr => x.cell c0
          have D0 := fun x : Abv wr => x.cell d1
          refine wp_region_above (by kernel_rfl) (by kernel_rfl) ?_
          repeat (go_big_quiet_step (first | (go_at_call 130; exact calls_above_same ((in_is _ _ _ false (by simp only [Bool.false_eq_true, false_iff]; exact HQ.out) _).mono fun _ _ ⟨h1, h2⟩ => ⟨h1, h2.symm⟩))))
          refine wpQuiet_nil ?_
          rintro w1 ⟨⟨_, hb1⟩, rfl⟩
          clear NE C0 D0 hw
          go_wp2
          go_ret
          exact ⟨by rw [HB.out]; rfl, hbel.trans (hb1.mono hbel.size)⟩
    · have hk1 : ¬ (k : Int) < (l.length : Int) := by omega
      have HE : Hid (R = true) := Mans.asc_end (by omega) HA.out
      go_wp2
      go_ret
      exact ⟨by rw [HE.out]; rfl, hbel⟩
end Go.Proofs.YtbcfiiilikkkeaaGreatDoor
namespace Go.Proofs.YtbcfiiilikkkeaaGreatDoor
open Go.RowKit
set_option linter.unusedVariables false

set_option maxHeartbeats 1000000 in
theorem implConf_is {a : Option Addr} {g off cap : Nat} (l : List Int) (hlen : l.length ≤ 1048576) (R : Bool) (hR : Mans.confOk l = R) (w : World) (hf : IntAt w a g off l) :
    Calls Tryz.prog 232 #[.slice a l.length cap] w fun e w' => e = .returned (.bool R) ∧ w = w' := by
  have HF : Hid (IntAt w a g off l) := hf
  by_cases h1 : 1 ≤ l.length
  · by_cases h2 : l.length ≤ 4
    · have HR : Hid (Mans.asc 1 4 l = R) := by show _ = _; rw [← hR]; simp [Mans.confOk, h1, h2]
      have a1 : (1 : Int) ≤ (l.length : Int) := by omega
      have a2 : (l.length : Int) ≤ 4 := by omega
      clear hf hR
      go_enter Tryz.func232, Tryz.ntmps232
      go_wp2_with (go_at_call 231; refine (ascend_is l hlen 1 4 (by omega) (by omega) R HR.out _ HF.out).mono ?_; rintro e w1 ⟨rfl, rfl⟩)
      go_ret
      exact ⟨rfl, rfl⟩
    · have HR : Hid (R = false) := by show _ = _; rw [← hR]; simp [Mans.confOk, h2]
      have a1 : (1 : Int) ≤ (l.length : Int) := by omega
      have a2 : ¬ (l.length : Int) ≤ 4 := by omega
      clear hf hR
      go_enter Tryz.func232, Tryz.ntmps232
      go_wp2
      go_ret
      exact ⟨by rw [HR.out]; rfl, rfl⟩
  · have HR : Hid (R = false) := by show _ = _; rw [← hR]; simp only [Mans.confOk, h1]; rfl
    have a1 : ¬ (1 : Int) ≤ (l.length : Int) := by omega
    clear hf hR
    go_enter Tryz.func232, Tryz.ntmps232
    go_wp2
    go_ret
    exact ⟨by rw [HR.out]; rfl, rfl⟩
set_option maxHeartbeats 1000000 in
theorem specConf_is {a : Option Addr} {g off cap : Nat} (l : List Int) (hlen : l.length ≤ 1048576) (R : Bool) (hR : Mans.confOk l = R) (w : World) (hf : IntAt w a g off l) :
    Calls Tryz.prog 235 #[.slice a l.length cap] w fun e w' => e = .returned (.bool R) ∧ Below w.heap.size w w' := by
  have HF : Hid (IntAt w a g off l) := hf
  by_cases h1 : 1 ≤ l.length ∧ l.length ≤ 4
  · have HR : Hid (Mans.asc 1 4 l = R) := by show _ = _; rw [← hR]; simp [Mans.confOk, h1]
    clear hf hR
    go_enter Tryz.func235, Tryz.ntmps235
    go_wp2_with (first | (go_at_call 130; refine (in_is _ _ _ true (by simp; omega) _).mono ?_; rintro e w0 ⟨rfl, rfl⟩) | (go_at_call 234; refine (rise_is l hlen 1 4 R HR.out _ HF.out).mono ?_; rintro e w1 ⟨rfl, hb1⟩))
    go_ret
    exact ⟨rfl, hb1⟩
  · have HR : Hid (R = false) := by
      show _ = _
      rw [← hR]
      cases hq : Mans.confOk l with
      | false => rfl
      | true => exact absurd (Mans.confOk_iff.1 hq).1 h1
    clear hf hR
    go_enter Tryz.func235, Tryz.ntmps235
    go_wp2_with (first | (go_at_call 130; refine (in_is _ _ _ false (by simp; omega) _).mono ?_; rintro e w0 ⟨rfl, rfl⟩))
    go_ret
    exact ⟨by rw [HR.out]; rfl, Below.refl _ _⟩
end Go.Proofs.YtbcfiiilikkkeaaGreatDoor
namespace Go.Proofs.YtbcfiiilikkkeaaGreatDoor
open Go.RowKit
set_option linter.unusedVariables false

def five (n a b c m : Int) : Prop := (1 ≤ n ∧ n ≤ 8) ∧ (0 ≤ a ∧ a ≤ 1000) ∧ (0 ≤ b ∧ b ≤ 100000) ∧ (0 ≤ c ∧ c ≤ 100000) ∧ (1 ≤ m ∧ m ≤ 4)
set_option maxHeartbeats 4000000 in
set_option maxRecDepth 100000 in
theorem wordsOk_is (n a b c m : Int) (R : Bool) (hR : R = true ↔ five n a b c m) (w : World) : Calls Tryz.prog 230 #[.agg #[.int .i64 n, .int .i64 a, .int .i64 b, .int .i64 c, .int .i64 m]] w fun e w' => e = .returned (.bool R) ∧ Below w.heap.size w w' := by
  have i0 : ∀ wx, (Instr.index 227 (.agg #[.int .i64 n, .int .i64 a, .int .i64 b, .int .i64 c, .int .i64 m]) (.int .i64 0)).run Tryz.prog wx = .ok (.int .i64 n) wx := fun wx => by kernel_rfl
  have i1 : ∀ wx, (Instr.index 227 (.agg #[.int .i64 n, .int .i64 a, .int .i64 b, .int .i64 c, .int .i64 m]) (.int .i64 1)).run Tryz.prog wx = .ok (.int .i64 a) wx := fun wx => by kernel_rfl
  have i2 : ∀ wx, (Instr.index 227 (.agg #[.int .i64 n, .int .i64 a, .int .i64 b, .int .i64 c, .int .i64 m]) (.int .i64 2)).run Tryz.prog wx = .ok (.int .i64 b) wx := fun wx => by kernel_rfl
  have i3 : ∀ wx, (Instr.index 227 (.agg #[.int .i64 n, .int .i64 a, .int .i64 b, .int .i64 c, .int .i64 m]) (.int .i64 3)).run Tryz.prog wx = .ok (.int .i64 c) wx := fun wx => by kernel_rfl
  have i4 : ∀ wx, (Instr.index 227 (.agg #[.int .i64 n, .int .i64 a, .int .i64 b, .int .i64 c, .int .i64 m]) (.int .i64 4)).run Tryz.prog wx = .ok (.int .i64 m) wx := fun wx => by kernel_rfl
  have HR : Hid (R = true ↔ five n a b c m) := hR
  clear hR
  go_enter Tryz.func230, Tryz.ntmps230
  go_wp2
  refine wp_loop_rounds 6 ?_
  rw [rounds_succ]
  go_wp2
  iterate 6
    all_goals try (rw [rounds_succ]; go_wp2)
  all_goals
    go_ret
    first
    | exact ⟨by rw [show R = false from ans_no HR.out (by unfold five; omega)]; rfl, (((Below.refl _ _).alloc (Nat.le_refl _) _).alloc (by simp) _).alloc (by simp; omega) _⟩
    | exact ⟨by rw [show R = true from HR.out.2 (by unfold five; omega)]; rfl, (((Below.refl _ _).alloc (Nat.le_refl _) _).alloc (by simp) _).alloc (by simp; omega) _⟩
set_option maxHeartbeats 1000000 in
theorem wordsOf_is (n k : Nat) (a : Option Addr) (x y z : Int) (b : Option Addr) (c1 c2 : Nat) (w : World) : Calls Tryz.prog 229 #[.agg #[.slice a n c1, .int .i64 x, .int .i64 y, .int .i64 z, .slice b k c2]] w fun e w' => e = .returned (.agg #[.int .i64 n, .int .i64 x, .int .i64 y, .int .i64 z, .int .i64 k]) ∧ Below w.heap.size w w' := by
  go_enter Tryz.func229, Tryz.ntmps229
  go_wp2
  refine bodyPost_ret (v := .agg #[.int .i64 n, .int .i64 x, .int .i64 y, .int .i64 z, .int .i64 k]) (by simp [results, Tryz.results229, go_sem]) rfl ⟨rfl, ?_⟩
  exact ((Below.refl _ _).alloc (Nat.le_refl _) _).alloc (by simp) _
end Go.Proofs.YtbcfiiilikkkeaaGreatDoor
