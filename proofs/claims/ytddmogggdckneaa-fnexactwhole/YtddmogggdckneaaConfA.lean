/- Lists of ints in memory; measured, copied, held against each other, marked. The calls of both ConfOk, of l07Rise and ascendWithin, and the exact law of ConfOk, walked. The calls of both ConfOk and the exact law of ConfOk, walked. The specification's ConfText, ReadConf and Most, walked. The specification's EntryOk and EntryText, walked. -/
import Derived.Test.YtddmogggdckneaaMathB
import Derived.Test.YtddmogggdckneaaKit
import Derived.Laws.AppendOwnNone
import Derived.Deep.DeepCutAuto
import Derived.Deep.RegionHeld3
namespace Go.Proofs.Ytddmogggdckneaa
section
open Go.RowKit
set_option linter.unusedVariables false
set_option linter.unusedSimpArgs false

/-- A slice at a whose elements are these. -/
def IntAt (w : World) (a : Option Addr) (g off : Nat) (l : List Int) : Prop :=
  (0 < l.length → a = some ⟨g, off, none⟩) ∧ ∀ j (hj : j < l.length), w.cell? ⟨g, off + j, none⟩ = some (.int .i64 l[j])
theorem IntAt.lt {w : World} {a : Option Addr} {g off : Nat} {l : List Int} (h : IntAt w a g off l) (hl : 0 < l.length) : g < w.heap.size := World.block_lt_of_cell? w _ (h.2 0 hl)
theorem IntAt.kept {w w' : World} {a : Option Addr} {g off : Nat} {l : List Int} (h : IntAt w a g off l) (hb : Below w.heap.size w w') : IntAt w' a g off l := by
  refine ⟨h.1, fun j hj => ?_⟩
  have hg := h.lt (by omega)
  rw [hb.cell (p := ⟨g, off + j, none⟩) hg]
  exact h.2 j hj
theorem IntAt.nil (w : World) : IntAt w none 0 0 [] := by
  refine ⟨fun h => ?_, fun j hj => ?_⟩
  · simp at h
  · simp at hj
def cellsI (l : List Int) : List Value := l.map fun n => .int .i64 n
theorem cellsI_app (l m : List Int) : cellsI (l ++ m) = cellsI l ++ cellsI m := by simp [cellsI]
theorem cellsI_len (l : List Int) : (cellsI l).length = l.length := by simp [cellsI]
theorem cellsI_at (l : List Int) (j : Nat) (hj : j < l.length) : (cellsI l)[j]? = some (.int .i64 l[j]) := by simp [cellsI, hj]
theorem cellsI_set (l : List Int) (j : Nat) (x : Int) : cellsI (l.set j x) = (cellsI l).set j (.int .i64 x) := by simp [cellsI, List.map_set]
theorem ownI_snoc {w : World} {base : Nat} {v : Value} {pre : List Int} {c : Int} (h : w.ownsRow base 3 1 v (pre.length + 1) (cellsI pre ++ [.int .i64 c])) :
    w.ownsRow base 3 1 v (pre ++ [c]).length (cellsI (pre ++ [c])) := by
  rw [cellsI_app, List.length_append]; exact h
theorem cellsI_own {w : World} {base : Nat} {g n cap : Nat} {l : List Int} (hn : l.length = n) (h : w.ownsRow base 3 1 (.slice (some ⟨g, 0, none⟩) n cap) n (cellsI l)) : IntAt w (some ⟨g, 0, none⟩) g 0 l := by
  refine ⟨fun _ => rfl, fun j hj => ?_⟩
  rw [Nat.zero_add, h.cellAt j (by omega)]
  exact cellsI_at l j hj
theorem cellsI_slice {w : World} {base : Nat} {v : Value} {l : List Int} (h : w.ownsRow base 3 1 v l.length (cellsI l)) : ∃ a g cap, v = .slice a l.length cap ∧ IntAt w a g 0 l := by
  rcases h.2 with ⟨h1, h2⟩ | ⟨g, cap, cur, h1, _⟩
  · exact ⟨none, 0, 0, by rw [h1, h2], fun q => by omega, fun j hj => by omega⟩
  · subst h1; exact ⟨_, g, cap, rfl, cellsI_own rfl h⟩
theorem madeI (n : Nat) : (madeCells #[Value.int .i64 0] n).toList = cellsI (List.replicate n 0) := by
  simp only [madeCells, cellsI, Array.toList_map, Array.toList_range, List.map_replicate]
  apply List.ext_getElem
  · simp
  · intro i h1 h2
    simp [Nat.mod_one]
theorem Try.info3 : (Try.prog.info? 3).map (fun i => (i.zero, i.size, i.bytes)) = some (some (.int .i64 0), 1, 8) := by kernel_rfl
theorem own_cell_ex {w : World} {B : Nat} {t : TypeId} {k g n cap q : Nat} {xs : List Value} (h : w.ownsRow B t k (.slice (some ⟨g, 0, none⟩) n cap) n xs) (hq : q < n * k) (hx : xs.length = n * k) : ∃ u, w.cell? ⟨g, q, none⟩ = some u := by
  rw [h.cellAt q hq, List.getElem?_eq_getElem (by omega)]
  exact ⟨_, rfl⟩

/-- Marked ones: from k on. -/
def marksI (k n : Nat) : List Int := (List.range n).map fun i => ((k + i : Nat) : Int)
theorem marksI_len (k n : Nat) : (marksI k n).length = n := by simp [marksI]
theorem marksI_at (k n j : Nat) (hj : j < (marksI k n).length) : (marksI k n)[j] = ((k + j : Nat) : Int) := by simp [marksI]
end
section
open Go.RowKit
set_option linter.unusedVariables false

set_option maxHeartbeats 1000000 in
theorem ascend_is {a : Option Addr} {g off cap : Nat} (l : List Int) (hlen : l.length ≤ 1048576) (lo hi : Int) (h0 : -1000000 ≤ lo ∧ lo ≤ 1000000) (h1 : -1000000 ≤ hi ∧ hi ≤ 1000000) (R : Bool) (hR : Mans.asc lo hi l = R) (w : World) (hf : IntAt w a g off l) :
    Calls Try.prog 89 #[.slice a l.length cap, .int .i64 lo, .int .i64 hi] w fun e w' => e = .returned (.bool R) ∧ w = w' := by
  have HF : Hid (IntAt w a g off l) := hf
  have HR : Hid (Mans.asc lo hi l = R) := hR
  clear hf hR
  go_enter Try.func89, Try.ntmps89
  go_wp2
  go_loopw [1, 11] (fun x i wr => ∃ (k : Nat) (z : Int), k ≤ l.length ∧ i = .int .i64 (k : Int) ∧ x = .int .i64 z ∧ (-1000000 ≤ z ∧ z ≤ 1000001) ∧ Mans.asc z hi (l.drop k) = R ∧ w = wr) (fun _ i _ => l.length - (intOf i).toNat)
  case atStart => exact ⟨0, lo, Nat.zero_le _, rfl, rfl, ⟨by omega, by omega⟩, by rw [List.drop_zero]; exact HR.out, rfl⟩
  case round =>
    obtain ⟨k, z, hk, rfl, rfl, hz, hasc, rfl⟩ := hrel
    have HA : Hid (Mans.asc z hi (l.drop k) = R) := hasc
    clear hasc
    by_cases hlt : k < l.length
    · have c0 := HF.out.2 k hlt
      have ea := HF.out.1 (by omega)
      subst ea
      have hst := fun (p1 : z ≤ l[k]) (p2 : l[k] ≤ hi) => Mans.asc_step hlt HA.out p1 p2
      have hbd := fun (p : ¬ (z ≤ l[k] ∧ l[k] ≤ hi)) => Mans.asc_bad hlt HA.out p
      obtain ⟨X, hX⟩ : ∃ X, X = l[k] := ⟨_, rfl⟩
      rw [← hX] at c0 hst hbd
      have HST : Hid (z ≤ X → X ≤ hi → Mans.asc (X + 1) hi (l.drop (k + 1)) = R) := hst
      have HBD : Hid (¬ (z ≤ X ∧ X ≤ hi) → R = false) := hbd
      clear hX hst hbd
      have hk0 : (0 : Int) ≤ (k : Int) := by omega
      have hk1 : (k : Int) < (l.length : Int) := by omega
      by_cases p1 : X < z
      · have HB : Hid (R = false) := HBD.out (by omega)
        go_wp2
        go_ret
        exact ⟨by rw [HB.out]; rfl, rfl⟩
      · by_cases p2 : hi < X
        · have HB : Hid (R = false) := HBD.out (by omega)
          go_wp2
          go_ret
          exact ⟨by rw [HB.out]; rfl, rfl⟩
        · have HB : Hid (Mans.asc (X + 1) hi (l.drop (k + 1)) = R) := HST.out (by omega) (by omega)
          go_wp2
          go_roundw
          case rel => exact ⟨k + 1, X + 1, by omega, by go_num, by go_num, ⟨by omega, by omega⟩, HB.out, trivial⟩
          case measure => simp [intOf]; omega
    · have hk1 : ¬ (k : Int) < (l.length : Int) := by omega
      have HE : Hid (R = true) := Mans.asc_end (by omega) HA.out
      go_wp2
      go_ret
      exact ⟨by rw [HE.out]; rfl, rfl⟩
theorem in_is (n lo hi : Int) (R : Bool) (hR : R = true ↔ lo ≤ n ∧ n ≤ hi) (w : World) : Calls Try.prog 65 #[.int .i64 n, .int .i64 lo, .int .i64 hi] w fun e w' => e = .returned (.bool R) ∧ w' = w := by
  by_cases h1 : lo ≤ n
  · by_cases h2 : n ≤ hi
    · obtain rfl : R = true := hR.2 ⟨h1, h2⟩
      clear hR
      go_enter Try.func65, Try.ntmps65
      go_wp2
      go_ret
      exact ⟨rfl, rfl⟩
    · obtain rfl : R = false := ans_no hR (fun h => h2 h.2)
      clear hR
      go_enter Try.func65, Try.ntmps65
      go_wp2
      go_ret
      exact ⟨rfl, rfl⟩
  · obtain rfl : R = false := ans_no hR (fun h => h1 h.1)
    clear hR
    go_enter Try.func65, Try.ntmps65
    go_wp2
    go_ret
    exact ⟨rfl, rfl⟩
/-- The least that may come at k. -/
def loAt (lo : Int) (l : List Int) (k : Nat) (z : Int) : Prop := (k = 0 ∧ z = lo) ∨ (0 < k ∧ ∃ h : k - 1 < l.length, z = l[k - 1] + 1 ∧ lo ≤ z)
set_option maxHeartbeats 1000000 in
theorem rise_is {a : Option Addr} {g off cap : Nat} (l : List Int) (hlen : l.length ≤ 1048576) (lo hi : Int) (R : Bool) (hR : Mans.asc lo hi l = R) (w : World) (hf : IntAt w a g off l) :
    Calls Try.prog 86 #[.slice a l.length cap, .int .i64 lo, .int .i64 hi] w fun e w' => e = .returned (.bool R) ∧ Below w.heap.size w w' := by
  have HF : Hid (IntAt w a g off l) := hf
  have HR : Hid (Mans.asc lo hi l = R) := hR
  clear hf hR
  go_enter Try.func86, Try.ntmps86
  go_wp2
  go_loopw [7] (fun i wr => ∃ (k : Nat) (z : Int), k ≤ l.length ∧ i = .int .i64 (k : Int) ∧ loAt lo l k z ∧ Mans.asc z hi (l.drop k) = R ∧ Below w.heap.size w wr) (fun i _ => l.length - (intOf i).toNat)
  case atStart => exact ⟨0, lo, Nat.zero_le _, rfl, Or.inl ⟨rfl, rfl⟩, by rw [List.drop_zero]; exact HR.out, Below.refl _ _⟩
  case round =>
    obtain ⟨k, z, hk, rfl, hz, hasc, hbel⟩ := hrel
    have HA : Hid (Mans.asc z hi (l.drop k) = R) := hasc
    have HZ : Hid (loAt lo l k z) := hz
    clear hasc hz
    by_cases hlt : k < l.length
    · have hF := HF.out.kept hbel
      have c0 := hF.2 k hlt
      have ea := HF.out.1 (by omega)
      subst ea
      have hst := fun (p1 : z ≤ l[k]) (p2 : l[k] ≤ hi) => Mans.asc_step hlt HA.out p1 p2
      have hbd := fun (p : ¬ (z ≤ l[k] ∧ l[k] ≤ hi)) => Mans.asc_bad hlt HA.out p
      obtain ⟨X, hX⟩ : ∃ X, X = l[k] := ⟨_, rfl⟩
      have HX : Hid (X = l[k]) := hX
      rw [← hX] at c0 hst hbd
      have HST : Hid (z ≤ X → X ≤ hi → Mans.asc (X + 1) hi (l.drop (k + 1)) = R) := hst
      have HBD : Hid (¬ (z ≤ X ∧ X ≤ hi) → R = false) := hbd
      clear hX hst hbd
      have hk0 : (0 : Int) ≤ (k : Int) := by omega
      have hk1 : (k : Int) < (l.length : Int) := by omega
      by_cases hkz : k = 0
      · subst hkz
        have hzl : z = lo := by
          rcases HZ.out with ⟨_, h⟩ | ⟨h, _⟩
          · exact h
          · omega
        subst hzl
        rw [Nat.add_zero] at c0
        by_cases p : z ≤ X ∧ X ≤ hi
        · have HB : Hid (Mans.asc (X + 1) hi (l.drop (0 + 1)) = R) := HST.out p.1 p.2
          have HP : Hid (z ≤ X ∧ X ≤ hi) := p
          have HL : Hid (loAt z l 1 (X + 1)) := Or.inr ⟨by omega, hlt, by simp [HX.out], by omega⟩
          clear p
          go_wp2_with fail
          have NE := Abv.ne wr
          have C0 := fun x : Abv wr => x.cell c0
          refine wp_region_above (by kernel_rfl) (by kernel_rfl) ?_
          repeat (go_big_quiet_step (first | (go_at_call 65; exact calls_above_same ((in_is _ _ _ true (by simp [HP.out]) _).mono fun _ _ ⟨h1, h2⟩ => ⟨h1, h2.symm⟩))))
          refine wpQuiet_nil ?_
          rintro w1 ⟨⟨_, hb1⟩, rfl⟩
          clear NE C0
          go_wp2
          go_roundw
          case rel => exact ⟨1, X + 1, by omega, by go_num, HL.out, HB.out, hbel.trans (hb1.mono hbel.size)⟩
          case measure => simp [intOf]; omega
        · have HB : Hid (R = false) := HBD.out p
          have HP : Hid (¬ (z ≤ X ∧ X ≤ hi)) := p
          clear p
          go_wp2_with fail
          have NE := Abv.ne wr
          have C0 := fun x : Abv wr => x.cell c0
          refine wp_region_above (by kernel_rfl) (by kernel_rfl) ?_
          repeat (go_big_quiet_step (first | (go_at_call 65; exact calls_above_same ((in_is _ _ _ false (by simp only [Bool.false_eq_true, false_iff]; exact HP.out) _).mono fun _ _ ⟨h1, h2⟩ => ⟨h1, h2.symm⟩))))
          refine wpQuiet_nil ?_
          rintro w1 ⟨⟨_, hb1⟩, rfl⟩
          clear NE C0
          go_wp2
          go_ret
          exact ⟨by rw [HB.out]; rfl, hbel.trans (hb1.mono hbel.size)⟩
      · have hj : k - 1 < l.length := by omega
        obtain ⟨Y, hY⟩ : ∃ Y, Y = l[k - 1] := ⟨_, rfl⟩
        have d0 := hF.2 (k - 1) hj
        rw [← hY] at d0
        have hzl : z = Y + 1 ∧ lo ≤ z := by
          rcases HZ.out with ⟨h, _⟩ | ⟨_, _, h, h'⟩
          · exact absurd h hkz
          · exact ⟨by rw [h, hY], h'⟩
        obtain ⟨hz1, hz2⟩ := hzl
        subst hz1
        obtain ⟨j, hjk⟩ : ∃ j : Nat, k = j + 1 := ⟨k - 1, by omega⟩
        subst hjk
        have hw : IntKind.i64.wrap (((j + 1 : Nat) : Int) - 1) = (j : Int) := by rw [IntWalk.i64_in _ (by omega)]; omega
        have d1 : wr.cell? ⟨g, off + j, none⟩ = some (.int .i64 Y) := by simpa using d0
        clear hY d0 hF
        have hjp : decide ((0 : Int) < ((j + 1 : Nat) : Int)) = true := decide_eq_true (by omega)
        have hj1 : (j : Int) < (l.length : Int) := by omega
        have hj0 : (0 : Int) ≤ (j : Int) := by omega
        by_cases q : lo ≤ X ∧ X ≤ hi
        · have HQ : Hid (lo ≤ X ∧ X ≤ hi) := q
          by_cases p : X ≤ Y
          · have HB : Hid (R = false) := HBD.out (by omega)
            have hp : decide (X ≤ Y) = true := decide_eq_true p
            clear q
            go_wp2_with fail
            have NE := Abv.ne wr
            have C0 := fun x : Abv wr => x.cell c0
            have D0 := fun x : Abv wr => x.cell d1
            refine wp_region_above (by kernel_rfl) (by kernel_rfl) ?_
            repeat (go_big_quiet_step (first | (go_at_call 65; exact calls_above_same ((in_is _ _ _ true (by simp [HQ.out]) _).mono fun _ _ ⟨h1, h2⟩ => ⟨h1, h2.symm⟩))))
            refine wpQuiet_nil ?_
            rintro w1 ⟨⟨_, hb1⟩, rfl⟩
            clear NE C0 D0 hw
            go_wp2
            go_ret
            exact ⟨by rw [HB.out]; rfl, hbel.trans (hb1.mono hbel.size)⟩
          · have HB : Hid (Mans.asc (X + 1) hi (l.drop (j + 1 + 1)) = R) := HST.out (by omega) q.2
            have hp : decide (X ≤ Y) = false := decide_eq_false p
            have HL : Hid (loAt lo l (j + 1 + 1) (X + 1)) := Or.inr ⟨by omega, hlt, by simp [HX.out], by omega⟩
            clear q
            go_wp2_with fail
            have NE := Abv.ne wr
            have C0 := fun x : Abv wr => x.cell c0
            have D0 := fun x : Abv wr => x.cell d1
            refine wp_region_above (by kernel_rfl) (by kernel_rfl) ?_
            repeat (go_big_quiet_step (first | (go_at_call 65; exact calls_above_same ((in_is _ _ _ true (by simp [HQ.out]) _).mono fun _ _ ⟨h1, h2⟩ => ⟨h1, h2.symm⟩))))
            refine wpQuiet_nil ?_
            rintro w1 ⟨⟨_, hb1⟩, rfl⟩
            clear NE C0 D0 hw
            go_wp2
            go_roundw
            case rel => exact ⟨j + 1 + 1, X + 1, by omega, by go_num, HL.out, HB.out, hbel.trans (hb1.mono hbel.size)⟩
            case measure => simp [intOf]; omega
        · have HB : Hid (R = false) := HBD.out (by omega)
          have HQ : Hid (¬ (lo ≤ X ∧ X ≤ hi)) := q
          clear q
          go_wp2_with fail
          have NE := Abv.ne wr
          have C0 := fun x : Abv wr => x.cell c0
          have D0 := fun x : Abv wr => x.cell d1
          refine wp_region_above (by kernel_rfl) (by kernel_rfl) ?_
          repeat (go_big_quiet_step (first | (go_at_call 65; exact calls_above_same ((in_is _ _ _ false (by simp only [Bool.false_eq_true, false_iff]; exact HQ.out) _).mono fun _ _ ⟨h1, h2⟩ => ⟨h1, h2.symm⟩))))
          refine wpQuiet_nil ?_
          rintro w1 ⟨⟨_, hb1⟩, rfl⟩
          clear NE C0 D0 hw
          go_wp2
          go_ret
          exact ⟨by rw [HB.out]; rfl, hbel.trans (hb1.mono hbel.size)⟩
    · have hk1 : ¬ (k : Int) < (l.length : Int) := by omega
      have HE : Hid (R = true) := Mans.asc_end (by omega) HA.out
      go_wp2
      go_ret
      exact ⟨by rw [HE.out]; rfl, hbel⟩
end
section
open Go.RowKit
set_option linter.unusedVariables false

set_option maxHeartbeats 1000000 in
theorem implConf_is {a : Option Addr} {g off cap : Nat} (l : List Int) (hlen : l.length ≤ 1048576) (R : Bool) (hR : Mans.confOk l = R) (w : World) (hf : IntAt w a g off l) :
    Calls Try.prog 88 #[.slice a l.length cap] w fun e w' => e = .returned (.bool R) ∧ w = w' := by
  have HF : Hid (IntAt w a g off l) := hf
  by_cases h1 : 1 ≤ l.length
  · by_cases h2 : l.length ≤ 4
    · have HR : Hid (Mans.asc 1 4 l = R) := by show _ = _; rw [← hR]; simp [Mans.confOk, h1, h2]
      have a1 : (1 : Int) ≤ (l.length : Int) := by omega
      have a2 : (l.length : Int) ≤ 4 := by omega
      clear hf hR
      go_enter Try.func88, Try.ntmps88
      go_wp2_with (go_at_call 89; refine (ascend_is l hlen 1 4 (by omega) (by omega) R HR.out _ HF.out).mono ?_; rintro e w1 ⟨rfl, rfl⟩)
      go_ret
      exact ⟨rfl, rfl⟩
    · have HR : Hid (R = false) := by show _ = _; rw [← hR]; simp [Mans.confOk, h2]
      have a1 : (1 : Int) ≤ (l.length : Int) := by omega
      have a2 : ¬ (l.length : Int) ≤ 4 := by omega
      clear hf hR
      go_enter Try.func88, Try.ntmps88
      go_wp2
      go_ret
      exact ⟨by rw [HR.out]; rfl, rfl⟩
  · have HR : Hid (R = false) := by show _ = _; rw [← hR]; simp only [Mans.confOk, h1]; rfl
    have a1 : ¬ (1 : Int) ≤ (l.length : Int) := by omega
    clear hf hR
    go_enter Try.func88, Try.ntmps88
    go_wp2
    go_ret
    exact ⟨by rw [HR.out]; rfl, rfl⟩
set_option maxHeartbeats 1000000 in
theorem specConf_is {a : Option Addr} {g off cap : Nat} (l : List Int) (hlen : l.length ≤ 1048576) (R : Bool) (hR : Mans.confOk l = R) (w : World) (hf : IntAt w a g off l) :
    Calls Try.prog 84 #[.slice a l.length cap] w fun e w' => e = .returned (.bool R) ∧ Below w.heap.size w w' := by
  have HF : Hid (IntAt w a g off l) := hf
  by_cases h1 : 1 ≤ l.length ∧ l.length ≤ 4
  · have HR : Hid (Mans.asc 1 4 l = R) := by show _ = _; rw [← hR]; simp [Mans.confOk, h1]
    clear hf hR
    go_enter Try.func84, Try.ntmps84
    go_wp2_with (first | (go_at_call 65; refine (in_is _ _ _ true (by simp; omega) _).mono ?_; rintro e w0 ⟨rfl, rfl⟩) | (go_at_call 86; refine (rise_is l hlen 1 4 R HR.out _ HF.out).mono ?_; rintro e w1 ⟨rfl, hb1⟩))
    go_ret
    exact ⟨rfl, hb1⟩
  · have HR : Hid (R = false) := by
      show _ = _
      rw [← hR]
      cases hq : Mans.confOk l with
      | false => rfl
      | true => exact absurd (Mans.confOk_iff.1 hq).1 h1
    clear hf hR
    go_enter Try.func84, Try.ntmps84
    go_wp2_with (first | (go_at_call 65; refine (in_is _ _ _ false (by simp; omega) _).mono ?_; rintro e w0 ⟨rfl, rfl⟩))
    go_ret
    exact ⟨by rw [HR.out]; rfl, Below.refl _ _⟩
end
section
open Go.RowKit
open Ents (confB confS confOf readC)
set_option linter.unusedVariables false
set_option linter.unusedSimpArgs false

theorem confB_take {l : List Int} {k : Nat} (h : k < l.length) : confB (l.take (k + 1)) = confB (l.take k) ++ [UInt8.ofNat l[k].toNat] := by
  unfold confB
  rw [List.take_succ_eq_append_getElem h, List.map_append]; rfl
def confTuple (l : List Int) : Value := if Mans.confOk l = true then .tuple #[.string (confS l), .bool true] else .tuple #[.string ⟨#[]⟩, .bool false]
/-- What ReadConf answers. -/
def RCIs (t : ByteArray) (l : List Int) (R : Bool) : Prop := (readC t = some l ∧ R = true) ∨ (readC t = none ∧ l = [] ∧ R = false)
theorem rc_ex (t : ByteArray) : ∃ l R, RCIs t l R := by
  cases h : readC t with
  | none => exact ⟨_, _, Or.inr ⟨h, rfl, rfl⟩⟩
  | some l => exact ⟨l, _, Or.inl ⟨h, rfl⟩⟩
def RCPost (w : World) (l : List Int) (R : Bool) (e : Ending) (w' : World) : Prop := ∃ v, e = .returned (.tuple #[v, .bool R]) ∧ w'.ownsRow w.heap.size 3 1 v l.length (cellsI l) ∧ Below w.heap.size w w'
theorem confOf_take {t : ByteArray} {k : Nat} (h : k < t.size) : (confOf t).take (k + 1) = (confOf t).take k ++ [(t[k].toNat : Int)] := by
  have h' : k < (confOf t).length := by rw [Ents.confOf_len]; exact h
  rw [List.take_succ_eq_append_getElem h']
  have e : (confOf t)[k] = (t[k].toNat : Int) := by simp [confOf, Batches.by_]; rfl
  rw [e]
theorem wrap_byte (b : UInt8) : wrap64 ((b.toNat : Nat) : Int) = ((b.toNat : Nat) : Int) := by
  have := b.toNat_lt
  unfold wrap64; omega
set_option maxHeartbeats 2000000 in
set_option maxRecDepth 100000 in
theorem specReadConf_is (t : ByteArray) (hs : t.size ≤ 1048576) (l : List Int) (R : Bool) (hRC : RCIs t l R) (w : World) :
    Calls Try.prog 81 #[.string t] w (RCPost w l R) := by
  obtain ⟨i0, hi, hz0, hz1, hz2⟩ := info_parts Try.info3
  have HRC : Hid (RCIs t l R) := hRC
  have ho := World.ownsRow_made (base := w.heap.size) (e := 3) (size := 1) w #[] 0 (Nat.le_refl _) (by unfold maxLen; omega) rfl
  have HO : Hid ((w.alloc (Obj.cells #[] 3)).ownsRow w.heap.size 3 1 (.slice (some ⟨w.heap.size, 0, none⟩) 0 0) ((confOf t).take 0).length (cellsI ((confOf t).take 0))) := ho
  have HB2 : Hid (Below w.heap.size w (w.alloc (Obj.cells #[] 3))) := (Below.refl _ _).alloc (Nat.le_refl _) _
  clear hRC ho
  go_enter Try.func81, Try.ntmps81
  go_wp2_with fail
  go_loopw [4, 5] (fun v i wr => ∃ k : Nat, k ≤ t.size ∧ k ≤ 5 ∧ i = .int .i64 (k : Int) ∧ Hid (wr.ownsRow w.heap.size 3 1 v ((confOf t).take k).length (cellsI ((confOf t).take k))) ∧ Hid (Below w.heap.size w wr))
    (fun _ i _ => 5 - (intOf i).toNat)
  case atStart => exact ⟨0, Nat.zero_le _, Nat.zero_le _, rfl, HO, HB2⟩
  case round =>
    clear HO HB2
    obtain ⟨k, hk, hk5, rfl, HOW, HBW⟩ := hrel
    obtain ⟨pre, hpre⟩ : ∃ pre, pre = (confOf t).take k := ⟨_, rfl⟩
    have HPR : Hid (pre = (confOf t).take k) := hpre
    have hpl : pre.length = k := by rw [hpre, List.length_take, Ents.confOf_len]; omega
    have HPL : Hid (pre.length = k) := hpl
    have hpl2 : pre.length ≤ 5 := by omega
    rw [← hpre] at HOW
    clear hpre hpl
    obtain ⟨va, vc, hv⟩ := own_slice HOW.out
    subst hv
    by_cases hlt : k < t.size ∧ k ≤ 4
    · obtain ⟨h1, h2⟩ := hlt
      have HNX : Hid ((confOf t).take (k + 1) = pre ++ [(t[k].toNat : Int)]) := by show _ = _; rw [confOf_take h1, HPR.out]
      have hk0 : (0 : Int) ≤ (k : Int) := by omega
      have hk1 : (k : Int) < (t.size : Int) := by omega
      have hk4 : (k : Int) ≤ 4 := by omega
      have hby : wrap64 ((t[k].toNat : Nat) : Int) = ((t[k].toNat : Nat) : Int) := wrap_byte _
      have HBY : Hid (wrap64 ((t[k].toNat : Nat) : Int) = ((t[k].toNat : Nat) : Int)) := hby
      clear hby
      have hown := HOW.out
      go_wp2_with (at_builtin; refine wpList_append_own _ rfl _ _ 139 rfl w.heap.size 3 i0 (.int .i64 0) 1 8 Try.underlying139 hi hz0 hz1 hz2 rfl (by decide) _ _ _ rfl (hown.alloc _) ⟨wr.heap.size, 0, none⟩ 1 1 [.int .i64 (t[k].toNat : Int)] rfl rfl ?c1 ?c2 ?c3 ?c4 ?c5 ?_)
      case c1 =>
        intro j u hj
        match j, hj with
        | 0, hj => simp at hj; subst hj; simp [Addr.add, HBY.out]
      case c2 => intro u hu; simp at hu; subst hu; rfl
      case c3 => unfold maxLen; omega
      case c4 => omega
      case c5 => have := HBW.out.size; simp; omega
      intro v' w2 hown' hgrow _
      have HOW2 : Hid (w2.ownsRow w.heap.size 3 1 v' (pre ++ [(t[k].toNat : Int)]).length (cellsI (pre ++ [(t[k].toNat : Int)]))) := ownI_snoc hown'
      have HBW2 : Hid (Below w.heap.size w w2) := (HBW.out.alloc HBW.out.size _).grown hgrow (by have := HBW.out.size; simp; omega) (fun k e => (hown.lt k e).1)
      clear hown hown' hgrow
      go_wp2
      go_roundw
      case rel => exact ⟨k + 1, by omega, by omega, by go_num, by rw [HNX.out]; exact HOW2, HBW2⟩
      case measure => simp [intOf]; omega
    · have hend : ¬ (k < t.size ∧ k ≤ 4) := hlt
      clear hlt
      have hg : (k : Int) < (t.size : Int) → ¬ (k : Int) ≤ 4 := by omega
      by_cases h6 : k = t.size
      · have hk1 : ¬ (k : Int) < (t.size : Int) := by omega
        have hpt : pre = confOf t := by rw [HPR.out, List.take_of_length_le (by rw [Ents.confOf_len]; omega)]
        have hne : ((pre.length : Int) != (t.size : Int)) = false := by have := HPL.out; simp; omega
        obtain ⟨C, hC⟩ : ∃ C, C = Mans.confOk pre := ⟨_, rfl⟩
        have HCC : Hid (∀ W', Below wr.heap.size wr W' → Calls Try.prog 84 #[.slice va pre.length vc] W' fun e w' => e = .returned (.bool C) ∧ Below W'.heap.size W' w') := fun W' h => by
          obtain ⟨_, g1, _, e1, i1⟩ := cellsI_slice (own_kept HOW.out h)
          cases e1
          exact specConf_is pre (by omega) C hC.symm W' i1
        have HR : Hid ((C = true ∧ l = pre ∧ R = true) ∨ (C = false ∧ l = [] ∧ R = false)) := by
          rcases HRC.out with ⟨h1, h2⟩ | ⟨h1, h2, h3⟩
          · left
            unfold readC at h1
            split at h1
            · rename_i hc
              cases h1
              exact ⟨by rw [hC, hpt]; exact hc, hpt.symm, h2⟩
            · cases h1
          · right
            unfold readC at h1
            split at h1
            · cases h1
            · rename_i hc
              refine ⟨?_, h2, h3⟩
              rw [hC, hpt]
              simpa using hc
        clear hC hpt hend hg h6
        go_wp2_with fail
        refine Calls.mono (HCC.out _ (Below.refl _ _)) ?_
        rintro e w3 ⟨rfl, hb3⟩
        have HB3 : Hid (Below w.heap.size w w3) := HBW.out.trans (hb3.mono HBW.out.size)
        have HO3 : Hid (w3.ownsRow w.heap.size 3 1 (.slice va pre.length vc) pre.length (cellsI pre)) := own_kept HOW.out hb3
        clear hb3 HCC
        rcases HR.out with ⟨rfl, rfl, rfl⟩ | ⟨rfl, rfl, rfl⟩
        · clear HR HRC
          go_wp2
          go_ret2
          exact ⟨_, rfl, HO3.out, HB3.out⟩
        · clear HR HRC
          have hom := World.ownsRow_made (base := w.heap.size) (e := 3) (size := 1) w3 #[] 0 HB3.out.size (by unfold maxLen; omega) rfl
          have HOM : Hid ((w3.alloc (Obj.cells #[] 3)).ownsRow w.heap.size 3 1 (.slice (some ⟨w3.heap.size, 0, none⟩) 0 0) ([] : List Int).length (cellsI [])) := hom
          have HBM : Hid (Below w.heap.size w (w3.alloc (Obj.cells #[] 3))) := HB3.out.alloc HB3.out.size _
          clear hom
          go_wp2
          go_ret2
          exact ⟨_, rfl, HOM.out, HBM.out⟩
      · have hk1 : (k : Int) < (t.size : Int) := by omega
        have hk4 : ¬ (k : Int) ≤ 4 := by omega
        have hne : ((pre.length : Int) != (t.size : Int)) = true := by have := HPL.out; simp; omega
        obtain ⟨rfl, rfl⟩ : l = [] ∧ R = false := by
          rcases HRC.out with ⟨h1, h2⟩ | ⟨h1, h2, h3⟩
          · have := (Ents.conf_in (Ents.readC_iff.1 h1).1).1.2
            unfold readC at h1
            split at h1
            · cases h1
              rw [Ents.confOf_len] at this
              omega
            · cases h1
          · exact ⟨h2, h3⟩
        clear HRC hend hg h6
        have hom := World.ownsRow_made (base := w.heap.size) (e := 3) (size := 1) wr #[] 0 HBW.out.size (by unfold maxLen; omega) rfl
        have HOM : Hid ((wr.alloc (Obj.cells #[] 3)).ownsRow w.heap.size 3 1 (.slice (some ⟨wr.heap.size, 0, none⟩) 0 0) ([] : List Int).length (cellsI [])) := hom
        have HBM : Hid (Below w.heap.size w (wr.alloc (Obj.cells #[] 3))) := HBW.out.alloc HBW.out.size _
        clear hom
        go_wp2
        go_ret2
        exact ⟨_, rfl, HOM.out, HBM.out⟩
end
section
open Go.RowKit
open Ents (okB kindB text textS right)
set_option linter.unusedVariables false
set_option linter.unusedSimpArgs false

theorem nil_size (d : ByteArray) : d.toList.isEmpty = decide (d.size = 0) := by
  rw [ByteArray.toList_eq, ← Words.size_list]
  cases d.data.toList with
  | nil => rfl
  | cons x r => simp
def entV (e : EntL) : Value := .agg #[.int .i64 e.term, .int .i64 e.kind, .string e.data]
set_option maxHeartbeats 2000000 in
set_option maxRecDepth 100000 in
theorem specEntOk_is (e : EntL) (hs : e.data.size ≤ 1048576) (w : World) : Calls Try.prog 66 #[entV e] w fun en w' => en = .returned (.bool (okB e)) ∧ Below w.heap.size w w' := by
  obtain ⟨O, hO⟩ : ∃ O, O = okB e := ⟨_, rfl⟩
  rw [← hO]
  have HO : Hid (O = okB e) := hO
  obtain ⟨W, hW⟩ : ∃ W, W = w.alloc (Obj.cells #[.int .i64 e.term, .int .i64 e.kind, .string e.data] 27) := ⟨_, rfl⟩
  have HB : Hid (Below w.heap.size w W) := by show Below _ _ _; rw [hW]; exact (Below.refl _ _).alloc (Nat.le_refl _) _
  have p0 : W.heap[w.heap.size]? = some (.cells #[.int .i64 e.term, .int .i64 e.kind, .string e.data] 27 (0, 0)) := by rw [hW]; exact heap_alloc_new w _
  have HC : Hid (∀ W', Below W.heap.size W W' → W'.cell? ⟨w.heap.size, 1, none⟩ = some (.int .i64 e.kind) ∧ W'.cell? ⟨w.heap.size, 2, none⟩ = some (.string e.data)) := fun W' h => by
    have q := (h.block _ (Array.getElem?_eq_some_iff.1 p0).1).trans p0
    exact ⟨cell_of_row _ _ 1 _ _ _ q, cell_of_row _ _ 2 _ _ _ q⟩
  have c0 := cell_of_row _ _ 0 _ _ _ p0
  simp at c0
  rw [hW] at c0
  unfold entV
  clear hO p0
  by_cases ht : 0 ≤ e.term ∧ e.term ≤ 100000
  · go_enter Try.func66, Try.ntmps66
    go_wp2_with fail
    rw [← hW]
    refine (in_yes _ _ _ ht _).mono ?_
    rintro en w1 ⟨rfl, hw1⟩
    have hw2 := hw1.symm
    clear hw1
    subst hw2
    obtain ⟨c1, c2⟩ := HC.out _ (Below.refl _ _)
    clear c0 hW HC
    have hk : O = kindB e := by rw [HO.out]; unfold okB; simp [ht]
    unfold kindB at hk
    clear ht HO
    by_cases k1 : e.kind = 1
    · rw [if_pos k1] at hk
      have hd := nil_size e.data
      have HE : Hid (O = e.data.toList.isEmpty) := by show _ = _; rw [hk]; exact hd.symm
      have e1 : (e.kind == 1) = true := by simp [k1]
      clear hk hd k1
      go_wp2
      go_ret
      exact ⟨by rw [HE.out]; rfl, HB.out⟩
    · rw [if_neg k1] at hk
      have e1 : (e.kind == 1) = false := by simp [k1]
      by_cases k2 : e.kind = 2
      · rw [if_pos k2] at hk
        have e2 : (e.kind == 2) = true := by simp [k2]
        obtain ⟨l, R, hRC⟩ := rc_ex e.data
        have HOR : Hid (O = R) := by
          show _ = _
          rw [hk]
          rcases hRC with ⟨h1, h2⟩ | ⟨h1, _, h2⟩
          · rw [h2]
            unfold Ents.readC at h1
            split at h1
            · assumption
            · cases h1
          · rw [h2]
            unfold Ents.readC at h1
            split at h1
            · cases h1
            · rename_i hc; simpa using hc
        have HR : Hid (Calls Try.prog 81 #[.string e.data] W (RCPost W l R)) := specReadConf_is e.data hs l R hRC W
        clear hk k1 k2 hRC
        go_wp2_with fail
        refine Calls.mono HR.out ?_
        rintro en w2 ⟨v, rfl, ho2, hb2⟩
        obtain ⟨va, vc, hv⟩ := own_slice ho2
        subst hv
        have HB2 : Hid (Below w.heap.size w w2) := HB.out.trans (hb2.mono HB.out.size)
        clear ho2 hb2 HR c1 c2
        go_wp2
        go_ret
        exact ⟨by rw [HOR.out]; rfl, HB2.out⟩
      · rw [if_neg k2] at hk
        have e2 : (e.kind == 2) = false := by simp [k2]
        by_cases k3 : e.kind = 3
        · rw [if_pos k3] at hk
          have e3 : (e.kind == 3) = true := by simp [k3]
          have HE : Hid (O = decide ((e.data.size : Int) ≤ 120)) := by show _ = _; rw [hk]; apply decide_eq_decide.2; omega
          clear hk k1 k2 k3
          go_wp2
          go_ret
          exact ⟨by rw [HE.out]; rfl, HB.out⟩
        · rw [if_neg k3] at hk
          have e3 : (e.kind == 3) = false := by simp [k3]
          subst hk
          clear k1 k2 k3
          go_wp2
          go_ret
          exact ⟨rfl, HB.out⟩
  · have hf : O = false := by rw [HO.out]; unfold okB; simp [ht]
    subst hf
    go_enter Try.func66, Try.ntmps66
    go_wp2_with (go_at_call 65; refine (in_no _ _ _ ht _).mono ?_; rintro en w1 ⟨rfl, rfl⟩)
    go_ret
    exact ⟨rfl, by rw [← hW]; exact HB.out⟩
end
end Go.Proofs.Ytddmogggdckneaa
