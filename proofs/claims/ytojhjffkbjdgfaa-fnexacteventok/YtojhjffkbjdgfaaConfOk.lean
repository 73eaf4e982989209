/- The calls of both ConfOk, of l07Rise and ascendWithin, and the exact law of ConfOk, walked. -/
import Derived.Test.YtojhjffkbjdgfaaInts
namespace Go.Proofs.Ytojhjffkbjdgfaa
open Go.RowKit
set_option linter.unusedVariables false

set_option maxHeartbeats 1000000 in
theorem ascend_is {a : Option Addr} {g off cap : Nat} (l : List Int) (hlen : l.length ≤ 1048576) (lo hi : Int) (h0 : -1000000 ≤ lo ∧ lo ≤ 1000000) (h1 : -1000000 ≤ hi ∧ hi ≤ 1000000) (R : Bool) (hR : Mans.asc lo hi l = R) (w : World) (hf : IntAt w a g off l) :
    Calls Try.prog 28 #[.slice a l.length cap, .int .i64 lo, .int .i64 hi] w fun e w' => e = .returned (.bool R) ∧ w = w' := by
  have HF : Hid (IntAt w a g off l) := hf
  have HR : Hid (Mans.asc lo hi l = R) := hR
  clear hf hR
  go_enter Try.func28, Try.ntmps28
  go_wp2
  go_loopw [1, 11] (fun x i wr => ∃ (k : Nat) (z : Int), k ≤ l.length ∧ i = .int .i64 (k : Int) ∧ x = .int .i64 z ∧ (-1000000 ≤ z ∧ z ≤ 1000001) ∧ Mans.asc z hi (l.drop k) = R ∧ w = wr) (fun _ i _ => l.length - (intOf i).toNat)
  case atStart => exact ⟨0, lo, Nat.zero_le _, rfl, rfl, ⟨by omega, by omega⟩, by rw [List.drop_zero]; exact HR.out, rfl⟩
  case round =>
    obtain ⟨k, z, hk, rfl, rfl, hz, hasc, rfl⟩ := hrel
    have HA : Hid (Mans.asc z hi (l.drop k) = R) := hasc
    clear hasc
    by_cases hlt : k < l.length
    · have c0 := HF.out.2 k hlt
      have ea := HF.out.1 (by omega)
      subst ea
      have hst := fun (p1 : z ≤ l[k]) (p2 : l[k] ≤ hi) => Mans.asc_step hlt HA.out p1 p2
      have hbd := fun (p : ¬ (z ≤ l[k] ∧ l[k] ≤ hi)) => Mans.asc_bad hlt HA.out p
      obtain ⟨X, hX⟩ : ∃ X, X = l[k] := ⟨_, rfl⟩
      rw [← hX] at c0 hst hbd
      have HST : Hid (z ≤ X → X ≤ hi → Mans.asc (X + 1) hi (l.drop (k + 1)) = R) := hst
      have HBD : Hid (¬ (z ≤ X ∧ X ≤ hi) → R = false) := hbd
      clear hX hst hbd
      have hk0 : (0 : Int) ≤ (k : Int) := by omega
      have hk1 : (k : Int) < (l.length : Int) := by omega
      by_cases p1 : X < z
      · have HB : Hid (R = false) := HBD.out (by omega)
        go_wp2
        go_ret
        exact ⟨by rw [HB.out]; rfl, rfl⟩
      · by_cases p2 : hi < X
        · have HB : Hid (R = false) := HBD.out (by omega)
          go_wp2
          go_ret
          exact ⟨by rw [HB.out]; rfl, rfl⟩
        · have HB : Hid (Mans.asc (X + 1) hi (l.drop (k + 1)) = R) := HST.out (by omega) (by omega)
          go_wp2
          go_roundw
          case rel => exact ⟨k + 1, X + 1, by omega, by go_num, by go_num, ⟨by omega, by omega⟩, HB.out, trivial⟩
          case measure => simp [intOf]; omega
    · have hk1 : ¬ (k : Int) < (l.length : Int) := by omega
      have HE : Hid (R = true) := Mans.asc_end (by omega) HA.out
      go_wp2
      go_ret
      exact ⟨by rw [HE.out]; rfl, rfl⟩
theorem in_is (n lo hi : Int) (R : Bool) (hR : R = true ↔ lo ≤ n ∧ n ≤ hi) (w : World) : Calls Try.prog 11 #[.int .i64 n, .int .i64 lo, .int .i64 hi] w fun e w' => e = .returned (.bool R) ∧ w' = w := by
  by_cases h1 : lo ≤ n
  · by_cases h2 : n ≤ hi
    · obtain rfl : R = true := hR.2 ⟨h1, h2⟩
      clear hR
      go_enter Try.func11, Try.ntmps11
      go_wp2
      go_ret
      exact ⟨rfl, rfl⟩
    · obtain rfl : R = false := ans_no hR (fun h => h2 h.2)
      clear hR
      go_enter Try.func11, Try.ntmps11
      go_wp2
      go_ret
      exact ⟨rfl, rfl⟩
  · obtain rfl : R = false := ans_no hR (fun h => h1 h.1)
    clear hR
    go_enter Try.func11, Try.ntmps11
    go_wp2
    go_ret
    exact ⟨rfl, rfl⟩
/-- The least that may come at k. -/
def loAt (lo : Int) (l : List Int) (k : Nat) (z : Int) : Prop := (k = 0 ∧ z = lo) ∨ (0 < k ∧ ∃ h : k - 1 < l.length, z = l[k - 1] + 1 ∧ lo ≤ z)
set_option maxHeartbeats 1000000 in
theorem rise_is {a : Option Addr} {g off cap : Nat} (l : List Int) (hlen : l.length ≤ 1048576) (lo hi : Int) (R : Bool) (hR : Mans.asc lo hi l = R) (w : World) (hf : IntAt w a g off l) :
    Calls Try.prog 20 #[.slice a l.length cap, .int .i64 lo, .int .i64 hi] w fun e w' => e = .returned (.bool R) ∧ Below w.heap.size w w' := by
  have HF : Hid (IntAt w a g off l) := hf
  have HR : Hid (Mans.asc lo hi l = R) := hR
  clear hf hR
  go_enter Try.func20, Try.ntmps20
  go_wp2
  go_loopw [7] (fun i wr => ∃ (k : Nat) (z : Int), k ≤ l.length ∧ i = .int .i64 (k : Int) ∧ loAt lo l k z ∧ Mans.asc z hi (l.drop k) = R ∧ Below w.heap.size w wr) (fun i _ => l.length - (intOf i).toNat)
  case atStart => exact ⟨0, lo, Nat.zero_le _, rfl, Or.inl ⟨rfl, rfl⟩, by rw [List.drop_zero]; exact HR.out, Below.refl _ _⟩
  case round =>
    obtain ⟨k, z, hk, rfl, hz, hasc, hbel⟩ := hrel
    have HA : Hid (Mans.asc z hi (l.drop k) = R) := hasc
    have HZ : Hid (loAt lo l k z) := hz
    clear hasc hz
    by_cases hlt : k < l.length
    · have hF := HF.out.kept hbel
      have c0 := hF.2 k hlt
      have ea := HF.out.1 (by omega)
      subst ea
      have hst := fun (p1 : z ≤ l[k]) (p2 : l[k] ≤ hi) => Mans.asc_step hlt HA.out p1 p2
      have hbd := fun (p : ¬ (z ≤ l[k] ∧ l[k] ≤ hi)) => Mans.asc_bad hlt HA.out p
      obtain ⟨X, hX⟩ : ∃ X, X = l[k] := ⟨_, rfl⟩
      have HX : Hid (X = l[k]) := hX
      rw [← hX] at c0 hst hbd
      have HST : Hid (z ≤ X → X ≤ hi → Mans.asc (X + 1) hi (l.drop (k + 1)) = R) := hst
      have HBD : Hid (¬ (z ≤ X ∧ X ≤ hi) → R = false) := hbd
      clear hX hst hbd
      have hk0 : (0 : Int) ≤ (k : Int) := by omega
      have hk1 : (k : Int) < (l.length : Int) := by omega
      by_cases hkz : k = 0
      · subst hkz
        have hzl : z = lo := by
          rcases HZ.out with ⟨_, h⟩ | ⟨h, _⟩
          · exact h
          · omega
        subst hzl
        rw [Nat.add_zero] at c0
        by_cases p : z ≤ X ∧ X ≤ hi
        · have HB : Hid (Mans.asc (X + 1) hi (l.drop (0 + 1)) = R) := HST.out p.1 p.2
          have HP : Hid (z ≤ X ∧ X ≤ hi) := p
          have HL : Hid (loAt z l 1 (X + 1)) := Or.inr ⟨by omega, hlt, by simp [HX.out], by omega⟩
          clear p
          go_wp2_with fail
          have NE := Abv.ne wr
          have C0 := fun x : Abv wr => x.cell c0
          refine wp_region_above (by kernel_rfl) (by kernel_rfl) ?_
          repeat (go_big_quiet_step (first | (go_at_call 11; exact calls_above_same ((in_is _ _ _ true (by simp [HP.out]) _).mono fun _ _ ⟨h1, h2⟩ => ⟨h1, h2.symm⟩))))
          refine wpQuiet_nil ?_
          rintro w1 ⟨⟨_, hb1⟩, rfl⟩
          clear NE C0
          go_wp2
          go_roundw
          case rel => exact ⟨1, X + 1, by omega, by go_num, HL.out, HB.out, hbel.trans (hb1.mono hbel.size)⟩
          case measure => simp [intOf]; omega
        · have HB : Hid (R = false) := HBD.out p
          have HP : Hid (¬ (z ≤ X ∧ X ≤ hi)) := p
          clear p
          go_wp2_with fail
          have NE := Abv.ne wr
          have C0 := fun x : Abv wr => x.cell c0
          refine wp_region_above (by kernel_rfl) (by kernel_rfl) ?_
          repeat (go_big_quiet_step (first | (go_at_call 11; exact calls_above_same ((in_is _ _ _ false (by simp only [Bool.false_eq_true, false_iff]; exact HP.out) _).mono fun _ _ ⟨h1, h2⟩ => ⟨h1, h2.symm⟩))))
          refine wpQuiet_nil ?_
          rintro w1 ⟨⟨_, hb1⟩, rfl⟩
          clear NE C0
          go_wp2
          go_ret
          exact ⟨by rw [HB.out]; rfl, hbel.trans (hb1.mono hbel.size)⟩
      · have hj : k - 1 < l.length := by omega
        obtain ⟨Y, hY⟩ : ∃ Y, Y = l[k - 1] := ⟨_, rfl⟩
        have d0 := hF.2 (k - 1) hj
        rw [← hY] at d0
        have hzl : z = Y + 1 ∧ lo ≤ z := by
          rcases HZ.out with ⟨h, _⟩ | ⟨_, _, h, h'⟩
          · exact absurd h hkz
          · exact ⟨by rw [h, hY], h'⟩
        obtain ⟨hz1, hz2⟩ := hzl
        subst hz1
        obtain ⟨j, hjk⟩ : ∃ j : Nat, k = j + 1 := ⟨k - 1, by omega⟩
        subst hjk
        have hw : IntKind.i64.wrap (((j + 1 : Nat) : Int) - 1) = (j : Int) := by rw [IntWalk.i64_in _ (by omega)]; omega
        have d1 : wr.cell? ⟨g, off + j, none⟩ = some (.int .i64 Y) := by simpa using d0
        clear hY d0 hF
        have hjp : decide ((0 : Int) < ((j + 1 : Nat) : Int)) = true := decide_eq_true (by omega)
        have hj1 : (j : Int) < (l.length : Int) := by omega
        have hj0 : (0 : Int) ≤ (j : Int) := by omega
        by_cases q : lo ≤ X ∧ X ≤ hi
        · have HQ : Hid (lo ≤ X ∧ X ≤ hi) := q
          by_cases p : X ≤ Y
          · have HB : Hid (R = false) := HBD.out (by omega)
            have hp : decide (X ≤ Y) = true := decide_eq_true p
            clear q
            go_wp2_with fail
            have NE := Abv.ne wr
            have C0 := fun x : Abv wr => x.cell c0
            have D0 := fun x : Abv wr => x.cell d1
            refine wp_region_above (by kernel_rfl) (by kernel_rfl) ?_
            repeat (go_big_quiet_step (first | (go_at_call 11; exact calls_above_same ((in_is _ _ _ true (by simp [HQ.out]) _).mono fun _ _ ⟨h1, h2⟩ => ⟨h1, h2.symm⟩))))
            refine wpQuiet_nil ?_
            rintro w1 ⟨⟨_, hb1⟩, rfl⟩
            clear NE C0 D0 hw
            go_wp2
            go_ret
            exact ⟨by rw [HB.out]; rfl, hbel.trans (hb1.mono hbel.size)⟩
          · have HB : Hid (Mans.asc (X + 1) hi (l.drop (j + 1 + 1)) = R) := HST.out (by omega) q.2
            have hp : decide (X ≤ Y) = false := decide_eq_false p
            have HL : Hid (loAt lo l (j + 1 + 1) (X + 1)) := Or.inr ⟨by omega, hlt, by simp [HX.out], by omega⟩
            clear q
            go_wp2_with fail
            have NE := Abv.ne wr
            have C0 := fun x : Abv wr => x.cell c0
            have D0 := fun x : Abv wr => x.cell d1
            refine wp_region_above (by kernel_rfl) (by kernel_rfl) ?_
            repeat (go_big_quiet_step (first | (go_at_call 11; exact calls_above_same ((in_is _ _ _ true (by simp [HQ.out]) _).mono fun _ _ ⟨h1, h2⟩ => ⟨h1, h2.symm⟩))))
            refine wpQuiet_nil ?_
            rintro w1 ⟨⟨_, hb1⟩, rfl⟩
            clear NE C0 D0 hw
            go_wp2
            go_roundw
            case rel => exact ⟨j + 1 + 1, X + 1, by omega, by go_num, HL.out, HB.out, hbel.trans (hb1.mono hbel.size)⟩
            case measure => simp [intOf]; omega
        · have HB : Hid (R = false) := HBD.out (by omega)
          have HQ : Hid (¬ (lo ≤ X ∧ X ≤ hi)) := q
          clear q
          go_wp2_with fail
          have NE := Abv.ne wr
          have C0 := fun x : Abv wr => x.cell c0
          have D0 := fun x : Abv wr => x.cell d1
          refine wp_region_above (by kernel_rfl) (by kernel_rfl) ?_
          repeat (go_big_quiet_step (first | (go_at_call 11; exact calls_above_same ((in_is _ _ _ false (by simp only [Bool.false_eq_true, false_iff]; exact HQ.out) _).mono fun _ _ ⟨h1, h2⟩ => ⟨h1, h2.symm⟩))))
          refine wpQuiet_nil ?_
          rintro w1 ⟨⟨_, hb1⟩, rfl⟩
          clear NE C0 D0 hw
          go_wp2
          go_ret
          exact ⟨by rw [HB.out]; rfl, hbel.trans (hb1.mono hbel.size)⟩
    · have hk1 : ¬ (k : Int) < (l.length : Int) := by omega
      have HE : Hid (R = true) := Mans.asc_end (by omega) HA.out
      go_wp2
      go_ret
      exact ⟨by rw [HE.out]; rfl, hbel⟩
end Go.Proofs.Ytojhjffkbjdgfaa
