/- The program's slices.Equal of entries, sameLog, isFileOf, sameBeginning and framesAdded, walked. -/
import Derived.Test.YtahpoemmlpbgdaaGreatAgg
import Derived.Test.YtahpoemmlpbgdaaGreatImplRL
namespace Go.Proofs.YtahpoemmlpbgdaaGreat
open Go.RowKit
open Logs (okL recs frames file)
set_option linter.unusedVariables false
set_option linter.unusedSimpArgs false

set_option maxHeartbeats 8000000 in
set_option maxRecDepth 100000 in
theorem eqEn_is {a a' : Option Addr} {g g' off off' cap cap' : Nat} (l m : List EntL) (n1 : l.length ≤ 1048576) (n2 : m.length ≤ 1048576) (R : Bool) (hR : R = true ↔ l = m) (w : World) (hA : EnAt w a g off l) (hB : EnAt w a' g' off' m) :
    Calls Tryz.prog 64 #[.slice a l.length cap, .slice a' m.length cap'] w fun e w' => e = .returned (.bool R) ∧ Below w.heap.size w w' := by
  have HR : Hid (R = true ↔ l = m) := hR
  have HD : Hid (∀ W1, Below w.heap.size w W1 → EnAt W1 a g off l ∧ EnAt W1 a' g' off' m) := fun W1 h => ⟨hA.kept h, hB.kept h⟩
  clear hA hB hR
  by_cases kd : l.length = m.length
  · have hcd : ((l.length : Int) != (m.length : Int)) = false := by simp; omega
    have KD : Hid (l.length = m.length) := kd
    clear kd
    go_enter Tryz.func64, Tryz.ntmps64
    go_wp2_with fail
    go_loopw [5, 13] (fun _ i wr => ∃ k : Nat, k ≤ l.length ∧ i = .int .i64 (k : Int) ∧ (∀ j (h1 : j < l.length) (h2 : j < m.length), j < k → l[j] = m[j]) ∧ Below w.heap.size w wr)
      (fun _ i _ => l.length - (intOf i).toNat)
    case atStart => exact ⟨0, Nat.zero_le _, rfl, fun j _ _ q => absurd q (Nat.not_lt_zero _), Below.refl _ _⟩
    case round =>
      obtain ⟨k, hk, rfl, hsm, hbel⟩ := hrel
      have HSM : Hid (∀ j (h1 : j < l.length) (h2 : j < m.length), j < k → l[j] = m[j]) := hsm
      have HBL : Hid (Below w.heap.size w wr) := hbel
      clear hsm
      by_cases hlt : k < l.length
      · have hltm : k < m.length := by have := KD.out; omega
        obtain ⟨a0, a1, a2⟩ := (HD.out _ hbel).1.2 k hlt
        obtain ⟨b0, b1, b2⟩ := (HD.out _ hbel).2.2 k hltm
        have ea := (HD.out _ hbel).1.1 (by omega)
        have eb := (HD.out _ hbel).2.1 (by omega)
        subst ea eb
        obtain ⟨X, hX⟩ : ∃ X, X = l[k] := ⟨_, rfl⟩
        obtain ⟨Y, hY⟩ : ∃ Y, Y = m[k] := ⟨_, rfl⟩
        rw [← hX] at a0 a1 a2
        rw [← hY] at b0 b1 b2
        have HX : Hid (X = l[k]) := hX
        have HY : Hid (Y = m[k]) := hY
        clear hX hY hbel
        have hk0 : (0 : Int) ≤ (k : Int) := by omega
        have hk1 : (k : Int) < (l.length : Int) := by omega
        have hk2 : (k : Int) < (m.length : Int) := by omega
        by_cases hxy : X = Y
        · have HXY : Hid (X = Y) := hxy
          rw [← hxy] at b0 b1 b2
          clear hxy
          have hkey : (X.data.toList == X.data.toList) = true := by simp
          go_wp2
          have NE := Abv.ne wr
          have A0 := fun x : Abv wr => x.cell a0
          have A1 := fun x : Abv wr => x.cell a1
          have A2 := fun x : Abv wr => x.cell a2
          have B0 := fun x : Abv wr => x.cell b0
          have B1 := fun x : Abv wr => x.cell b1
          have B2 := fun x : Abv wr => x.cell b2
          refine wp_region_above (by kernel_rfl) (by kernel_rfl) ?_
          repeat (go_big_quiet_step (fail))
          refine wpQuiet_nil ?_
          rintro w1 ⟨⟨_, hb1⟩, rfl⟩
          clear NE A0 A1 A2 B0 B1 B2
          go_wp2
          go_roundw
          case rel =>
            refine ⟨k + 1, by omega, by go_num, fun j h1 h2 q => ?_, HBL.out.trans (hb1.mono HBL.out.size)⟩
            by_cases e : j = k
            · subst e; rw [← HX.out, ← HY.out]; exact HXY.out
            · exact HSM.out j h1 h2 (by omega)
          case measure => simp [intOf]; omega
        · have hRf : R = false := ans_no HR.out fun e => hxy (by rw [HX.out, HY.out]; cases e; rfl)
          subst hRf
          have hcases := ent_ne hxy
          clear hxy
          rcases hcases with r0 | ⟨r0, r1 | ⟨r1, r2⟩⟩
          all_goals
            try (have s0 : (X.term == Y.term) = false := beq_eq_false_iff_ne.2 r0)
            try (have s0 : (X.term == Y.term) = true := beq_iff_eq.2 r0)
            try (have s1 : (X.kind == Y.kind) = false := beq_eq_false_iff_ne.2 r1)
            try (have s1 : (X.kind == Y.kind) = true := beq_iff_eq.2 r1)
            try (have s2 := toList_ne r2)
            try clear r0
            try clear r1
            try clear r2
            go_wp2
            have NE := Abv.ne wr
            have A0 := fun x : Abv wr => x.cell a0
            have A1 := fun x : Abv wr => x.cell a1
            have A2 := fun x : Abv wr => x.cell a2
            have B0 := fun x : Abv wr => x.cell b0
            have B1 := fun x : Abv wr => x.cell b1
            have B2 := fun x : Abv wr => x.cell b2
            refine wp_region_above (by kernel_rfl) (by kernel_rfl) ?_
            repeat (go_big_quiet_step (fail))
            refine wpQuiet_nil ?_
            rintro w1 ⟨⟨_, hb1⟩, rfl⟩
            clear NE A0 A1 A2 B0 B1 B2
            go_wp2
            go_ret
            exact ⟨rfl, HBL.out.trans (hb1.mono HBL.out.size)⟩
      · have hRt : R = true := HR.out.2 (List.ext_getElem KD.out fun j h1 h2 => HSM.out j h1 h2 (by omega))
        subst hRt
        have hge : ¬ (k : Int) < (l.length : Int) := by omega
        clear hbel
        go_wp2
        go_ret
        exact ⟨rfl, HBL.out⟩
  · have hcd : ((l.length : Int) != (m.length : Int)) = true := by simp; omega
    have hRf : R = false := ans_no HR.out fun e => kd (by rw [e])
    subst hRf
    go_enter Tryz.func64, Tryz.ntmps64
    go_wp2
    go_ret
    exact ⟨rfl, Below.refl _ _⟩
theorem two_logs (w : World) (L M : Array Value) : ∃ W, W = (w.alloc (.cells L 26)).alloc (.cells M 26) ∧ Below w.heap.size w W ∧ W.heap[w.heap.size]? = some (.cells L 26 (0, 0)) ∧ W.heap[w.heap.size + 1]? = some (.cells M 26 (0, 0)) := by
  refine ⟨_, rfl, ((Below.refl _ _).alloc (Nat.le_refl _) _).alloc (by simp) _, ?_, ?_⟩
  · rw [Below.heap_alloc _ _ _ (by simp)]
    exact heap_alloc_new w _
  · have := heap_alloc_new (w.alloc (.cells L 26)) (.cells M 26)
    simpa using this
theorem log_eq {l m : LogL} (h0 : l.start = m.start) (h1 : l.sterm = m.sterm) (h2 : l.ents = m.ents) : l = m := by
  cases l
  cases m
  simp only at h0 h1 h2
  rw [h0, h1, h2]
set_option maxHeartbeats 4000000 in
set_option maxRecDepth 100000 in
theorem sameLog_is {a a' : Option Addr} {g g' off off' cap cap' : Nat} (l m : LogL) (n1 : l.ents.length ≤ 1048576) (n2 : m.ents.length ≤ 1048576) (R : Bool) (hR : R = true ↔ l = m) (w : World) (hA : EnAt w a g off l.ents) (hB : EnAt w a' g' off' m.ents) :
    Calls Tryz.prog 28 #[logV l a cap, logV m a' cap'] w fun e w' => e = .returned (.bool R) ∧ Below w.heap.size w w' := by
  unfold logV
  have HR : Hid (R = true ↔ l = m) := hR
  obtain ⟨W, hW, hb, hp0, hp1⟩ := two_logs w #[.int .i64 l.start, .int .i64 l.sterm, .slice a l.ents.length cap] #[.int .i64 m.start, .int .i64 m.sterm, .slice a' m.ents.length cap']
  have HB : Hid (Below w.heap.size w W) := hb
  have p0 := cell_of_row _ _ 0 _ _ _ hp0
  have p1 := cell_of_row _ _ 1 _ _ _ hp0
  have p2 := cell_of_row _ _ 2 _ _ _ hp0
  have q0 := cell_of_row _ _ 0 _ _ _ hp1
  have q1 := cell_of_row _ _ 1 _ _ _ hp1
  have q2 := cell_of_row _ _ 2 _ _ _ hp1
  simp at p0 p1 p2 q0 q1 q2
  have HEQ : Hid (∀ Q : Bool, (Q = true ↔ l.ents = m.ents) → Calls Tryz.prog 64 #[.slice a l.ents.length cap, .slice a' m.ents.length cap'] W fun e w' => e = .returned (.bool Q) ∧ Below W.heap.size W w') := fun Q hQ => eqEn_is l.ents m.ents n1 n2 Q hQ W (hA.kept hb) (hB.kept hb)
  rw [hW] at p0 p1 p2 q0 q1 q2
  clear hA hB hR hb hp0 hp1
  by_cases k0 : l.start = m.start
  · have h0 : (l.start == m.start) = true := by simp [k0]
    by_cases k1 : l.sterm = m.sterm
    · have h1 : (l.sterm == m.sterm) = true := by simp [k1]
      have HC : Hid (Calls Tryz.prog 64 #[.slice a l.ents.length cap, .slice a' m.ents.length cap'] W fun e w' => e = .returned (.bool R) ∧ Below W.heap.size W w') := HEQ.out R ⟨fun h => by rw [HR.out.1 h], fun h => HR.out.2 (log_eq k0 k1 h)⟩
      clear k0 k1 HEQ
      go_enter Tryz.func28, Tryz.ntmps28
      go_wp2_with fail
      rw [← hW]
      refine Calls.mono HC.out ?_
      rintro en w2 ⟨rfl, hb2⟩
      clear p0 p1 p2 q0 q1 q2 hW HC
      go_wp2
      go_ret
      exact ⟨rfl, HB.out.trans (hb2.mono HB.out.size)⟩
    · have h1 : (l.sterm == m.sterm) = false := by simp [k1]
      have hRf : R = false := ans_no HR.out fun e => k1 (by rw [e])
      subst hRf
      clear k0 k1
      go_enter Tryz.func28, Tryz.ntmps28
      go_wp2
      go_ret
      exact ⟨rfl, by rw [← hW]; exact HB.out⟩
  · have h0 : (l.start == m.start) = false := by simp [k0]
    have hRf : R = false := ans_no HR.out fun e => k0 (by rw [e])
    subst hRf
    clear k0
    go_enter Tryz.func28, Tryz.ntmps28
    go_wp2
    go_ret
    exact ⟨rfl, by rw [← hW]; exact HB.out⟩
/-- How many entries two lists begin with alike. -/
def SameN (l m : List EntL) (k : Nat) : Prop := k ≤ l.length ∧ k ≤ m.length ∧ (∀ j (h1 : j < l.length) (h2 : j < m.length), j < k → l[j] = m[j]) ∧ ∀ (h1 : k < l.length) (h2 : k < m.length), l[k] ≠ m[k]
theorem sameN_ex : ∀ (l m : List EntL), ∃ k, SameN l m k
  | [], m => ⟨0, Nat.le_refl _, Nat.zero_le _, fun j h1 => absurd h1 (by simp), fun h1 => absurd h1 (by simp)⟩
  | x :: l, [] => ⟨0, Nat.zero_le _, Nat.le_refl _, fun j h1 h2 => absurd h2 (by simp), fun h1 h2 => absurd h2 (by simp)⟩
  | x :: l, y :: m => by
    by_cases h : x = y
    · obtain ⟨k, h1, h2, h3, h4⟩ := sameN_ex l m
      refine ⟨k + 1, by simpa using h1, by simpa using h2, fun j g1 g2 gk => ?_, fun g1 g2 => ?_⟩
      · cases j with
        | zero => exact h
        | succ j => exact h3 j (by simpa using g1) (by simpa using g2) (by omega)
      · exact h4 (by simpa using g1) (by simpa using g2)
    · exact ⟨0, Nat.zero_le _, Nat.zero_le _, fun j _ _ q => absurd q (Nat.not_lt_zero _), fun _ _ => h⟩
set_option maxHeartbeats 8000000 in
set_option maxRecDepth 100000 in
theorem sameBeg_is {a a' : Option Addr} {g g' off off' cap cap' : Nat} (l m : List EntL) (n1 : l.length ≤ 1048576) (n2 : m.length ≤ 1048576) (n : Nat) (hn : SameN l m n) (w : World) (hA : EnAt w a g off l) (hB : EnAt w a' g' off' m) :
    Calls Tryz.prog 65 #[.slice a l.length cap, .slice a' m.length cap'] w fun e w' => e = .returned (.int .i64 (n : Int)) ∧ Below w.heap.size w w' := by
  have HN : Hid (SameN l m n) := hn
  have HD : Hid (∀ W1, Below w.heap.size w W1 → EnAt W1 a g off l ∧ EnAt W1 a' g' off' m) := fun W1 h => ⟨hA.kept h, hB.kept h⟩
  clear hA hB hn
  go_enter Tryz.func65, Tryz.ntmps65
  go_wp2_with fail
  go_loopw [5] (fun i wr => ∃ k : Nat, k ≤ n ∧ i = .int .i64 (k : Int) ∧ Below w.heap.size w wr) (fun i _ => n - (intOf i).toNat)
  case atStart => exact ⟨0, Nat.zero_le _, rfl, Below.refl _ _⟩
  case round =>
    obtain ⟨k, hk, rfl, hbel⟩ := hrel
    have HBL : Hid (Below w.heap.size w wr) := hbel
    by_cases hb : k < l.length ∧ k < m.length
    · obtain ⟨hlt, hltm⟩ := hb
      obtain ⟨a0, a1, a2⟩ := (HD.out _ hbel).1.2 k hlt
      obtain ⟨b0, b1, b2⟩ := (HD.out _ hbel).2.2 k hltm
      have ea := (HD.out _ hbel).1.1 (by omega)
      have eb := (HD.out _ hbel).2.1 (by omega)
      subst ea eb
      obtain ⟨X, hX⟩ : ∃ X, X = l[k] := ⟨_, rfl⟩
      obtain ⟨Y, hY⟩ : ∃ Y, Y = m[k] := ⟨_, rfl⟩
      rw [← hX] at a0 a1 a2
      rw [← hY] at b0 b1 b2
      have HX : Hid (X = l[k]) := hX
      have HY : Hid (Y = m[k]) := hY
      clear hX hY hbel
      have hk0 : (0 : Int) ≤ (k : Int) := by omega
      have hk1 : (k : Int) < (l.length : Int) := by omega
      have hk2 : (k : Int) < (m.length : Int) := by omega
      by_cases hxy : X = Y
      · have hkn : k < n := by
          rcases Nat.lt_or_ge k n with h | h
          · exact h
          · obtain rfl : k = n := by omega
            exact absurd (by rw [← HX.out, ← HY.out]; exact hxy) (HN.out.2.2.2 hlt hltm)
        rw [← hxy] at b0 b1 b2
        clear hxy
        have hkey : (X.data.toList == X.data.toList) = true := by simp
        have hmin : (k : Int) < min (l.length : Int) (m.length : Int) := by omega
        go_wp2_with fail
        have NE := Abv.ne wr
        have A0 := fun x : Abv wr => x.cell a0
        have A1 := fun x : Abv wr => x.cell a1
        have A2 := fun x : Abv wr => x.cell a2
        have B0 := fun x : Abv wr => x.cell b0
        have B1 := fun x : Abv wr => x.cell b1
        have B2 := fun x : Abv wr => x.cell b2
        refine wp_region_above (by kernel_rfl) (by kernel_rfl) ?_
        repeat (go_big_quiet_step (fail))
        refine wpQuiet_nil ?_
        rintro w1 ⟨⟨_, hb1⟩, rfl⟩
        clear NE A0 A1 A2 B0 B1 B2
        go_wp2
        go_roundw
        case rel => exact ⟨k + 1, by omega, by go_num, HBL.out.trans (hb1.mono HBL.out.size)⟩
        case measure => simp [intOf]; omega
      · obtain rfl : k = n := by
          rcases Nat.lt_or_ge k n with h | h
          · exact absurd (by rw [HX.out, HY.out]; exact HN.out.2.2.1 k hlt hltm h) hxy
          · omega
        have hcases := ent_ne hxy
        have hmin : (k : Int) < min (l.length : Int) (m.length : Int) := by omega
        clear hxy
        rcases hcases with r0 | ⟨r0, r1 | ⟨r1, r2⟩⟩
        all_goals
          try (have s0 : (X.term == Y.term) = false := beq_eq_false_iff_ne.2 r0)
          try (have s0 : (X.term == Y.term) = true := beq_iff_eq.2 r0)
          try (have s1 : (X.kind == Y.kind) = false := beq_eq_false_iff_ne.2 r1)
          try (have s1 : (X.kind == Y.kind) = true := beq_iff_eq.2 r1)
          try (have s2 := toList_ne r2)
          try clear r0
          try clear r1
          try clear r2
          go_wp2_with fail
          have NE := Abv.ne wr
          have A0 := fun x : Abv wr => x.cell a0
          have A1 := fun x : Abv wr => x.cell a1
          have A2 := fun x : Abv wr => x.cell a2
          have B0 := fun x : Abv wr => x.cell b0
          have B1 := fun x : Abv wr => x.cell b1
          have B2 := fun x : Abv wr => x.cell b2
          refine wp_region_above (by kernel_rfl) (by kernel_rfl) ?_
          repeat (go_big_quiet_step (fail))
          refine wpQuiet_nil ?_
          rintro w1 ⟨⟨_, hb1⟩, rfl⟩
          clear NE A0 A1 A2 B0 B1 B2
          go_wp2
          go_ret
          exact ⟨rfl, HBL.out.trans (hb1.mono HBL.out.size)⟩
    · obtain rfl : k = n := by
        have h1 := HN.out.1
        have h2 := HN.out.2.1
        omega
      have hmin : ¬ (k : Int) < min (l.length : Int) (m.length : Int) := by omega
      have hmin2 : (decide ((k : Int) < min (l.length : Int) (m.length : Int))) = false := by simp only [decide_eq_false_iff_not]; exact hmin
      have hmin3 : (k : Int) < (l.length : Int) → (m.length : Int) ≤ (k : Int) := by omega
      go_wp2_with fail
      have NE := Abv.ne wr
      refine wp_region_above (by kernel_rfl) (by kernel_rfl) ?_
      repeat (go_big_quiet_step (fail))
      refine wpQuiet_nil ?_
      rintro w1 ⟨⟨_, hb1⟩, rfl⟩
      clear NE
      go_wp2
      go_ret
      exact ⟨rfl, HBL.out.trans (hb1.mono HBL.out.size)⟩
end Go.Proofs.YtahpoemmlpbgdaaGreat
