/- The specification's l12Same: are two logs the same, walked. A struct loaded and stored whole: its cells as one array. -/
import Derived.Test.YtahpoemmlpbgdaaGreatSpecLog
import Derived.Laws.StructEq
import Derived.Test.YtahpoemmlpbgdaaGreatMarkA
import Derived.Laws.CopyOwn
import Derived.Laws.Cells
namespace Go.Proofs.YtahpoemmlpbgdaaGreat
open Go.RowKit
set_option linter.unusedVariables false
set_option linter.unusedSimpArgs false

theorem ent_ne {x y : EntL} (h : x ≠ y) : x.term ≠ y.term ∨ (x.term = y.term ∧ (x.kind ≠ y.kind ∨ (x.kind = y.kind ∧ x.data ≠ y.data))) := by
  obtain ⟨a, b, c⟩ := x
  obtain ⟨a', b', c'⟩ := y
  by_cases h1 : a = a'
  · by_cases h2 : b = b'
    · by_cases h3 : c = c'
      · subst h1 h2 h3; exact absurd rfl h
      · exact Or.inr ⟨h1, Or.inr ⟨h2, h3⟩⟩
    · exact Or.inr ⟨h1, Or.inl h2⟩
  · exact Or.inl h1
theorem toList_ne {a b : ByteArray} (h : a ≠ b) : (a.toList == b.toList) = false := by
  rw [ByteArray.toList_eq, ByteArray.toList_eq]
  obtain ⟨⟨x⟩⟩ := a
  obtain ⟨⟨y⟩⟩ := b
  rw [beq_eq_false_iff_ne]
  intro e
  exact h (by simp only at e; rw [e])
set_option maxHeartbeats 8000000 in
set_option maxRecDepth 100000 in
theorem same12_is {a a' : Option Addr} {g g' off off' cap cap' : Nat} (l m : LogL) (n1 : l.ents.length ≤ 1048576) (n2 : m.ents.length ≤ 1048576) (R : Bool) (hR : R = true ↔ l = m) (w : World) (hA : EnAt w a g off l.ents) (hB : EnAt w a' g' off' m.ents) :
    Calls Tryz.prog 31 #[logV l a cap, logV m a' cap'] w fun e w' => e = .returned (.bool R) ∧ Below w.heap.size w w' := by
  unfold logV
  have HR : Hid (R = true ↔ l = m) := hR
  obtain ⟨W, hW⟩ : ∃ W, W = (w.alloc (.cells #[.int .i64 l.start, .int .i64 l.sterm, .slice a l.ents.length cap] 26)).alloc (.cells #[.int .i64 m.start, .int .i64 m.sterm, .slice a' m.ents.length cap'] 26) := ⟨_, rfl⟩
  have hb : Below w.heap.size w W := by rw [hW]; exact ((Below.refl _ _).alloc (Nat.le_refl _) _).alloc (by simp) _
  have hp0 : W.heap[w.heap.size]? = some (.cells #[.int .i64 l.start, .int .i64 l.sterm, .slice a l.ents.length cap] 26 (0, 0)) := by
    rw [hW, Below.heap_alloc _ _ _ (by simp)]; exact heap_alloc_new w _
  have hp1 : W.heap[w.heap.size + 1]? = some (.cells #[.int .i64 m.start, .int .i64 m.sterm, .slice a' m.ents.length cap'] 26 (0, 0)) := by
    rw [hW]; have := heap_alloc_new (w.alloc (.cells #[.int .i64 l.start, .int .i64 l.sterm, .slice a l.ents.length cap] 26)) (.cells #[.int .i64 m.start, .int .i64 m.sterm, .slice a' m.ents.length cap'] 26); simpa using this
  have HP0 : Hid (∀ W1, Below W.heap.size W W1 → W1.cell? ⟨w.heap.size, 2, none⟩ = some (.slice a l.ents.length cap)) := fun W1 h => cell_of_row _ _ 2 _ _ _ ((h.block _ (Array.getElem?_eq_some_iff.1 hp0).1).trans hp0)
  have HP1 : Hid (∀ W1, Below W.heap.size W W1 → W1.cell? ⟨w.heap.size + 1, 2, none⟩ = some (.slice a' m.ents.length cap')) := fun W1 h => cell_of_row _ _ 2 _ _ _ ((h.block _ (Array.getElem?_eq_some_iff.1 hp1).1).trans hp1)
  have HB : Hid (Below w.heap.size w W) := hb
  have HD : Hid (∀ W1, Below W.heap.size W W1 → EnAt W1 a g off l.ents ∧ EnAt W1 a' g' off' m.ents) := fun W1 h => ⟨(hA.kept hb).kept h, (hB.kept hb).kept h⟩
  have p0 := cell_of_row _ _ 0 _ _ _ hp0
  have p1 := cell_of_row _ _ 1 _ _ _ hp0
  have p2 := cell_of_row _ _ 2 _ _ _ hp0
  have q0 := cell_of_row _ _ 0 _ _ _ hp1
  have q1 := cell_of_row _ _ 1 _ _ _ hp1
  have q2 := cell_of_row _ _ 2 _ _ _ hp1
  simp at p0 p1 p2 q0 q1 q2
  clear hA hB hR hb hp0 hp1
  rw [hW] at p0 p1 p2 q0 q1 q2
  by_cases k0 : l.start = m.start
  · have K0 : Hid (l.start = m.start) := k0
    have h0 : (l.start != m.start) = false := by simp [k0]
    clear k0
    by_cases k1 : l.sterm = m.sterm
    · have K1 : Hid (l.sterm = m.sterm) := k1
      have h1 : (l.sterm != m.sterm) = false := by simp [k1]
      clear k1
      by_cases kd : l.ents.length = m.ents.length
      · have hcd : ((l.ents.length : Int) != (m.ents.length : Int)) = false := by simp; omega
        have KD : Hid (l.ents.length = m.ents.length) := kd
        clear kd
        go_enter Tryz.func31, Tryz.ntmps31
        go_wp2_with fail
        rw [← hW]
        clear p0 p1 p2 q0 q1 q2 hW
        go_loopw [5] (fun i wr => ∃ k : Nat, k ≤ l.ents.length ∧ i = .int .i64 (k : Int) ∧ (∀ j (h1 : j < l.ents.length) (h2 : j < m.ents.length), j < k → l.ents[j] = m.ents[j]) ∧ Below W.heap.size W wr)
          (fun i _ => l.ents.length - (intOf i).toNat)
        case atStart => exact ⟨0, Nat.zero_le _, rfl, fun j _ _ q => absurd q (Nat.not_lt_zero _), Below.refl _ _⟩
        case round =>
          obtain ⟨k, hk, rfl, hsm, hbel⟩ := hrel
          have HSM : Hid (∀ j (h1 : j < l.ents.length) (h2 : j < m.ents.length), j < k → l.ents[j] = m.ents[j]) := hsm
          have HBL : Hid (Below W.heap.size W wr) := hbel
          have p2 := HP0.out _ hbel
          have q2 := HP1.out _ hbel
          clear hsm
          by_cases hlt : k < l.ents.length
          · have hltm : k < m.ents.length := by have := KD.out; omega
            obtain ⟨a0, a1, a2⟩ := (HD.out _ hbel).1.2 k hlt
            obtain ⟨b0, b1, b2⟩ := (HD.out _ hbel).2.2 k hltm
            have ea := (HD.out _ hbel).1.1 (by omega)
            have eb := (HD.out _ hbel).2.1 (by omega)
            subst ea eb
            obtain ⟨X, hX⟩ : ∃ X, X = l.ents[k] := ⟨_, rfl⟩
            obtain ⟨Y, hY⟩ : ∃ Y, Y = m.ents[k] := ⟨_, rfl⟩
            rw [← hX] at a0 a1 a2
            rw [← hY] at b0 b1 b2
            have HX : Hid (X = l.ents[k]) := hX
            have HY : Hid (Y = m.ents[k]) := hY
            clear hX hY hbel
            have hk0 : (0 : Int) ≤ (k : Int) := by omega
            have hk1 : (k : Int) < (l.ents.length : Int) := by omega
            have hk2 : (k : Int) < (m.ents.length : Int) := by omega
            by_cases hxy : X = Y
            · have HXY : Hid (X = Y) := hxy
              rw [← hxy] at b0 b1 b2
              clear hxy
              have hkey : (X.data.toList == X.data.toList) = true := by simp
              go_wp2
              have NE := Abv.ne wr
              have P2 := fun x : Abv wr => x.cell p2
              have Q2 := fun x : Abv wr => x.cell q2
              have A0 := fun x : Abv wr => x.cell a0
              have A1 := fun x : Abv wr => x.cell a1
              have A2 := fun x : Abv wr => x.cell a2
              have B0 := fun x : Abv wr => x.cell b0
              have B1 := fun x : Abv wr => x.cell b1
              have B2 := fun x : Abv wr => x.cell b2
              refine wp_region_above (by kernel_rfl) (by kernel_rfl) ?_
              repeat (go_big_quiet_step (fail))
              refine wpQuiet_nil ?_
              rintro w1 ⟨⟨_, hb1⟩, rfl⟩
              clear NE P2 Q2 A0 A1 A2 B0 B1 B2
              go_wp2
              go_roundw
              case rel =>
                refine ⟨k + 1, by omega, by go_num, fun j h1 h2 q => ?_, HBL.out.trans (hb1.mono HBL.out.size)⟩
                by_cases e : j = k
                · subst e; rw [← HX.out, ← HY.out]; exact HXY.out
                · exact HSM.out j h1 h2 (by omega)
              case measure => simp [intOf]; omega
            · have hRf : R = false := ans_no HR.out fun e => hxy (by rw [HX.out, HY.out]; cases e; rfl)
              subst hRf
              have hcases := ent_ne hxy
              clear hxy
              rcases hcases with r0 | ⟨r0, r1 | ⟨r1, r2⟩⟩
              all_goals
                try (have s0 : (X.term == Y.term) = false := beq_eq_false_iff_ne.2 r0)
                try (have s0 : (X.term == Y.term) = true := beq_iff_eq.2 r0)
                try (have s1 : (X.kind == Y.kind) = false := beq_eq_false_iff_ne.2 r1)
                try (have s1 : (X.kind == Y.kind) = true := beq_iff_eq.2 r1)
                try (have s2 := toList_ne r2)
                try clear r0
                try clear r1
                try clear r2
                go_wp2
                have NE := Abv.ne wr
                have P2 := fun x : Abv wr => x.cell p2
                have Q2 := fun x : Abv wr => x.cell q2
                have A0 := fun x : Abv wr => x.cell a0
                have A1 := fun x : Abv wr => x.cell a1
                have A2 := fun x : Abv wr => x.cell a2
                have B0 := fun x : Abv wr => x.cell b0
                have B1 := fun x : Abv wr => x.cell b1
                have B2 := fun x : Abv wr => x.cell b2
                refine wp_region_above (by kernel_rfl) (by kernel_rfl) ?_
                repeat (go_big_quiet_step (fail))
                refine wpQuiet_nil ?_
                rintro w1 ⟨⟨_, hb1⟩, rfl⟩
                clear NE P2 Q2 A0 A1 A2 B0 B1 B2
                go_wp2
                go_ret
                exact ⟨rfl, HB.out.trans ((HBL.out.trans (hb1.mono HBL.out.size)).mono HB.out.size)⟩
          · have hRt : R = true := HR.out.2 (by
              have e0 := K0.out
              have e1 := K1.out
              have e2 : l.ents = m.ents := List.ext_getElem KD.out fun j h1 h2 => HSM.out j h1 h2 (by omega)
              cases l
              cases m
              simp only at e0 e1 e2
              rw [e0, e1, e2])
            subst hRt
            have hge : ¬ (k : Int) < (l.ents.length : Int) := by omega
            clear hbel
            go_wp2
            go_ret
            exact ⟨rfl, HB.out.trans (HBL.out.mono HB.out.size)⟩
      · have hcd : ((l.ents.length : Int) != (m.ents.length : Int)) = true := by simp; omega
        have hRf : R = false := ans_no HR.out fun e => kd (by rw [e])
        subst hRf
        go_enter Tryz.func31, Tryz.ntmps31
        go_wp2
        go_ret
        exact ⟨rfl, by rw [← hW]; exact HB.out⟩
    · have h1 : (l.sterm != m.sterm) = true := by simp [k1]
      have hRf : R = false := ans_no HR.out fun e => k1 (by rw [e])
      subst hRf
      clear k1
      go_enter Tryz.func31, Tryz.ntmps31
      go_wp2
      go_ret
      exact ⟨rfl, by rw [← hW]; exact HB.out⟩
  · have h0 : (l.start != m.start) = true := by simp [k0]
    have hRf : R = false := ans_no HR.out fun e => k0 (by rw [e])
    subst hRf
    clear k0
    go_enter Tryz.func31, Tryz.ntmps31
    go_wp2
    go_ret
    exact ⟨rfl, by rw [← hW]; exact HB.out⟩
end Go.Proofs.YtahpoemmlpbgdaaGreat
namespace Go.Proofs.YtahpoemmlpbgdaaGreat
open Go.RowKit
set_option linter.unusedVariables false

theorem cells_list {w : World} {g : Nat} {A : Array Value} {t : TypeId} (hg : w.heap[g]? = some (.cells A t (0, 0))) : ∀ j v, A.toList[j]? = some v → w.cell? ((⟨g, 0, none⟩ : Addr).add j) = some v := by
  intro j v hv
  rw [Addr.add_lit, Nat.zero_add]
  obtain ⟨hj, e⟩ := List.getElem?_eq_some_iff.1 hv
  subst e
  rw [cell_of_row _ _ j _ _ _ hg]
  simp
theorem run_load_agg {P : Program} {T : TypeId} {n : Nat} (ha : ∀ w, (isAgg T).run P w = .ok true w) (hz : ∀ w, (sizeOf T).run P w = .ok n w) {w : World} {g : Nat} {A : Array Value} {t : TypeId} (hg : w.heap[g]? = some (.cells A t (0, 0))) (hs : A.size = n) : (Instr.loadAt T (.pointer (some ⟨g, 0, none⟩))).run P w = .ok (.agg A) w := by
  have h1 := run_loadCells_list (P := P) w ⟨g, 0, none⟩ A.toList (cells_list hg)
  rw [Array.length_toList, hs] at h1
  simp [Instr.loadAt, Instr.sureAddr, loadVar, h1, ha, hz]
theorem run_store_agg {P : Program} {T : TypeId} {n : Nat} (hz : ∀ w, (sizeOf T).run P w = .ok n w) {w : World} {g : Nat} {A C : Array Value} {t : TypeId} (hg : w.heap[g]? = some (.cells C t (0, 0))) (hs : A.size = n) (hc : C.size = n) (h1 : ∀ v ∈ A.toList, v.oneCell' = true) : (Instr.storeAt T (.pointer (some ⟨g, 0, none⟩)) (.agg A)).run P w = .ok () (w.setRow g A) := by
  have h2 := run_storeCells_at (P := P) g 0 t A.toList 0 C w hg (by simp; omega) h1
  have h3 : (C.toList.take (0 + 0) ++ A.toList ++ C.toList.drop (0 + 0 + A.toList.length)).toArray = A := by
    rw [List.drop_of_length_le (by simp; omega)]; simp
  rw [h3] at h2
  simp [Instr.storeAt, Instr.sureAddr, storeVar, Value.cells, hs, h2, hz]
theorem wpList_loadA {T : TypeId} {n : Nat} (ha : ∀ w, (isAgg T).run Tryz.prog w = .ok true w) (hz : ∀ w, (sizeOf T).run Tryz.prog w = .ok n w) {w : World} {ops : Array Oper} {rest : List Oper} {o : Oper} {a : Act} {Q : Exit → Act → World → Prop} (hgd : o.guard = none) (x : Operand) (ho : o.op = .load T x) (g : Nat) (A : Array Value) (t : TypeId) (hx : a.eval x = .pointer (some ⟨g, 0, none⟩)) (hg : w.heap[g]? = some (.cells A t (0, 0))) (hs : A.size = n)
    (h : wpList Tryz.prog ops Q rest (a.put o.dst (.agg A)) w) : wpList Tryz.prog ops Q (o :: rest) a w := by
  refine wpList_plain hgd fun K hK => ?_
  have hrun := run_load_agg (P := Tryz.prog) ha hz hg hs
  unfold Oper.wp
  simp [execOp, ho, hx, hrun, Result.andThen]
  exact hK _ _ h
theorem wpList_storeA {T : TypeId} {n : Nat} (hz : ∀ w, (sizeOf T).run Tryz.prog w = .ok n w) {w : World} {ops : Array Oper} {rest : List Oper} {o : Oper} {a : Act} {Q : Exit → Act → World → Prop} (hgd : o.guard = none) (x y : Operand) (ho : o.op = .store T x y) (g : Nat) (A C : Array Value) (t : TypeId) (hx : a.eval x = .pointer (some ⟨g, 0, none⟩)) (hy : a.eval y = .agg A) (hg : w.heap[g]? = some (.cells C t (0, 0))) (hs : A.size = n) (hc : C.size = n) (h1 : ∀ v ∈ A.toList, v.oneCell' = true)
    (h : wpList Tryz.prog ops Q rest (a.put o.dst undef) (w.setRow g A)) : wpList Tryz.prog ops Q (o :: rest) a w := by
  refine wpList_plain hgd fun K hK => ?_
  have hrun := run_store_agg (P := Tryz.prog) hz hg hs hc h1
  unfold Oper.wp
  simp [execOp, ho, hx, hy, hrun, Result.andThen]
  exact hK _ _ h
theorem run_loadVar_agg {P : Program} {T : TypeId} {n : Nat} (ha : ∀ w, (isAgg T).run P w = .ok true w) (hz : ∀ w, (sizeOf T).run P w = .ok n w) {w : World} {g : Nat} {A : Array Value} {t : TypeId} (hg : w.heap[g]? = some (.cells A t (0, 0))) (hs : A.size = n) : (loadVar T ⟨g, 0, none⟩).run P w = .ok (.agg A) w := by
  have h1 := run_loadCells_list (P := P) w ⟨g, 0, none⟩ A.toList (cells_list hg)
  rw [Array.length_toList, hs] at h1
  simp [loadVar, h1, ha, hz]
theorem row_size {w : World} {g : Nat} {C A : Array Value} {t : TypeId} (hg : w.heap[g]? = some (.cells C t (0, 0))) : (w.setRow g A).heap[g]? = some (.cells A t (0, 0)) := setRow_heap w g _ _ t _ hg
theorem grown_setRow (w : World) (g : Nat) (A : Array Value) : w.grownBy (w.setRow g A) (some g) :=
  ⟨rfl, rfl, rfl, by simp, fun k _ hk => setRow_other w g k A (fun e => hk (by simp [e]))⟩
theorem row_far {w : World} {R Z : Nat} {o : Obj} (h : w.heap[Z]? = some o) (hne : Z ≠ R) (A : Array Value) : (w.setRow R A).heap[Z]? = some o := (setRow_other w R Z A hne).trans h
end Go.Proofs.YtahpoemmlpbgdaaGreat
