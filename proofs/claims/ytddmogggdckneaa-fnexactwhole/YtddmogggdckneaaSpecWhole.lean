/- The specification's Whole, walked. -/
import Derived.Test.YtddmogggdckneaaWholeM
import Derived.Deep.RegionHeld3
import Derived.Deep.DeepCutAuto
namespace Go.Proofs.Ytddmogggdckneaa
open Go.RowKit
set_option linter.unusedVariables false
set_option linter.unusedSimpArgs false
theorem below3 {w Y w5 : World} (h : Below w.heap.size w Y) (h5 : Below Y.heap.size Y w5) : Below w.heap.size w w5 := h.trans (h5.mono h.size)
theorem zrow {w w5 : World} {z : Obj} (hb : Below ((w.drew).alloc z).heap.size ((w.drew).alloc z) w5) {A B C : Value} (hz : z = .cells #[A, B, C] 27) : w5.cell? ⟨w.heap.size, 0, none⟩ = some A ∧ w5.cell? ⟨w.heap.size, 1, none⟩ = some B ∧ w5.cell? ⟨w.heap.size, 2, none⟩ = some C ∧ w5.frozen? ⟨w.heap.size, 0, none⟩ = false ∧ w5.frozen? ⟨w.heap.size, 1, none⟩ = false ∧ w5.frozen? ⟨w.heap.size, 2, none⟩ = false := by
  subst hz
  have h := (hb.block w.heap.size (by simp)).trans (heap_alloc_new w.drew (.cells #[A, B, C] 27))
  have c0 := cell_of_row _ _ 0 _ _ _ h
  have c1 := cell_of_row _ _ 1 _ _ _ h
  have c2 := cell_of_row _ _ 2 _ _ _ h
  simp at c0 c1 c2
  exact ⟨c0, c1, c2, frozen_of_row _ _ 0 _ _ h, frozen_of_row _ _ 1 _ _ h, frozen_of_row _ _ 2 _ _ h⟩
theorem wholeOne_eq (d : LdL) (r : ApL) : wholeOne d r = (decide (d.term ≤ r.term) || (decide (r.index ≤ d.log.start) || (entB d.log r.index && sameE (entD d.log r.index) r))) := rfl
set_option maxHeartbeats 8000000 in
set_option maxRecDepth 100000 in
theorem specWhole_is {a : Option Addr} {g off cap : Nat} (cs : List LcL) (l : List LdL) (r : ApL) (hlen : l.length ≤ 1048576) (hs : ∀ d ∈ l, smallLd 1048576 d) (hi : okIdx r) (w : World) (hf : LdAt w a g off cs l) :
    Calls Try.prog 30 #[.slice a l.length cap, apV r] w fun e w' => e = .returned (.bool (wholeB l r)) ∧ Below w.heap.size w w' := by
  obtain ⟨P0, P1, P2, P3, P4, P5⟩ := r
  obtain ⟨W, hW⟩ : ∃ W, W = w.alloc (Obj.cells #[.int .i64 P0, .int .i64 P1, .int .i64 P2, .int .i64 P3, .int .i64 P4, .string P5] 64) := ⟨_, rfl⟩
  have hb : Below w.heap.size w W := by rw [hW]; exact (Below.refl _ _).alloc (Nat.le_refl _) _
  have hq : W.heap[w.heap.size]? = some (.cells #[.int .i64 P0, .int .i64 P1, .int .i64 P2, .int .i64 P3, .int .i64 P4, .string P5] 64 (0, 0)) := by rw [hW]; exact heap_alloc_new w _
  have HF : Hid (LdAt W a g off cs l) := hf.kept hb
  have HQ : Hid _ := hq
  have HB : Hid (Below w.heap.size w W) := hb
  have HS : Hid (∀ d ∈ l, smallLd 1048576 d) := hs
  have HI : Hid (-9223372036854775808 ≤ P2 ∧ P2 ≤ 9223372036854775807) := hi
  clear hf hq hs hi hb
  unfold apV
  go_enter Try.func30, Try.ntmps30
  go_wp2_with (first | (rw [← hW]; clear hW) | fail)
  go_loopw [5] (fun i wr => ∃ k : Nat, k ≤ l.length ∧ i = .int .i64 (k : Int) ∧ Hid (∀ j (hj : j < l.length), j < k → wholeOne l[j] ⟨P0, P1, P2, P3, P4, P5⟩ = true) ∧ Below W.heap.size W wr)
    (fun i _ => l.length - (intOf i).toNat)
  case atStart => exact ⟨0, Nat.zero_le _, rfl, fun j hj h => by omega, Below.refl _ _⟩
  case round =>
    obtain ⟨k, hk, rfl, HA, hbel⟩ := hrel
    by_cases hlt : k < l.length
    · have hltc : k < cs.length := by rw [HF.out.2.1]; exact hlt
      have hcc := (HF.out.1.kept hbel).2 k hltc
      have hone := (HF.out.2.kept hbel).2 k hltc hlt
      have ea := HF.out.1.1 (by omega)
      subst ea
      obtain ⟨b, gb, ob, cb, hC, hat⟩ := hone
      rw [hC] at hcc
      unfold lcOf at hcc
      simp only at hcc
      have hs := HS.out l[k] (List.getElem_mem _)
      have hea : ∀ X, Below wr.heap.size wr X → Calls Try.prog 9 #[logV l[k].log b cb, .int .i64 P2] X fun en w' => en = .returned (.tuple #[entV (entD l[k].log P2), .bool (entB l[k].log P2)]) ∧ Below X.heap.size X w' := fun X h => specEntryAt_is l[k].log hs.1 (fun e he => hs.2 e he) P2 HI.out X (hat.kept h)
      have hw1 := wholeOne_eq l[k] ⟨P0, P1, P2, P3, P4, P5⟩
      simp only at hw1
      rw [logV_eq] at hea
      obtain ⟨E, hE⟩ : ∃ E, E = entB l[k].log P2 := ⟨_, rfl⟩
      obtain ⟨D, hD⟩ : ∃ D, D = entD l[k].log P2 := ⟨_, rfl⟩
      simp only [← hE, ← hD] at hea
      rw [← hE, ← hD] at hw1
      obtain ⟨F0, hF0⟩ : ∃ F0, F0 = l[k].node := ⟨_, rfl⟩
      obtain ⟨T, hT⟩ : ∃ T, T = l[k].term := ⟨_, rfl⟩
      obtain ⟨S, hS⟩ : ∃ S, S = l[k].log.start := ⟨_, rfl⟩
      obtain ⟨ST, hST⟩ : ∃ ST, ST = l[k].log.sterm := ⟨_, rfl⟩
      obtain ⟨n, hn⟩ : ∃ n, n = l[k].log.ents.length := ⟨_, rfl⟩
      rw [← hF0, ← hT, ← hS, ← hST, ← hn] at hcc
      rw [← hS, ← hST, ← hn] at hea
      rw [← hT, ← hS] at hw1
      clear hC hltc hE hD hF0 hT hS hST hn hs hat
      obtain ⟨D0, D1, D2⟩ := D
      unfold sameE at hw1
      simp only at hw1
      obtain ⟨X, hX⟩ : ∃ X, X = decide (D0 = P3 ∧ D1 = P4 ∧ D2 = P5) := ⟨_, rfl⟩
      rw [← hX] at hw1
      have hxe : ∀ wx, (binOp .neq 27 (.agg #[.int .i64 D0, .int .i64 D1, .string D2]) (.agg #[.int .i64 P3, .int .i64 P4, .string P5])).run Try.prog wx = .ok (.bool (!X)) wx := fun wx => by rw [hX]; have := neqEnt D0 D1 P3 P4 D2 P5 wx; simpa using this
      have HW1 : Hid _ := hw1
      have HEA : Hid (∀ X, Below wr.heap.size wr X → _) := hea
      clear hX hw1 hea
      unfold entV at HEA
      simp only at HEA
      have hqr := (hbel.block _ (Array.getElem?_eq_some_iff.1 HQ.out).1).trans HQ.out
      have HQR : Hid _ := hqr
      have p1 := cell_of_row _ _ 1 _ _ _ hqr
      have p2 := cell_of_row _ _ 2 _ _ _ hqr
      simp at p1 p2
      obtain ⟨c0, c1, c2, c3, c4⟩ := hcc
      clear hqr
      have hk0 : (0 : Int) ≤ (k : Int) := by omega
      have hk1 : (k : Int) < (l.length : Int) := by omega
      go_wp2
      have NE := Abv.ne wr
      have C1 := fun x : Abv wr => x.cell c1
      have C2 := fun x : Abv wr => x.cell c2
      have Q1 := fun x : Abv wr => x.cell p1
      have Q2 := fun x : Abv wr => x.cell p2
      by_cases h1 : T ≤ P1
      · have t1 : decide (T ≤ P1) = true := decide_eq_true h1
        refine wp_region_above (by kernel_rfl) (by kernel_rfl) ?_
        repeat (go_big_quiet_step (fail))
        refine wpQuiet_nil ?_
        rintro w2 ⟨⟨_, hb2⟩, rfl⟩
        have HY : Hid (wholeOne l[k] ⟨P0, P1, P2, P3, P4, P5⟩ = true) := by show _ = _; rw [HW1.out, t1]; rfl
        clear NE C1 C2 Q1 Q2
        go_wp2
        go_roundw
        case rel =>
          refine ⟨k + 1, by omega, by go_num, fun j hj hjk => ?_, hbel.trans (hb2.mono hbel.size)⟩
          by_cases e : j = k
          · subst e; exact HY.out
          · exact HA.out j hj (by omega)
        case measure => simp [intOf]; omega
      · have t1 : decide (T ≤ P1) = false := decide_eq_false h1
        by_cases h2 : P2 ≤ S
        · have t2 : decide (P2 ≤ S) = true := decide_eq_true h2
          have t3 : decide (S ≥ P2) = true := decide_eq_true h2
          refine wp_region_above (by kernel_rfl) (by kernel_rfl) ?_
          repeat (go_big_quiet_step (fail))
          refine wpQuiet_nil ?_
          rintro w2 ⟨⟨_, hb2⟩, rfl⟩
          have HY : Hid (wholeOne l[k] ⟨P0, P1, P2, P3, P4, P5⟩ = true) := by show _ = _; rw [HW1.out, t1, t2]; rfl
          clear NE C1 C2 Q1 Q2
          go_wp2
          go_roundw
          case rel =>
            refine ⟨k + 1, by omega, by go_num, fun j hj hjk => ?_, hbel.trans (hb2.mono hbel.size)⟩
            by_cases e : j = k
            · subst e; exact HY.out
            · exact HA.out j hj (by omega)
          case measure => simp [intOf]; omega
        · have t2 : decide (P2 ≤ S) = false := decide_eq_false h2
          have t3 : decide (S ≥ P2) = false := decide_eq_false h2
          refine wp_region_above (by kernel_rfl) (by kernel_rfl) ?_
          repeat (go_big_quiet_step (fail))
          refine wpQuiet_nil ?_
          rintro w2 ⟨⟨_, hb2⟩, rfl⟩
          have HY : Hid (wholeOne l[k] ⟨P0, P1, P2, P3, P4, P5⟩ = (E && X)) := by show _ = _; rw [HW1.out, t1, t2]; rfl
          have HX : Hid (∀ Y, Below w2.heap.size w2 Y → (Y.cell? ⟨g, off + k * 5 + 2, none⟩ = some (.int .i64 S) ∧ Y.cell? ⟨g, off + k * 5 + 3, none⟩ = some (.int .i64 ST) ∧ Y.cell? ⟨g, off + k * 5 + 4, none⟩ = some (.slice b n cb) ∧ Y.cell? ⟨w.heap.size, 2, none⟩ = some (.int .i64 P2))) := fun Y h => by
            have hh := hb2.trans (h.mono hb2.size)
            exact ⟨(Abv.mk Y hh).cell c2, (Abv.mk Y hh).cell c3, (Abv.mk Y hh).cell c4, (Abv.mk Y hh).cell p2⟩
          have HE2 : Hid (∀ Y, Below w2.heap.size w2 Y → Calls Try.prog 9 #[.agg #[.int .i64 S, .int .i64 ST, .slice b n cb], .int .i64 P2] Y fun en w' => en = .returned (.tuple #[.agg #[.int .i64 D0, .int .i64 D1, .string D2], .bool E]) ∧ Below Y.heap.size Y w') := fun Y h => HEA.out Y (hb2.trans (h.mono hb2.size))
          have HQ2 : Hid (w2.heap[w.heap.size]? = some (.cells #[.int .i64 P0, .int .i64 P1, .int .i64 P2, .int .i64 P3, .int .i64 P4, .string P5] 64 (0, 0))) := (hb2.block _ (Array.getElem?_eq_some_iff.1 HQR.out).1).trans HQR.out
          have HBW : Hid (Below W.heap.size W w2) := hbel.trans (hb2.mono hbel.size)
          clear NE C1 C2 Q1 Q2 c0 c1 c2 c3 c4 p1 p2 hbel hb2
          obtain ⟨x2, x3, x4, y2⟩ := HX.out w2 (Below.refl _ _)
          go_wp2_with fail
          go_region_held3 (fun Y => Y.cell? ⟨g, off + k * 5 + 2, none⟩ = some (.int .i64 S) ∧ Y.cell? ⟨g, off + k * 5 + 3, none⟩ = some (.int .i64 ST) ∧ Y.cell? ⟨g, off + k * 5 + 4, none⟩ = some (.slice b n cb) ∧ Y.cell? ⟨w.heap.size, 2, none⟩ = some (.int .i64 P2))
            (first | go_keep | exact HX.out _ hb6 | exact HX.out _ (hb6.alloc hb6.size _) | exact HX.out _ (((hb6.setCell (Nat.le_refl _) _).setCell (Nat.le_refl _) _).setCell (Nat.le_refl _) _))
            (first | (go_at_call 9; refine (HE2.out _ (by first | exact (Below.refl _ _).drew | exact ((Below.refl _ _).drew).alloc (by simp) _ | exact ((Below.refl _ _).alloc (Nat.le_refl _) _).drew)).mono ?_; rintro e w5 ⟨rfl, hb5⟩; have hb6 : Below w2.heap.size w2 w5 := below3 (by first | exact (Below.refl _ _).drew | exact ((Below.refl _ _).drew).alloc (by simp) _ | exact ((Below.refl _ _).alloc (Nat.le_refl _) _).drew) hb5; try (have hz5 := zrow (w := w2) hb5 rfl; obtain ⟨z0, z1, z2, f0, f1, f2⟩ := hz5)) | fail)
          all_goals
            have hq5 := (hb6.block _ (Array.getElem?_eq_some_iff.1 HQ2.out).1).trans HQ2.out
            have hwz : w.heap.size < w2.heap.size := (Array.getElem?_eq_some_iff.1 HQ2.out).1
            have hne1 : w.heap.size ≠ w2.heap.size := by omega
            have hne2 : w2.heap.size ≠ w.heap.size := by omega
            have q3 := cell_of_row _ _ 3 _ _ _ hq5
            have q4 := cell_of_row _ _ 4 _ _ _ hq5
            have q5 := cell_of_row _ _ 5 _ _ _ hq5
            simp at q3 q4 q5
            have hqa := ((hb6.alloc hb6.size (Obj.cells #[.int .i64 D0, .int .i64 D1, .string D2] 27)).block _ (Array.getElem?_eq_some_iff.1 HQ2.out).1).trans HQ2.out
            have q3a : (w5.alloc (Obj.cells #[.int .i64 D0, .int .i64 D1, .string D2] 27)).cell? ⟨w.heap.size, 3, none⟩ = some (.int .i64 P3) := cell_of_row _ _ 3 _ _ _ hqa
            have q4a : (w5.alloc (Obj.cells #[.int .i64 D0, .int .i64 D1, .string D2] 27)).cell? ⟨w.heap.size, 4, none⟩ = some (.int .i64 P4) := cell_of_row _ _ 4 _ _ _ hqa
            have q5a : (w5.alloc (Obj.cells #[.int .i64 D0, .int .i64 D1, .string D2] 27)).cell? ⟨w.heap.size, 5, none⟩ = some (.string P5) := cell_of_row _ _ 5 _ _ _ hqa
            have HB6 : Hid (Below w2.heap.size w2 w5) := hb6
            clear hq5 hqa hb5 x2 x3 x4 y2 HX HE2
            cases E
            · have HN : Hid (wholeB l ⟨P0, P1, P2, P3, P4, P5⟩ = false) := wholeB_no hlt (by rw [HY.out]; rfl)
              go_wp2
              go_ret
              exact ⟨by rw [HN.out]; rfl, HB.out.trans (((by first | exact HBW.out.trans ((hb6.alloc hb6.size _).mono HBW.out.size) | exact HBW.out.trans ((((hb6.setCell (Nat.le_refl _) _).setCell (Nat.le_refl _) _).setCell (Nat.le_refl _) _).mono HBW.out.size)) : Below W.heap.size W _).mono HB.out.size)⟩
            · cases X
              · have HN : Hid (wholeB l ⟨P0, P1, P2, P3, P4, P5⟩ = false) := wholeB_no hlt (by rw [HY.out]; rfl)
                simp only [Bool.not_false] at hxe
                go_wp2
                go_ret
                exact ⟨by rw [HN.out]; rfl, HB.out.trans (((by first | exact HBW.out.trans ((hb6.alloc hb6.size _).mono HBW.out.size) | exact HBW.out.trans ((((hb6.setCell (Nat.le_refl _) _).setCell (Nat.le_refl _) _).setCell (Nat.le_refl _) _).mono HBW.out.size)) : Below W.heap.size W _).mono HB.out.size)⟩
              · simp only [Bool.not_true] at hxe
                go_wp2
                go_roundw
                case rel =>
                  refine ⟨k + 1, by omega, by go_num, fun j hj hjk => ?_, (by first | exact HBW.out.trans ((hb6.alloc hb6.size _).mono HBW.out.size) | exact HBW.out.trans ((((hb6.setCell (Nat.le_refl _) _).setCell (Nat.le_refl _) _).setCell (Nat.le_refl _) _).mono HBW.out.size))⟩
                  by_cases e : j = k
                  · subst e; rw [HY.out]; rfl
                  · exact HA.out j hj (by omega)
                case measure => simp [intOf]; omega
    · have hk1 : ¬ (k : Int) < (l.length : Int) := by omega
      have HN : Hid (wholeB l ⟨P0, P1, P2, P3, P4, P5⟩ = true) := wholeB_yes (fun j hj => HA.out j hj (by omega))
      go_wp2
      go_ret
      exact ⟨by rw [HN.out]; rfl, HB.out.trans (hbel.mono HB.out.size)⟩
end Go.Proofs.Ytddmogggdckneaa
