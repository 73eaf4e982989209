/- The call of the specification's BatchOk, walked. -/
import Derived.Test.YtbcfiiilikkkeaaGreatDoorReader
namespace Go.Proofs.YtbcfiiilikkkeaaGreatDoor
open Go.RowKit

set_option maxHeartbeats 400000 in
theorem l05Key_is (k : ByteArray) (hk : k.size ≤ 9223372036854775807) (R : Bool) (hR : R = true ↔ 1 ≤ k.size ∧ k.size ≤ 10) (w : World) :
    Calls Tryz.prog 166 #[.string k] w fun e w' => e = .returned (.bool R) ∧ w' = w := by
  by_cases h : 1 ≤ k.size ∧ k.size ≤ 10
  · have hR' : R = true := hR.2 h
    subst hR'
    clear hR
    go_enter Tryz.func166, Tryz.ntmps166
    go_wp2_with (go_at_call 130; refine (in_yes (k.size : Int) 1 10 (by omega) _).mono ?_; rintro e w1 ⟨rfl, rfl⟩)
    go_ret
    exact ⟨rfl, rfl⟩
  · have hR' : R = false := ans_no hR h
    subst hR'
    clear hR
    go_enter Tryz.func166, Tryz.ntmps166
    go_wp2_with (go_at_call 130; refine (in_no (k.size : Int) 1 10 (by omega) _).mono ?_; rintro e w1 ⟨rfl, rfl⟩)
    go_ret
    exact ⟨rfl, rfl⟩
theorem empty_iff (V : ByteArray) : V.size = 0 ↔ V = ⟨#[]⟩ := by
  constructor
  · intro h
    exact Batches.by_inj (List.eq_nil_iff_length_eq_zero.2 h)
  · rintro rfl; rfl

theorem empty_no {V : ByteArray} (h : ¬ V = ⟨#[]⟩) : (V.toList == []) = false := by
  rw [Batches.toList_by]
  cases e : V.data.toList with
  | nil => exact absurd (Batches.by_inj (a := V) (b := ⟨#[]⟩) e) h
  | cons x r => simp only [Batches.by_, e]; rfl
theorem calls_above_q {P : Program} {f : FuncId} {args : Array Value} {W : World} {v : Value} {x : Abv W} (h : Calls P f args x.w fun e w' => e = .returned v ∧ w' = x.w) :
    Calls P f args x.w fun e w'' => e = .returned v ∧ ∃ y : Abv W, w'' = y.w :=
  h.mono fun _ _ ⟨he, hb⟩ => ⟨he, x, hb⟩
theorem chg_ok {l : List ChangeL} {k : Nat} {hk : k < l.length} {A V : ByteArray} {G : Bool} (hA : A = l[k].key) (hV : V = l[k].value) (hG : G = l[k].gone) (hn : 1 ≤ A.size ∧ A.size ≤ 10) (hv : V.size ≤ 40) (hgv : G = true → V.size = 0) : Batches.changeOk l[k] := by
  subst hA hV hG
  exact ⟨hn.1, hn.2, hv, hgv⟩
set_option maxHeartbeats 4000000 in
set_option maxRecDepth 100000 in
theorem specOk_any (R : Bool) (st : Int) {a : Option Addr} {g off cap : Nat} (l : List ChangeL) (hlen : l.length ≤ 2097152) (w : World) (hf : ChangeAt w a g off l) (hsz : ∀ c ∈ l, smallChange 2097152 c) (hR : R = true ↔ Batches.ok st l) :
    Calls Tryz.prog 101 #[.agg #[.int .i64 st, .slice a l.length cap]] w fun e w' => e = .returned (.bool R) ∧ Below w.heap.size w w' := by
  have HR : Hid (R = true ↔ Batches.ok st l) := hR
  clear hR
  have HF : Hid (ChangeAt w a g off l) := hf
  have HS : Hid (∀ c ∈ l, smallChange 2097152 c) := hsz
  clear hf hsz
  by_cases hst : 0 ≤ st ∧ st ≤ 100000
  · by_cases h60 : 60 < l.length
    · have h1 : (60 : Int) < (l.length : Int) := by omega
      go_enter Tryz.func101, Tryz.ntmps101
      go_wp2_with (go_at_call 130; refine (in_yes st 0 100000 hst _).mono ?_; rintro e w1 ⟨rfl, rfl⟩)
      go_ret
      exact ⟨by rw [ans_no HR.out (fun h => by have := h.2.1; omega)]; rfl, (Below.refl _ _).alloc (Nat.le_refl _) _⟩
    · have h1 : ¬ (60 : Int) < (l.length : Int) := by omega
      go_enter Tryz.func101, Tryz.ntmps101
      go_wp2_with (go_at_call 130; refine (in_yes st 0 100000 hst _).mono ?_; rintro e w1 ⟨rfl, rfl⟩)
      go_loopw [3] (fun i wr => ∃ k : Nat, k ≤ l.length ∧ i = .int .i64 (k : Int) ∧ (∀ j, j < k → Batches.okAt l j) ∧ wr.cell? ⟨w.heap.size, 1, none⟩ = some (.slice a l.length cap) ∧ Below w.heap.size w wr)
        (fun i _ => l.length - (intOf i).toNat)
      case atStart => exact ⟨0, Nat.zero_le _, rfl, fun j hj => absurd hj (Nat.not_lt_zero _), cell_of_row _ _ _ _ _ _ (heap_alloc_new w _), (Below.refl _ _).alloc (Nat.le_refl _) _⟩
      case round =>
        obtain ⟨k, hk, rfl, hall, hd, hbel⟩ := hrel
        have HA : Hid (∀ j, j < k → Batches.okAt l j) := hall
        clear hall
        by_cases hlt : k < l.length
        · obtain ⟨c0, c1, c2⟩ := (HF.out.kept hbel).2 k hlt
          have ea := HF.out.1 (by omega)
          subst ea
          obtain ⟨A, hA⟩ : ∃ A, A = l[k].key := ⟨_, rfl⟩
          obtain ⟨V, hV⟩ : ∃ V, V = l[k].value := ⟨_, rfl⟩
          obtain ⟨G, hG⟩ : ∃ G, G = l[k].gone := ⟨_, rfl⟩
          obtain ⟨s0, s1⟩ := HS.out l[k] (List.getElem_mem _)
          rw [← hA] at c0 s0
          rw [← hV] at c1 s1
          rw [← hG] at c2
          have HAA : Hid (A = l[k].key) := hA
          have HVV : Hid (V = l[k].value) := hV
          have HGG : Hid (G = l[k].gone) := hG
          clear hA hV hG
          have hk0 : (0 : Int) ≤ (k : Int) := by omega
          have hk1 : (k : Int) < (l.length : Int) := by omega
          have hz : w.heap.size < wr.heap.size := World.block_lt_of_cell? wr _ hd
          have hg : g < wr.heap.size := World.block_lt_of_cell? wr _ c0
          by_cases hn : 1 ≤ A.size ∧ A.size ≤ 10
          · rcases Nat.eq_zero_or_pos k with hk00 | hp
            · have hkd : decide (0 < k) = false := decide_eq_false (by omega)
              have HZ : Hid (k = 0) := hk00
              clear hk00
              go_wp2
              obtain ⟨W1, hW1⟩ : ∃ W1, W1 = wr.alloc (Obj.cells #[Value.string A, Value.string V, Value.bool G] 149) := ⟨_, rfl⟩
              rw [← hW1]
              have hB1 : Below wr.heap.size wr W1 := by rw [hW1]; exact (Below.refl _ _).alloc (Nat.le_refl _) _
              have f0 : W1.cell? ⟨wr.heap.size, 0, none⟩ = some (.string A) := by rw [hW1]; exact cell_of_row _ _ 0 _ _ _ (heap_alloc_new wr _)
              have f1 : W1.cell? ⟨wr.heap.size, 1, none⟩ = some (.string V) := by rw [hW1]; exact cell_of_row _ _ 1 _ _ _ (heap_alloc_new wr _)
              have f2 : W1.cell? ⟨wr.heap.size, 2, none⟩ = some (.bool G) := by rw [hW1]; exact cell_of_row _ _ 2 _ _ _ (heap_alloc_new wr _)
              have hz1 : wr.heap.size < W1.heap.size := World.block_lt_of_cell? W1 _ f0
              have hd1 : W1.cell? ⟨w.heap.size, 1, none⟩ = some (.slice (some ⟨g, off, none⟩) l.length cap) := by rw [hB1.cell (p := ⟨w.heap.size, 1, none⟩) hz]; exact hd
              have hw1 : Below w.heap.size w W1 := hbel.trans (hB1.mono hbel.size)
              have hzz : w.heap.size < W1.heap.size := Nat.lt_trans hz hz1
              clear hW1 hd c0 c1 c2
              by_cases hv : V.size ≤ 40
              · have htd : decide ((40 : Int) < (V.size : Int)) = false := decide_eq_false (by omega)
                cases G with
                | false =>
                  have hgv : false = true → V.size = 0 := fun h => by cases h
                  have HN : Hid (Batches.okAt l k) := ⟨hlt, chg_ok HAA.out HVV.out HGG.out hn hv hgv, fun h => absurd h (by have := HZ.out; omega)⟩
                  have NE := Abv.ne W1
                  have F0 := fun x : Abv W1 => x.cell f0
                  have F1 := fun x : Abv W1 => x.cell f1
                  have F2 := fun x : Abv W1 => x.cell f2
                  have FD := fun x : Abv W1 => x.cell hd1
                  refine wp_region_above (by kernel_rfl) (by kernel_rfl) ?_
                  repeat (go_big_quiet_step (first | (go_at_call 166; exact calls_above_q (l05Key_is A (by omega) true (by simp [hn]) _))))
                  refine wpQuiet_nil ?_
                  rintro w1 ⟨⟨_, hb1⟩, rfl⟩
                  clear NE F0 F1 F2 FD
                  go_wp2
                  go_roundw
                  case rel => exact ⟨k + 1, by omega, by go_num, Batches.ok_step HA.out HN.out, (hb1.cell (p := ⟨w.heap.size, 1, none⟩) hzz).trans hd1, hw1.trans (hb1.mono hw1.size)⟩
                  case measure => simp [intOf]; omega
                | true =>
                  by_cases hve : V.size = 0
                  · have hgv : true = true → V.size = 0 := fun _ => hve
                    have hve2 : V = ⟨#[]⟩ := (empty_iff V).1 hve
                    have hve4 : (V.toList == []) = true := by rw [Batches.toList_by, hve2]; rfl
                    clear hve2
                    have HN : Hid (Batches.okAt l k) := ⟨hlt, chg_ok HAA.out HVV.out HGG.out hn hv hgv, fun h => absurd h (by have := HZ.out; omega)⟩
                    have NE := Abv.ne W1
                    have F0 := fun x : Abv W1 => x.cell f0
                    have F1 := fun x : Abv W1 => x.cell f1
                    have F2 := fun x : Abv W1 => x.cell f2
                    have FD := fun x : Abv W1 => x.cell hd1
                    refine wp_region_above (by kernel_rfl) (by kernel_rfl) ?_
                    repeat (go_big_quiet_step (first | (go_at_call 166; exact calls_above_q (l05Key_is A (by omega) true (by simp [hn]) _))))
                    refine wpQuiet_nil ?_
                    rintro w1 ⟨⟨_, hb1⟩, rfl⟩
                    clear NE F0 F1 F2 FD
                    go_wp2
                    go_roundw
                    case rel => exact ⟨k + 1, by omega, by go_num, Batches.ok_step HA.out HN.out, (hb1.cell (p := ⟨w.heap.size, 1, none⟩) hzz).trans hd1, hw1.trans (hb1.mono hw1.size)⟩
                    case measure => simp [intOf]; omega
                  · have hve2 : ¬ V = ⟨#[]⟩ := fun h => hve ((empty_iff V).2 h)
                    have hve4 : (V.toList == []) = false := empty_no hve2
                    clear hve2
                    have HN : Hid (¬ Batches.okAt l k) := by
                      show ¬ _
                      rintro ⟨_, q, _⟩
                      exact hve (by rw [HVV.out]; exact q.2.2.2 HGG.out.symm)
                    have NE := Abv.ne W1
                    have F0 := fun x : Abv W1 => x.cell f0
                    have F1 := fun x : Abv W1 => x.cell f1
                    have F2 := fun x : Abv W1 => x.cell f2
                    have FD := fun x : Abv W1 => x.cell hd1
                    refine wp_region_above (by kernel_rfl) (by kernel_rfl) ?_
                    repeat (go_big_quiet_step (first | (go_at_call 166; exact calls_above_q (l05Key_is A (by omega) true (by simp [hn]) _))))
                    refine wpQuiet_nil ?_
                    rintro w1 ⟨⟨_, hb1⟩, rfl⟩
                    clear NE F0 F1 F2 FD
                    go_wp2
                    go_ret
                    exact ⟨by rw [ans_no HR.out (Batches.not_ok hlt HN.out)]; rfl, hw1.trans (hb1.mono hw1.size)⟩
              · have htd : decide ((40 : Int) < (V.size : Int)) = true := decide_eq_true (by omega)
                have HN : Hid (¬ Batches.okAt l k) := by
                  show ¬ _
                  rintro ⟨_, q, _⟩
                  exact hv (by rw [HVV.out]; exact q.2.2.1)
                have NE := Abv.ne W1
                have F0 := fun x : Abv W1 => x.cell f0
                have F1 := fun x : Abv W1 => x.cell f1
                have F2 := fun x : Abv W1 => x.cell f2
                have FD := fun x : Abv W1 => x.cell hd1
                refine wp_region_above (by kernel_rfl) (by kernel_rfl) ?_
                repeat (go_big_quiet_step (first | (go_at_call 166; exact calls_above_q (l05Key_is A (by omega) true (by simp [hn]) _))))
                refine wpQuiet_nil ?_
                rintro w1 ⟨⟨_, hb1⟩, rfl⟩
                clear NE F0 F1 F2 FD
                go_wp2
                go_ret
                exact ⟨by rw [ans_no HR.out (Batches.not_ok hlt HN.out)]; rfl, hw1.trans (hb1.mono hw1.size)⟩
            · obtain ⟨m, rfl⟩ : ∃ m, k = m + 1 := ⟨k - 1, by omega⟩
              obtain ⟨e0, _⟩ := (HF.out.kept hbel).2 m (by omega)
              obtain ⟨E, hE⟩ : ∃ E, E = l[m].key := ⟨_, rfl⟩
              rw [← hE] at e0
              have HEE : Hid (E = l[m].key) := hE
              clear hE
              have hm1 : IntKind.i64.wrap ((m : Int) + 1 - 1) = (m : Int) := by rw [IntWalk.i64_in _ (by omega)]; omega
              have hm2 : decide ((0 : Int) < (m : Int) + 1) = true := decide_eq_true (by omega)
              have hm3 : (0 : Int) ≤ (m : Int) := by omega
              have hm4 : (m : Int) < (l.length : Int) := by omega
              go_wp2
              obtain ⟨W1, hW1⟩ : ∃ W1, W1 = wr.alloc (Obj.cells #[Value.string A, Value.string V, Value.bool G] 149) := ⟨_, rfl⟩
              rw [← hW1]
              have hB1 : Below wr.heap.size wr W1 := by rw [hW1]; exact (Below.refl _ _).alloc (Nat.le_refl _) _
              have f0 : W1.cell? ⟨wr.heap.size, 0, none⟩ = some (.string A) := by rw [hW1]; exact cell_of_row _ _ 0 _ _ _ (heap_alloc_new wr _)
              have f1 : W1.cell? ⟨wr.heap.size, 1, none⟩ = some (.string V) := by rw [hW1]; exact cell_of_row _ _ 1 _ _ _ (heap_alloc_new wr _)
              have f2 : W1.cell? ⟨wr.heap.size, 2, none⟩ = some (.bool G) := by rw [hW1]; exact cell_of_row _ _ 2 _ _ _ (heap_alloc_new wr _)
              have hz1 : wr.heap.size < W1.heap.size := World.block_lt_of_cell? W1 _ f0
              have hd1 : W1.cell? ⟨w.heap.size, 1, none⟩ = some (.slice (some ⟨g, off, none⟩) l.length cap) := by rw [hB1.cell (p := ⟨w.heap.size, 1, none⟩) hz]; exact hd
              have hw1 : Below w.heap.size w W1 := hbel.trans (hB1.mono hbel.size)
              have hzz : w.heap.size < W1.heap.size := Nat.lt_trans hz hz1
              clear hW1 hd c0 c1 c2
              have e1 : W1.cell? ⟨g, off + m * 3, none⟩ = some (.string E) := by rw [hB1.cell (p := ⟨g, off + m * 3, none⟩) hg]; exact e0
              clear e0
              by_cases hb : Op.bytesLess E.toList A.toList = true
              · skip
                by_cases hv : V.size ≤ 40
                · have htd : decide ((40 : Int) < (V.size : Int)) = false := decide_eq_false (by omega)
                  cases G with
                  | false =>
                    have hgv : false = true → V.size = 0 := fun h => by cases h
                    have HN : Hid (Batches.okAt l (m + 1)) := ⟨hlt, chg_ok HAA.out HVV.out HGG.out hn hv hgv, fun _ => ⟨by omega, by show Op.bytesLess _ _ = true; rw [← HAA.out]; simp only [Nat.add_sub_cancel]; rw [← HEE.out]; exact hb⟩⟩
                    have NE := Abv.ne W1
                    have F0 := fun x : Abv W1 => x.cell f0
                    have F1 := fun x : Abv W1 => x.cell f1
                    have F2 := fun x : Abv W1 => x.cell f2
                    have FD := fun x : Abv W1 => x.cell hd1
                    have FE := fun x : Abv W1 => x.cell e1
                    refine wp_region_above (by kernel_rfl) (by kernel_rfl) ?_
                    repeat (go_big_quiet_step (first | (go_at_call 166; exact calls_above_q (l05Key_is A (by omega) true (by simp [hn]) _))))
                    refine wpQuiet_nil ?_
                    rintro w1 ⟨⟨_, hb1⟩, rfl⟩
                    clear NE F0 F1 F2 FD FE
                    go_wp2
                    go_roundw
                    case rel => exact ⟨(m + 1) + 1, by omega, by go_num, Batches.ok_step HA.out HN.out, (hb1.cell (p := ⟨w.heap.size, 1, none⟩) hzz).trans hd1, hw1.trans (hb1.mono hw1.size)⟩
                    case measure => simp [intOf]; omega
                  | true =>
                    by_cases hve : V.size = 0
                    · have hgv : true = true → V.size = 0 := fun _ => hve
                      have hve2 : V = ⟨#[]⟩ := (empty_iff V).1 hve
                      have hve4 : (V.toList == []) = true := by rw [Batches.toList_by, hve2]; rfl
                      clear hve2
                      have HN : Hid (Batches.okAt l (m + 1)) := ⟨hlt, chg_ok HAA.out HVV.out HGG.out hn hv hgv, fun _ => ⟨by omega, by show Op.bytesLess _ _ = true; rw [← HAA.out]; simp only [Nat.add_sub_cancel]; rw [← HEE.out]; exact hb⟩⟩
                      have NE := Abv.ne W1
                      have F0 := fun x : Abv W1 => x.cell f0
                      have F1 := fun x : Abv W1 => x.cell f1
                      have F2 := fun x : Abv W1 => x.cell f2
                      have FD := fun x : Abv W1 => x.cell hd1
                      have FE := fun x : Abv W1 => x.cell e1
                      refine wp_region_above (by kernel_rfl) (by kernel_rfl) ?_
                      repeat (go_big_quiet_step (first | (go_at_call 166; exact calls_above_q (l05Key_is A (by omega) true (by simp [hn]) _))))
                      refine wpQuiet_nil ?_
                      rintro w1 ⟨⟨_, hb1⟩, rfl⟩
                      clear NE F0 F1 F2 FD FE
                      go_wp2
                      go_roundw
                      case rel => exact ⟨(m + 1) + 1, by omega, by go_num, Batches.ok_step HA.out HN.out, (hb1.cell (p := ⟨w.heap.size, 1, none⟩) hzz).trans hd1, hw1.trans (hb1.mono hw1.size)⟩
                      case measure => simp [intOf]; omega
                    · have hve2 : ¬ V = ⟨#[]⟩ := fun h => hve ((empty_iff V).2 h)
                      have hve4 : (V.toList == []) = false := empty_no hve2
                      clear hve2
                      have HN : Hid (¬ Batches.okAt l (m + 1)) := by
                        show ¬ _
                        rintro ⟨_, q, _⟩
                        exact hve (by rw [HVV.out]; exact q.2.2.2 HGG.out.symm)
                      have NE := Abv.ne W1
                      have F0 := fun x : Abv W1 => x.cell f0
                      have F1 := fun x : Abv W1 => x.cell f1
                      have F2 := fun x : Abv W1 => x.cell f2
                      have FD := fun x : Abv W1 => x.cell hd1
                      have FE := fun x : Abv W1 => x.cell e1
                      refine wp_region_above (by kernel_rfl) (by kernel_rfl) ?_
                      repeat (go_big_quiet_step (first | (go_at_call 166; exact calls_above_q (l05Key_is A (by omega) true (by simp [hn]) _))))
                      refine wpQuiet_nil ?_
                      rintro w1 ⟨⟨_, hb1⟩, rfl⟩
                      clear NE F0 F1 F2 FD FE
                      go_wp2
                      go_ret
                      exact ⟨by rw [ans_no HR.out (Batches.not_ok hlt HN.out)]; rfl, hw1.trans (hb1.mono hw1.size)⟩
                · have htd : decide ((40 : Int) < (V.size : Int)) = true := decide_eq_true (by omega)
                  have HN : Hid (¬ Batches.okAt l (m + 1)) := by
                    show ¬ _
                    rintro ⟨_, q, _⟩
                    exact hv (by rw [HVV.out]; exact q.2.2.1)
                  have NE := Abv.ne W1
                  have F0 := fun x : Abv W1 => x.cell f0
                  have F1 := fun x : Abv W1 => x.cell f1
                  have F2 := fun x : Abv W1 => x.cell f2
                  have FD := fun x : Abv W1 => x.cell hd1
                  have FE := fun x : Abv W1 => x.cell e1
                  refine wp_region_above (by kernel_rfl) (by kernel_rfl) ?_
                  repeat (go_big_quiet_step (first | (go_at_call 166; exact calls_above_q (l05Key_is A (by omega) true (by simp [hn]) _))))
                  refine wpQuiet_nil ?_
                  rintro w1 ⟨⟨_, hb1⟩, rfl⟩
                  clear NE F0 F1 F2 FD FE
                  go_wp2
                  go_ret
                  exact ⟨by rw [ans_no HR.out (Batches.not_ok hlt HN.out)]; rfl, hw1.trans (hb1.mono hw1.size)⟩
              · have hb' : Op.bytesLess E.toList A.toList = false := by simpa using hb
                have HN : Hid (¬ Batches.okAt l (m + 1)) := by
                  show ¬ _
                  rintro ⟨_, _, q⟩
                  obtain ⟨_, q2⟩ := q (by omega)
                  simp only [Nat.add_sub_cancel, Batches.lt] at q2
                  rw [← HAA.out, ← HEE.out] at q2
                  exact hb q2
                have NE := Abv.ne W1
                have F0 := fun x : Abv W1 => x.cell f0
                have F1 := fun x : Abv W1 => x.cell f1
                have F2 := fun x : Abv W1 => x.cell f2
                have FD := fun x : Abv W1 => x.cell hd1
                have FE := fun x : Abv W1 => x.cell e1
                refine wp_region_above (by kernel_rfl) (by kernel_rfl) ?_
                repeat (go_big_quiet_step (first | (go_at_call 166; exact calls_above_q (l05Key_is A (by omega) true (by simp [hn]) _))))
                refine wpQuiet_nil ?_
                rintro w1 ⟨⟨_, hb1⟩, rfl⟩
                clear NE F0 F1 F2 FD FE
                go_wp2
                go_ret
                exact ⟨by rw [ans_no HR.out (Batches.not_ok hlt HN.out)]; rfl, hw1.trans (hb1.mono hw1.size)⟩
          · go_wp2
            obtain ⟨W1, hW1⟩ : ∃ W1, W1 = wr.alloc (Obj.cells #[Value.string A, Value.string V, Value.bool G] 149) := ⟨_, rfl⟩
            rw [← hW1]
            have hB1 : Below wr.heap.size wr W1 := by rw [hW1]; exact (Below.refl _ _).alloc (Nat.le_refl _) _
            have f0 : W1.cell? ⟨wr.heap.size, 0, none⟩ = some (.string A) := by rw [hW1]; exact cell_of_row _ _ 0 _ _ _ (heap_alloc_new wr _)
            have f1 : W1.cell? ⟨wr.heap.size, 1, none⟩ = some (.string V) := by rw [hW1]; exact cell_of_row _ _ 1 _ _ _ (heap_alloc_new wr _)
            have f2 : W1.cell? ⟨wr.heap.size, 2, none⟩ = some (.bool G) := by rw [hW1]; exact cell_of_row _ _ 2 _ _ _ (heap_alloc_new wr _)
            have hz1 : wr.heap.size < W1.heap.size := World.block_lt_of_cell? W1 _ f0
            have hd1 : W1.cell? ⟨w.heap.size, 1, none⟩ = some (.slice (some ⟨g, off, none⟩) l.length cap) := by rw [hB1.cell (p := ⟨w.heap.size, 1, none⟩) hz]; exact hd
            have hw1 : Below w.heap.size w W1 := hbel.trans (hB1.mono hbel.size)
            have hzz : w.heap.size < W1.heap.size := Nat.lt_trans hz hz1
            clear hW1 hd c0 c1 c2
            have HN : Hid (¬ Batches.okAt l k) := by
              show ¬ _
              rintro ⟨_, q, _⟩
              exact hn ⟨by rw [HAA.out]; exact q.1, by rw [HAA.out]; exact q.2.1⟩
            have NE := Abv.ne W1
            have F0 := fun x : Abv W1 => x.cell f0
            have F1 := fun x : Abv W1 => x.cell f1
            have F2 := fun x : Abv W1 => x.cell f2
            have FD := fun x : Abv W1 => x.cell hd1
            refine wp_region_above (by kernel_rfl) (by kernel_rfl) ?_
            repeat (go_big_quiet_step (first | (go_at_call 166; exact calls_above_q (l05Key_is A (by omega) false (by simp [hn]) _))))
            refine wpQuiet_nil ?_
            rintro w1 ⟨⟨_, hb1⟩, rfl⟩
            clear NE F0 F1 F2 FD
            go_wp2
            go_ret
            exact ⟨by rw [ans_no HR.out (Batches.not_ok hlt HN.out)]; rfl, hw1.trans (hb1.mono hw1.size)⟩
        · have hk1 : ¬ (k : Int) < (l.length : Int) := by omega
          go_wp2
          go_ret
          exact ⟨by rw [HR.out.2 ⟨hst, by omega, fun j hj => HA.out j (by omega)⟩]; rfl, hbel⟩
  · go_enter Tryz.func101, Tryz.ntmps101
    go_wp2_with (go_at_call 130; refine (in_no st 0 100000 hst _).mono ?_; rintro e w1 ⟨rfl, rfl⟩)
    go_ret
    exact ⟨by rw [ans_no HR.out (fun h => hst h.1)]; rfl, (Below.refl _ _).alloc (Nat.le_refl _) _⟩
end Go.Proofs.YtbcfiiilikkkeaaGreatDoor
