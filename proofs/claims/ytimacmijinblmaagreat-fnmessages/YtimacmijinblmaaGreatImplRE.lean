/- The program's ReadEntry, walked. -/
import Derived.Test.YtimacmijinblmaaGreatWholeEnt
namespace Go.Proofs.YtimacmijinblmaaGreat
open Go.RowKit
open Ents (okB kindB rest ent Gets Torn Got right)
set_option linter.unusedVariables false
set_option linter.unusedSimpArgs false

theorem re_start (w : World) : Below w.heap.size w (((w.alloc (Obj.cells #[.int .i64 0, .int .i64 0, .string ⟨#[]⟩] 44)).alloc (Obj.cells #[.int .i64 0] 3)).alloc (Obj.cells #[.int .i64 0, .int .i64 0, .string ⟨#[]⟩] 44)) ∧
    (((w.alloc (Obj.cells #[.int .i64 0, .int .i64 0, .string ⟨#[]⟩] 44)).alloc (Obj.cells #[.int .i64 0] 3)).alloc (Obj.cells #[.int .i64 0, .int .i64 0, .string ⟨#[]⟩] 44)).heap[w.heap.size]? = some (.cells #[.int .i64 0, .int .i64 0, .string ⟨#[]⟩] 44 (0, 0)) ∧
    (((w.alloc (Obj.cells #[.int .i64 0, .int .i64 0, .string ⟨#[]⟩] 44)).alloc (Obj.cells #[.int .i64 0] 3)).alloc (Obj.cells #[.int .i64 0, .int .i64 0, .string ⟨#[]⟩] 44)).heap[w.heap.size + 1]? = some (.cells #[.int .i64 0] 3 (0, 0)) ∧
    (((w.alloc (Obj.cells #[.int .i64 0, .int .i64 0, .string ⟨#[]⟩] 44)).alloc (Obj.cells #[.int .i64 0] 3)).alloc (Obj.cells #[.int .i64 0, .int .i64 0, .string ⟨#[]⟩] 44)).heap[w.heap.size + 1 + 1]? = some (.cells #[.int .i64 0, .int .i64 0, .string ⟨#[]⟩] 44 (0, 0)) := by
  refine ⟨(((Below.refl _ _).alloc (Nat.le_refl _) _).alloc (by simp) _).alloc (by simp; omega) _, ?_, ?_, ?_⟩
  · rw [Below.heap_alloc _ _ _ (by simp; omega), Below.heap_alloc _ _ _ (by simp)]
    exact heap_alloc_new w _
  · rw [Below.heap_alloc _ _ _ (by simp)]
    have := heap_alloc_new (w.alloc (Obj.cells #[.int .i64 0, .int .i64 0, .string ⟨#[]⟩] 44)) (Obj.cells #[.int .i64 0] 3)
    simpa using this
  · have := heap_alloc_new ((w.alloc (Obj.cells #[.int .i64 0, .int .i64 0, .string ⟨#[]⟩] 44)).alloc (Obj.cells #[.int .i64 0] 3)) (Obj.cells #[.int .i64 0, .int .i64 0, .string ⟨#[]⟩] 44)
    simpa using this
def reNo : Value := .tuple #[.int .i64 0, .agg #[.int .i64 0, .int .i64 0, .string ⟨#[]⟩], .bool false]
set_option maxHeartbeats 2000000 in
set_option maxRecDepth 100000 in
theorem implRE_fails {t : ByteArray} (hs : t.size ≤ 1048576) (w : World) (h : Fails t) :
    Calls Tryz.prog 102 #[.string t] w fun en w' => en = .returned reNo ∧ Below w.heap.size w w' := by
  have HF : Hid (Fails t) := h
  clear h
  unfold reNo
  obtain ⟨W, hW⟩ : ∃ W, W = ((w.alloc (Obj.cells #[.int .i64 0, .int .i64 0, .string ⟨#[]⟩] 44)).alloc (Obj.cells #[.int .i64 0] 3)).alloc (Obj.cells #[.int .i64 0, .int .i64 0, .string ⟨#[]⟩] 44) := ⟨_, rfl⟩
  obtain ⟨hbW, hZ, hI, hE⟩ := re_start w
  rw [← hW] at hbW hZ hI hE
  have HBW : Hid (Below w.heap.size w W) := hbW
  have HZ : Hid (W.heap[w.heap.size]? = some (.cells #[.int .i64 0, .int .i64 0, .string ⟨#[]⟩] 44 (0, 0))) := hZ
  have HI : Hid (W.heap[w.heap.size + 1]? = some (.cells #[.int .i64 0] 3 (0, 0))) := hI
  have HE : Hid (W.heap[w.heap.size + 1 + 1]? = some (.cells #[.int .i64 0, .int .i64 0, .string ⟨#[]⟩] 44 (0, 0))) := hE
  have hmf : ∀ (fn : Fn) (first cap : Array Value) (w : World), (Instr.makeFunc fn first cap).run Tryz.prog w = .ok (.func fn first cap) w := fun _ _ _ _ => rfl
  have HQ : Hid (Calls Tryz.prog 22 #[.string t, .func (.func 120) #[] #[.pointer (some ⟨w.heap.size + 1, 0, none⟩), .pointer (some ⟨w.heap.size + 1 + 1, 0, none⟩)]] W fun en w' => en = .returned (.bool false) ∧ W.grownBy w' (some (w.heap.size + 1))) := whole_fails hs W (Array.getElem?_eq_some_iff.1 hI).1 HF.out
  clear hbW hZ hI hE
  go_enter Tryz.func102, Tryz.ntmps102
  go_wp2_with fail
  rw [← hW]
  clear hW
  refine Calls.mono HQ.out ?_
  rintro en w2 ⟨rfl, hg2⟩
  have hz2 := grown_keep HZ.out hg2 (by omega)
  have HZ2 : Hid (w2.heap[w.heap.size]? = some (.cells #[.int .i64 0, .int .i64 0, .string ⟨#[]⟩] 44 (0, 0))) := hz2
  have HB2 : Hid (Below w.heap.size w w2) := HBW.out.grown hg2 HBW.out.size (fun k e => by cases e; omega)
  have z0 := cell_of_row _ _ 0 _ _ _ hz2
  have z1 := cell_of_row _ _ 1 _ _ _ hz2
  have z2 := cell_of_row _ _ 2 _ _ _ hz2
  have zf0 := frozen_of_row _ _ 0 _ _ hz2
  have zf1 := frozen_of_row _ _ 1 _ _ hz2
  have zf2 := frozen_of_row _ _ 2 _ _ hz2
  simp at z0 z1 z2
  clear hz2 hg2 HQ HZ HI HE HBW
  go_wp2
  obtain ⟨k0, k1, k2⟩ := three_cell HZ2.out (.int .i64 0) (.int .i64 0) (.string ⟨#[]⟩)
  exact bodyPost_ret (v := .tuple #[.int .i64 0, .agg #[.int .i64 0, .int .i64 0, .string ⟨#[]⟩], .bool false]) (by simp [results, Tryz.results102, go_sem, k0, k1, k2]) rfl ⟨rfl, ((HB2.out.setCell (by simp) _).setCell (by simp) _).setCell (by simp) _⟩
set_option maxHeartbeats 2000000 in
set_option maxRecDepth 100000 in
theorem implRE_wrong {t : ByteArray} {i j : Nat} {k : UInt8} {a b : Nat} (hs : t.size ≤ 1048576) (w : World) (hg : Gets t i j k a b) (hk : kindB (ent t j k b) = true) (hr : ¬ right (i : Int) (ent t j k b)) :
    Calls Tryz.prog 102 #[.string t] w fun en w' => en = .returned reNo ∧ Below w.heap.size w w' := by
  unfold reNo
  obtain ⟨R, hR⟩ : ∃ R, R = okB (ent t j k b) := ⟨_, rfl⟩
  have HEO : Hid (∀ W, Calls Tryz.prog 116 #[entV (ent t j k b)] W fun en w' => en = .returned (.bool R) ∧ Below W.heap.size W w') := fun W => by rw [hR]; exact implEntOk_is _ (by have := ent_data hk; omega) W
  obtain ⟨W, hW⟩ : ∃ W, W = ((w.alloc (Obj.cells #[.int .i64 0, .int .i64 0, .string ⟨#[]⟩] 44)).alloc (Obj.cells #[.int .i64 0] 3)).alloc (Obj.cells #[.int .i64 0, .int .i64 0, .string ⟨#[]⟩] 44) := ⟨_, rfl⟩
  obtain ⟨hbW, hZ, hI, hE⟩ := re_start w
  rw [← hW] at hbW hZ hI hE
  have HBW : Hid (Below w.heap.size w W) := hbW
  have HZ : Hid (W.heap[w.heap.size]? = some (.cells #[.int .i64 0, .int .i64 0, .string ⟨#[]⟩] 44 (0, 0))) := hZ
  have HI : Hid (W.heap[w.heap.size + 1]? = some (.cells #[.int .i64 0] 3 (0, 0))) := hI
  have HE : Hid (W.heap[w.heap.size + 1 + 1]? = some (.cells #[.int .i64 0, .int .i64 0, .string ⟨#[]⟩] 44 (0, 0))) := hE
  have hmf : ∀ (fn : Fn) (first cap : Array Value) (w : World), (Instr.makeFunc fn first cap).run Tryz.prog w = .ok (.func fn first cap) w := fun _ _ _ _ => rfl
  have HQ : Hid (Calls Tryz.prog 22 #[.string t, .func (.func 120) #[] #[.pointer (some ⟨w.heap.size + 1, 0, none⟩), .pointer (some ⟨w.heap.size + 1 + 1, 0, none⟩)]] W (WholePost W w.heap.size (w.heap.size + 1) (w.heap.size + 1 + 1) i (ent t j k b))) := whole_gets hs W hg hk (by omega) (by omega) (by omega) hI hE
  have HPL : Hid (R = false ∨ ∀ W, Calls Tryz.prog 117 #[.int .i64 (i : Int)] W fun en w' => en = .returned (.bool false) ∧ w' = W) := by
   cases hRt : R with
   | false => exact Or.inl rfl
   | true => exact Or.inr fun W => placeOk_is _ false (by
    rw [hR] at hRt
    have : ¬ (1 ≤ (i : Int) ∧ (i : Int) ≤ 100000) := fun x => hr ⟨hRt, x⟩
    simp [this]) W
  obtain ⟨E, he⟩ : ∃ E, E = ent t j k b := ⟨_, rfl⟩
  rw [← he] at HQ HEO
  unfold entV at HEO
  clear hbW hZ hI hE hg hk hr hR he
  go_enter Tryz.func102, Tryz.ntmps102
  go_wp2_with fail
  rw [← hW]
  clear hW
  refine Calls.mono HQ.out ?_
  rintro en w2 ⟨rfl, hb2, hk2, hi2, he2⟩
  have hz2 := hk2 _ _ HZ.out (by omega) (by omega)
  have HZ2 : Hid (w2.heap[w.heap.size]? = some (.cells #[.int .i64 0, .int .i64 0, .string ⟨#[]⟩] 44 (0, 0))) := hz2
  have HB2 : Hid (Below w.heap.size w w2) := HBW.out.trans hb2
  have HI2 : Hid (_ = _) := hi2
  have e0 := cell_of_row _ _ 0 _ _ _ he2
  have e1 := cell_of_row _ _ 1 _ _ _ he2
  have e2 := cell_of_row _ _ 2 _ _ _ he2
  simp at e0 e1 e2
  clear hz2 hb2 hk2 hi2 he2 HQ HZ HI HE HBW
  go_wp2_with fail
  refine Calls.mono (HEO.out _) ?_
  rintro en w3 ⟨rfl, hb3⟩
  clear e0 e1 e2
  have hz3 := (hb3.block _ (Array.getElem?_eq_some_iff.1 HZ2.out).1).trans HZ2.out
  have hi3 := (hb3.block _ (Array.getElem?_eq_some_iff.1 HI2.out).1).trans HI2.out
  have HZ3 : Hid (w3.heap[w.heap.size]? = some (.cells #[.int .i64 0, .int .i64 0, .string ⟨#[]⟩] 44 (0, 0))) := hz3
  have HB3 : Hid (Below w.heap.size w w3) := HB2.out.trans (hb3.mono HB2.out.size)
  have z0 := cell_of_row _ _ 0 _ _ _ hz3
  have z1 := cell_of_row _ _ 1 _ _ _ hz3
  have z2 := cell_of_row _ _ 2 _ _ _ hz3
  have zf0 := frozen_of_row _ _ 0 _ _ hz3
  have zf1 := frozen_of_row _ _ 1 _ _ hz3
  have zf2 := frozen_of_row _ _ 2 _ _ hz3
  simp at z0 z1 z2
  have i0 := cell_of_row _ _ 0 _ _ _ hi3
  simp at i0
  clear hz3 hi3 hb3 HZ2 HB2 HI2 HEO
  cases R with
  | false =>
    clear HPL i0
    go_wp2
    obtain ⟨k0, k1, k2⟩ := three_cell HZ3.out (.int .i64 0) (.int .i64 0) (.string ⟨#[]⟩)
    exact bodyPost_ret (v := .tuple #[.int .i64 0, .agg #[.int .i64 0, .int .i64 0, .string ⟨#[]⟩], .bool false]) (by simp [results, Tryz.results102, go_sem, k0, k1, k2]) rfl ⟨rfl, ((HB3.out.setCell (by simp) _).setCell (by simp) _).setCell (by simp) _⟩
  | true =>
    rcases HPL.out with hx | hx
    · cases hx
    have HPM : Hid (∀ W, Calls Tryz.prog 117 #[.int .i64 (i : Int)] W fun en w' => en = .returned (.bool false) ∧ w' = W) := hx
    clear HPL hx
    go_wp2_with fail
    refine Calls.mono (HPM.out _) ?_
    rintro en w4 ⟨rfl, hw4⟩
    have hw5 := hw4.symm
    clear hw4
    subst hw5
    go_wp2
    obtain ⟨k0, k1, k2⟩ := three_cell HZ3.out (.int .i64 0) (.int .i64 0) (.string ⟨#[]⟩)
    exact bodyPost_ret (v := .tuple #[.int .i64 0, .agg #[.int .i64 0, .int .i64 0, .string ⟨#[]⟩], .bool false]) (by simp [results, Tryz.results102, go_sem, k0, k1, k2]) rfl ⟨rfl, ((HB3.out.setCell (by simp) _).setCell (by simp) _).setCell (by simp) _⟩
set_option maxHeartbeats 2000000 in
set_option maxRecDepth 100000 in
theorem implRE_got {t : ByteArray} {i j : Nat} {k : UInt8} {a b : Nat} (hs : t.size ≤ 1048576) (w : World) (hg : Gets t i j k a b) (hr : right (i : Int) (ent t j k b)) :
    Calls Tryz.prog 102 #[.string t] w fun en w' => en = .returned (.tuple #[.int .i64 (i : Int), entV (ent t j k b), .bool true]) ∧ Below w.heap.size w w' := by
  have hk : kindB (ent t j k b) = true := (Ents.okB_iff.1 hr.1).2
  have HEO : Hid (∀ W, Calls Tryz.prog 116 #[entV (ent t j k b)] W fun en w' => en = .returned (.bool true) ∧ Below W.heap.size W w') := fun W => by rw [← hr.1]; exact implEntOk_is _ (by have := ent_data hk; omega) W
  obtain ⟨W, hW⟩ : ∃ W, W = ((w.alloc (Obj.cells #[.int .i64 0, .int .i64 0, .string ⟨#[]⟩] 44)).alloc (Obj.cells #[.int .i64 0] 3)).alloc (Obj.cells #[.int .i64 0, .int .i64 0, .string ⟨#[]⟩] 44) := ⟨_, rfl⟩
  obtain ⟨hbW, hZ, hI, hE⟩ := re_start w
  rw [← hW] at hbW hZ hI hE
  have HBW : Hid (Below w.heap.size w W) := hbW
  have HZ : Hid (W.heap[w.heap.size]? = some (.cells #[.int .i64 0, .int .i64 0, .string ⟨#[]⟩] 44 (0, 0))) := hZ
  have HI : Hid (W.heap[w.heap.size + 1]? = some (.cells #[.int .i64 0] 3 (0, 0))) := hI
  have HE : Hid (W.heap[w.heap.size + 1 + 1]? = some (.cells #[.int .i64 0, .int .i64 0, .string ⟨#[]⟩] 44 (0, 0))) := hE
  have hmf : ∀ (fn : Fn) (first cap : Array Value) (w : World), (Instr.makeFunc fn first cap).run Tryz.prog w = .ok (.func fn first cap) w := fun _ _ _ _ => rfl
  have HQ : Hid (Calls Tryz.prog 22 #[.string t, .func (.func 120) #[] #[.pointer (some ⟨w.heap.size + 1, 0, none⟩), .pointer (some ⟨w.heap.size + 1 + 1, 0, none⟩)]] W (WholePost W w.heap.size (w.heap.size + 1) (w.heap.size + 1 + 1) i (ent t j k b))) := whole_gets hs W hg hk (by omega) (by omega) (by omega) hI hE
  have HPL : Hid (∀ W, Calls Tryz.prog 117 #[.int .i64 (i : Int)] W fun en w' => en = .returned (.bool true) ∧ w' = W) := fun W => placeOk_is _ true (by simp [hr.2]) W
  obtain ⟨E, he⟩ : ∃ E, E = ent t j k b := ⟨_, rfl⟩
  rw [← he] at HQ HEO ⊢
  unfold entV at HEO ⊢
  clear hbW hZ hI hE hg hk hr he
  go_enter Tryz.func102, Tryz.ntmps102
  go_wp2_with fail
  rw [← hW]
  clear hW
  refine Calls.mono HQ.out ?_
  rintro en w2 ⟨rfl, hb2, hk2, hi2, he2⟩
  have hz2 := hk2 _ _ HZ.out (by omega) (by omega)
  have HZ2 : Hid (w2.heap[w.heap.size]? = some (.cells #[.int .i64 0, .int .i64 0, .string ⟨#[]⟩] 44 (0, 0))) := hz2
  have HB2 : Hid (Below w.heap.size w w2) := HBW.out.trans hb2
  have HI2 : Hid (_ = _) := hi2
  have HE2 : Hid (_ = _) := he2
  have e0 := cell_of_row _ _ 0 _ _ _ he2
  have e1 := cell_of_row _ _ 1 _ _ _ he2
  have e2 := cell_of_row _ _ 2 _ _ _ he2
  simp at e0 e1 e2
  clear hz2 hb2 hk2 hi2 he2 HQ HZ HI HE HBW
  go_wp2_with fail
  refine Calls.mono (HEO.out _) ?_
  rintro en w3 ⟨rfl, hb3⟩
  clear e0 e1 e2
  have hz3 := (hb3.block _ (Array.getElem?_eq_some_iff.1 HZ2.out).1).trans HZ2.out
  have hi3 := (hb3.block _ (Array.getElem?_eq_some_iff.1 HI2.out).1).trans HI2.out
  have he3 := (hb3.block _ (Array.getElem?_eq_some_iff.1 HE2.out).1).trans HE2.out
  have HZ3 : Hid (w3.heap[w.heap.size]? = some (.cells #[.int .i64 0, .int .i64 0, .string ⟨#[]⟩] 44 (0, 0))) := hz3
  have HB3 : Hid (Below w.heap.size w w3) := HB2.out.trans (hb3.mono HB2.out.size)
  have z0 := cell_of_row _ _ 0 _ _ _ hz3
  have z1 := cell_of_row _ _ 1 _ _ _ hz3
  have z2 := cell_of_row _ _ 2 _ _ _ hz3
  have zf0 := frozen_of_row _ _ 0 _ _ hz3
  have zf1 := frozen_of_row _ _ 1 _ _ hz3
  have zf2 := frozen_of_row _ _ 2 _ _ hz3
  simp at z0 z1 z2
  have i0 := cell_of_row _ _ 0 _ _ _ hi3
  have e0 := cell_of_row _ _ 0 _ _ _ he3
  have e1 := cell_of_row _ _ 1 _ _ _ he3
  have e2 := cell_of_row _ _ 2 _ _ _ he3
  simp at i0 e0 e1 e2
  clear hz3 hi3 he3 hb3 HZ2 HB2 HI2 HE2 HEO
  go_wp2_with fail
  refine Calls.mono (HPL.out _) ?_
  rintro en w4 ⟨rfl, hw4⟩
  have hw5 := hw4.symm
  clear hw4
  subst hw5
  go_wp2_with fail
  go_region
  all_goals (
    go_wp2
    obtain ⟨k0, k1, k2⟩ := three_cell HZ3.out (.int .i64 E.term) (.int .i64 E.kind) (.string E.data)
    exact bodyPost_ret (v := .tuple #[.int .i64 (i : Int), .agg #[.int .i64 E.term, .int .i64 E.kind, .string E.data], .bool true]) (by simp [results, Tryz.results102, go_sem, k0, k1, k2]) rfl ⟨rfl, (((HB3.out.setCell (by simp) _).setCell (by simp) _).setCell (by simp) _).drew⟩)
end Go.Proofs.YtimacmijinblmaaGreat
