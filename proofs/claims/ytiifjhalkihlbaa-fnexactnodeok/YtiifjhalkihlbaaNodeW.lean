/- NodeNew of both sides, walked. Made by program. -/
import Derived.Test.YtiifjhalkihlbaaNodeN
import Derived.Test.YtiifjhalkihlbaaShelf
import Derived.Test.YtiifjhalkihlbaaCopied
namespace Go.Proofs.Ytiifjhalkihlbaa
open Go.RowKit
set_option linter.unusedVariables false
set_option linter.unusedSimpArgs false
theorem cloneI_is {a : Option Addr} {g off cap : Nat} (l : List Int) (hlen : l.length ≤ 1048576) (w : World) (hf : IntAt w a g off l) :
    Calls Try.prog 66 #[.slice a l.length cap] w fun e w' => ∃ v', e = .returned v' ∧ w'.ownsRow w.heap.size 3 1 v' l.length (cellsI l) ∧ Below w.heap.size w w' := by
  by_cases h : 0 < l.length
  · have ea := hf.1 h
    subst ea
    refine (Try.slices_Clone_int g off l.length cap l w (Nat.le_refl _) (by omega) ?_).mono ?_
    · intro j hj
      rw [hf.2 j hj]
      simp [List.getD, hj]
    · rintro e w' ⟨v', rfl, h1, _, h2⟩
      refine ⟨v', rfl, ?_, h2⟩
      simpa [cellsI] using h1
  · have hl : l = [] := List.length_eq_zero_iff.1 (by omega)
    subst hl
    cases a with
    | none =>
      refine (Try.slices_Clone_int_nil 0 cap w).mono ?_
      rintro e w' ⟨rfl, rfl⟩
      exact ⟨_, rfl, World.ownsRow_nil _ _ _ _, Below.refl _ _⟩
    | some ad =>
      refine (Try.slices_Clone_int_zero ad cap w).mono ?_
      rintro e w' ⟨v', rfl, h1, _, h2⟩
      exact ⟨v', rfl, h1, h2⟩
set_option maxRecDepth 100000 in
theorem clonePe_nil (w : World) : Calls Try.prog 68 #[.slice none 0 0] w fun e w' => e = .returned (.slice none 0 0) ∧ Below w.heap.size w w' := by
  have hn : ∀ X : World, (binOp .eql 34 (.slice none 0 0) (.slice none 0 0)).run Try.prog X = .ok (.bool true) X := fun X => by kernel_rfl
  go_enter Try.func68, Try.ntmps68
  go_wp2
  go_ret
  exact ⟨rfl, Below.refl _ _⟩

theorem node_one (i L : Int) (x y : Option Addr) (n c m d : Nat) : ∀ v ∈ (#[.int .i64 i, .int .i64 0, .int .i64 0, .int .i64 0, .int .i64 0, .slice x n c, .int .i64 0, .int .i64 0, .slice y m d, .int .i64 0, .int .i64 0, .int .i64 L, .slice none 0 0, .slice none 0 0] : Array Value).toList, v.oneCell' = true := by
  intro v hv
  simp only [List.mem_cons, List.not_mem_nil, or_false] at hv
  rcases hv with rfl | rfl | rfl | rfl | rfl | rfl | rfl | rfl | rfl | rfl | rfl | rfl | rfl | rfl <;> rfl
theorem result39 {w : World} {g : Nat} {A C : Array Value} (hg : w.heap[g]? = some (.cells C 36 (0, 0))) (hs : A.size = 14) {tmps : Array Value} (ht : tmps.getD 2 undef = .pointer (some ⟨g, 0, none⟩)) : (results Try.f39 tmps).run Try.prog (w.setRow g A) = .ok (.agg A) (w.setRow g A) := by
  have h := run_loadVar_agg (P := Try.prog) Try.isAgg36 Try.sizeOf36 (row_size (A := A) hg) hs
  have ht' : tmps[2]?.getD undef = .pointer (some ⟨g, 0, none⟩) := by simpa using ht
  simp [results, Try.results39, ht', asAddr, h]
theorem result13 {w : World} {g : Nat} {A C : Array Value} {b : Bool} (hg : w.heap[g]? = some (.cells C 36 (0, 0))) (hs : A.size = 14) {tmps : Array Value} (ht : tmps.getD 4 undef = .pointer (some ⟨g, 0, none⟩)) (hb : tmps.getD 5 undef = .bool b) : (results Try.f13 tmps).run Try.prog (w.setRow g A) = .ok (.tuple #[.agg A, .bool b]) (w.setRow g A) := by
  have h := run_loadVar_agg (P := Try.prog) Try.isAgg36 Try.sizeOf36 (row_size (A := A) hg) hs
  have ht' : tmps[4]?.getD undef = .pointer (some ⟨g, 0, none⟩) := by simpa using ht
  have hb' : tmps[5]?.getD undef = .bool b := by simpa using hb
  simp [results, Try.results13, ht', hb', asAddr, h]
theorem result11 {w : World} {g : Nat} {A C : Array Value} {b : Bool} (hg : w.heap[g]? = some (.cells C 36 (0, 0))) (hs : A.size = 14) {tmps : Array Value} (ht : tmps.getD 4 undef = .pointer (some ⟨g, 0, none⟩)) (hb : tmps.getD 5 undef = .bool b) : (results Try.f11 tmps).run Try.prog (w.setRow g A) = .ok (.tuple #[.agg A, .bool b]) (w.setRow g A) := by
  have h := run_loadVar_agg (P := Try.prog) Try.isAgg36 Try.sizeOf36 (row_size (A := A) hg) hs
  have ht' : tmps[4]?.getD undef = .pointer (some ⟨g, 0, none⟩) := by simpa using ht
  have hb' : tmps[5]?.getD undef = .bool b := by simpa using hb
  simp [results, Try.results11, ht', hb', asAddr, h]
set_option maxHeartbeats 4000000 in
set_option maxRecDepth 100000 in
theorem copiedNew_is {ca : Option Addr} {cc gc oc : Nat} (id : Int) (conf : List Int) (hlen : conf.length ≤ 1048576) (w : World) (hf : IntAt w ca gc oc conf) :
    Calls Try.prog 39 #[.agg #[.int .i64 id, .int .i64 0, .int .i64 0, .int .i64 0, .int .i64 0, .slice ca conf.length cc, .int .i64 0, .int .i64 0, .slice none 0 0, .int .i64 0, .int .i64 0, .int .i64 20, .slice none 0 0, .slice none 0 0]] w fun e w' => ∃ (a1 : Option Addr) (c1 : Nat) (a2 : Option Addr) (c2 : Nat), e = .returned (.agg #[.int .i64 id, .int .i64 0, .int .i64 0, .int .i64 0, .int .i64 0, .slice a1 conf.length c1, .int .i64 0, .int .i64 0, .slice a2 0 c2, .int .i64 0, .int .i64 0, .int .i64 20, .slice none 0 0, .slice none 0 0]) ∧ w'.ownsRow w.heap.size 3 1 (.slice a1 conf.length c1) conf.length (cellsI conf) ∧ Below w.heap.size w w' := by
  obtain ⟨W, hW⟩ : ∃ W, W = (w.alloc (.cells #[.int .i64 id, .int .i64 0, .int .i64 0, .int .i64 0, .int .i64 0, .slice ca conf.length cc, .int .i64 0, .int .i64 0, .slice none 0 0, .int .i64 0, .int .i64 0, .int .i64 20, .slice none 0 0, .slice none 0 0] 36)).alloc (.cells #[.int .i64 0, .int .i64 0, .int .i64 0, .int .i64 0, .int .i64 0, .slice none 0 0, .int .i64 0, .int .i64 0, .slice none 0 0, .int .i64 0, .int .i64 0, .int .i64 0, .slice none 0 0, .slice none 0 0] 36) := ⟨_, rfl⟩
  obtain ⟨q, hq⟩ : ∃ q, q = w.heap.size := ⟨_, rfl⟩
  have HQ : Hid (q = w.heap.size) := hq
  have hb : Below w.heap.size w W := by rw [hW]; exact ((Below.refl _ _).alloc (Nat.le_refl _) _).alloc (by simp) _
  have N0 : Hid (W.heap[q]? = some (.cells #[.int .i64 id, .int .i64 0, .int .i64 0, .int .i64 0, .int .i64 0, .slice ca conf.length cc, .int .i64 0, .int .i64 0, .slice none 0 0, .int .i64 0, .int .i64 0, .int .i64 20, .slice none 0 0, .slice none 0 0] 36 (0, 0))) := by
    show _ = _
    rw [hW, hq, Below.heap_alloc _ _ _ (by simp)]; exact heap_alloc_new w _
  have Z0 : Hid (W.heap[q + 1]? = some (.cells #[.int .i64 0, .int .i64 0, .int .i64 0, .int .i64 0, .int .i64 0, .slice none 0 0, .int .i64 0, .int .i64 0, .slice none 0 0, .int .i64 0, .int .i64 0, .int .i64 0, .slice none 0 0, .slice none 0 0] 36 (0, 0))) := by
    show _ = _
    rw [hW, hq]; have := heap_alloc_new (w.alloc (.cells #[.int .i64 id, .int .i64 0, .int .i64 0, .int .i64 0, .int .i64 0, .slice ca conf.length cc, .int .i64 0, .int .i64 0, .slice none 0 0, .int .i64 0, .int .i64 0, .int .i64 20, .slice none 0 0, .slice none 0 0] 36)) (.cells #[.int .i64 0, .int .i64 0, .int .i64 0, .int .i64 0, .int .i64 0, .slice none 0 0, .int .i64 0, .int .i64 0, .slice none 0 0, .int .i64 0, .int .i64 0, .int .i64 0, .slice none 0 0, .slice none 0 0] 36); simpa using this
  have HB : Hid (Below w.heap.size w W) := hb
  have HM : Hid (Calls Try.prog 66 #[.slice ca conf.length cc] W fun e w' => ∃ v', e = .returned v' ∧ w'.ownsRow W.heap.size 3 1 v' conf.length (cellsI conf) ∧ Below W.heap.size W w') := cloneI_is conf hlen W (hf.kept hb)
  have p5 := cell_of_row _ _ 5 _ _ _ N0.out
  simp at p5
  rw [hW, hq] at p5
  clear hb hf
  go_enter Try.func39, Try.ntmps39
  go_wp2_with fail
  rw [← hW, ← hq]
  clear hW p5 hq
  refine Calls.mono HM.out ?_
  rintro e w1 ⟨v1, rfl, ho, hb1⟩
  obtain ⟨a1, c1, hv⟩ := own_slice ho
  subst hv
  have HB1 : Hid (Below w.heap.size w w1) := HB.out.trans (hb1.mono HB.out.size)
  have O1 : Hid (w1.ownsRow w.heap.size 3 1 (.slice a1 conf.length c1) conf.length (cellsI conf)) := own_mono ho HB.out.size
  have N1 : Hid (w1.heap[q]? = some (.cells #[.int .i64 id, .int .i64 0, .int .i64 0, .int .i64 0, .int .i64 0, .slice ca conf.length cc, .int .i64 0, .int .i64 0, .slice none 0 0, .int .i64 0, .int .i64 0, .int .i64 20, .slice none 0 0, .slice none 0 0] 36 (0, 0))) := (hb1.block _ (Array.getElem?_eq_some_iff.1 N0.out).1).trans N0.out
  have Z1 : Hid (w1.heap[q + 1]? = some (.cells #[.int .i64 0, .int .i64 0, .int .i64 0, .int .i64 0, .int .i64 0, .slice none 0 0, .int .i64 0, .int .i64 0, .slice none 0 0, .int .i64 0, .int .i64 0, .int .i64 0, .slice none 0 0, .slice none 0 0] 36 (0, 0))) := (hb1.block _ (Array.getElem?_eq_some_iff.1 Z0.out).1).trans Z0.out
  clear ho hb1 HM N0 Z0 HB
  obtain ⟨X1, hX1⟩ : ∃ X1, X1 = w1.setCell ⟨q, 5, none⟩ (.slice a1 conf.length c1) := ⟨_, rfl⟩
  have M1 : Hid (X1.heap[q]? = some (.cells #[.int .i64 id, .int .i64 0, .int .i64 0, .int .i64 0, .int .i64 0, .slice a1 conf.length c1, .int .i64 0, .int .i64 0, .slice none 0 0, .int .i64 0, .int .i64 0, .int .i64 20, .slice none 0 0, .slice none 0 0] 36 (0, 0))) := by
    show _ = _
    rw [hX1]; have := heap_setCell_same w1 q 5 _ 36 (.slice a1 conf.length c1) N1.out; simpa using this
  have Y1 : Hid (X1.heap[q + 1]? = some (.cells #[.int .i64 0, .int .i64 0, .int .i64 0, .int .i64 0, .int .i64 0, .slice none 0 0, .int .i64 0, .int .i64 0, .slice none 0 0, .int .i64 0, .int .i64 0, .int .i64 0, .slice none 0 0, .slice none 0 0] 36 (0, 0))) := by show _ = _; rw [hX1]; exact set_far Z1.out (by omega) _ _
  have P1 : Hid (X1.ownsRow w.heap.size 3 1 (.slice a1 conf.length c1) conf.length (cellsI conf)) := by show World.ownsRow _ _ _ _ _ _ _; rw [hX1]; exact own_set O1.out _ _ _ (own_not O1.out N1.out (by decide))
  have D1 : Hid (Below w.heap.size w X1) := by show Below _ _ _; rw [hX1]; exact HB1.out.setCell (by have := HQ.out; show w.heap.size ≤ q; omega) _
  have o5 := cell_of_row _ _ 5 _ _ _ N1.out
  have f5 := frozen_of_row _ _ 5 _ _ N1.out
  have p8 := cell_of_row _ _ 8 _ _ _ M1.out
  simp at o5 p8
  rw [hX1] at p8
  clear N1 Z1 O1 HB1
  go_wp2_with fail
  rw [← hX1]
  clear hX1 o5 f5 p8
  refine Calls.mono (copied_is (a := none) (g := 0) (off := 0) (cap := 0) [] (by simp) (fun e he => by simp at he) X1 ⟨fun q => by simp at q, fun j hj => by simp at hj⟩) ?_
  rintro e w2 ⟨v2, rfl, ho2, hb2⟩
  obtain ⟨a2, c2, hv2⟩ := own_slice ho2
  subst hv2
  have HB2 : Hid (Below w.heap.size w w2) := D1.out.trans (hb2.mono D1.out.size)
  have O2 : Hid (w2.ownsRow w.heap.size 3 1 (.slice a1 conf.length c1) conf.length (cellsI conf)) := own_kept P1.out hb2
  have N2 : Hid (w2.heap[q]? = some (.cells #[.int .i64 id, .int .i64 0, .int .i64 0, .int .i64 0, .int .i64 0, .slice a1 conf.length c1, .int .i64 0, .int .i64 0, .slice none 0 0, .int .i64 0, .int .i64 0, .int .i64 20, .slice none 0 0, .slice none 0 0] 36 (0, 0))) := (hb2.block _ (Array.getElem?_eq_some_iff.1 M1.out).1).trans M1.out
  have Z2 : Hid (w2.heap[q + 1]? = some (.cells #[.int .i64 0, .int .i64 0, .int .i64 0, .int .i64 0, .int .i64 0, .slice none 0 0, .int .i64 0, .int .i64 0, .slice none 0 0, .int .i64 0, .int .i64 0, .int .i64 0, .slice none 0 0, .slice none 0 0] 36 (0, 0))) := (hb2.block _ (Array.getElem?_eq_some_iff.1 Y1.out).1).trans Y1.out
  clear ho2 hb2 M1 Y1 P1 D1
  obtain ⟨X2, hX2⟩ : ∃ X2, X2 = w2.setCell ⟨q, 8, none⟩ (.slice a2 0 c2) := ⟨_, rfl⟩
  have M2 : Hid (X2.heap[q]? = some (.cells #[.int .i64 id, .int .i64 0, .int .i64 0, .int .i64 0, .int .i64 0, .slice a1 conf.length c1, .int .i64 0, .int .i64 0, .slice a2 0 c2, .int .i64 0, .int .i64 0, .int .i64 20, .slice none 0 0, .slice none 0 0] 36 (0, 0))) := by
    show _ = _
    rw [hX2]; have := heap_setCell_same w2 q 8 _ 36 (.slice a2 0 c2) N2.out; simpa using this
  have Y2 : Hid (X2.heap[q + 1]? = some (.cells #[.int .i64 0, .int .i64 0, .int .i64 0, .int .i64 0, .int .i64 0, .slice none 0 0, .int .i64 0, .int .i64 0, .slice none 0 0, .int .i64 0, .int .i64 0, .int .i64 0, .slice none 0 0, .slice none 0 0] 36 (0, 0))) := by show _ = _; rw [hX2]; exact set_far Z2.out (by omega) _ _
  have P2 : Hid (X2.ownsRow w.heap.size 3 1 (.slice a1 conf.length c1) conf.length (cellsI conf)) := by show World.ownsRow _ _ _ _ _ _ _; rw [hX2]; exact own_set O2.out _ _ _ (own_not O2.out N2.out (by decide))
  have D2 : Hid (Below w.heap.size w X2) := by show Below _ _ _; rw [hX2]; exact HB2.out.setCell (by have := HQ.out; show w.heap.size ≤ q; omega) _
  have o8 := cell_of_row _ _ 8 _ _ _ N2.out
  have f8 := frozen_of_row _ _ 8 _ _ N2.out
  have p12 := cell_of_row _ _ 12 _ _ _ M2.out
  simp at o8 p12
  rw [hX2] at p12
  clear N2 Z2 O2 HB2
  go_wp2_with fail
  rw [← hX2]
  clear hX2 o8 f8 p12
  refine Calls.mono (Try.slices_Clone_int_nil 0 0 X2) ?_
  rintro e w3 ⟨rfl, hw3⟩
  subst hw3
  obtain ⟨X3, hX3⟩ : ∃ X3, X3 = w3.setCell ⟨q, 12, none⟩ (.slice none 0 0) := ⟨_, rfl⟩
  have M3 : Hid (X3.heap[q]? = some (.cells #[.int .i64 id, .int .i64 0, .int .i64 0, .int .i64 0, .int .i64 0, .slice a1 conf.length c1, .int .i64 0, .int .i64 0, .slice a2 0 c2, .int .i64 0, .int .i64 0, .int .i64 20, .slice none 0 0, .slice none 0 0] 36 (0, 0))) := by
    show _ = _
    rw [hX3]; have := heap_setCell_same w3 q 12 _ 36 (.slice none 0 0) M2.out; simpa using this
  have Y3 : Hid (X3.heap[q + 1]? = some (.cells #[.int .i64 0, .int .i64 0, .int .i64 0, .int .i64 0, .int .i64 0, .slice none 0 0, .int .i64 0, .int .i64 0, .slice none 0 0, .int .i64 0, .int .i64 0, .int .i64 0, .slice none 0 0, .slice none 0 0] 36 (0, 0))) := by show _ = _; rw [hX3]; exact set_far Y2.out (by omega) _ _
  have P3 : Hid (X3.ownsRow w.heap.size 3 1 (.slice a1 conf.length c1) conf.length (cellsI conf)) := by show World.ownsRow _ _ _ _ _ _ _; rw [hX3]; exact own_set P2.out _ _ _ (own_not P2.out M2.out (by decide))
  have D3 : Hid (Below w.heap.size w X3) := by show Below _ _ _; rw [hX3]; exact D2.out.setCell (by have := HQ.out; show w.heap.size ≤ q; omega) _
  have o12 := cell_of_row _ _ 12 _ _ _ M2.out
  have f12 := frozen_of_row _ _ 12 _ _ M2.out
  have p13 := cell_of_row _ _ 13 _ _ _ M3.out
  simp at o12 p13
  rw [hX3] at p13
  clear M2 Y2 P2 D2
  go_wp2_with fail
  rw [← hX3]
  clear hX3 o12 f12 p13
  refine Calls.mono (clonePe_nil X3) ?_
  rintro e w4 ⟨rfl, hb4⟩
  have HB4 : Hid (Below w.heap.size w w4) := D3.out.trans (hb4.mono D3.out.size)
  have O4 : Hid (w4.ownsRow w.heap.size 3 1 (.slice a1 conf.length c1) conf.length (cellsI conf)) := own_kept P3.out hb4
  have N4 : Hid (w4.heap[q]? = some (.cells #[.int .i64 id, .int .i64 0, .int .i64 0, .int .i64 0, .int .i64 0, .slice a1 conf.length c1, .int .i64 0, .int .i64 0, .slice a2 0 c2, .int .i64 0, .int .i64 0, .int .i64 20, .slice none 0 0, .slice none 0 0] 36 (0, 0))) := (hb4.block _ (Array.getElem?_eq_some_iff.1 M3.out).1).trans M3.out
  have Z4 : Hid (w4.heap[q + 1]? = some (.cells #[.int .i64 0, .int .i64 0, .int .i64 0, .int .i64 0, .int .i64 0, .slice none 0 0, .int .i64 0, .int .i64 0, .slice none 0 0, .int .i64 0, .int .i64 0, .int .i64 0, .slice none 0 0, .slice none 0 0] 36 (0, 0))) := (hb4.block _ (Array.getElem?_eq_some_iff.1 Y3.out).1).trans Y3.out
  clear hb4 M3 Y3 P3 D3
  have M4 : Hid ((w4.setCell ⟨q, 13, none⟩ (.slice none 0 0)).heap[q]? = some (.cells #[.int .i64 id, .int .i64 0, .int .i64 0, .int .i64 0, .int .i64 0, .slice a1 conf.length c1, .int .i64 0, .int .i64 0, .slice a2 0 c2, .int .i64 0, .int .i64 0, .int .i64 20, .slice none 0 0, .slice none 0 0] 36 (0, 0))) := by
    show _ = _
    have := heap_setCell_same w4 q 13 _ 36 (.slice none 0 0) N4.out; simpa using this
  have Y4 : Hid ((w4.setCell ⟨q, 13, none⟩ (.slice none 0 0)).heap[q + 1]? = some (.cells #[.int .i64 0, .int .i64 0, .int .i64 0, .int .i64 0, .int .i64 0, .slice none 0 0, .int .i64 0, .int .i64 0, .slice none 0 0, .int .i64 0, .int .i64 0, .int .i64 0, .slice none 0 0, .slice none 0 0] 36 (0, 0))) := set_far Z4.out (by omega) _ _
  have o13 := cell_of_row _ _ 13 _ _ _ N4.out
  have f13 := frozen_of_row _ _ 13 _ _ N4.out
  simp at o13
  go_wp2_with (first | (refine wpList_loadA Try.isAgg36 Try.sizeOf36 rfl _ rfl q #[.int .i64 id, .int .i64 0, .int .i64 0, .int .i64 0, .int .i64 0, .slice a1 conf.length c1, .int .i64 0, .int .i64 0, .slice a2 0 c2, .int .i64 0, .int .i64 0, .int .i64 20, .slice none 0 0, .slice none 0 0] 36 rfl M4.out rfl ?_) | (refine wpList_storeA Try.sizeOf36 rfl _ _ rfl (q + 1) #[.int .i64 id, .int .i64 0, .int .i64 0, .int .i64 0, .int .i64 0, .slice a1 conf.length c1, .int .i64 0, .int .i64 0, .slice a2 0 c2, .int .i64 0, .int .i64 0, .int .i64 20, .slice none 0 0, .slice none 0 0] #[.int .i64 0, .int .i64 0, .int .i64 0, .int .i64 0, .int .i64 0, .slice none 0 0, .int .i64 0, .int .i64 0, .slice none 0 0, .int .i64 0, .int .i64 0, .int .i64 0, .slice none 0 0, .slice none 0 0] 36 rfl rfl Y4.out rfl rfl (node_one _ _ _ _ _ _ _ _) ?_) | fail)
  have hq2 := HQ.out
  refine bodyPost_ret (result39 Y4.out rfl rfl) rfl ⟨a1, c1, a2, c2, rfl, ?_, below_setRow (HB4.out.setCell (by show w.heap.size ≤ q; omega) _) (by omega) _⟩
  exact own_row (own_set O4.out _ _ _ (own_not O4.out N4.out (by decide))) _ _ (own_not O4.out Z4.out (by decide))
/-- What NodeNew answers: a node of the call's own. -/
def NewPost (X : World) (id : Int) (conf : List Int) (L : Int) (O : Bool) (e : Ending) (w' : World) : Prop := ∃ (a1 : Option Addr) (c1 : Nat) (a2 : Option Addr) (c2 : Nat), e = .returned (.tuple #[.agg #[.int .i64 id, .int .i64 0, .int .i64 0, .int .i64 0, .int .i64 0, .slice a1 conf.length c1, .int .i64 0, .int .i64 0, .slice a2 0 c2, .int .i64 0, .int .i64 0, .int .i64 L, .slice none 0 0, .slice none 0 0], .bool O]) ∧ w'.ownsRow X.heap.size 3 1 (.slice a1 conf.length c1) conf.length (cellsI conf) ∧ Below X.heap.size X w' 
set_option maxHeartbeats 4000000 in
set_option maxRecDepth 100000 in
theorem implNodeNew_is {ca : Option Addr} {cc gc oc : Nat} (id : Int) (conf : List Int) (hlen : conf.length ≤ 1048576) (w : World) (hf : IntAt w ca gc oc conf) :
    Calls Try.prog 13 #[.int .i64 id, .slice ca conf.length cc] w (if newOk id conf then NewPost w id conf 20 true else NewPost w 0 [] 0 false) := by
  obtain ⟨W, hW⟩ : ∃ W, W = (w.alloc (.cells #[.int .i64 0, .int .i64 0, .int .i64 0, .int .i64 0, .int .i64 0, .slice none 0 0, .int .i64 0, .int .i64 0, .slice none 0 0, .int .i64 0, .int .i64 0, .int .i64 0, .slice none 0 0, .slice none 0 0] 36)).alloc (.cells #[.int .i64 id, .int .i64 0, .int .i64 0, .int .i64 0, .int .i64 0, .slice ca conf.length cc, .int .i64 0, .int .i64 0, .slice none 0 0, .int .i64 0, .int .i64 0, .int .i64 20, .slice none 0 0, .slice none 0 0] 36) := ⟨_, rfl⟩
  obtain ⟨q, hq⟩ : ∃ q, q = w.heap.size := ⟨_, rfl⟩
  have HQ : Hid (q = w.heap.size) := hq
  have hb : Below w.heap.size w W := by rw [hW]; exact ((Below.refl _ _).alloc (Nat.le_refl _) _).alloc (by simp) _
  have HB : Hid (Below w.heap.size w W) := hb
  have Z0 : Hid (W.heap[q]? = some (.cells #[.int .i64 0, .int .i64 0, .int .i64 0, .int .i64 0, .int .i64 0, .slice none 0 0, .int .i64 0, .int .i64 0, .slice none 0 0, .int .i64 0, .int .i64 0, .int .i64 0, .slice none 0 0, .slice none 0 0] 36 (0, 0))) := by
    show _ = _
    rw [hW, hq, Below.heap_alloc _ _ _ (by simp)]; exact heap_alloc_new w _
  have N0 : Hid (W.heap[q + 1]? = some (.cells #[.int .i64 id, .int .i64 0, .int .i64 0, .int .i64 0, .int .i64 0, .slice ca conf.length cc, .int .i64 0, .int .i64 0, .slice none 0 0, .int .i64 0, .int .i64 0, .int .i64 20, .slice none 0 0, .slice none 0 0] 36 (0, 0))) := by
    show _ = _
    rw [hW, hq]; have := heap_alloc_new (w.alloc (.cells #[.int .i64 0, .int .i64 0, .int .i64 0, .int .i64 0, .int .i64 0, .slice none 0 0, .int .i64 0, .int .i64 0, .slice none 0 0, .int .i64 0, .int .i64 0, .int .i64 0, .slice none 0 0, .slice none 0 0] 36)) (.cells #[.int .i64 id, .int .i64 0, .int .i64 0, .int .i64 0, .int .i64 0, .slice ca conf.length cc, .int .i64 0, .int .i64 0, .slice none 0 0, .int .i64 0, .int .i64 0, .int .i64 20, .slice none 0 0, .slice none 0 0] 36); simpa using this
  have HF : Hid (IntAt W ca gc oc conf) := hf.kept hb
  obtain ⟨O, hO⟩ : ∃ O, O = newOk id conf := ⟨_, rfl⟩
  have HM : Hid (Calls Try.prog 9 #[.agg #[.int .i64 id, .int .i64 0, .int .i64 0, .int .i64 0, .int .i64 0, .slice ca conf.length cc, .int .i64 0, .int .i64 0, .slice none 0 0, .int .i64 0, .int .i64 0, .int .i64 20, .slice none 0 0, .slice none 0 0]] W fun e w' => e = .returned (.bool O) ∧ Below W.heap.size W w') := by rw [hO]; exact implNew_is id conf hlen W HF.out
  rw [← hO]
  have NE : Hid (((w.alloc (.cells #[.int .i64 0, .int .i64 0, .int .i64 0, .int .i64 0, .int .i64 0, .slice none 0 0, .int .i64 0, .int .i64 0, .slice none 0 0, .int .i64 0, .int .i64 0, .int .i64 0, .slice none 0 0, .slice none 0 0] 36)).alloc (.cells #[.int .i64 id, .int .i64 0, .int .i64 0, .int .i64 0, .int .i64 0, .slice ca conf.length cc, .int .i64 0, .int .i64 0, .slice none 0 0, .int .i64 0, .int .i64 0, .int .i64 20, .slice none 0 0, .slice none 0 0] 36)).heap[w.heap.size + 1]? = some (.cells #[.int .i64 id, .int .i64 0, .int .i64 0, .int .i64 0, .int .i64 0, .slice ca conf.length cc, .int .i64 0, .int .i64 0, .slice none 0 0, .int .i64 0, .int .i64 0, .int .i64 20, .slice none 0 0, .slice none 0 0] 36 (0, 0))) := by show _ = _; rw [← hW, ← hq]; exact N0.out
  clear hb hf hO
  go_enter Try.func13, Try.ntmps13
  go_wp2_with (first | (refine wpList_loadA Try.isAgg36 Try.sizeOf36 rfl _ rfl (w.heap.size + 1) #[.int .i64 id, .int .i64 0, .int .i64 0, .int .i64 0, .int .i64 0, .slice ca conf.length cc, .int .i64 0, .int .i64 0, .slice none 0 0, .int .i64 0, .int .i64 0, .int .i64 20, .slice none 0 0, .slice none 0 0] 36 rfl NE.out rfl ?_) | fail)
  clear NE
  rw [← hW, ← hq]
  clear hW hq
  refine Calls.mono HM.out ?_
  rintro e w1 ⟨rfl, hb1⟩
  have HB1 : Hid (Below w.heap.size w w1) := HB.out.trans (hb1.mono HB.out.size)
  have Z1 : Hid (w1.heap[q]? = some (.cells #[.int .i64 0, .int .i64 0, .int .i64 0, .int .i64 0, .int .i64 0, .slice none 0 0, .int .i64 0, .int .i64 0, .slice none 0 0, .int .i64 0, .int .i64 0, .int .i64 0, .slice none 0 0, .slice none 0 0] 36 (0, 0))) := (hb1.block _ (Array.getElem?_eq_some_iff.1 Z0.out).1).trans Z0.out
  have N1 : Hid (w1.heap[q + 1]? = some (.cells #[.int .i64 id, .int .i64 0, .int .i64 0, .int .i64 0, .int .i64 0, .slice ca conf.length cc, .int .i64 0, .int .i64 0, .slice none 0 0, .int .i64 0, .int .i64 0, .int .i64 20, .slice none 0 0, .slice none 0 0] 36 (0, 0))) := (hb1.block _ (Array.getElem?_eq_some_iff.1 N0.out).1).trans N0.out
  have HF1 : Hid (IntAt w1 ca gc oc conf) := HF.out.kept hb1
  clear hb1 HM Z0 N0 HF HB
  cases O with
  | false =>
    go_wp2_with (first | (refine wpList_storeA Try.sizeOf36 rfl _ _ rfl q #[.int .i64 0, .int .i64 0, .int .i64 0, .int .i64 0, .int .i64 0, .slice none 0 0, .int .i64 0, .int .i64 0, .slice none 0 0, .int .i64 0, .int .i64 0, .int .i64 0, .slice none 0 0, .slice none 0 0] #[.int .i64 0, .int .i64 0, .int .i64 0, .int .i64 0, .int .i64 0, .slice none 0 0, .int .i64 0, .int .i64 0, .slice none 0 0, .int .i64 0, .int .i64 0, .int .i64 0, .slice none 0 0, .slice none 0 0] 36 rfl rfl Z1.out rfl rfl (node_one _ _ _ _ _ _ _ _) ?_) | fail)
    exact bodyPost_ret (result13 Z1.out rfl rfl rfl) rfl ⟨none, 0, none, 0, rfl, World.ownsRow_nil _ _ _ _, below_setRow HB1.out (by have := HQ.out; omega) _⟩
  | true =>
    go_wp2_with (first | (refine wpList_loadA Try.isAgg36 Try.sizeOf36 rfl _ rfl (q + 1) #[.int .i64 id, .int .i64 0, .int .i64 0, .int .i64 0, .int .i64 0, .slice ca conf.length cc, .int .i64 0, .int .i64 0, .slice none 0 0, .int .i64 0, .int .i64 0, .int .i64 20, .slice none 0 0, .slice none 0 0] 36 rfl N1.out rfl ?_) | fail)
    refine Calls.mono (copiedNew_is id conf hlen w1 HF1.out) ?_
    rintro e w2 ⟨a1, c1, a2, c2, rfl, ho, hb2⟩
    have HB2 : Hid (Below w.heap.size w w2) := HB1.out.trans (hb2.mono HB1.out.size)
    have Z2 : Hid (w2.heap[q]? = some (.cells #[.int .i64 0, .int .i64 0, .int .i64 0, .int .i64 0, .int .i64 0, .slice none 0 0, .int .i64 0, .int .i64 0, .slice none 0 0, .int .i64 0, .int .i64 0, .int .i64 0, .slice none 0 0, .slice none 0 0] 36 (0, 0))) := (hb2.block _ (Array.getElem?_eq_some_iff.1 Z1.out).1).trans Z1.out
    have O2 : Hid (w2.ownsRow w.heap.size 3 1 (.slice a1 conf.length c1) conf.length (cellsI conf)) := own_mono ho HB1.out.size
    clear hb2 ho Z1 N1 HF1 HB1
    go_wp2_with (first | (refine wpList_storeA Try.sizeOf36 rfl _ _ rfl q #[.int .i64 id, .int .i64 0, .int .i64 0, .int .i64 0, .int .i64 0, .slice a1 conf.length c1, .int .i64 0, .int .i64 0, .slice a2 0 c2, .int .i64 0, .int .i64 0, .int .i64 20, .slice none 0 0, .slice none 0 0] #[.int .i64 0, .int .i64 0, .int .i64 0, .int .i64 0, .int .i64 0, .slice none 0 0, .int .i64 0, .int .i64 0, .slice none 0 0, .int .i64 0, .int .i64 0, .int .i64 0, .slice none 0 0, .slice none 0 0] 36 rfl rfl Z2.out rfl rfl (node_one _ _ _ _ _ _ _ _) ?_) | fail)
    exact bodyPost_ret (result13 Z2.out rfl rfl rfl) rfl ⟨a1, c1, a2, c2, rfl, own_row O2.out _ _ (own_not O2.out Z2.out (by decide)), below_setRow HB2.out (by have := HQ.out; omega) _⟩
theorem cellsI_one {l : List Int} : ∀ u ∈ cellsI l, u.oneCell' = true := by
  intro u hu
  unfold cellsI at hu
  obtain ⟨n, _, rfl⟩ := List.mem_map.1 hu
  rfl
/-- 'append(x, y...)' of ints onto a row of the call's own. -/
theorem wpList_appendI {w : World} {ops : Array Oper} {rest : List Oper} {o : Oper} {act : Act} {Q : Exit → Act → World → Prop} (hgd : o.guard = none) (s x : Operand)
    (ho : o.op = .call { callee := .builtin .append, args := #[s, x], argTypes := #[22, 22] }) (base : Nat) (v : Value) (n : Nat) (xs : List Value) (hs : act.eval s = v) (hown : w.ownsRow base 3 1 v n xs)
    (a : Option Addr) (g off cap : Nat) (l : List Int) (hx : act.eval x = .slice a l.length cap) (hf : IntAt w a g off l) (hnil : a = none → cap = 0) (h63 : n + l.length ≤ 2097152) (hbase : base ≤ w.heap.size)
    (h : ∀ v' w', w'.ownsRow base 3 1 v' (n + l.length) (xs ++ cellsI l) → w.grownBy w' v.ownBlock → wpList Try.prog ops Q rest (act.put o.dst v') w') : wpList Try.prog ops Q (o :: rest) act w := by
  obtain ⟨i0, hi, hz0, hz1, hz2⟩ := info_parts Try.info3
  cases a with
  | none =>
    have hl : l = [] := by
      cases l with
      | nil => rfl
      | cons f r => have := hf.1 (by simp); cases this
    subst hl
    rw [hnil rfl] at hx
    refine wpList_append_own_none hgd s x 22 ho base 3 i0 1 Try.underlying22 hi v n xs hs hown hx ?_
    refine h v w ?_ (World.grownBy.refl _ _)
    simpa [cellsI] using hown
  | some ad =>
    have had : 0 < l.length → ad = ⟨g, off, none⟩ := fun hp => Option.some.inj (hf.1 hp)
    refine wpList_append_own w hgd s x 22 ho base 3 i0 (.int .i64 0) 1 8 Try.underlying22 hi hz0 hz1 hz2 rfl (by decide) v n xs hs hown ad l.length cap (cellsI l) hx (by rw [cellsI_len, Nat.mul_one]) ?_ cellsI_one (by unfold maxLen; omega) (by omega) hbase ?_
    · intro j u hu
      have hj : j < l.length := by rw [← cellsI_len]; exact (List.getElem?_eq_some_iff.1 hu).1
      rw [had (by omega), Addr.add_lit]
      rw [cellsI_at l j hj] at hu
      rw [← Option.some.inj hu]
      exact hf.2 j hj
    · intro v' w' h1 h2 _
      exact h v' w' h1 h2
set_option maxHeartbeats 4000000 in
set_option maxRecDepth 100000 in
theorem specNodeNew_is {ca : Option Addr} {cc gc oc : Nat} (id : Int) (conf : List Int) (hlen : conf.length ≤ 1048576) (hnil : ca = none → cc = 0) (w : World) (hf : IntAt w ca gc oc conf) :
    Calls Try.prog 11 #[.int .i64 id, .slice ca conf.length cc] w (if newOk id conf then NewPost w id conf 20 true else NewPost w 0 [] 0 false) := by
  obtain ⟨W, hW⟩ : ∃ W, W = (w.alloc (.cells #[.int .i64 0, .int .i64 0, .int .i64 0, .int .i64 0, .int .i64 0, .slice none 0 0, .int .i64 0, .int .i64 0, .slice none 0 0, .int .i64 0, .int .i64 0, .int .i64 0, .slice none 0 0, .slice none 0 0] 36)).alloc (.cells #[] 3) := ⟨_, rfl⟩
  obtain ⟨q, hq⟩ : ∃ q, q = w.heap.size := ⟨_, rfl⟩
  have HQ : Hid (q = w.heap.size) := hq
  have hb : Below w.heap.size w W := by rw [hW]; exact ((Below.refl _ _).alloc (Nat.le_refl _) _).alloc (by simp) _
  have HB : Hid (Below w.heap.size w W) := hb
  have Z0 : Hid (W.heap[q]? = some (.cells #[.int .i64 0, .int .i64 0, .int .i64 0, .int .i64 0, .int .i64 0, .slice none 0 0, .int .i64 0, .int .i64 0, .slice none 0 0, .int .i64 0, .int .i64 0, .int .i64 0, .slice none 0 0, .slice none 0 0] 36 (0, 0))) := by
    show _ = _
    rw [hW, hq, Below.heap_alloc _ _ _ (by simp)]; exact heap_alloc_new w _
  have OW : Hid (W.ownsRow (w.heap.size + 1) 3 1 (.slice (some ⟨w.heap.size + 1, 0, none⟩) 0 0) 0 []) := by
    show World.ownsRow _ _ _ _ _ _ _
    rw [hW]
    have ho := World.ownsRow_made (base := w.heap.size + 1) (e := 3) (size := 1) (w.alloc (.cells #[.int .i64 0, .int .i64 0, .int .i64 0, .int .i64 0, .int .i64 0, .slice none 0 0, .int .i64 0, .int .i64 0, .slice none 0 0, .int .i64 0, .int .i64 0, .int .i64 0, .slice none 0 0, .slice none 0 0] 36)) #[] 0 (by simp) (by unfold maxLen; omega) rfl
    simpa using ho
  have HF : Hid (IntAt W ca gc oc conf) := hf.kept hb
  have HN : Hid (ca = none → cc = 0) := hnil
  have HW : Hid (W = (w.alloc (.cells #[.int .i64 0, .int .i64 0, .int .i64 0, .int .i64 0, .int .i64 0, .slice none 0 0, .int .i64 0, .int .i64 0, .slice none 0 0, .int .i64 0, .int .i64 0, .int .i64 0, .slice none 0 0, .slice none 0 0] 36)).alloc (.cells #[] 3)) := hW
  obtain ⟨O, hO⟩ : ∃ O, O = newOk id conf := ⟨_, rfl⟩
  have HO : Hid (O = newOk id conf) := hO
  rw [← hO]
  clear hb hf hnil hO hq
  go_enter Try.func11, Try.ntmps11
  go_wp2_with (first | (refine wpList_appendI rfl _ _ rfl (w.heap.size + 1) _ 0 [] rfl (by rw [← hW]; exact OW.out) ca gc oc cc conf rfl (by rw [← hW]; exact HF.out) HN.out (by omega) (by simp) ?_; intro v1 w1 ho1 hg1; rw [Nat.zero_add, List.nil_append] at ho1; obtain ⟨a1, c1, hv⟩ := own_slice ho1; subst hv; have HG : Hid (World.grownBy W w1 (some (w.heap.size + 1))) := (by show World.grownBy _ _ _; rw [hW]; exact hg1); clear hg1; have HO1 : Hid (World.ownsRow w1 (w.heap.size + 1) 3 1 (.slice a1 conf.length c1) conf.length (cellsI conf)) := ho1; clear ho1) | (refine wpList_loadA Try.isAgg36 Try.sizeOf36 rfl _ rfl (w1.heap.size) #[.int .i64 id, .int .i64 0, .int .i64 0, .int .i64 0, .int .i64 0, .slice a1 conf.length c1, .int .i64 0, .int .i64 0, .slice none 0 0, .int .i64 0, .int .i64 0, .int .i64 20, .slice none 0 0, .slice none 0 0] 36 rfl (heap_alloc_new w1 _) rfl ?_) | fail)
  clear hW HW
  have hz := HG.out.block q (Array.getElem?_eq_some_iff.1 Z0.out).1 (by have := HQ.out; simp; omega)
  have Z1 : Hid (w1.heap[q]? = some (.cells #[.int .i64 0, .int .i64 0, .int .i64 0, .int .i64 0, .int .i64 0, .slice none 0 0, .int .i64 0, .int .i64 0, .slice none 0 0, .int .i64 0, .int .i64 0, .int .i64 0, .slice none 0 0, .slice none 0 0] 36 (0, 0))) := hz.trans Z0.out
  have HB1 : Hid (Below w.heap.size w w1) := HB.out.grown HG.out HB.out.size (fun j hj => by cases hj; omega)
  clear hz HG
  obtain ⟨X, hX⟩ : ∃ X, X = w1.alloc (.cells #[.int .i64 id, .int .i64 0, .int .i64 0, .int .i64 0, .int .i64 0, .slice a1 conf.length c1, .int .i64 0, .int .i64 0, .slice none 0 0, .int .i64 0, .int .i64 0, .int .i64 20, .slice none 0 0, .slice none 0 0] 36) := ⟨_, rfl⟩
  have hb1 : Below w1.heap.size w1 X := by rw [hX]; exact (Below.refl _ _).alloc (Nat.le_refl _) _
  have NX : Hid (X.heap[w1.heap.size]? = some (.cells #[.int .i64 id, .int .i64 0, .int .i64 0, .int .i64 0, .int .i64 0, .slice a1 conf.length c1, .int .i64 0, .int .i64 0, .slice none 0 0, .int .i64 0, .int .i64 0, .int .i64 20, .slice none 0 0, .slice none 0 0] 36 (0, 0))) := by show _ = _; rw [hX]; exact heap_alloc_new w1 _
  have ZX : Hid (X.heap[q]? = some (.cells #[.int .i64 0, .int .i64 0, .int .i64 0, .int .i64 0, .int .i64 0, .slice none 0 0, .int .i64 0, .int .i64 0, .slice none 0 0, .int .i64 0, .int .i64 0, .int .i64 0, .slice none 0 0, .slice none 0 0] 36 (0, 0))) := (hb1.block _ (Array.getElem?_eq_some_iff.1 Z1.out).1).trans Z1.out
  have HBX : Hid (Below w.heap.size w X) := HB1.out.trans (hb1.mono HB1.out.size)
  have OX : Hid (World.ownsRow X (w.heap.size + 1) 3 1 (.slice a1 conf.length c1) conf.length (cellsI conf)) := own_kept HO1.out hb1
  rw [← hX, ← HQ.out]
  obtain ⟨m, hm⟩ : ∃ m, m = w1.heap.size := ⟨_, rfl⟩
  rw [← hm] at NX ⊢
  clear hX hb1 Z1 HB1 HO1 hm
  obtain ⟨_, gX, _, eX, iX⟩ := cellsI_slice OX.out
  cases eX
  have HM := specNew_is (cc := c1) id conf hlen X iX
  rw [← HO.out] at HM
  refine Calls.mono HM ?_
  clear HM iX
  rintro e w2 ⟨rfl, hb2⟩
  have HB2 : Hid (Below w.heap.size w w2) := HBX.out.trans (hb2.mono HBX.out.size)
  have Z2 : Hid (w2.heap[q]? = some (.cells #[.int .i64 0, .int .i64 0, .int .i64 0, .int .i64 0, .int .i64 0, .slice none 0 0, .int .i64 0, .int .i64 0, .slice none 0 0, .int .i64 0, .int .i64 0, .int .i64 0, .slice none 0 0, .slice none 0 0] 36 (0, 0))) := (hb2.block _ (Array.getElem?_eq_some_iff.1 ZX.out).1).trans ZX.out
  have N2 : Hid (w2.heap[m]? = some (.cells #[.int .i64 id, .int .i64 0, .int .i64 0, .int .i64 0, .int .i64 0, .slice a1 conf.length c1, .int .i64 0, .int .i64 0, .slice none 0 0, .int .i64 0, .int .i64 0, .int .i64 20, .slice none 0 0, .slice none 0 0] 36 (0, 0))) := (hb2.block _ (Array.getElem?_eq_some_iff.1 NX.out).1).trans NX.out
  have O2 : Hid (w2.ownsRow (w.heap.size + 1) 3 1 (.slice a1 conf.length c1) conf.length (cellsI conf)) := own_kept OX.out hb2
  clear hb2 HBX ZX NX OX HO
  cases O with
  | false =>
    go_wp2_with (first | (refine wpList_storeA Try.sizeOf36 rfl _ _ rfl q #[.int .i64 0, .int .i64 0, .int .i64 0, .int .i64 0, .int .i64 0, .slice none 0 0, .int .i64 0, .int .i64 0, .slice none 0 0, .int .i64 0, .int .i64 0, .int .i64 0, .slice none 0 0, .slice none 0 0] #[.int .i64 0, .int .i64 0, .int .i64 0, .int .i64 0, .int .i64 0, .slice none 0 0, .int .i64 0, .int .i64 0, .slice none 0 0, .int .i64 0, .int .i64 0, .int .i64 0, .slice none 0 0, .slice none 0 0] 36 rfl rfl Z2.out rfl rfl (node_one _ _ _ _ _ _ _ _) ?_) | fail)
    exact bodyPost_ret (result11 Z2.out rfl rfl rfl) rfl ⟨none, 0, none, 0, rfl, World.ownsRow_nil _ _ _ _, below_setRow HB2.out (by have := HQ.out; omega) _⟩
  | true =>
    go_wp2_with (first | (refine wpList_loadA Try.isAgg36 Try.sizeOf36 rfl _ rfl m #[.int .i64 id, .int .i64 0, .int .i64 0, .int .i64 0, .int .i64 0, .slice a1 conf.length c1, .int .i64 0, .int .i64 0, .slice none 0 0, .int .i64 0, .int .i64 0, .int .i64 20, .slice none 0 0, .slice none 0 0] 36 rfl N2.out rfl ?_) | (refine wpList_storeA Try.sizeOf36 rfl _ _ rfl q #[.int .i64 id, .int .i64 0, .int .i64 0, .int .i64 0, .int .i64 0, .slice a1 conf.length c1, .int .i64 0, .int .i64 0, .slice none 0 0, .int .i64 0, .int .i64 0, .int .i64 20, .slice none 0 0, .slice none 0 0] #[.int .i64 0, .int .i64 0, .int .i64 0, .int .i64 0, .int .i64 0, .slice none 0 0, .int .i64 0, .int .i64 0, .slice none 0 0, .int .i64 0, .int .i64 0, .int .i64 0, .slice none 0 0, .slice none 0 0] 36 rfl rfl Z2.out rfl rfl (node_one _ _ _ _ _ _ _ _) ?_) | fail)
    exact bodyPost_ret (result11 Z2.out rfl rfl rfl) rfl ⟨a1, c1, none, 0, rfl, own_mono (own_row O2.out _ _ (own_not O2.out Z2.out (by decide))) (by omega), below_setRow HB2.out (by have := HQ.out; omega) _⟩

end Go.Proofs.Ytiifjhalkihlbaa
