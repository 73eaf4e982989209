/- The calls of FormatShelf, of the program and of the specification, walked. -/
import Derived.Test.YthcfnofhdbjemaaGreatDoorManTextLaw
import Derived.Test.YthcfnofhdbjemaaGreatDoorShelf
import Derived.Test.YthcfnofhdbjemaaGreatDoorFiles
import Derived.Deep.RegionHeld3
import Derived.WalkMore
import Derived.Laws.OwnMore
namespace Go.Proofs.YthcfnofhdbjemaaGreatDoor
open Go.RowKit
set_option linter.unusedVariables false

theorem in0 (w : World) : Calls Tryz.prog 39 #[.int .i64 0, .int .i64 0, .int .i64 999] w fun e w' => e = .returned (.bool true) ∧ w = w' := by
  go_enter Tryz.func39, Tryz.ntmps39
  go_wp2
  go_ret
  exact ⟨rfl, rfl⟩
set_option maxHeartbeats 1000000 in
theorem specDec0 (w : World) : Calls Tryz.prog 40 #[.int .i64 0] w fun e w' => e = .returned (.string ⟨#[48]⟩) ∧ Below w.heap.size w w' := by
  go_enter Tryz.func40, Tryz.ntmps40
  go_wp2
  go_ret
  exact ⟨rfl, Below.refl _ _⟩
theorem implDec0 (w : World) : Calls Tryz.prog 48 #[.int .i64 0] w fun e w' => e = .returned (.string ⟨#[48]⟩) ∧ Below w.heap.size w w' := by
  have hi : ∀ w : World, Calls Tryz.prog 70 #[.int .i64 0] w fun e w' => e = .returned (.string ⟨#[48]⟩) ∧ w' = w := fun w => by
    have h := Tryz.strconv_Itoa_small 0 (by decide) w
    rw [show (Lib.decDigits 0).toArray = #[48] by rw [Lib.decDigits]; rfl] at h
    exact h
  go_enter Tryz.func48, Tryz.ntmps48
  go_wp2_with (go_at_call 70; refine (hi _).mono ?_; rintro e w1 ⟨rfl, rfl⟩)
  go_ret
  exact ⟨rfl, Below.refl _ _⟩
set_option maxHeartbeats 1000000 in
theorem specSeg0 (w : World) : Calls Tryz.prog 22 #[.int .i64 0] w fun e w' => e = .returned (.string ⟨#[103, 48]⟩) ∧ Below w.heap.size w w' := by
  go_enter Tryz.func22, Tryz.ntmps22
  go_wp2_with (first | (go_at_call 39; refine (in0 _).mono ?_; rintro e w0 ⟨rfl, rfl⟩) | (go_at_call 40; refine (specDec0 _).mono ?_; rintro e w1 ⟨rfl, hb1⟩))
  go_ret
  exact ⟨rfl, hb1⟩
set_option maxHeartbeats 1000000 in
theorem implSeg0 (w : World) : Calls Tryz.prog 27 #[.int .i64 0] w fun e w' => e = .returned (.string ⟨#[103, 48]⟩) ∧ Below w.heap.size w w' := by
  go_enter Tryz.func27, Tryz.ntmps27
  go_wp2_with (go_at_call 48; refine (implDec0 _).mono ?_; rintro e w1 ⟨rfl, hb1⟩)
  go_ret
  exact ⟨rfl, hb1⟩

/-- The files of a formatted disk. -/
def fmtL (S : ByteArray) (R : Bool) : List FileL := if R = true then [(⟨#[103, 48]⟩, ⟨#[]⟩), (⟨#[109]⟩, S)] else []

set_option maxHeartbeats 1000000 in
set_option maxRecDepth 100000 in
theorem specFmt_any {a : Option Addr} {g off cap : Nat} (l : List Int) (hl : l.length ≤ 1048576) (S : ByteArray) (R : Bool) (hT : TextIs ⟨[0], 1, 0, 0, l⟩ S R) (w : World) (hf : IntAt w a g off l) :
    Calls Tryz.prog 12 #[.slice a l.length cap] w fun e w' => ∃ v, e = .returned (.tuple #[.agg #[v], .bool R]) ∧ w'.ownsRow w.heap.size 41 2 v (fmtL S R).length (cellsF (fmtL S R)) ∧ Below w.heap.size w w' := by
  have HT : Hid (TextIs ⟨[0], 1, 0, 0, l⟩ S R) := hT
  clear hT
  obtain ⟨W1, hW1⟩ : ∃ W1, W1 = (w.alloc (Obj.cells #[Value.slice none 0 0] 25)).alloc (Obj.cells #[Value.int .i64 0] 3) := ⟨_, rfl⟩
  have hb1 : Below w.heap.size w W1 := by rw [hW1]; exact ((Below.refl _ _).alloc (Nat.le_refl _) _).alloc (by simp) _
  have hz1 : W1.heap.size = w.heap.size + 2 := by rw [hW1]; simp
  have r1 : W1.heap[w.heap.size]? = some (.cells #[Value.slice none 0 0] 25 (0, 0)) := by rw [hW1, Below.heap_alloc _ _ _ (by simp)]; exact heap_alloc_new w _
  have hA : IntAt W1 (some ⟨w.heap.size + 1, 0, none⟩) (w.heap.size + 1) 0 [0] := by
    rw [hW1]
    refine ⟨fun _ => rfl, fun j hj => ?_⟩
    obtain rfl : j = 0 := by simpa using hj
    have e1 : (w.alloc (Obj.cells #[Value.slice none 0 0] 25)).heap.size = w.heap.size + 1 := by simp
    have := heap_alloc_new (w.alloc (Obj.cells #[Value.slice none 0 0] 25)) (Obj.cells #[Value.int .i64 0] 3)
    rw [e1] at this
    exact cell_of_row _ _ 0 _ _ _ this
  have HC : Hid (∀ (W : World), Below W1.heap.size W1 W → Calls Tryz.prog 21 #[.agg #[.slice (some ⟨w.heap.size + 1, 0, none⟩) 1 1, .int .i64 1, .int .i64 0, .int .i64 0, .slice a l.length cap]] W fun e w' => e = .returned (.tuple #[.string S, .bool R]) ∧ Below W.heap.size W w') := fun W hb =>
    specText_is (ca := 1) (cb := cap) [0] l 1 0 0 (by simp) hl S R HT.out W (hA.kept hb) ((hf.kept hb1).kept hb)
  clear hA hf HT
  go_enter Tryz.func12, Tryz.ntmps12
  go_wp2_with fail
  rw [← hW1]
  clear hW1
  refine Calls.mono (HC.out W1 (Below.refl _ _)) ?_
  rintro e w2 ⟨rfl, hb2⟩
  have r2 : w2.heap[w.heap.size]? = some (.cells #[Value.slice none 0 0] 25 (0, 0)) := (hb2.block _ (by omega)).trans r1
  have hbB : Below w.heap.size w w2 := hb1.trans (hb2.mono hb1.size)
  have hlo : w.heap.size < w2.heap.size := by have := hb2.size; omega
  clear HC hb2 hb1 r1 hz1
  cases R with
  | false =>
    have c0 := cell_of_row _ _ 0 _ _ _ r2
    have f0 := frozen_of_row _ _ 0 _ _ r2
    have hbE : Hid (Below w.heap.size w (w2.setCell ⟨w.heap.size, 0, none⟩ (.slice none 0 0))) := hbB.setCell (Nat.le_refl _) _
    have hres : (w2.setCell ⟨w.heap.size, 0, none⟩ (.slice none 0 0)).cell? ⟨w.heap.size, 0, none⟩ = some (.slice none 0 0) := by
      have := heap_setCell_same _ _ 0 _ _ (.slice none 0 0) r2
      exact cell_of_row _ _ 0 _ _ _ this
    go_wp2
    exact bodyPost_ret (v := .tuple #[.agg #[.slice none 0 0], .bool false]) (by simp [results, Tryz.results12, go_sem, hres]) rfl ⟨_, rfl, World.ownsRow_nil _ _ _ _, hbE.out⟩
  | true =>
    have HR2 : Hid (w2.heap[w.heap.size]? = some (.cells #[Value.slice none 0 0] 25 (0, 0))) := r2
    clear r2
    go_wp2_with fail
    refine (specSeg0 w2).mono ?_
    rintro e w3 ⟨rfl, hb3⟩
    have hbC : Below w.heap.size w w3 := hbB.trans (hb3.mono hbB.size)
    have hlo3 : w.heap.size < w3.heap.size := by have := hb3.size; omega
    obtain ⟨W4, hW4⟩ : ∃ W4, W4 = w3.alloc (Obj.cells #[Value.string ⟨#[103, 48]⟩, Value.string ⟨#[]⟩, Value.string ⟨#[109]⟩, Value.string S] 41) := ⟨_, rfl⟩
    have r4 : W4.heap[w.heap.size]? = some (.cells #[Value.slice none 0 0] 25 (0, 0)) := by rw [hW4, Below.heap_alloc _ _ _ (by omega)]; exact (hb3.block _ hlo).trans HR2.out
    have c0 := cell_of_row _ _ 0 _ _ _ r4
    have f0 := frozen_of_row _ _ 0 _ _ r4
    obtain ⟨W3, hW3⟩ : ∃ W3, W3 = w3.setCell ⟨w.heap.size, 0, none⟩ (Value.slice (some ⟨w3.heap.size, 0, none⟩) 2 2) := ⟨_, rfl⟩
    have hz3 : W3.heap.size = w3.heap.size := by rw [hW3]; simp [World.setCell]
    have hb3E : Below w.heap.size w W3 := by rw [hW3]; exact hbC.setCell (Nat.le_refl _) _
    have r3 := (hb3.block _ hlo).trans HR2.out
    have hoE : Hid ((W3.alloc (Obj.cells #[Value.string ⟨#[103, 48]⟩, Value.string ⟨#[]⟩, Value.string ⟨#[109]⟩, Value.string S] 41)).ownsRow w.heap.size 41 2 (.slice (some ⟨w3.heap.size, 0, none⟩) 2 2) 2 (cellsF (fmtL S true))) := by
      have := World.ownsRow_lit (base := w.heap.size) (e := 41) (size := 2) W3 #[Value.string ⟨#[103, 48]⟩, Value.string ⟨#[]⟩, Value.string ⟨#[109]⟩, Value.string S] 2 (by omega) (by unfold maxLen; omega) rfl
      rw [hz3] at this
      exact this
    have hbE : Hid (Below w.heap.size w (W3.alloc (Obj.cells #[Value.string ⟨#[103, 48]⟩, Value.string ⟨#[]⟩, Value.string ⟨#[109]⟩, Value.string S] 41))) := hb3E.alloc hb3E.size _
    have hres : (W3.alloc (Obj.cells #[Value.string ⟨#[103, 48]⟩, Value.string ⟨#[]⟩, Value.string ⟨#[109]⟩, Value.string S] 41)).cell? ⟨w.heap.size, 0, none⟩ = some (.slice (some ⟨w3.heap.size, 0, none⟩) 2 2) := by
      refine cell_of_row _ _ 0 #[_] 25 (0, 0) ?_
      rw [Below.heap_alloc _ _ _ (by omega), hW3]
      exact heap_setCell_same _ _ 0 _ _ _ r3
    rw [hW3] at hbE hoE hres
    rw [hW4] at c0 f0
    clear r4 hW4 HR2 hbB hb3 hbC r3 hb3E hz3 hW3
    go_wp2
    exact bodyPost_ret (v := .tuple #[.agg #[.slice (some ⟨w3.heap.size, 0, none⟩) 2 2], .bool true]) (by simp [results, Tryz.results12, go_sem, hres]) rfl ⟨_, rfl, hoE.out, hbE.out⟩

set_option maxHeartbeats 1000000 in
set_option maxRecDepth 100000 in
theorem implFmt_any {a : Option Addr} {g off cap : Nat} (l : List Int) (hl : l.length ≤ 1048576) (S : ByteArray) (R : Bool) (hT : TextIs ⟨[0], 1, 0, 0, l⟩ S R) (w : World) (hf : IntAt w a g off l) :
    Calls Tryz.prog 15 #[.slice a l.length cap] w fun e w' => ∃ v, e = .returned (.tuple #[.agg #[v], .bool R]) ∧ w'.ownsRow w.heap.size 41 2 v (fmtL S R).length (cellsF (fmtL S R)) ∧ Below w.heap.size w w' := by
  have HT : Hid (TextIs ⟨[0], 1, 0, 0, l⟩ S R) := hT
  clear hT
  obtain ⟨W1, hW1⟩ : ∃ W1, W1 = (w.alloc (Obj.cells #[Value.slice none 0 0] 25)).alloc (Obj.cells #[Value.int .i64 0] 3) := ⟨_, rfl⟩
  have hb1 : Below w.heap.size w W1 := by rw [hW1]; exact ((Below.refl _ _).alloc (Nat.le_refl _) _).alloc (by simp) _
  have hz1 : W1.heap.size = w.heap.size + 2 := by rw [hW1]; simp
  have r1 : W1.heap[w.heap.size]? = some (.cells #[Value.slice none 0 0] 25 (0, 0)) := by rw [hW1, Below.heap_alloc _ _ _ (by simp)]; exact heap_alloc_new w _
  have hA : IntAt W1 (some ⟨w.heap.size + 1, 0, none⟩) (w.heap.size + 1) 0 [0] := by
    rw [hW1]
    refine ⟨fun _ => rfl, fun j hj => ?_⟩
    obtain rfl : j = 0 := by simpa using hj
    have e1 : (w.alloc (Obj.cells #[Value.slice none 0 0] 25)).heap.size = w.heap.size + 1 := by simp
    have := heap_alloc_new (w.alloc (Obj.cells #[Value.slice none 0 0] 25)) (Obj.cells #[Value.int .i64 0] 3)
    rw [e1] at this
    exact cell_of_row _ _ 0 _ _ _ this
  have HC : Hid (∀ (W : World), Below W1.heap.size W1 W → Calls Tryz.prog 26 #[.agg #[.slice (some ⟨w.heap.size + 1, 0, none⟩) 1 1, .int .i64 1, .int .i64 0, .int .i64 0, .slice a l.length cap]] W fun e w' => e = .returned (.tuple #[.string S, .bool R]) ∧ Below W.heap.size W w') := fun W hb =>
    implText_is (ca := 1) (cb := cap) [0] l 1 0 0 (by simp) hl S R HT.out W (hA.kept hb) ((hf.kept hb1).kept hb)
  clear hA hf HT
  go_enter Tryz.func15, Tryz.ntmps15
  go_wp2_with fail
  rw [← hW1]
  clear hW1
  refine Calls.mono (HC.out W1 (Below.refl _ _)) ?_
  rintro e w2 ⟨rfl, hb2⟩
  have r2 : w2.heap[w.heap.size]? = some (.cells #[Value.slice none 0 0] 25 (0, 0)) := (hb2.block _ (by omega)).trans r1
  have hbB : Below w.heap.size w w2 := hb1.trans (hb2.mono hb1.size)
  have hlo : w.heap.size < w2.heap.size := by have := hb2.size; omega
  clear HC hb2 hb1 r1 hz1
  cases R with
  | false =>
    have c0 := cell_of_row _ _ 0 _ _ _ r2
    have f0 := frozen_of_row _ _ 0 _ _ r2
    have hbE : Hid (Below w.heap.size w (w2.setCell ⟨w.heap.size, 0, none⟩ (.slice none 0 0))) := hbB.setCell (Nat.le_refl _) _
    have hres : (w2.setCell ⟨w.heap.size, 0, none⟩ (.slice none 0 0)).cell? ⟨w.heap.size, 0, none⟩ = some (.slice none 0 0) := by
      have := heap_setCell_same _ _ 0 _ _ (.slice none 0 0) r2
      exact cell_of_row _ _ 0 _ _ _ this
    go_wp2
    exact bodyPost_ret (v := .tuple #[.agg #[.slice none 0 0], .bool false]) (by simp [results, Tryz.results15, go_sem, hres]) rfl ⟨_, rfl, World.ownsRow_nil _ _ _ _, hbE.out⟩
  | true =>
    have HR2 : Hid (w2.heap[w.heap.size]? = some (.cells #[Value.slice none 0 0] 25 (0, 0))) := r2
    clear r2
    go_wp2_with fail
    refine (implSeg0 w2).mono ?_
    rintro e w3 ⟨rfl, hb3⟩
    have hbC : Below w.heap.size w w3 := hbB.trans (hb3.mono hbB.size)
    have hlo3 : w.heap.size < w3.heap.size := by have := hb3.size; omega
    obtain ⟨W4, hW4⟩ : ∃ W4, W4 = w3.alloc (Obj.cells #[Value.string ⟨#[103, 48]⟩, Value.string ⟨#[]⟩, Value.string ⟨#[109]⟩, Value.string S] 41) := ⟨_, rfl⟩
    have r4 : W4.heap[w.heap.size]? = some (.cells #[Value.slice none 0 0] 25 (0, 0)) := by rw [hW4, Below.heap_alloc _ _ _ (by omega)]; exact (hb3.block _ hlo).trans HR2.out
    have c0 := cell_of_row _ _ 0 _ _ _ r4
    have f0 := frozen_of_row _ _ 0 _ _ r4
    obtain ⟨W3, hW3⟩ : ∃ W3, W3 = w3.setCell ⟨w.heap.size, 0, none⟩ (Value.slice (some ⟨w3.heap.size, 0, none⟩) 2 2) := ⟨_, rfl⟩
    have hz3 : W3.heap.size = w3.heap.size := by rw [hW3]; simp [World.setCell]
    have hb3E : Below w.heap.size w W3 := by rw [hW3]; exact hbC.setCell (Nat.le_refl _) _
    have r3 := (hb3.block _ hlo).trans HR2.out
    have hoE : Hid ((W3.alloc (Obj.cells #[Value.string ⟨#[103, 48]⟩, Value.string ⟨#[]⟩, Value.string ⟨#[109]⟩, Value.string S] 41)).ownsRow w.heap.size 41 2 (.slice (some ⟨w3.heap.size, 0, none⟩) 2 2) 2 (cellsF (fmtL S true))) := by
      have := World.ownsRow_lit (base := w.heap.size) (e := 41) (size := 2) W3 #[Value.string ⟨#[103, 48]⟩, Value.string ⟨#[]⟩, Value.string ⟨#[109]⟩, Value.string S] 2 (by omega) (by unfold maxLen; omega) rfl
      rw [hz3] at this
      exact this
    have hbE : Hid (Below w.heap.size w (W3.alloc (Obj.cells #[Value.string ⟨#[103, 48]⟩, Value.string ⟨#[]⟩, Value.string ⟨#[109]⟩, Value.string S] 41))) := hb3E.alloc hb3E.size _
    have hres : (W3.alloc (Obj.cells #[Value.string ⟨#[103, 48]⟩, Value.string ⟨#[]⟩, Value.string ⟨#[109]⟩, Value.string S] 41)).cell? ⟨w.heap.size, 0, none⟩ = some (.slice (some ⟨w3.heap.size, 0, none⟩) 2 2) := by
      refine cell_of_row _ _ 0 #[_] 25 (0, 0) ?_
      rw [Below.heap_alloc _ _ _ (by omega), hW3]
      exact heap_setCell_same _ _ 0 _ _ _ r3
    rw [hW3] at hbE hoE hres
    rw [hW4] at c0 f0
    clear r4 hW4 HR2 hbB hb3 hbC r3 hb3E hz3 hW3
    go_wp2
    exact bodyPost_ret (v := .tuple #[.agg #[.slice (some ⟨w3.heap.size, 0, none⟩) 2 2], .bool true]) (by simp [results, Tryz.results15, go_sem, hres]) rfl ⟨_, rfl, hoE.out, hbE.out⟩
end Go.Proofs.YthcfnofhdbjemaaGreatDoor
