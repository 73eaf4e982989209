/- Batches as the laws copy, measure and compare them: szBatch, toBatch, eqBatch, walked. -/
import Derived.Test.YtijopmkcaoefjaaLChange
namespace Go.Proofs.Ytijopmkcaoefjaa
open Go.RowKit

set_option maxHeartbeats 1000000 in
theorem szBatch_any {st : Int} {a : Option Addr} {g off cap : Nat} (l : List ChangeL) (hlen : l.length ≤ maxLen) (hsz : ∀ r ∈ l, smallChange maxLen r) (left : Nat) (hl : left ≤ 1048576) (w : World) (hf : ChangeAt w a g off l) :
    Calls Try.prog 22 #[.agg #[.int .i64 st, .slice a l.length cap], .int .i64 (left : Int)] w fun e w' => ∃ x : Int, e = .returned (.int .i64 x) ∧ Left left (totChange l) x ∧ Below w.heap.size w w' := by
  have HF : Hid (ChangeAt (w.alloc (.cells #[.int .i64 st, .slice a l.length cap] 49)) a g off l) := hf.kept ((Below.refl _ _).alloc (Nat.le_refl _) _)
  have HS : Hid (∀ r ∈ l, smallChange maxLen r) := hsz
  have HL : Hid (l.length ≤ maxLen) := hlen
  clear hf hsz hlen
  go_enter Try.func22, Try.ntmps22
  go_wp2_with fail
  refine (szChangeS_is l HL.out HS.out left hl _ HF.out).mono ?_
  rintro e w1 ⟨x, rfl, hx, hb1⟩
  have hB : Below w.heap.size w w1 := ((Below.refl _ _).alloc (Nat.le_refl _) _).trans (hb1.mono (by simp))
  rcases hx with ⟨hx1, hx2⟩ | ⟨hx1, hx2⟩
  · obtain ⟨Y, hY⟩ : ∃ Y : Nat, Y = left - totChange l := ⟨_, rfl⟩
    rw [← hY] at hx2
    subst hx2
    have HY : Hid (Y = left - totChange l) := hY
    clear hY
    go_wp2
    go_ret
    exact ⟨_, rfl, Or.inl ⟨hx1, by rw [HY.out]⟩, hB⟩
  · subst hx2
    go_wp2
    go_ret
    exact ⟨_, rfl, Or.inr ⟨hx1, rfl⟩, hB⟩

set_option maxHeartbeats 1000000 in
theorem toBatch_any {st : Int} {a : Option Addr} {g off cap : Nat} (l : List ChangeL) (hlen : l.length ≤ 1048576) (w : World) (hf : ChangeAt w a g off l) :
    Calls Try.prog 24 #[.agg #[.int .i64 st, .slice a l.length cap]] w fun e w' => ∃ g' : Nat, e = .returned (.agg #[.int .i64 st, .slice (some ⟨g', 0, none⟩) l.length l.length]) ∧ w.heap.size ≤ g' ∧
      w'.ownsRow w.heap.size 65 3 (.slice (some ⟨g', 0, none⟩) l.length l.length) l.length (cellsChange l) ∧ Below w.heap.size w w' := by
  have HF : Hid (ChangeAt w a g off l) := hf
  clear hf
  go_enter Try.func24, Try.ntmps24
  go_wp2_with fail
  obtain ⟨W, hW⟩ : ∃ W, W = (((w.alloc (Obj.cells #[Value.int IntKind.i64 st, Value.slice a l.length cap] 49)).alloc (Obj.cells #[Value.int IntKind.i64 0, Value.slice none 0 0] 33)).alloc (Obj.cells #[Value.int IntKind.i64 st, Value.slice none 0 0] 33)) := ⟨_, rfl⟩
  rw [← hW]
  have hWs : W.heap.size = w.heap.size + 3 := by rw [hW]; simp
  have hWb : Below w.heap.size w W := by rw [hW]; exact (((Below.refl _ _).alloc (Nat.le_refl _) _).alloc (by simp) _).alloc (by simp; omega) _
  have b2 : W.heap[w.heap.size + 1 + 1]? = some (.cells #[.int .i64 st, .slice none 0 0] 33 (0, 0)) := by
    rw [hW]; have := heap_alloc_new ((w.alloc (Obj.cells #[Value.int IntKind.i64 st, Value.slice a l.length cap] 49)).alloc (Obj.cells #[Value.int IntKind.i64 0, Value.slice none 0 0] 33)) (Obj.cells #[Value.int IntKind.i64 st, Value.slice none 0 0] 33); simpa using this
  have b1 : W.heap[w.heap.size + 1]? = some (.cells #[.int .i64 0, .slice none 0 0] 33 (0, 0)) := by
    rw [hW, Below.heap_alloc _ _ _ (by simp)]
    have := heap_alloc_new (w.alloc (Obj.cells #[Value.int IntKind.i64 st, Value.slice a l.length cap] 49)) (Obj.cells #[Value.int IntKind.i64 0, Value.slice none 0 0] 33); simpa using this
  clear hW
  refine (toChangeS_is l hlen W (HF.out.kept hWb)).mono ?_
  rintro e w1 ⟨rfl, hown, hb1⟩
  rw [hWs] at hown ⊢
  rw [← hb1.block _ (by omega)] at b1 b2
  have hB : Below w.heap.size w w1 := hWb.trans (hb1.mono (by omega))
  have c10 : w1.cell? ⟨w.heap.size + 1, 0, none⟩ = some (.int .i64 0) := cell_of_row _ _ 0 _ _ _ b1
  have c11 : w1.cell? ⟨w.heap.size + 1, 1, none⟩ = some (.slice none 0 0) := cell_of_row _ _ 1 _ _ _ b1
  have c20 : w1.cell? ⟨w.heap.size + 1 + 1, 0, none⟩ = some (.int .i64 st) := cell_of_row _ _ 0 _ _ _ b2
  have c21 : w1.cell? ⟨w.heap.size + 1 + 1, 1, none⟩ = some (.slice none 0 0) := cell_of_row _ _ 1 _ _ _ b2
  have f1 : ∀ i, w1.frozen? ⟨w.heap.size + 1, i, none⟩ = false := fun i => by simp [World.frozen?, b1]
  have f2 : ∀ i, w1.frozen? ⟨w.heap.size + 1 + 1, i, none⟩ = false := fun i => by simp [World.frozen?, b2]
  have HR : Hid (w1.heap[w.heap.size + 1]? = some (.cells #[.int .i64 0, .slice none 0 0] 33 (0, 0))) := b1
  clear b1 b2 hWb hb1
  go_wp2
  obtain ⟨l0, l1⟩ := two_cell (set_far (R := w.heap.size + 1 + 1) HR.out (by omega) 1 (.slice (some ⟨w.heap.size + 3, 0, none⟩) l.length l.length)) (.int .i64 st) (.slice (some ⟨w.heap.size + 3, 0, none⟩) l.length l.length)
  refine bodyPost_ret (v := .agg #[.int .i64 st, .slice (some ⟨w.heap.size + 3, 0, none⟩) l.length l.length]) (by simp [results, Try.results24, go_sem, l0, l1]) rfl ⟨w.heap.size + 3, rfl, by omega, ?_, ?_⟩
  · exact own_set (own_set (own_set (own_mono hown (by omega)) _ _ _ (by simp [Value.ownBlock])) _ _ _ (by simp [Value.ownBlock])) _ _ _ (by simp [Value.ownBlock])
  · exact ((hB.setCell (by simp; omega) _).setCell (by simp) _).setCell (by simp) _
set_option maxHeartbeats 1000000 in
theorem eqBatch_same {st : Int} {a b : Option Addr} {g off cap h off' cap' : Nat} (l : List ChangeL) (hlen : l.length ≤ 1048576) (w : World) (hf : ChangeAt w a g off l) (hf' : ChangeAt w b h off' l) :
    Calls Try.prog 25 #[.agg #[.int .i64 st, .slice a l.length cap], .agg #[.int .i64 st, .slice b l.length cap']] w fun e w' => e = .returned (.bool true) ∧ Below w.heap.size w w' := by
  have HF : Hid (ChangeAt w a g off l) := hf
  have HF' : Hid (ChangeAt w b h off' l) := hf'
  clear hf hf'
  go_enter Try.func25, Try.ntmps25
  go_wp2_with fail
  have hB : Below w.heap.size w ((w.alloc (Obj.cells #[.int .i64 st, Value.slice a l.length cap] 33)).alloc (Obj.cells #[.int .i64 st, Value.slice b l.length cap'] 33)) := ((Below.refl _ _).alloc (Nat.le_refl _) _).alloc (by simp) _
  refine (eqChangeS_same l hlen _ (HF.out.kept hB) (HF'.out.kept hB)).mono ?_
  rintro e w1 ⟨rfl, hb1⟩
  have hB1 := hB.trans (hb1.mono hB.size)
  clear hb1 hB
  go_wp2
  go_ret
  exact ⟨rfl, hB1⟩
end Go.Proofs.Ytijopmkcaoefjaa
