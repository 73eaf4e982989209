/- toMessage of the laws, walked: a message with lists of its own. -/
import Derived.Test.YtimacmijinblmaaMsgArg
import Derived.Test.YtimacmijinblmaaAgg
namespace Go.Proofs.Ytimacmijinblmaa
open Go.RowKit
set_option linter.unusedVariables false
set_option linter.unusedSimpArgs false

theorem own_row14 {B : Nat} {e : TypeId} {k : Nat} {v : Value} {n : Nat} {xs : List Value} {w : World} (h : w.ownsRow B e k v n xs) (g : Nat) (A : Array Value) (hne : v.ownBlock ≠ some g) : (w.setRow g A).ownsRow B e k v n xs :=
  h.kept (grown_setRow w g A) (Or.inr hne)
theorem below_row14 {w w' : World} (h : Below w.heap.size w w') {g : Nat} (hg : w.heap.size ≤ g) (A : Array Value) : Below w.heap.size w (w'.setRow g A) := h.grown (grown_setRow w' g A) h.size (fun k e => by cases e; exact hg)
theorem msg_one (m : MsgL) (a : Option Addr) (cap : Nat) (b : Option Addr) (capb : Nat) : ∀ v ∈ (msgC m a cap b capb).toList, v.oneCell' = true := by
  intro v hv
  simp [msgC] at hv
  rcases hv with rfl | rfl | rfl | rfl | rfl | rfl | rfl | rfl | rfl | rfl | rfl | rfl <;> rfl
theorem result8 {w : World} {g : Nat} {A C : Array Value} (hg : w.heap[g]? = some (.cells C 30 (0, 0))) (hs : A.size = 12) {tmps : Array Value} (ht : tmps.getD 2 undef = .pointer (some ⟨g, 0, none⟩)) : (results Try.f7 tmps).run Try.prog (w.setRow g A) = .ok (.agg A) (w.setRow g A) := by
  have h := run_loadVar_agg (P := Try.prog) Try.isAgg30 Try.sizeOf30 (row_size (A := A) hg) hs
  have ht' : tmps[2]?.getD undef = .pointer (some ⟨g, 0, none⟩) := by simpa using ht
  simp [results, Try.results7, ht', asAddr, h]
def zeroC : Array Value := #[.int .i64 0, .int .i64 0, .int .i64 0, .int .i64 0, .int .i64 0, .int .i64 0, .int .i64 0, .bool false, .slice none 0 0, .slice none 0 0, .string ⟨#[]⟩, .bool false]
def partC (m : MsgL) (v1 v2 : Value) (d : ByteArray) (l : Bool) : Array Value := #[.int .i64 m.kind, .int .i64 m.frm, .int .i64 m.dst, .int .i64 m.term, .int .i64 m.index, .int .i64 m.lterm, .int .i64 m.commit, .bool m.ok, v1, v2, .string d, .bool l]
set_option maxHeartbeats 8000000 in
set_option maxRecDepth 100000 in
theorem toMsg_any {a b : Option Addr} {g off cap h o capb : Nat} (m : MsgL) (hlen : m.ents.length ≤ 1048576) (hlc : m.conf.length ≤ 1048576) (w : World) (hf : EnAt w a g off m.ents) (hc : IntAt w b h o m.conf) :
    Calls Try.prog 7 #[msgV m a cap b capb] w fun e w' => ∃ g1 g2 : Nat, e = .returned (msgV m (some ⟨g1, 0, none⟩) m.ents.length (some ⟨g2, 0, none⟩) m.conf.length) ∧ w'.ownsRow w.heap.size 41 3 (.slice (some ⟨g1, 0, none⟩) m.ents.length m.ents.length) m.ents.length (cellsEn m.ents) ∧ w'.ownsRow w.heap.size 3 1 (.slice (some ⟨g2, 0, none⟩) m.conf.length m.conf.length) m.conf.length (cellsI m.conf) ∧ Below w.heap.size w w' := by
  unfold msgV
  obtain ⟨W2, hW2⟩ : ∃ W2, W2 = ((w.alloc (.cells (msgC m a cap b capb) 25)).alloc (.cells zeroC 30)).alloc (.cells (partC m (.slice none 0 0) (.slice none 0 0) ⟨#[]⟩ false) 30) := ⟨_, rfl⟩
  obtain ⟨q, hq⟩ : ∃ q, q = w.heap.size := ⟨_, rfl⟩
  have hB2 : Below w.heap.size w W2 := by rw [hW2]; exact (((Below.refl _ _).alloc (Nat.le_refl _) _).alloc (by simp) _).alloc (by simp; omega) _
  have HA2 : Hid (W2.heap[q]? = some (.cells (msgC m a cap b capb) 25 (0, 0))) := by
    show _ = _
    rw [hW2, hq, Below.heap_alloc _ _ _ (by simp; omega), Below.heap_alloc _ _ _ (by simp)]
    exact heap_alloc_new w _
  have HZ2 : Hid (W2.heap[q + 1]? = some (.cells zeroC 30 (0, 0))) := by
    show _ = _
    rw [hW2, hq, Below.heap_alloc _ _ _ (by simp)]
    have := heap_alloc_new (w.alloc (.cells (msgC m a cap b capb) 25)) (.cells zeroC 30)
    simpa using this
  have HE2 : Hid (W2.heap[q + 1 + 1]? = some (.cells (partC m (.slice none 0 0) (.slice none 0 0) ⟨#[]⟩ false) 30 (0, 0))) := by
    show _ = _
    rw [hW2, hq]
    have := heap_alloc_new ((w.alloc (.cells (msgC m a cap b capb) 25)).alloc (.cells zeroC 30)) (.cells (partC m (.slice none 0 0) (.slice none 0 0) ⟨#[]⟩ false) 30)
    simpa using this
  have HQ : Hid (q = w.heap.size) := hq
  have HB2 : Hid (Below w.heap.size w W2) := hB2
  have HF : Hid (∀ W', Below W2.heap.size W2 W' → EnAt W' a g off m.ents) := fun W' x => (hf.kept hB2).kept x
  have HC : Hid (IntAt w b h o m.conf) := hc
  have HM : Hid (Calls Try.prog 17 #[.slice a m.ents.length cap] W2 fun e w' => e = .returned (.slice (some ⟨W2.heap.size, 0, none⟩) m.ents.length m.ents.length) ∧ w'.ownsRow W2.heap.size 41 3 (.slice (some ⟨W2.heap.size, 0, none⟩) m.ents.length m.ents.length) m.ents.length (cellsEn m.ents) ∧ Below W2.heap.size W2 w') := toEnS_is m.ents hlen W2 (hf.kept hB2)
  have HWD : Hid (((w.alloc (Obj.cells #[.int .i64 m.kind, .int .i64 m.frm, .int .i64 m.dst, .int .i64 m.term, .int .i64 m.index, .int .i64 m.lterm, .int .i64 m.commit, .bool m.ok, .slice a m.ents.length cap, .slice b m.conf.length capb, .string m.data, .bool m.last] 25)).alloc (Obj.cells #[.int .i64 0, .int .i64 0, .int .i64 0, .int .i64 0, .int .i64 0, .int .i64 0, .int .i64 0, .bool false, .slice none 0 0, .slice none 0 0, .string ⟨#[]⟩, .bool false] 30)).alloc (Obj.cells #[.int .i64 m.kind, .int .i64 m.frm, .int .i64 m.dst, .int .i64 m.term, .int .i64 m.index, .int .i64 m.lterm, .int .i64 m.commit, .bool m.ok, .slice none 0 0, .slice none 0 0, .string ⟨#[]⟩, .bool false] 30) = W2) := hW2.symm
  clear hB2 hf hc hW2
  go_enter Try.func7, Try.ntmps7
  go_wp2_with fail
  rw [HWD.out, ← hq]
  clear HWD hq
  refine Calls.mono HM.out ?_
  rintro e w3 ⟨rfl, hown, hb3⟩
  have HE3 : Hid (w3.heap[q + 1 + 1]? = some (.cells (partC m (.slice none 0 0) (.slice none 0 0) ⟨#[]⟩ false) 30 (0, 0))) := (hb3.block _ (Array.getElem?_eq_some_iff.1 HE2.out).1).trans HE2.out
  have HZ3 : Hid (w3.heap[q + 1]? = some (.cells zeroC 30 (0, 0))) := (hb3.block _ (Array.getElem?_eq_some_iff.1 HZ2.out).1).trans HZ2.out
  have HA3 : Hid (w3.heap[q]? = some (.cells (msgC m a cap b capb) 25 (0, 0))) := (hb3.block _ (Array.getElem?_eq_some_iff.1 HA2.out).1).trans HA2.out
  have HB3 : Hid (Below w.heap.size w w3) := HB2.out.trans (hb3.mono HB2.out.size)
  obtain ⟨g1, hg1⟩ : ∃ g1, g1 = W2.heap.size := ⟨_, rfl⟩
  rw [← hg1] at hown ⊢
  have HO : Hid (w3.ownsRow w.heap.size 41 3 (.slice (some ⟨g1, 0, none⟩) m.ents.length m.ents.length) m.ents.length (cellsEn m.ents)) := own_mono hown (by rw [hg1]; exact HB2.out.size)
  have o8 : w3.cell? ⟨q + 1 + 1, 8, none⟩ = some (.slice none 0 0) := cell_of_row _ _ 8 _ _ _ HE3.out
  have of8 := frozen_of_row _ _ 8 _ _ HE3.out
  obtain ⟨X3, hX3⟩ : ∃ X3, X3 = w3.setCell ⟨q + 1 + 1, 8, none⟩ (Value.slice (some ⟨g1, 0, none⟩) m.ents.length m.ents.length) := ⟨_, rfl⟩
  have HE4 : Hid (X3.heap[q + 1 + 1]? = some (.cells (partC m (Value.slice (some ⟨g1, 0, none⟩) m.ents.length m.ents.length) (.slice none 0 0) ⟨#[]⟩ false) 30 (0, 0))) := by
    show _ = _
    rw [hX3]
    have := heap_setCell_same w3 (q + 1 + 1) 8 _ 30 (Value.slice (some ⟨g1, 0, none⟩) m.ents.length m.ents.length) HE3.out
    simpa [partC] using this
  have HZ4 : Hid (X3.heap[q + 1]? = some (.cells zeroC 30 (0, 0))) := by show _ = _; rw [hX3]; exact set_far HZ3.out (by omega) _ _
  have HA4 : Hid (X3.heap[q]? = some (.cells (msgC m a cap b capb) 25 (0, 0))) := by show _ = _; rw [hX3]; exact set_far HA3.out (by omega) _ _
  have HB4 : Hid (Below w.heap.size w X3) := by show Below _ _ _; rw [hX3]; exact HB3.out.setCell (by have := HQ.out; show w.heap.size ≤ q + 1 + 1; omega) _
  have HO4 : Hid (X3.ownsRow w.heap.size 41 3 (Value.slice (some ⟨g1, 0, none⟩) m.ents.length m.ents.length) m.ents.length (cellsEn m.ents)) := by show World.ownsRow _ _ _ _ _ _ _; rw [hX3]; exact own_set HO.out _ _ _ (own_not HO.out HE3.out (by decide))
  have c9 : w3.cell? ⟨q, 9, none⟩ = some (.slice b m.conf.length capb) := cell_of_row _ _ 9 _ _ _ HA3.out
  have c9' : (w3.setCell ⟨q + 1 + 1, 8, none⟩ (Value.slice (some ⟨g1, 0, none⟩) m.ents.length m.ents.length)).cell? ⟨q, 9, none⟩ = some (.slice b m.conf.length capb) := by rw [← hX3]; exact cell_of_row _ _ 9 _ _ _ HA4.out
  have HI : Hid (Calls Try.prog 18 #[.slice b m.conf.length capb] X3 fun e w' => e = .returned (.slice (some ⟨X3.heap.size, 0, none⟩) m.conf.length m.conf.length) ∧ w'.ownsRow X3.heap.size 3 1 (.slice (some ⟨X3.heap.size, 0, none⟩) m.conf.length m.conf.length) m.conf.length (cellsI m.conf) ∧ Below X3.heap.size X3 w') := toIntS_is m.conf hlc X3 (HC.out.kept HB4.out)
  clear hown hb3 hg1 HM HE3 HZ3 HA3 HB3 HO HE2 HZ2 HA2 HB2 HF HC
  go_wp2_with fail
  rw [← hX3]
  clear hX3 c9 c9' o8 of8
  refine Calls.mono HI.out ?_
  rintro e w4 ⟨rfl, hown, hb4⟩
  have HE5 : Hid (w4.heap[q + 1 + 1]? = some (.cells (partC m (Value.slice (some ⟨g1, 0, none⟩) m.ents.length m.ents.length) (.slice none 0 0) ⟨#[]⟩ false) 30 (0, 0))) := (hb4.block _ (Array.getElem?_eq_some_iff.1 HE4.out).1).trans HE4.out
  have HZ5 : Hid (w4.heap[q + 1]? = some (.cells zeroC 30 (0, 0))) := (hb4.block _ (Array.getElem?_eq_some_iff.1 HZ4.out).1).trans HZ4.out
  have HA5 : Hid (w4.heap[q]? = some (.cells (msgC m a cap b capb) 25 (0, 0))) := (hb4.block _ (Array.getElem?_eq_some_iff.1 HA4.out).1).trans HA4.out
  have HB5 : Hid (Below w.heap.size w w4) := HB4.out.trans (hb4.mono HB4.out.size)
  have HO5 : Hid (w4.ownsRow w.heap.size 41 3 (Value.slice (some ⟨g1, 0, none⟩) m.ents.length m.ents.length) m.ents.length (cellsEn m.ents)) := own_kept HO4.out hb4
  obtain ⟨g2, hg2⟩ : ∃ g2, g2 = X3.heap.size := ⟨_, rfl⟩
  rw [← hg2] at hown ⊢
  have HI5 : Hid (w4.ownsRow w.heap.size 3 1 (Value.slice (some ⟨g2, 0, none⟩) m.conf.length m.conf.length) m.conf.length (cellsI m.conf)) := own_mono hown (by rw [hg2]; exact HB4.out.size)
  have HE6 : Hid ((w4.setCell ⟨q + 1 + 1, 9, none⟩ (Value.slice (some ⟨g2, 0, none⟩) m.conf.length m.conf.length)).heap[q + 1 + 1]? = some (.cells (partC m (Value.slice (some ⟨g1, 0, none⟩) m.ents.length m.ents.length) (Value.slice (some ⟨g2, 0, none⟩) m.conf.length m.conf.length) ⟨#[]⟩ false) 30 (0, 0))) := by
    show _ = _
    have := heap_setCell_same w4 (q + 1 + 1) 9 _ 30 (Value.slice (some ⟨g2, 0, none⟩) m.conf.length m.conf.length) HE5.out
    simpa [partC] using this
  have HE7 : Hid (((w4.setCell ⟨q + 1 + 1, 9, none⟩ (Value.slice (some ⟨g2, 0, none⟩) m.conf.length m.conf.length)).setCell ⟨q + 1 + 1, 10, none⟩ (.string m.data)).heap[q + 1 + 1]? = some (.cells (partC m (Value.slice (some ⟨g1, 0, none⟩) m.ents.length m.ents.length) (Value.slice (some ⟨g2, 0, none⟩) m.conf.length m.conf.length) m.data false) 30 (0, 0))) := by
    show _ = _
    have := heap_setCell_same _ (q + 1 + 1) 10 _ 30 (.string m.data) HE6.out
    simpa [partC] using this
  have HE8 : Hid ((((w4.setCell ⟨q + 1 + 1, 9, none⟩ (Value.slice (some ⟨g2, 0, none⟩) m.conf.length m.conf.length)).setCell ⟨q + 1 + 1, 10, none⟩ (.string m.data)).setCell ⟨q + 1 + 1, 11, none⟩ (.bool m.last)).heap[q + 1 + 1]? = some (.cells (partC m (Value.slice (some ⟨g1, 0, none⟩) m.ents.length m.ents.length) (Value.slice (some ⟨g2, 0, none⟩) m.conf.length m.conf.length) m.data m.last) 30 (0, 0))) := by
    show _ = _
    have := heap_setCell_same _ (q + 1 + 1) 11 _ 30 (.bool m.last) HE7.out
    simpa [partC] using this
  have HZ8 : Hid ((((w4.setCell ⟨q + 1 + 1, 9, none⟩ (Value.slice (some ⟨g2, 0, none⟩) m.conf.length m.conf.length)).setCell ⟨q + 1 + 1, 10, none⟩ (.string m.data)).setCell ⟨q + 1 + 1, 11, none⟩ (.bool m.last)).heap[q + 1]? = some (.cells zeroC 30 (0, 0))) := set_far (set_far (set_far HZ5.out (by omega) _ _) (by omega) _ _) (by omega) _ _
  have hqw := HQ.out
  have HB8 : Hid (Below w.heap.size w (((w4.setCell ⟨q + 1 + 1, 9, none⟩ (Value.slice (some ⟨g2, 0, none⟩) m.conf.length m.conf.length)).setCell ⟨q + 1 + 1, 10, none⟩ (.string m.data)).setCell ⟨q + 1 + 1, 11, none⟩ (.bool m.last))) := ((HB5.out.setCell (by show w.heap.size ≤ q + 1 + 1; omega) _).setCell (by show w.heap.size ≤ q + 1 + 1; omega) _).setCell (by show w.heap.size ≤ q + 1 + 1; omega) _
  have n1 := own_not HO5.out HE5.out (by decide)
  have n2 := own_not HI5.out HE5.out (by decide)
  have HO8 : Hid ((((w4.setCell ⟨q + 1 + 1, 9, none⟩ (Value.slice (some ⟨g2, 0, none⟩) m.conf.length m.conf.length)).setCell ⟨q + 1 + 1, 10, none⟩ (.string m.data)).setCell ⟨q + 1 + 1, 11, none⟩ (.bool m.last)).ownsRow w.heap.size 41 3 (Value.slice (some ⟨g1, 0, none⟩) m.ents.length m.ents.length) m.ents.length (cellsEn m.ents)) := own_set (own_set (own_set HO5.out _ _ _ n1) _ _ _ n1) _ _ _ n1
  have HI8 : Hid ((((w4.setCell ⟨q + 1 + 1, 9, none⟩ (Value.slice (some ⟨g2, 0, none⟩) m.conf.length m.conf.length)).setCell ⟨q + 1 + 1, 10, none⟩ (.string m.data)).setCell ⟨q + 1 + 1, 11, none⟩ (.bool m.last)).ownsRow w.heap.size 3 1 (Value.slice (some ⟨g2, 0, none⟩) m.conf.length m.conf.length) m.conf.length (cellsI m.conf)) := own_set (own_set (own_set HI5.out _ _ _ n2) _ _ _ n2) _ _ _ n2
  have e9 : w4.cell? ⟨q + 1 + 1, 9, none⟩ = some (.slice none 0 0) := cell_of_row _ _ 9 _ _ _ HE5.out
  have ef9 := frozen_of_row _ _ 9 _ _ HE5.out
  have e10 : (w4.setCell ⟨q + 1 + 1, 9, none⟩ (Value.slice (some ⟨g2, 0, none⟩) m.conf.length m.conf.length)).cell? ⟨q + 1 + 1, 10, none⟩ = some (.string ⟨#[]⟩) := cell_of_row _ _ 10 _ _ _ HE6.out
  have ef10 := frozen_of_row _ _ 10 _ _ HE6.out
  have e11 : ((w4.setCell ⟨q + 1 + 1, 9, none⟩ (Value.slice (some ⟨g2, 0, none⟩) m.conf.length m.conf.length)).setCell ⟨q + 1 + 1, 10, none⟩ (.string m.data)).cell? ⟨q + 1 + 1, 11, none⟩ = some (.bool false) := cell_of_row _ _ 11 _ _ _ HE7.out
  have ef11 := frozen_of_row _ _ 11 _ _ HE7.out
  have a10 : (w4.setCell ⟨q + 1 + 1, 9, none⟩ (Value.slice (some ⟨g2, 0, none⟩) m.conf.length m.conf.length)).cell? ⟨q, 10, none⟩ = some (.string m.data) := cell_of_row _ _ 10 _ _ _ (set_far HA5.out (by omega) _ _)
  have a11 : ((w4.setCell ⟨q + 1 + 1, 9, none⟩ (Value.slice (some ⟨g2, 0, none⟩) m.conf.length m.conf.length)).setCell ⟨q + 1 + 1, 10, none⟩ (.string m.data)).cell? ⟨q, 11, none⟩ = some (.bool m.last) := cell_of_row _ _ 11 _ _ _ (set_far (set_far HA5.out (by omega) _ _) (by omega) _ _)
  have b10 : w4.cell? ⟨q, 10, none⟩ = some (.string m.data) := cell_of_row _ _ 10 _ _ _ HA5.out
  have b11 : w4.cell? ⟨q, 11, none⟩ = some (.bool m.last) := cell_of_row _ _ 11 _ _ _ HA5.out
  have k10 : w4.cell? ⟨q + 1 + 1, 10, none⟩ = some (.string ⟨#[]⟩) := cell_of_row _ _ 10 _ _ _ HE5.out
  have k11 : w4.cell? ⟨q + 1 + 1, 11, none⟩ = some (.bool false) := cell_of_row _ _ 11 _ _ _ HE5.out
  have kf10 := frozen_of_row _ _ 10 _ _ HE5.out
  have kf11 := frozen_of_row _ _ 11 _ _ HE5.out
  have HONE : Hid (∀ v ∈ (partC m (Value.slice (some ⟨g1, 0, none⟩) m.ents.length m.ents.length) (Value.slice (some ⟨g2, 0, none⟩) m.conf.length m.conf.length) m.data m.last).toList, v.oneCell' = true) := msg_one m _ _ _ _
  clear hown hb4 hg2 HI HE4 HZ4 HA4 HB4 HO4 HE5 HZ5 HA5 HB5 HO5 HI5 HE6 HE7 n1 n2 hqw
  go_wp2_with (first | (refine wpList_loadA Try.isAgg30 Try.sizeOf30 rfl _ rfl (q + 1 + 1) (partC m (Value.slice (some ⟨g1, 0, none⟩) m.ents.length m.ents.length) (Value.slice (some ⟨g2, 0, none⟩) m.conf.length m.conf.length) m.data m.last) 30 rfl HE8.out rfl ?_) | (refine wpList_storeA Try.sizeOf30 rfl _ _ rfl (q + 1) (partC m (Value.slice (some ⟨g1, 0, none⟩) m.ents.length m.ents.length) (Value.slice (some ⟨g2, 0, none⟩) m.conf.length m.conf.length) m.data m.last) zeroC 30 rfl rfl HZ8.out rfl rfl HONE.out ?_) | fail)
  have hq2 := HQ.out
  refine bodyPost_ret (result8 HZ8.out rfl rfl) rfl ⟨g1, g2, ?_, ?_, ?_, below_row14 HB8.out (by omega) _⟩
  · rfl
  · exact own_row14 HO8.out _ _ (own_not HO8.out HZ8.out (by decide))
  · exact own_row14 HI8.out _ _ (own_not HI8.out HZ8.out (by decide))
end Go.Proofs.Ytimacmijinblmaa
