/- The program's copied, walked. -/
import Derived.Test.YtiifjhalkihlbaaImplTerm
import Derived.Test.YtiifjhalkihlbaaLogArg
import Derived.Test.YtiifjhalkihlbaaSealA
namespace Go.Proofs.Ytiifjhalkihlbaa
open Go.RowKit
open Ents (okB)
open Logs (okL)
set_option linter.unusedVariables false
set_option linter.unusedSimpArgs false

set_option maxHeartbeats 4000000 in
set_option maxRecDepth 100000 in
theorem copied_is {a : Option Addr} {g off cap : Nat} (l : List EntL) (hlen : l.length ≤ 1048576) (hd : ∀ e ∈ l, e.data.size ≤ 1048576) (w : World) (hf : EnAt w a g off l) :
    Calls Try.prog 67 #[.slice a l.length cap] w fun en w' => ∃ v, en = .returned v ∧ w'.ownsRow w.heap.size 74 3 v l.length (cellsEn l) ∧ Below w.heap.size w w' := by
  obtain ⟨i0, hi, hz0, hz1, hz2⟩ := info_parts Try.info74
  have HEN : Hid (∀ W', Below w.heap.size w W' → EnAt W' a g off l) := fun W' h => hf.kept h
  have HD : Hid (∀ e ∈ l, e.data.size ≤ 1048576) := hd
  clear hf hd
  go_enter Try.func67, Try.ntmps67
  go_wp2_with (at_make; refine wpList_make_own _ rfl _ _ 31 rfl w.heap.size 74 i0 (.agg #[.int .i64 0, .int .i64 0, .string ByteArray.empty]) 3 Try.underlying31 hi hz0 hz1 _ _ _ l.length rfl rfl rfl ?b2 ?b3 (Nat.le_refl _) ?_)
  case b2 => rw [hz2]; omega
  case b3 => unfold maxLen; omega
  intro w0 hown0 hgrow0
  have HB0 : Hid (Below w.heap.size w w0) := (Below.refl _ _).grown hgrow0 (Nat.le_refl _) (by simp)
  have HO0 : Hid (w0.ownsRow w.heap.size 74 3 (.slice (some ⟨w.heap.size, 0, none⟩) 0 l.length) 0 (cellsEn (l.take 0))) := hown0
  clear hgrow0 hown0
  go_wp2
  go_loopw [3, 5, 11] (fun v _ i wr => ∃ (k : Nat), k ≤ l.length ∧ i = .int .i64 (k : Int) ∧ Hid (wr.ownsRow w.heap.size 74 3 v k (cellsEn (l.take k))) ∧ Hid (Below w.heap.size w wr)) (fun _ _ i _ => l.length - (intOf i).toNat)
  case atStart => exact ⟨0, Nat.zero_le _, rfl, HO0, HB0⟩
  case round =>
    clear HO0 HB0
    obtain ⟨k, hk, rfl, HO, HBW⟩ := hrel
    obtain ⟨va, vc, hv⟩ := own_slice HO.out
    subst hv
    by_cases hlt : k < l.length
    · have hA := HEN.out _ HBW.out
      have ea := hA.1 (by omega)
      obtain ⟨d0, d1, d2⟩ := hA.2 k hlt
      have HDK : Hid (l[k].data.size ≤ 1048576) := HD.out _ (List.getElem_mem _)
      have HTK : Hid (l.take (k + 1) = l.take k ++ [l[k]]) := by show _ = _; rw [List.take_succ_eq_append_getElem hlt]
      obtain ⟨e, he⟩ : ∃ e, e = l[k] := ⟨_, rfl⟩
      rw [← he] at d0 d1 d2 HDK HTK
      subst ea
      have hk0 : (0 : Int) ≤ (k : Int) := by omega
      have hk1 : (k : Int) < (l.length : Int) := by omega
      have HE : Hid (∀ W, Calls Try.prog 85 #[.string e.data] W fun en w' => en = .returned (.string e.data) ∧ Below W.heap.size W w') := fun W => clone_any e.data (by have := HDK.out; omega) W
      clear hA he
      obtain ⟨W2, hW2⟩ : ∃ W2, W2 = wr.alloc (Obj.cells #[.int .i64 e.term, .int .i64 e.kind, .string e.data] 74) := ⟨_, rfl⟩
      have hb2 : Below wr.heap.size wr W2 := by rw [hW2]; exact (Below.refl _ _).alloc (Nat.le_refl _) _
      have hr2 : W2.heap[wr.heap.size]? = some (.cells #[.int .i64 e.term, .int .i64 e.kind, .string e.data] 74 (0, 0)) := by rw [hW2]; exact heap_alloc_new wr _
      have HR2 : Hid (W2.heap[wr.heap.size]? = some (.cells #[.int .i64 e.term, .int .i64 e.kind, .string e.data] 74 (0, 0))) := hr2
      have HB2 : Hid (Below wr.heap.size wr W2) := hb2
      clear hb2 hr2
      obtain ⟨q, hq⟩ : ∃ q, q = wr.heap.size := ⟨_, rfl⟩
      have HQ : Hid (q = wr.heap.size) := hq
      go_wp2_with fail
      rw [← hW2, ← hq]
      refine Calls.mono (HE.out _) ?_
      rintro en w5 ⟨rfl, hb5⟩
      have hr5 := (hb5.block _ (Array.getElem?_eq_some_iff.1 HR2.out).1).trans HR2.out
      have hb5' : Below wr.heap.size wr w5 := HB2.out.trans (hb5.mono HB2.out.size)
      have ho5 := own_kept HO.out hb5'
      have hne : (Value.slice va k vc).ownBlock ≠ some q := fun h => by have := (HO.out.lt q h).2; have := HQ.out; omega
      have hlt5 : q < w5.heap.size := by rw [HQ.out]; exact (Array.getElem?_eq_some_iff.1 hr5).1
      rw [← HQ.out] at hr5
      have ho6 := own_set ho5 q 2 (.string e.data) hne
      have hr6 := heap_setCell_same w5 q 2 _ 74 (.string e.data) hr5
      simp at hr6
      obtain ⟨X, hX⟩ : ∃ X, X = w5.setCell ⟨q, 2, none⟩ (.string e.data) := ⟨_, rfl⟩
      rw [← hX] at ho6 hr6
      have hbX : Below w.heap.size w X := by rw [hX]; exact (HBW.out.trans (hb5'.mono HBW.out.size)).setCell (by show w.heap.size ≤ q; have := HQ.out; have := HBW.out.size; omega) _
      have hXs : X.heap.size = w5.heap.size := by rw [hX]; simp
      have ho7 : (X.alloc (Obj.cells #[.int .i64 e.term, .int .i64 e.kind, .string e.data] 74)).ownsRow w.heap.size 74 3 (.slice va k vc) k (cellsEn (l.take k)) := ho6.alloc _
      have hr7 : (X.alloc (Obj.cells #[.int .i64 e.term, .int .i64 e.kind, .string e.data] 74)).heap[w5.heap.size]? = some (.cells #[.int .i64 e.term, .int .i64 e.kind, .string e.data] 74 (0, 0)) := by rw [← hXs]; exact heap_alloc_new X _
      have HEA : Hid (EnAt (X.alloc (Obj.cells #[.int .i64 e.term, .int .i64 e.kind, .string e.data] 74)) (some ⟨w5.heap.size, 0, none⟩) w5.heap.size 0 [e]) := by
        refine ⟨fun _ => rfl, fun j hj => ?_⟩
        have hj0 : j = 0 := by simpa using hj
        subst hj0
        exact ⟨cell_of_row _ _ 0 _ _ _ hr7, cell_of_row _ _ 1 _ _ _ hr7, cell_of_row _ _ 2 _ _ _ hr7⟩
      have HB7 : Hid (Below w.heap.size w (X.alloc (Obj.cells #[.int .i64 e.term, .int .i64 e.kind, .string e.data] 74))) := hbX.alloc hbX.size _
      have HO7 : Hid ((X.alloc (Obj.cells #[.int .i64 e.term, .int .i64 e.kind, .string e.data] 74)).ownsRow w.heap.size 74 3 (.slice va k vc) k (cellsEn (l.take k))) := ho7
      have x2 := cell_of_row _ _ 2 _ _ _ hr5
      have f2 := frozen_of_row _ _ 2 _ _ hr5
      have y0 : X.cell? ⟨q, 0, none⟩ = some (.int .i64 e.term) := cell_of_row _ _ 0 _ _ _ hr6
      have y1 : X.cell? ⟨q, 1, none⟩ = some (.int .i64 e.kind) := cell_of_row _ _ 1 _ _ _ hr6
      have y2 : X.cell? ⟨q, 2, none⟩ = some (.string e.data) := cell_of_row _ _ 2 _ _ _ hr6
      simp at x2
      have HKK : Hid (k + 1 ≤ 2097152) := by show _ ≤ _; omega
      have HSZ : Hid (w.heap.size ≤ (X.alloc (Obj.cells #[.int .i64 e.term, .int .i64 e.kind, .string e.data] 74)).heap.size) := HB7.out.size
      rw [hX] at y0 y1 y2
      clear hXs hr6 hr7 ho6 ho7 ho5 hb5 hb5' hbX hr5 d0 d1 d2 hW2 hq hlt5 hne HE
      subst hX
      go_wp2_with (at_builtin; refine wpList_appendEn rfl _ _ rfl w.heap.size _ k (cellsEn (l.take k)) rfl HO7.out (some ⟨w5.heap.size, 0, none⟩) w5.heap.size 0 1 [e] rfl HEA.out (fun h => by cases h) HKK.out HSZ.out ?_)
      intro v' w8 hown' hgrow
      have HB8 : Hid (Below w.heap.size w w8) := HB7.out.grown hgrow HB7.out.size (fun k h => (HO7.out.lt k h).1)
      have HO8 : Hid (w8.ownsRow w.heap.size 74 3 v' (k + 1) (cellsEn (l.take (k + 1)))) := by
        show World.ownsRow _ _ _ _ _ _ _
        rw [HTK.out, cellsEn_app]
        exact hown'
      clear hown' hgrow HB7 HO7 HEA x2 f2 y0 y1 y2
      go_wp2
      go_roundw
      case rel => exact ⟨k + 1, by omega, by go_num, HO8, HB8⟩
      case measure => simp [intOf]; omega
    · have hk1 : ¬ (k : Int) < (l.length : Int) := by omega
      obtain rfl : k = l.length := by omega
      have HO9 : Hid (wr.ownsRow w.heap.size 74 3 (.slice va l.length vc) l.length (cellsEn l)) := by have := HO.out; rwa [List.take_length] at this
      clear HO
      go_wp2
      go_ret
      exact ⟨_, rfl, HO9.out, HBW.out⟩
end Go.Proofs.Ytiifjhalkihlbaa
