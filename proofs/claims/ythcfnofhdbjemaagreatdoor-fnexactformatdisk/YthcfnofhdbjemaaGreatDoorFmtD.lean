/- FormatDisk of the program and of the specification, walked. Made by program. -/
import Derived.Test.YthcfnofhdbjemaaGreatDoorLogZ
import Derived.Test.YthcfnofhdbjemaaGreatDoorFormatLaw
import Derived.Test.YthcfnofhdbjemaaGreatDoorImplRaw
namespace Go.Proofs.YthcfnofhdbjemaaGreatDoor
open Go.RowKit
set_option linter.unusedVariables false
set_option linter.unusedSimpArgs false
def logN : ByteArray := ⟨#[108, 111, 103]⟩
/-- The files of a formatted disk of a node. -/
def dskL (S : ByteArray) (R : Bool) : List FileL := if R = true then [(⟨#[103, 48]⟩, ⟨#[]⟩), (logN, fileZ), (⟨#[109]⟩, S)] else []
theorem man_small {l : List Int} {S : ByteArray} {R : Bool} (h : TextIs ⟨[0], 1, 0, 0, l⟩ S R) : S.size ≤ 20000 := by
  rcases h with ⟨h, rfl, _⟩ | ⟨_, rfl, _⟩
  · have hc : 1 ≤ l.length ∧ l.length ≤ 4 := (Mans.confOk_iff.1 h.2.2.2.2.2).1
    have ha : Mans.asc 1 4 l = true := (Mans.confOk_iff.1 h.2.2.2.2.2).2
    have hm := Mans.many_len l (fun x hx => by have := (Mans.asc_in _ _ _ ha x hx).2; omega)
    have hv := Mans.var_five l.length (by omega)
    have h4 : (Sums.four (Sums.sumOf (Mans.text ⟨[0], 1, 0, 0, l⟩))).length = 4 := rfl
    show (Mans.sealed (Mans.text ⟨[0], 1, 0, 0, l⟩)).length ≤ 20000
    unfold Mans.sealed
    rw [List.length_append, h4]
    have e1 : (Words.var (1 : Int).toNat).length ≤ 5 := Mans.var_five _ (by decide)
    have e0 : (Words.var (0 : Int).toNat).length ≤ 5 := Mans.var_five _ (by decide)
    have e2 : (Mans.list [0]).length ≤ 10 := by
      unfold Mans.list
      have a := Mans.many_len [0] (by simp)
      have b := Mans.var_five ([0] : List Int).length (by decide)
      simp only [List.length_append, List.length_cons, List.length_nil] at a b ⊢
      omega
    have e3 : (Mans.list l).length ≤ 25 := by
      unfold Mans.list
      rw [List.length_append]
      omega
    unfold Mans.text
    simp only [List.length_append]
    omega
  · show 0 ≤ 20000; omega
theorem fmt_ok {S : ByteArray} (h : S.size ≤ 20000) : Disks.ok (fmtL S true) := by
  rw [Disks.ok_iff]
  refine ⟨by simp [fmtL], fun f hf => ?_, ?_⟩
  · simp [fmtL] at hf
    rcases hf with rfl | rfl
    · exact ⟨by decide, by decide, by decide⟩
    · exact ⟨by show 1 ≤ 1; omega, by show 1 ≤ 12; omega, h⟩
  · have e3 : Disks.lt (⟨#[103, 48]⟩ : ByteArray) (⟨#[109]⟩ : ByteArray) = true := by decide +kernel
    simp only [fmtL, if_true, Disks.asc]
    exact List.Pairwise.cons (fun b hb => by simp at hb; subst hb; exact e3) (List.Pairwise.cons (fun b hb => by simp at hb) List.Pairwise.nil)
theorem dsk_put (S : ByteArray) : Disks.put (fmtL S true) (logN, fileZ) = dskL S true := by
  have e1 : Disks.lt (⟨#[103, 48]⟩ : ByteArray) logN = true := by decide +kernel
  have e2 : Disks.lt (⟨#[109]⟩ : ByteArray) logN = false := by decide +kernel
  have e3 : Disks.gt (⟨#[103, 48]⟩ : ByteArray) logN = false := by decide +kernel
  have e4 : Disks.gt (⟨#[109]⟩ : ByteArray) logN = true := by decide +kernel
  simp [Disks.put, fmtL, dskL, List.filter_cons, e1, e2, e3, e4]
theorem dsk_ok {S : ByteArray} (h : S.size ≤ 20000) : Disks.ok (dskL S true) := by
  rw [Disks.ok_iff]
  refine ⟨by simp [dskL], fun f hf => ?_, ?_⟩
  · simp [dskL] at hf
    rcases hf with rfl | rfl | rfl
    · exact ⟨by decide, by decide, by decide⟩
    · exact ⟨by decide, by decide, by show fileZ.size ≤ 20000; rw [fileZ_size]; omega⟩
    · exact ⟨by show 1 ≤ 1; omega, by show 1 ≤ 12; omega, h⟩
  · have e1 : Disks.lt (⟨#[103, 48]⟩ : ByteArray) logN = true := by decide +kernel
    have e2 : Disks.lt logN (⟨#[109]⟩ : ByteArray) = true := by decide +kernel
    have e3 : Disks.lt (⟨#[103, 48]⟩ : ByteArray) (⟨#[109]⟩ : ByteArray) = true := by decide +kernel
    simp only [dskL, if_true, Disks.asc]
    exact List.Pairwise.cons (fun b hb => by simp at hb; rcases hb with h | h <;> subst h <;> first | exact e1 | exact e3) (List.Pairwise.cons (fun b hb => by simp at hb; subst hb; exact e2) (List.Pairwise.cons (fun b hb => by simp at hb) List.Pairwise.nil))
theorem dsk_raw {S : ByteArray} (h : S.size ≤ 20000) : some (dskL S true) = Disks.putRaw (fmtL S true) ⟨1, logN, ⟨#[]⟩, fileZ⟩ := by
  have e : Disks.rawOut (fmtL S true) ⟨1, logN, ⟨#[]⟩, fileZ⟩ = dskL S true := by
    unfold Disks.rawOut
    rw [if_pos rfl]
    exact dsk_put S
  rw [Disks.putRaw_pos, e]
  exact ⟨⟨fmt_ok h, by decide, fun _ => by decide⟩, by rw [e]; exact dsk_ok h⟩
set_option maxHeartbeats 4000000 in
set_option maxRecDepth 100000 in
theorem specDisk_any {a : Option Addr} {g off cap : Nat} (l : List Int) (hl : l.length ≤ 1048576) (S : ByteArray) (R : Bool) (hT : TextIs ⟨[0], 1, 0, 0, l⟩ S R) (w : World) (hf : IntAt w a g off l) :
    Calls Tryz.prog 4 #[.slice a l.length cap] w fun e w' => ∃ v, e = .returned (.tuple #[.agg #[v], .bool R]) ∧ w'.ownsRow w.heap.size 41 2 v (dskL S R).length (cellsF (dskL S R)) ∧ Below w.heap.size w w' := by
  have HSZ : Hid (S.size ≤ 20000) := man_small hT
  obtain ⟨W1, hW1⟩ : ∃ W1, W1 = w.alloc (Obj.cells #[Value.slice none 0 0] 25) := ⟨_, rfl⟩
  have hb1 : Below w.heap.size w W1 := by rw [hW1]; exact (Below.refl _ _).alloc (Nat.le_refl _) _
  have r1 : W1.heap[w.heap.size]? = some (.cells #[Value.slice none 0 0] 25 (0, 0)) := by rw [hW1]; exact heap_alloc_new w _
  have HC := specFmt_any (cap := cap) l hl S R hT W1 (hf.kept hb1)
  have HC : Hid _ := HC
  have HB1 : Hid (Below w.heap.size w W1) := hb1
  have HR1 : Hid (W1.heap[w.heap.size]? = some (.cells #[Value.slice none 0 0] 25 (0, 0))) := r1
  clear hT hf hb1 r1
  go_enter Tryz.func4, Tryz.ntmps4
  go_wp2_with fail
  rw [← hW1]
  clear hW1
  refine Calls.mono HC.out ?_
  rintro e w2 ⟨v, rfl, hown, hb2⟩
  have HR2 : Hid (w2.heap[w.heap.size]? = some (.cells #[Value.slice none 0 0] 25 (0, 0))) := (hb2.block _ (Array.getElem?_eq_some_iff.1 HR1.out).1).trans HR1.out
  have HB2 : Hid (Below w.heap.size w w2) := HB1.out.trans (hb2.mono HB1.out.size)
  obtain ⟨av, cv, rfl⟩ := own_slice hown
  have HO2 : Hid _ := own_mono hown HB1.out.size
  have HLT : Hid (w.heap.size < w2.heap.size) := (Array.getElem?_eq_some_iff.1 HR2.out).1
  clear hown hb2 HC HR1 HB1
  cases R with
  | false =>
    have hr : (w2.alloc (Obj.cells #[.slice av (fmtL S false).length cv] 25)).heap[w.heap.size]? = some (.cells #[Value.slice none 0 0] 25 (0, 0)) := (Below.heap_alloc _ _ _ HLT.out).trans HR2.out
    have c0 := cell_of_row _ _ 0 _ _ _ hr
    have f0 := frozen_of_row _ _ 0 _ _ hr
    have d0 := cell_of_row _ _ 0 _ _ _ HR2.out
    have df0 := frozen_of_row _ _ 0 _ _ HR2.out
    have hbE : Hid (Below w.heap.size w ((w2.alloc (Obj.cells #[.slice av (fmtL S false).length cv] 25)).setCell ⟨w.heap.size, 0, none⟩ (.slice none 0 0))) := (HB2.out.alloc HB2.out.size _).setCell (Nat.le_refl _) _
    have hres : ((w2.alloc (Obj.cells #[.slice av (fmtL S false).length cv] 25)).setCell ⟨w.heap.size, 0, none⟩ (.slice none 0 0)).cell? ⟨w.heap.size, 0, none⟩ = some (.slice none 0 0) := cell_of_row _ _ 0 _ _ _ (heap_setCell_same _ _ 0 _ _ (.slice none 0 0) hr)
    clear hr
    go_wp2
    exact bodyPost_ret (v := .tuple #[.agg #[.slice none 0 0], .bool false]) (by simp [results, Tryz.results4, go_sem, hres]) rfl ⟨_, rfl, World.ownsRow_nil _ _ _ _, hbE.out⟩
  | true =>
    obtain ⟨nv, hnv⟩ : ∃ nv, nv = (fmtL S true).length := ⟨_, rfl⟩
    have HN : Hid (nv = (fmtL S true).length) := hnv
    rw [← hnv] at HO2 ⊢
    obtain ⟨W3, hW3⟩ : ∃ W3, W3 = w2.alloc (Obj.cells #[.slice av nv cv] 25) := ⟨_, rfl⟩
    have hb3 : Below w2.heap.size w2 W3 := by rw [hW3]; exact (Below.refl _ _).alloc (Nat.le_refl _) _
    have hd3 : W3.heap[w2.heap.size]? = some (.cells #[.slice av nv cv] 25 (0, 0)) := by rw [hW3]; exact heap_alloc_new w2 _
    have HX : Hid (∀ X, Below W3.heap.size W3 X → X.heap[w.heap.size]? = some (.cells #[Value.slice none 0 0] 25 (0, 0)) ∧ X.heap[w2.heap.size]? = some (.cells #[.slice av nv cv] 25 (0, 0)) ∧ X.ownsRow w.heap.size 41 2 (.slice av nv cv) nv (cellsF (fmtL S true)) ∧ Below w.heap.size w X) := fun X h => by
      have hs3 := (Array.getElem?_eq_some_iff.1 hd3).1
      refine ⟨(h.block _ (by have := HLT.out; omega)).trans ((hb3.block _ HLT.out).trans HR2.out), (h.block _ hs3).trans hd3, own_kept (own_kept HO2.out hb3) h, ?_⟩
      have hbb := HB2.out.trans (hb3.mono HB2.out.size)
      exact hbb.trans (h.mono hbb.size)
    have HQ : Hid (∃ q, q = w2.heap.size) := ⟨_, rfl⟩
    obtain ⟨q, hq⟩ := HQ.out
    rw [← hq] at HX
    have hdd : W3.cell? ⟨q, 0, none⟩ = some (.slice av nv cv) := by rw [hq]; exact cell_of_row _ _ 0 _ _ _ hd3
    have HWD : Hid (w2.alloc (Obj.cells #[.slice av nv cv] 25) = W3) := hW3.symm
    clear hb3 hd3 hnv HR2 HB2 HO2 HLT HQ hW3
    go_wp2_with fail
    rw [HWD.out, ← hq]
    clear HWD hq hdd
    refine Calls.mono (specFileZ W3) ?_
    obtain ⟨FZ, hFZ⟩ : ∃ FZ, FZ = fileZ := ⟨_, rfl⟩
    have HFZ : Hid (FZ = fileZ) := hFZ
    rw [← hFZ]
    clear hFZ
    rintro e w4 ⟨rfl, hb4⟩
    obtain ⟨k1, k2, k3, k4⟩ := HX.out w4 hb4
    have HO4 : Hid (w4.ownsRow w.heap.size 41 2 (.slice av nv cv) nv (cellsF (fmtL S true))) := k3
    have HR4 : Hid (w4.heap[w.heap.size]? = some (.cells #[Value.slice none 0 0] 25 (0, 0))) := k1
    have HB4 : Hid (Below w.heap.size w w4) := k4
    have c0 : w4.cell? ⟨q, 0, none⟩ = some (.slice av nv cv) := cell_of_row _ _ 0 _ _ _ k2
    clear hb4 k1 k2 k3 k4 HX
    have HL : Hid (Calls Tryz.prog 14 #[.agg #[.slice av nv cv], .agg #[.string logN, .string FZ]] w4 fun e w' => ∃ v : Value, e = .returned (.agg #[v]) ∧ w'.ownsRow w4.heap.size 41 2 v (dskL S true).length (cellsF (dskL S true)) ∧ Below w4.heap.size w4 w') := by
      show Calls Tryz.prog 14 #[.agg #[.slice av nv cv], .agg #[.string logN, .string FZ]] w4 fun e w' => ∃ v : Value, e = .returned (.agg #[v]) ∧ w'.ownsRow w4.heap.size 41 2 v (dskL S true).length (cellsF (dskL S true)) ∧ Below w4.heap.size w4 w'
      have ho := HO4.out
      rw [HN.out] at ho ⊢
      obtain ⟨a4, g4, c4, e4, i4⟩ := files_slice ho
      cases e4
      rw [← dsk_put S, HFZ.out]
      exact l03Put_is (fmtL S true) (by simp [fmtL]) logN fileZ w4 i4
    unfold logN at HL
    have HL2 : Hid _ := HL.out
    clear HL
    go_wp2_with fail
    clear c0
    refine Calls.mono HL2.out ?_
    rintro e w5 ⟨v5, rfl, hown5, hb5⟩
    have hr5 := (hb5.block _ (Array.getElem?_eq_some_iff.1 HR4.out).1).trans HR4.out
    have HB5 : Hid (Below w.heap.size w w5) := HB4.out.trans (hb5.mono HB4.out.size)
    obtain ⟨a5, c5, rfl⟩ := own_slice hown5
    have ho5 := own_mono hown5 HB4.out.size
    obtain ⟨nd, hnd⟩ : ∃ nd, nd = (dskL S true).length := ⟨_, rfl⟩
    rw [← hnd] at ho5 ⊢
    have HND : Hid (nd = (dskL S true).length) := hnd
    have c0 := cell_of_row _ _ 0 _ _ _ hr5
    have f0 := frozen_of_row _ _ 0 _ _ hr5
    have hbE : Hid (Below w.heap.size w (w5.setCell ⟨w.heap.size, 0, none⟩ (.slice a5 nd c5))) := HB5.out.setCell (Nat.le_refl _) _
    have hoE : Hid ((w5.setCell ⟨w.heap.size, 0, none⟩ (.slice a5 nd c5)).ownsRow w.heap.size 41 2 (.slice a5 nd c5) nd (cellsF (dskL S true))) := own_set ho5 _ _ _ (own_not ho5 hr5 (by decide))
    have hres : (w5.setCell ⟨w.heap.size, 0, none⟩ (.slice a5 nd c5)).cell? ⟨w.heap.size, 0, none⟩ = some (.slice a5 nd c5) := cell_of_row _ _ 0 _ _ _ (heap_setCell_same _ _ 0 _ _ (.slice a5 nd c5) hr5)
    clear hown5 hb5 HL2 ho5 hr5 hnd HB5 HB4 HO4 HR4
    go_wp2
    exact bodyPost_ret (v := .tuple #[.agg #[.slice a5 nd c5], .bool true]) (by simp [results, Tryz.results4, go_sem, hres]) rfl ⟨_, rfl, by rw [← HND.out]; exact hoE.out, hbE.out⟩
set_option maxHeartbeats 4000000 in
set_option maxRecDepth 100000 in
theorem implDisk_any {a : Option Addr} {g off cap : Nat} (l : List Int) (hl : l.length ≤ 1048576) (S : ByteArray) (R : Bool) (hT : TextIs ⟨[0], 1, 0, 0, l⟩ S R) (w : World) (hf : IntAt w a g off l) :
    Calls Tryz.prog 6 #[.slice a l.length cap] w fun e w' => ∃ v, e = .returned (.tuple #[.agg #[v], .bool R]) ∧ w'.ownsRow w.heap.size 41 2 v (dskL S R).length (cellsF (dskL S R)) ∧ Below w.heap.size w w' := by
  have HSZ : Hid (S.size ≤ 20000) := man_small hT
  obtain ⟨W1, hW1⟩ : ∃ W1, W1 = w.alloc (Obj.cells #[Value.slice none 0 0] 25) := ⟨_, rfl⟩
  have hb1 : Below w.heap.size w W1 := by rw [hW1]; exact (Below.refl _ _).alloc (Nat.le_refl _) _
  have r1 : W1.heap[w.heap.size]? = some (.cells #[Value.slice none 0 0] 25 (0, 0)) := by rw [hW1]; exact heap_alloc_new w _
  have HC := implFmt_any (cap := cap) l hl S R hT W1 (hf.kept hb1)
  have HC : Hid _ := HC
  have HB1 : Hid (Below w.heap.size w W1) := hb1
  have HR1 : Hid (W1.heap[w.heap.size]? = some (.cells #[Value.slice none 0 0] 25 (0, 0))) := r1
  clear hT hf hb1 r1
  go_enter Tryz.func6, Tryz.ntmps6
  go_wp2_with fail
  rw [← hW1]
  clear hW1
  refine Calls.mono HC.out ?_
  rintro e w2 ⟨v, rfl, hown, hb2⟩
  have HR2 : Hid (w2.heap[w.heap.size]? = some (.cells #[Value.slice none 0 0] 25 (0, 0))) := (hb2.block _ (Array.getElem?_eq_some_iff.1 HR1.out).1).trans HR1.out
  have HB2 : Hid (Below w.heap.size w w2) := HB1.out.trans (hb2.mono HB1.out.size)
  obtain ⟨av, cv, rfl⟩ := own_slice hown
  have HO2 : Hid _ := own_mono hown HB1.out.size
  have HLT : Hid (w.heap.size < w2.heap.size) := (Array.getElem?_eq_some_iff.1 HR2.out).1
  clear hown hb2 HC HR1 HB1
  cases R with
  | false =>
    have hr : (w2.alloc (Obj.cells #[.slice av (fmtL S false).length cv] 25)).heap[w.heap.size]? = some (.cells #[Value.slice none 0 0] 25 (0, 0)) := (Below.heap_alloc _ _ _ HLT.out).trans HR2.out
    have c0 := cell_of_row _ _ 0 _ _ _ hr
    have f0 := frozen_of_row _ _ 0 _ _ hr
    have d0 := cell_of_row _ _ 0 _ _ _ HR2.out
    have df0 := frozen_of_row _ _ 0 _ _ HR2.out
    have hbE : Hid (Below w.heap.size w ((w2.alloc (Obj.cells #[.slice av (fmtL S false).length cv] 25)).setCell ⟨w.heap.size, 0, none⟩ (.slice none 0 0))) := (HB2.out.alloc HB2.out.size _).setCell (Nat.le_refl _) _
    have hres : ((w2.alloc (Obj.cells #[.slice av (fmtL S false).length cv] 25)).setCell ⟨w.heap.size, 0, none⟩ (.slice none 0 0)).cell? ⟨w.heap.size, 0, none⟩ = some (.slice none 0 0) := cell_of_row _ _ 0 _ _ _ (heap_setCell_same _ _ 0 _ _ (.slice none 0 0) hr)
    clear hr
    go_wp2
    exact bodyPost_ret (v := .tuple #[.agg #[.slice none 0 0], .bool false]) (by simp [results, Tryz.results6, go_sem, hres]) rfl ⟨_, rfl, World.ownsRow_nil _ _ _ _, hbE.out⟩
  | true =>
    obtain ⟨nv, hnv⟩ : ∃ nv, nv = (fmtL S true).length := ⟨_, rfl⟩
    have HN : Hid (nv = (fmtL S true).length) := hnv
    rw [← hnv] at HO2 ⊢
    obtain ⟨W3, hW3⟩ : ∃ W3, W3 = w2.alloc (Obj.cells #[.slice av nv cv] 25) := ⟨_, rfl⟩
    have hb3 : Below w2.heap.size w2 W3 := by rw [hW3]; exact (Below.refl _ _).alloc (Nat.le_refl _) _
    have hd3 : W3.heap[w2.heap.size]? = some (.cells #[.slice av nv cv] 25 (0, 0)) := by rw [hW3]; exact heap_alloc_new w2 _
    have HX : Hid (∀ X, Below W3.heap.size W3 X → X.heap[w.heap.size]? = some (.cells #[Value.slice none 0 0] 25 (0, 0)) ∧ X.heap[w2.heap.size]? = some (.cells #[.slice av nv cv] 25 (0, 0)) ∧ X.ownsRow w.heap.size 41 2 (.slice av nv cv) nv (cellsF (fmtL S true)) ∧ Below w.heap.size w X) := fun X h => by
      have hs3 := (Array.getElem?_eq_some_iff.1 hd3).1
      refine ⟨(h.block _ (by have := HLT.out; omega)).trans ((hb3.block _ HLT.out).trans HR2.out), (h.block _ hs3).trans hd3, own_kept (own_kept HO2.out hb3) h, ?_⟩
      have hbb := HB2.out.trans (hb3.mono HB2.out.size)
      exact hbb.trans (h.mono hbb.size)
    have HQ : Hid (∃ q, q = w2.heap.size) := ⟨_, rfl⟩
    obtain ⟨q, hq⟩ := HQ.out
    rw [← hq] at HX
    have hdd : W3.cell? ⟨q, 0, none⟩ = some (.slice av nv cv) := by rw [hq]; exact cell_of_row _ _ 0 _ _ _ hd3
    have HWD : Hid (w2.alloc (Obj.cells #[.slice av nv cv] 25) = W3) := hW3.symm
    clear hb3 hd3 hnv HR2 HB2 HO2 HLT HQ hW3
    go_wp2_with fail
    rw [HWD.out, ← hq]
    clear HWD hq hdd
    refine Calls.mono (implFileZ W3) ?_
    obtain ⟨FZ, hFZ⟩ : ∃ FZ, FZ = fileZ := ⟨_, rfl⟩
    have HFZ : Hid (FZ = fileZ) := hFZ
    rw [← hFZ]
    clear hFZ
    rintro e w4 ⟨rfl, hb4⟩
    obtain ⟨k1, k2, k3, k4⟩ := HX.out w4 hb4
    have HO4 : Hid (w4.ownsRow w.heap.size 41 2 (.slice av nv cv) nv (cellsF (fmtL S true))) := k3
    have HR4 : Hid (w4.heap[w.heap.size]? = some (.cells #[Value.slice none 0 0] 25 (0, 0))) := k1
    have HB4 : Hid (Below w.heap.size w w4) := k4
    have c0 : w4.cell? ⟨q, 0, none⟩ = some (.slice av nv cv) := cell_of_row _ _ 0 _ _ _ k2
    clear hb4 k1 k2 k3 k4 HX
    have HL : Hid (Calls Tryz.prog 17 #[.agg #[.slice av nv cv], .agg #[.int .i64 1, .string logN, .string ⟨#[]⟩, .string FZ]] w4 fun e w' => ∃ v : Value, e = .returned (.tuple #[.agg #[v], .bool true]) ∧ w'.ownsRow w4.heap.size 41 2 v (dskL S true).length (cellsF (dskL S true)) ∧ Below w4.heap.size w4 w') := by
      show Calls Tryz.prog 17 #[.agg #[.slice av nv cv], .agg #[.int .i64 1, .string logN, .string ⟨#[]⟩, .string FZ]] w4 fun e w' => ∃ v : Value, e = .returned (.tuple #[.agg #[v], .bool true]) ∧ w'.ownsRow w4.heap.size 41 2 v (dskL S true).length (cellsF (dskL S true)) ∧ Below w4.heap.size w4 w'
      have ho := HO4.out
      rw [HN.out] at ho ⊢
      obtain ⟨a4, g4, c4, e4, i4⟩ := files_slice ho
      cases e4
      rw [HFZ.out]
      exact implPutRaw_yes (fmtL S true) (fmt_ok HSZ.out) 1 logN ⟨#[]⟩ fileZ ⟨by decide, by decide, by rw [fileZ_size]; omega⟩ (some (dskL S true)) (dsk_raw HSZ.out) w4 i4
    unfold logN at HL
    have HL2 : Hid _ := HL.out
    clear HL
    go_wp2_with fail
    clear c0
    refine Calls.mono HL2.out ?_
    rintro e w5 ⟨v5, rfl, hown5, hb5⟩
    have hr5 := (hb5.block _ (Array.getElem?_eq_some_iff.1 HR4.out).1).trans HR4.out
    have HB5 : Hid (Below w.heap.size w w5) := HB4.out.trans (hb5.mono HB4.out.size)
    obtain ⟨a5, c5, rfl⟩ := own_slice hown5
    have ho5 := own_mono hown5 HB4.out.size
    obtain ⟨nd, hnd⟩ : ∃ nd, nd = (dskL S true).length := ⟨_, rfl⟩
    rw [← hnd] at ho5 ⊢
    have HND : Hid (nd = (dskL S true).length) := hnd
    have c0 := cell_of_row _ _ 0 _ _ _ hr5
    have f0 := frozen_of_row _ _ 0 _ _ hr5
    have hbE : Hid (Below w.heap.size w (w5.setCell ⟨w.heap.size, 0, none⟩ (.slice a5 nd c5))) := HB5.out.setCell (Nat.le_refl _) _
    have hoE : Hid ((w5.setCell ⟨w.heap.size, 0, none⟩ (.slice a5 nd c5)).ownsRow w.heap.size 41 2 (.slice a5 nd c5) nd (cellsF (dskL S true))) := own_set ho5 _ _ _ (own_not ho5 hr5 (by decide))
    have hres : (w5.setCell ⟨w.heap.size, 0, none⟩ (.slice a5 nd c5)).cell? ⟨w.heap.size, 0, none⟩ = some (.slice a5 nd c5) := cell_of_row _ _ 0 _ _ _ (heap_setCell_same _ _ 0 _ _ (.slice a5 nd c5) hr5)
    clear hown5 hb5 HL2 ho5 hr5 hnd HB5 HB4 HO4 HR4
    go_wp2
    exact bodyPost_ret (v := .tuple #[.agg #[.slice a5 nd c5], .bool true]) (by simp [results, Tryz.results6, go_sem, hres]) rfl ⟨_, rfl, by rw [← HND.out]; exact hoE.out, hbE.out⟩
end Go.Proofs.YthcfnofhdbjemaaGreatDoor
