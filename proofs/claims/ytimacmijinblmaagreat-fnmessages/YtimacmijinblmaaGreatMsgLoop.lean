/- The program's reading of a message along its table of fields, walked. -/
import Derived.Test.YtimacmijinblmaaGreatRdMsg
namespace Go.Proofs.YtimacmijinblmaaGreat
open Go.RowKit
open Ents (okB)
open Batches (cut)
open Msgs (okM bt Got pos epos)
set_option linter.unusedVariables false
set_option linter.unusedSimpArgs false

def zeroM : MsgL := ⟨0, 0, 0, 0, 0, 0, 0, false, [], [], ⟨#[]⟩, false⟩
/-- What reading a message leaves. -/
def MsgPost (w : World) (rb : Nat) (t : ByteArray) (en : Ending) (w' : World) : Prop :=
  (∃ (m : MsgL) (a : Option Addr) (cap : Nat) (b : Option Addr) (capb : Nat) (c : Nat), en = .returned (msgV m a cap b capb) ∧ w'.ownsRow w.heap.size 44 3 (.slice a m.ents.length cap) m.ents.length (cellsEn m.ents) ∧ w'.ownsRow w.heap.size 3 1 (.slice b m.conf.length capb) m.conf.length (cellsI m.conf) ∧ Rd w' rb t c ∧ cut t 0 c = Msgs.text m ∧ (∀ u, Got t u → c = t.size ∧ m = u) ∧ w.grownBy w' (some rb)) ∨
  (en = .panicked thrown ∧ (∀ u, ¬ Got t u) ∧ w.grownBy w' (some rb))
theorem result24 {w : World} {g : Nat} {A C : Array Value} (hg : w.heap[g]? = some (.cells C 25 (0, 0))) (hs : A.size = 12) {tmps : Array Value} (ht : tmps.getD 4 undef = .pointer (some ⟨g, 0, none⟩)) : (results Tryz.f24 tmps).run Tryz.prog (w.setRow g A) = .ok (.agg A) (w.setRow g A) := by
  have h := run_loadVar_agg (P := Tryz.prog) Tryz.isAgg25 Tryz.sizeOf25 (row_size (A := A) hg) hs
  have ht' : tmps[4]?.getD undef = .pointer (some ⟨g, 0, none⟩) := by simpa using ht
  simp [results, Tryz.results24, ht', asAddr, h]
theorem step_parts {t : ByteArray} {k : Nat} {m m' : MsgL} {a b : Nat} (hst : Step t k m m' a b) (h : cut t 0 a = parts m k) : cut t 0 b = parts m' (k + 1) := by
  rw [Batches.cut_app t (b := a) (Nat.zero_le _) hst.le, h, Msgs.parts_next hst.fld, hst.old]
set_option maxHeartbeats 8000000 in
set_option maxRecDepth 100000 in
theorem message_is {rb q : Nat} {t : ByteArray} (hs : t.size ≤ 1048576) (w : World) (hr : Rd w rb t 0) (hq : w.heap[q]? = some (.cells fieldsC 80 (0, 0))) :
    Calls Tryz.prog 24 #[.pointer (some ⟨rb, 0, none⟩), .slice (some ⟨q, 0, none⟩) 12 12] w (MsgPost w rb t) := by
  obtain ⟨W, hW⟩ : ∃ W, W = (w.alloc (Obj.cells zeroC 25)).alloc (Obj.cells zeroC 25) := ⟨_, rfl⟩
  have HWD : Hid ((w.alloc (Obj.cells #[.int .i64 0, .int .i64 0, .int .i64 0, .int .i64 0, .int .i64 0, .int .i64 0, .int .i64 0, .bool false, .slice none 0 0, .slice none 0 0, .string ⟨#[]⟩, .bool false] 25)).alloc (Obj.cells #[.int .i64 0, .int .i64 0, .int .i64 0, .int .i64 0, .int .i64 0, .int .i64 0, .int .i64 0, .bool false, .slice none 0 0, .slice none 0 0, .string ⟨#[]⟩, .bool false] 25) = W) := hW.symm
  have hb : Below w.heap.size w W := by rw [hW]; exact ((Below.refl _ _).alloc (Nat.le_refl _) _).alloc (by simp) _
  have h1 : W.heap[w.heap.size]? = some (.cells zeroC 25 (0, 0)) := by
    rw [hW, Below.heap_alloc _ _ _ (by simp)]
    exact heap_alloc_new w _
  have h2 : W.heap[w.heap.size + 1]? = some (.cells zeroC 25 (0, 0)) := by
    rw [hW]
    have := heap_alloc_new (w.alloc (Obj.cells zeroC 25)) (Obj.cells zeroC 25)
    simpa using this
  have hql := (Array.getElem?_eq_some_iff.1 hq).1
  have HM0 : Hid (MS w rb (w.heap.size + 1) q t zeroM (.slice none 0 0) (.slice none 0 0) 0 W) := ⟨hr.below hb, h1, h2, (hb.block _ hql).trans hq, ⟨hr.lt, hql, by omega⟩, World.ownsRow_nil _ _ 44 3, World.ownsRow_nil _ _ 3 1, own_below' hb⟩
  have HSF : ∀ (X : World) (p : Addr) (fn : Fn) (x y : Array Value), (store p (.func fn x y)).run Tryz.prog X = stored Tryz.prog X p (.func fn x y) .plain := fun X p fn x y => run_store _ X p _ _ rfl
  clear hb h1 h2 hW hr hq hql
  obtain ⟨mb, hmb⟩ : ∃ mb, mb = w.heap.size + 1 := ⟨_, rfl⟩
  rw [← hmb] at HM0
  go_enter Tryz.func24, Tryz.ntmps24
  go_wp2_with fail
  rw [HWD.out, ← hmb]
  clear HWD hmb
  go_loopw [7, 10] (fun _ i wr => ∃ (k : Nat) (m : MsgL) (v8 v9 : Value) (a : Nat), k ≤ 12 ∧ i = .int .i64 (k : Int) ∧ Hid (MS w rb mb q t m v8 v9 a wr) ∧ Hid (cut t 0 a = parts m k) ∧ Hid (∀ u, Got t u → a = pos u k ∧ agree m u k)) (fun _ i _ => 12 - (intOf i).toNat)
  case atStart => exact ⟨0, zeroM, _, _, 0, Nat.zero_le _, rfl, HM0, rfl, fun u hu => ⟨rfl, ⟨fun x => absurd x (by omega), fun x => absurd x (by omega), fun x => absurd x (by omega), fun x => absurd x (by omega), fun x => absurd x (by omega), fun x => absurd x (by omega), fun x => absurd x (by omega), fun x => absurd x (by omega), fun x => absurd x (by omega), fun x => absurd x (by omega), fun x => absurd x (by omega), fun x => absurd x (by omega)⟩⟩⟩
  case round =>
    clear HM0
    obtain ⟨k, m, v8, v9, a, hk, rfl, HM, HS, HC⟩ := hrel
    by_cases hlt : k < 12
    · have hcase : k = 0 ∨ k = 1 ∨ k = 2 ∨ k = 3 ∨ k = 4 ∨ k = 5 ∨ k = 6 ∨ k = 7 ∨ k = 8 ∨ k = 9 ∨ k = 10 ∨ k = 11 := by omega
      rcases hcase with rfl | rfl | rfl | rfl | rfl | rfl | rfl | rfl | rfl | rfl | rfl | rfl
      · have fw := cell_of_row _ _ 0 _ _ _ HM.out.tab
        have fr := cell_of_row _ _ 1 _ _ _ HM.out.tab
        simp [fieldsC] at fw fr
        obtain ⟨W2, hW2⟩ : ∃ W2, W2 = wr.alloc (Obj.cells #[.func (.func 48) #[] #[], .func (.func 50) #[] #[]] 80) := ⟨_, rfl⟩
        have HM2 : Hid (MS w rb mb q t m v8 v9 a W2) := by rw [hW2]; exact HM.out.below ((Below.refl _ _).alloc (Nat.le_refl _) _)
        go_wp2_with fail
        rw [← hW2]
        refine (read0_is hs HM2.out).mono ?_
        intro e X hp
        clear fw fr hW2 HM HM2
        rcases hp with ⟨m', v8', v9', b, rfl, hm', hst⟩ | ⟨rfl, hn, hg⟩
        · have HM3 : Hid (MS w rb mb q t m' v8' v9' b X) := hm'
          have HS3 : Hid (cut t 0 b = parts m' 1) := step_parts hst HS.out
          have HC3 : Hid (∀ u, Got t u → b = pos u 1 ∧ agree m' u 1) := fun u hu => ⟨(hst.ok u hu (HC.out u hu).1).1, (hst.ok u hu (HC.out u hu).1).2 (HC.out u hu).2⟩
          clear hm' hst HS HC
          go_wp2
          go_roundw
          case rel => exact ⟨1, m', v8', v9', b, by omega, by go_num, HM3, HS3, HC3⟩
          case measure => simp [intOf]
        · exact ⟨rfl, Or.inr ⟨rfl, fun u hu => hn u hu (HC.out u hu).1, hg⟩⟩
      · have fw := cell_of_row _ _ 2 _ _ _ HM.out.tab
        have fr := cell_of_row _ _ 3 _ _ _ HM.out.tab
        simp [fieldsC] at fw fr
        obtain ⟨W2, hW2⟩ : ∃ W2, W2 = wr.alloc (Obj.cells #[.func (.func 52) #[] #[], .func (.func 53) #[] #[]] 80) := ⟨_, rfl⟩
        have HM2 : Hid (MS w rb mb q t m v8 v9 a W2) := by rw [hW2]; exact HM.out.below ((Below.refl _ _).alloc (Nat.le_refl _) _)
        go_wp2_with fail
        rw [← hW2]
        refine (read1_is hs HM2.out).mono ?_
        intro e X hp
        clear fw fr hW2 HM HM2
        rcases hp with ⟨m', v8', v9', b, rfl, hm', hst⟩ | ⟨rfl, hn, hg⟩
        · have HM3 : Hid (MS w rb mb q t m' v8' v9' b X) := hm'
          have HS3 : Hid (cut t 0 b = parts m' 2) := step_parts hst HS.out
          have HC3 : Hid (∀ u, Got t u → b = pos u 2 ∧ agree m' u 2) := fun u hu => ⟨(hst.ok u hu (HC.out u hu).1).1, (hst.ok u hu (HC.out u hu).1).2 (HC.out u hu).2⟩
          clear hm' hst HS HC
          go_wp2
          go_roundw
          case rel => exact ⟨2, m', v8', v9', b, by omega, by go_num, HM3, HS3, HC3⟩
          case measure => simp [intOf]
        · exact ⟨rfl, Or.inr ⟨rfl, fun u hu => hn u hu (HC.out u hu).1, hg⟩⟩
      · have fw := cell_of_row _ _ 4 _ _ _ HM.out.tab
        have fr := cell_of_row _ _ 5 _ _ _ HM.out.tab
        simp [fieldsC] at fw fr
        obtain ⟨W2, hW2⟩ : ∃ W2, W2 = wr.alloc (Obj.cells #[.func (.func 54) #[] #[], .func (.func 55) #[] #[]] 80) := ⟨_, rfl⟩
        have HM2 : Hid (MS w rb mb q t m v8 v9 a W2) := by rw [hW2]; exact HM.out.below ((Below.refl _ _).alloc (Nat.le_refl _) _)
        go_wp2_with fail
        rw [← hW2]
        refine (read2_is hs HM2.out).mono ?_
        intro e X hp
        clear fw fr hW2 HM HM2
        rcases hp with ⟨m', v8', v9', b, rfl, hm', hst⟩ | ⟨rfl, hn, hg⟩
        · have HM3 : Hid (MS w rb mb q t m' v8' v9' b X) := hm'
          have HS3 : Hid (cut t 0 b = parts m' 3) := step_parts hst HS.out
          have HC3 : Hid (∀ u, Got t u → b = pos u 3 ∧ agree m' u 3) := fun u hu => ⟨(hst.ok u hu (HC.out u hu).1).1, (hst.ok u hu (HC.out u hu).1).2 (HC.out u hu).2⟩
          clear hm' hst HS HC
          go_wp2
          go_roundw
          case rel => exact ⟨3, m', v8', v9', b, by omega, by go_num, HM3, HS3, HC3⟩
          case measure => simp [intOf]
        · exact ⟨rfl, Or.inr ⟨rfl, fun u hu => hn u hu (HC.out u hu).1, hg⟩⟩
      · have fw := cell_of_row _ _ 6 _ _ _ HM.out.tab
        have fr := cell_of_row _ _ 7 _ _ _ HM.out.tab
        simp [fieldsC] at fw fr
        obtain ⟨W2, hW2⟩ : ∃ W2, W2 = wr.alloc (Obj.cells #[.func (.func 56) #[] #[], .func (.func 58) #[] #[]] 80) := ⟨_, rfl⟩
        have HM2 : Hid (MS w rb mb q t m v8 v9 a W2) := by rw [hW2]; exact HM.out.below ((Below.refl _ _).alloc (Nat.le_refl _) _)
        go_wp2_with fail
        rw [← hW2]
        refine (read3_is hs HM2.out).mono ?_
        intro e X hp
        clear fw fr hW2 HM HM2
        rcases hp with ⟨m', v8', v9', b, rfl, hm', hst⟩ | ⟨rfl, hn, hg⟩
        · have HM3 : Hid (MS w rb mb q t m' v8' v9' b X) := hm'
          have HS3 : Hid (cut t 0 b = parts m' 4) := step_parts hst HS.out
          have HC3 : Hid (∀ u, Got t u → b = pos u 4 ∧ agree m' u 4) := fun u hu => ⟨(hst.ok u hu (HC.out u hu).1).1, (hst.ok u hu (HC.out u hu).1).2 (HC.out u hu).2⟩
          clear hm' hst HS HC
          go_wp2
          go_roundw
          case rel => exact ⟨4, m', v8', v9', b, by omega, by go_num, HM3, HS3, HC3⟩
          case measure => simp [intOf]
        · exact ⟨rfl, Or.inr ⟨rfl, fun u hu => hn u hu (HC.out u hu).1, hg⟩⟩
      · have fw := cell_of_row _ _ 8 _ _ _ HM.out.tab
        have fr := cell_of_row _ _ 9 _ _ _ HM.out.tab
        simp [fieldsC] at fw fr
        obtain ⟨W2, hW2⟩ : ∃ W2, W2 = wr.alloc (Obj.cells #[.func (.func 60) #[] #[], .func (.func 61) #[] #[]] 80) := ⟨_, rfl⟩
        have HM2 : Hid (MS w rb mb q t m v8 v9 a W2) := by rw [hW2]; exact HM.out.below ((Below.refl _ _).alloc (Nat.le_refl _) _)
        go_wp2_with fail
        rw [← hW2]
        refine (read4_is hs HM2.out).mono ?_
        intro e X hp
        clear fw fr hW2 HM HM2
        rcases hp with ⟨m', v8', v9', b, rfl, hm', hst⟩ | ⟨rfl, hn, hg⟩
        · have HM3 : Hid (MS w rb mb q t m' v8' v9' b X) := hm'
          have HS3 : Hid (cut t 0 b = parts m' 5) := step_parts hst HS.out
          have HC3 : Hid (∀ u, Got t u → b = pos u 5 ∧ agree m' u 5) := fun u hu => ⟨(hst.ok u hu (HC.out u hu).1).1, (hst.ok u hu (HC.out u hu).1).2 (HC.out u hu).2⟩
          clear hm' hst HS HC
          go_wp2
          go_roundw
          case rel => exact ⟨5, m', v8', v9', b, by omega, by go_num, HM3, HS3, HC3⟩
          case measure => simp [intOf]
        · exact ⟨rfl, Or.inr ⟨rfl, fun u hu => hn u hu (HC.out u hu).1, hg⟩⟩
      · have fw := cell_of_row _ _ 10 _ _ _ HM.out.tab
        have fr := cell_of_row _ _ 11 _ _ _ HM.out.tab
        simp [fieldsC] at fw fr
        obtain ⟨W2, hW2⟩ : ∃ W2, W2 = wr.alloc (Obj.cells #[.func (.func 62) #[] #[], .func (.func 63) #[] #[]] 80) := ⟨_, rfl⟩
        have HM2 : Hid (MS w rb mb q t m v8 v9 a W2) := by rw [hW2]; exact HM.out.below ((Below.refl _ _).alloc (Nat.le_refl _) _)
        go_wp2_with fail
        rw [← hW2]
        refine (read5_is hs HM2.out).mono ?_
        intro e X hp
        clear fw fr hW2 HM HM2
        rcases hp with ⟨m', v8', v9', b, rfl, hm', hst⟩ | ⟨rfl, hn, hg⟩
        · have HM3 : Hid (MS w rb mb q t m' v8' v9' b X) := hm'
          have HS3 : Hid (cut t 0 b = parts m' 6) := step_parts hst HS.out
          have HC3 : Hid (∀ u, Got t u → b = pos u 6 ∧ agree m' u 6) := fun u hu => ⟨(hst.ok u hu (HC.out u hu).1).1, (hst.ok u hu (HC.out u hu).1).2 (HC.out u hu).2⟩
          clear hm' hst HS HC
          go_wp2
          go_roundw
          case rel => exact ⟨6, m', v8', v9', b, by omega, by go_num, HM3, HS3, HC3⟩
          case measure => simp [intOf]
        · exact ⟨rfl, Or.inr ⟨rfl, fun u hu => hn u hu (HC.out u hu).1, hg⟩⟩
      · have fw := cell_of_row _ _ 12 _ _ _ HM.out.tab
        have fr := cell_of_row _ _ 13 _ _ _ HM.out.tab
        simp [fieldsC] at fw fr
        obtain ⟨W2, hW2⟩ : ∃ W2, W2 = wr.alloc (Obj.cells #[.func (.func 64) #[] #[], .func (.func 65) #[] #[]] 80) := ⟨_, rfl⟩
        have HM2 : Hid (MS w rb mb q t m v8 v9 a W2) := by rw [hW2]; exact HM.out.below ((Below.refl _ _).alloc (Nat.le_refl _) _)
        go_wp2_with fail
        rw [← hW2]
        refine (read6_is hs HM2.out).mono ?_
        intro e X hp
        clear fw fr hW2 HM HM2
        rcases hp with ⟨m', v8', v9', b, rfl, hm', hst⟩ | ⟨rfl, hn, hg⟩
        · have HM3 : Hid (MS w rb mb q t m' v8' v9' b X) := hm'
          have HS3 : Hid (cut t 0 b = parts m' 7) := step_parts hst HS.out
          have HC3 : Hid (∀ u, Got t u → b = pos u 7 ∧ agree m' u 7) := fun u hu => ⟨(hst.ok u hu (HC.out u hu).1).1, (hst.ok u hu (HC.out u hu).1).2 (HC.out u hu).2⟩
          clear hm' hst HS HC
          go_wp2
          go_roundw
          case rel => exact ⟨7, m', v8', v9', b, by omega, by go_num, HM3, HS3, HC3⟩
          case measure => simp [intOf]
        · exact ⟨rfl, Or.inr ⟨rfl, fun u hu => hn u hu (HC.out u hu).1, hg⟩⟩
      · have fw := cell_of_row _ _ 14 _ _ _ HM.out.tab
        have fr := cell_of_row _ _ 15 _ _ _ HM.out.tab
        simp [fieldsC] at fw fr
        obtain ⟨W2, hW2⟩ : ∃ W2, W2 = wr.alloc (Obj.cells #[.func (.func 66) #[] #[], .func (.func 68) #[] #[]] 80) := ⟨_, rfl⟩
        have HM2 : Hid (MS w rb mb q t m v8 v9 a W2) := by rw [hW2]; exact HM.out.below ((Below.refl _ _).alloc (Nat.le_refl _) _)
        go_wp2_with fail
        rw [← hW2]
        refine (read7_is hs HM2.out).mono ?_
        intro e X hp
        clear fw fr hW2 HM HM2
        rcases hp with ⟨m', v8', v9', b, rfl, hm', hst⟩ | ⟨rfl, hn, hg⟩
        · have HM3 : Hid (MS w rb mb q t m' v8' v9' b X) := hm'
          have HS3 : Hid (cut t 0 b = parts m' 8) := step_parts hst HS.out
          have HC3 : Hid (∀ u, Got t u → b = pos u 8 ∧ agree m' u 8) := fun u hu => ⟨(hst.ok u hu (HC.out u hu).1).1, (hst.ok u hu (HC.out u hu).1).2 (HC.out u hu).2⟩
          clear hm' hst HS HC
          go_wp2
          go_roundw
          case rel => exact ⟨8, m', v8', v9', b, by omega, by go_num, HM3, HS3, HC3⟩
          case measure => simp [intOf]
        · exact ⟨rfl, Or.inr ⟨rfl, fun u hu => hn u hu (HC.out u hu).1, hg⟩⟩
      · have fw := cell_of_row _ _ 16 _ _ _ HM.out.tab
        have fr := cell_of_row _ _ 17 _ _ _ HM.out.tab
        simp [fieldsC] at fw fr
        obtain ⟨W2, hW2⟩ : ∃ W2, W2 = wr.alloc (Obj.cells #[.func (.func 70) #[] #[], .func (.func 71) #[] #[]] 80) := ⟨_, rfl⟩
        have HM2 : Hid (MS w rb mb q t m v8 v9 a W2) := by rw [hW2]; exact HM.out.below ((Below.refl _ _).alloc (Nat.le_refl _) _)
        go_wp2_with fail
        rw [← hW2]
        refine (read8_is hs HM2.out).mono ?_
        intro e X hp
        clear fw fr hW2 HM HM2
        rcases hp with ⟨m', v8', v9', b, rfl, hm', hst⟩ | ⟨rfl, hn, hg⟩
        · have HM3 : Hid (MS w rb mb q t m' v8' v9' b X) := hm'
          have HS3 : Hid (cut t 0 b = parts m' 9) := step_parts hst HS.out
          have HC3 : Hid (∀ u, Got t u → b = pos u 9 ∧ agree m' u 9) := fun u hu => ⟨(hst.ok u hu (HC.out u hu).1).1, (hst.ok u hu (HC.out u hu).1).2 (HC.out u hu).2⟩
          clear hm' hst HS HC
          go_wp2
          go_roundw
          case rel => exact ⟨9, m', v8', v9', b, by omega, by go_num, HM3, HS3, HC3⟩
          case measure => simp [intOf]
        · exact ⟨rfl, Or.inr ⟨rfl, fun u hu => hn u hu (HC.out u hu).1, hg⟩⟩
      · have fw := cell_of_row _ _ 18 _ _ _ HM.out.tab
        have fr := cell_of_row _ _ 19 _ _ _ HM.out.tab
        simp [fieldsC] at fw fr
        obtain ⟨W2, hW2⟩ : ∃ W2, W2 = wr.alloc (Obj.cells #[.func (.func 72) #[] #[], .func (.func 74) #[] #[]] 80) := ⟨_, rfl⟩
        have HM2 : Hid (MS w rb mb q t m v8 v9 a W2) := by rw [hW2]; exact HM.out.below ((Below.refl _ _).alloc (Nat.le_refl _) _)
        go_wp2_with fail
        rw [← hW2]
        refine (read9_is hs HM2.out).mono ?_
        intro e X hp
        clear fw fr hW2 HM HM2
        rcases hp with ⟨m', v8', v9', b, rfl, hm', hst⟩ | ⟨rfl, hn, hg⟩
        · have HM3 : Hid (MS w rb mb q t m' v8' v9' b X) := hm'
          have HS3 : Hid (cut t 0 b = parts m' 10) := step_parts hst HS.out
          have HC3 : Hid (∀ u, Got t u → b = pos u 10 ∧ agree m' u 10) := fun u hu => ⟨(hst.ok u hu (HC.out u hu).1).1, (hst.ok u hu (HC.out u hu).1).2 (HC.out u hu).2⟩
          clear hm' hst HS HC
          go_wp2
          go_roundw
          case rel => exact ⟨10, m', v8', v9', b, by omega, by go_num, HM3, HS3, HC3⟩
          case measure => simp [intOf]
        · exact ⟨rfl, Or.inr ⟨rfl, fun u hu => hn u hu (HC.out u hu).1, hg⟩⟩
      · have fw := cell_of_row _ _ 20 _ _ _ HM.out.tab
        have fr := cell_of_row _ _ 21 _ _ _ HM.out.tab
        simp [fieldsC] at fw fr
        obtain ⟨W2, hW2⟩ : ∃ W2, W2 = wr.alloc (Obj.cells #[.func (.func 76) #[] #[], .func (.func 79) #[] #[]] 80) := ⟨_, rfl⟩
        have HM2 : Hid (MS w rb mb q t m v8 v9 a W2) := by rw [hW2]; exact HM.out.below ((Below.refl _ _).alloc (Nat.le_refl _) _)
        go_wp2_with fail
        rw [← hW2]
        refine (read10_is hs HM2.out).mono ?_
        intro e X hp
        clear fw fr hW2 HM HM2
        rcases hp with ⟨m', v8', v9', b, rfl, hm', hst⟩ | ⟨rfl, hn, hg⟩
        · have HM3 : Hid (MS w rb mb q t m' v8' v9' b X) := hm'
          have HS3 : Hid (cut t 0 b = parts m' 11) := step_parts hst HS.out
          have HC3 : Hid (∀ u, Got t u → b = pos u 11 ∧ agree m' u 11) := fun u hu => ⟨(hst.ok u hu (HC.out u hu).1).1, (hst.ok u hu (HC.out u hu).1).2 (HC.out u hu).2⟩
          clear hm' hst HS HC
          go_wp2
          go_roundw
          case rel => exact ⟨11, m', v8', v9', b, by omega, by go_num, HM3, HS3, HC3⟩
          case measure => simp [intOf]
        · exact ⟨rfl, Or.inr ⟨rfl, fun u hu => hn u hu (HC.out u hu).1, hg⟩⟩
      · have fw := cell_of_row _ _ 22 _ _ _ HM.out.tab
        have fr := cell_of_row _ _ 23 _ _ _ HM.out.tab
        simp [fieldsC] at fw fr
        obtain ⟨W2, hW2⟩ : ∃ W2, W2 = wr.alloc (Obj.cells #[.func (.func 81) #[] #[], .func (.func 82) #[] #[]] 80) := ⟨_, rfl⟩
        have HM2 : Hid (MS w rb mb q t m v8 v9 a W2) := by rw [hW2]; exact HM.out.below ((Below.refl _ _).alloc (Nat.le_refl _) _)
        go_wp2_with fail
        rw [← hW2]
        refine (read11_is hs HM2.out).mono ?_
        intro e X hp
        clear fw fr hW2 HM HM2
        rcases hp with ⟨m', v8', v9', b, rfl, hm', hst⟩ | ⟨rfl, hn, hg⟩
        · have HM3 : Hid (MS w rb mb q t m' v8' v9' b X) := hm'
          have HS3 : Hid (cut t 0 b = parts m' 12) := step_parts hst HS.out
          have HC3 : Hid (∀ u, Got t u → b = pos u 12 ∧ agree m' u 12) := fun u hu => ⟨(hst.ok u hu (HC.out u hu).1).1, (hst.ok u hu (HC.out u hu).1).2 (HC.out u hu).2⟩
          clear hm' hst HS HC
          go_wp2
          go_roundw
          case rel => exact ⟨12, m', v8', v9', b, by omega, by go_num, HM3, HS3, HC3⟩
          case measure => simp [intOf]
        · exact ⟨rfl, Or.inr ⟨rfl, fun u hu => hn u hu (HC.out u hu).1, hg⟩⟩
    · obtain rfl : k = 12 := by omega
      obtain ⟨va, vc, hv⟩ := own_slice HM.out.ent
      subst hv
      obtain ⟨wa, wc, hv⟩ := own_slice HM.out.cnf
      subst hv
      have HONE : Hid (∀ v ∈ (msgC m va vc wa wc).toList, v.oneCell' = true) := msg_one m va vc wa wc
      have HMS : Hid (wr.heap[mb]? = some (.cells (msgC m va vc wa wc) 25 (0, 0))) := HM.out.msg
      go_wp2_with (first | (refine wpList_loadA Tryz.isAgg25 Tryz.sizeOf25 rfl _ rfl mb (msgC m va vc wa wc) 25 rfl HMS.out rfl ?_) | (refine wpList_storeA Tryz.sizeOf25 rfl _ _ rfl w.heap.size (msgC m va vc wa wc) zeroC 25 rfl rfl HM.out.res rfl rfl HONE.out ?_) | fail)
      have hg := grown_setRow wr w.heap.size (msgC m va vc wa wc)
      have hne : w.heap.size ≠ rb := by have := HM.out.low; omega
      refine bodyPost_ret (result24 HM.out.res rfl rfl) rfl (Or.inl ⟨m, va, vc, wa, wc, a, rfl, own_row HM.out.ent _ _ (own_not HM.out.ent HM.out.res (by decide)), own_row HM.out.cnf _ _ (own_not HM.out.cnf HM.out.res (by decide)), ⟨row_far HM.out.cur.1 (fun e => hne e.symm) _, HM.out.cur.2⟩, ?_, fun u hu => ⟨?_, ?_⟩, HM.out.gr.andThen hg (fun r e => Or.inl (by cases e; exact Nat.le_refl _))⟩)
      · rw [HS.out, parts_all]
      · rw [(HC.out u hu).1, Msgs.pos_end hu]
      · exact agree_all (HC.out u hu).2
end Go.Proofs.YtimacmijinblmaaGreat
