/- The program's Decode, walked: the closure that reads a message, readWhole over it, and Decode. -/
import Derived.Test.YtimacmijinblmaaGreatMsgLoop
import Derived.Test.YtimacmijinblmaaGreatImplMsg
import Derived.Test.YtimacmijinblmaaGreatWholeEnt
namespace Go.Proofs.YtimacmijinblmaaGreat
open Go.RowKit
open Ents (okB)
open Batches (cut)
open Msgs (okM bt Got pos epos)
set_option linter.unusedVariables false
set_option linter.unusedSimpArgs false

theorem many_sizes : ∀ (l : List EntL), l.length ≤ (Msgs.many l).length ∧ ∀ e ∈ l, e.data.size ≤ (Msgs.many l).length
  | [] => ⟨Nat.le_refl _, fun e he => by cases he⟩
  | x :: l => by
    obtain ⟨h1, h2⟩ := many_sizes l
    have hx : x.data.size + 1 ≤ (Batches.short (Ents.textS 1 x)).length := by
      unfold Batches.short
      have e1 : (Batches.by_ (Ents.textS 1 x)).length = (Ents.text 1 x).length := rfl
      have e2 : (Batches.by_ x.data).length = x.data.size := Words.size_list _
      rw [List.length_append, e1]
      simp only [Ents.text, List.length_cons, List.length_append, e2]
      omega
    simp only [Msgs.many, List.length_append, List.length_cons]
    refine ⟨by omega, fun e he => ?_⟩
    rcases List.mem_cons.1 he with rfl | he
    · omega
    · have := h2 e he; omega
theorem short_size (x : ByteArray) : x.size ≤ (Batches.short x).length := by
  unfold Batches.short
  have e2 : (Batches.by_ x).length = x.size := Words.size_list _
  rw [List.length_append, e2]
  omega
theorem text_sizes {t : ByteArray} {m : MsgL} (h : Batches.by_ t = Msgs.text m) (hs : t.size ≤ 1048576) : m.ents.length ≤ 1048576 ∧ (∀ e ∈ m.ents, e.data.size ≤ 1048576) ∧ m.conf.length ≤ 1048576 ∧ m.data.size ≤ 1048576 := by
  have hl : (Batches.by_ t).length = t.size := Words.size_list t
  rw [h] at hl
  obtain ⟨h1, h2⟩ := many_sizes m.ents
  have h3 := short_size (Ents.confS m.conf)
  have h4 := short_size m.data
  have h5 : (Ents.confS m.conf).size = m.conf.length := by show (Ents.confB m.conf).toArray.size = _; simp [Ents.confB]
  simp only [Msgs.text, List.length_append] at hl
  exact ⟨by omega, fun e he => by have := h2 e he; omega, by omega, by omega⟩
set_option maxHeartbeats 4000000 in
set_option maxRecDepth 100000 in
theorem fields_row (w : World) : Calls Tryz.prog 25 #[] w fun en w' => ∃ g : Nat, en = .returned (.slice (some ⟨g, 0, none⟩) 12 12) ∧ w'.heap[g]? = some (.cells fieldsC 80 (0, 0)) ∧ Below w.heap.size w w' := by
  go_enter Tryz.func25, Tryz.ntmps25
  go_wp2
  go_ret
  exact ⟨_, rfl, heap_alloc_new w _, (Below.refl _ _).alloc (Nat.le_refl _) _⟩
/-- What the closure leaves. -/
def LitPost14 (w : World) (rb MB : Nat) (t : ByteArray) (en : Ending) (w' : World) : Prop :=
  (∃ (m : MsgL) (a : Option Addr) (cap : Nat) (b : Option Addr) (capb : Nat) (c : Nat), en = .returned (.tuple #[]) ∧ w'.heap[MB]? = some (.cells (msgC m a cap b capb) 25 (0, 0)) ∧ w'.ownsRow w.heap.size 44 3 (.slice a m.ents.length cap) m.ents.length (cellsEn m.ents) ∧ w'.ownsRow w.heap.size 3 1 (.slice b m.conf.length capb) m.conf.length (cellsI m.conf) ∧ Rd w' rb t c ∧ cut t 0 c = Msgs.text m ∧ (∀ u, Got t u → c = t.size ∧ m = u) ∧ ∃ w1, w.grownBy w1 (some rb) ∧ w1.grownBy w' (some MB)) ∨
  (en = .panicked thrown ∧ (∀ u, ¬ Got t u) ∧ w.grownBy w' (some rb))
set_option maxHeartbeats 4000000 in
set_option maxRecDepth 100000 in
theorem lit14_is {rb MB : Nat} {t : ByteArray} (hs : t.size ≤ 1048576) (w : World) (hr : Rd w rb t 0) (hne : rb ≠ MB) (hM : w.heap[MB]? = some (.cells zeroC 25 (0, 0))) :
    Calls Tryz.prog 23 #[.pointer (some ⟨rb, 0, none⟩), .pointer (some ⟨MB, 0, none⟩)] w (LitPost14 w rb MB t) := by
  have HR : Hid (Rd w rb t 0) := hr
  have HM : Hid (w.heap[MB]? = some (.cells zeroC 25 (0, 0))) := hM
  clear hr hM
  go_enter Tryz.func23, Tryz.ntmps23
  go_wp2_with fail
  refine (fields_row _).mono ?_
  rintro e w1 ⟨g, rfl, hg1, hb1⟩
  have HR1 : Hid (Rd w1 rb t 0) := HR.out.below hb1
  have HM1 : Hid (w1.heap[MB]? = some (.cells zeroC 25 (0, 0))) := (hb1.block _ (Array.getElem?_eq_some_iff.1 HM.out).1).trans HM.out
  have HT1 : Hid (w1.heap[g]? = some (.cells fieldsC 80 (0, 0))) := hg1
  have HB1 : Hid (Below w.heap.size w w1) := hb1
  clear hg1 hb1 HR
  go_wp2_with fail
  refine (message_is hs _ HR1.out HT1.out).mono ?_
  intro e w2 hp
  rcases hp with ⟨m, a, cap, b, capb, c, rfl, h1, h2, h3, h4, h5, h6⟩ | ⟨rfl, h1, h2⟩
  · have hm2 := grown_keep HM1.out h6 (fun e => hne e.symm)
    have HM2 : Hid (w2.heap[MB]? = some (.cells zeroC 25 (0, 0))) := hm2
    have HONE : Hid (∀ v ∈ (msgC m a cap b capb).toList, v.oneCell' = true) := msg_one m a cap b capb
    have hgr := grown_setRow w2 MB (msgC m a cap b capb)
    have HP : Hid (LitPost14 w rb MB t (.returned (.tuple #[])) (w2.setRow MB (msgC m a cap b capb))) := Or.inl ⟨m, a, cap, b, capb, c, rfl, row_size hm2, own_row (own_mono h1 HB1.out.size) _ _ (own_not h1 hm2 (by decide)), own_row (own_mono h2 HB1.out.size) _ _ (own_not h2 hm2 (by decide)), ⟨row_far h3.1 hne _, h3.2⟩, h4, h5, w2, (own_below' HB1.out).trans h6, hgr⟩
    clear h1 h2 h3 h4 h5 h6 hm2 hgr HM1 HR1 HT1 HM
    unfold msgV
    go_wp2_with (first | (refine wpList_storeA Tryz.sizeOf25 rfl _ _ rfl MB (msgC m a cap b capb) zeroC 25 rfl rfl HM2.out rfl rfl HONE.out ?_) | fail)
    go_end0
    exact HP.out
  · exact ⟨rfl, Or.inr ⟨rfl, h1, (own_below' HB1.out).trans h2⟩⟩
/-- What readWhole leaves. -/
def WholePost14 (w : World) (MB : Nat) (t : ByteArray) (en : Ending) (w' : World) : Prop :=
  (∀ q o, w.heap[q]? = some o → q ≠ MB → w'.heap[q]? = some o) ∧ (∀ B, B ≤ MB → B ≤ w.heap.size → Below B w w') ∧
  ((∃ (m : MsgL) (a : Option Addr) (cap : Nat) (b : Option Addr) (capb : Nat), en = .returned (.bool true) ∧ w'.heap[MB]? = some (.cells (msgC m a cap b capb) 25 (0, 0)) ∧ w'.ownsRow w.heap.size 44 3 (.slice a m.ents.length cap) m.ents.length (cellsEn m.ents) ∧ w'.ownsRow w.heap.size 3 1 (.slice b m.conf.length capb) m.conf.length (cellsI m.conf) ∧ Batches.by_ t = Msgs.text m ∧ (∀ u, Got t u → m = u)) ∨
   (en = .returned (.bool false) ∧ (∀ u, ¬ Got t u)))
set_option maxHeartbeats 4000000 in
set_option maxRecDepth 100000 in
theorem whole14_is {MB : Nat} {t : ByteArray} (hs : t.size ≤ 1048576) (w : World) (hM : w.heap[MB]? = some (.cells zeroC 25 (0, 0))) :
    Calls Tryz.prog 22 #[.string t, .func (.func 23) #[] #[.pointer (some ⟨MB, 0, none⟩)]] w (WholePost14 w MB t) := by
  have hmf : ∀ (fn : Fn) (first cap : Array Value) (w : World), (Instr.makeFunc fn first cap).run Tryz.prog w = .ok (.func fn first cap) w := fun _ _ _ _ => rfl
  have hMl : MB < w.heap.size := (Array.getElem?_eq_some_iff.1 hM).1
  obtain ⟨W, hW, hr, hwh, hgg, hz⟩ := whole_start t w MB
  have hbW : Below w.heap.size w W := by rw [hW]; exact ((Below.refl _ _).alloc (Nat.le_refl _) _).alloc (by simp) _
  have HBW : Hid (Below w.heap.size w W) := hbW
  have HQ : Hid (Calls Tryz.prog 23 #[.pointer (some ⟨w.heap.size + 1, 0, none⟩), .pointer (some ⟨MB, 0, none⟩)] W (LitPost14 W (w.heap.size + 1) MB t)) :=
    lit14_is hs W hr (by omega) ((hbW.block _ hMl).trans hM)
  have HW : Hid (W.heap[w.heap.size]? = some (.cells #[.bool false] 4 (0, 0))) := hwh
  have HRL : Hid (w.heap.size + 2 ≤ W.heap.size) := hz
  clear hr hwh hgg hM hbW hz
  go_enter_defers Tryz.func22, Tryz.ntmps22
  go_wp2_with fail
  rw [← hW]
  refine Calls.mono HQ.out ?_
  intro en w3 hp
  rcases hp with ⟨m, a, cap, b, capb, c, rfl, h1, h2, h3, h4, h5, h6, w1, g1, g2⟩ | ⟨rfl, h1, g1⟩
  · have hw3 := grown_keep (grown_keep HW.out g1 (by omega)) g2 (by omega)
    have HW3 : Hid (w3.heap[w.heap.size]? = some (.cells #[.bool false] 4 (0, 0))) := hw3
    have HK3 : Hid (∀ q o, w.heap[q]? = some o → q ≠ MB → w3.heap[q]? = some o) := fun q o hq n1 => by
      have hl : q < w.heap.size := (Array.getElem?_eq_some_iff.1 hq).1
      exact grown_keep (grown_keep ((HBW.out.block _ hl).trans hq) g1 (by omega)) g2 n1
    have HB3 : Hid (∀ B, B ≤ MB → B ≤ w.heap.size → Below B w w3) := fun B hB hB2 => by
      have b0 : Below B w W := HBW.out.mono hB2
      have b1 : Below B w w1 := b0.grown g1 (by have := b0.size; omega) (fun k e => by cases e; omega)
      exact b1.grown g2 (by have := b1.size; omega) (fun k e => by cases e; omega)
    have c0 := cell_of_row _ _ 0 _ _ _ hw3
    have f0 := frozen_of_row _ _ 0 _ _ hw3
    have q0 := h4.c0
    have q1 := h4.c1
    simp at c0
    have hne : MB ≠ w.heap.size := by omega
    have HPO : Hid (∀ R : Bool, R = decide (c = t.size) → WholePost14 w MB t (.returned (.bool R)) (w3.setCell ⟨w.heap.size, 0, none⟩ (.bool R))) := fun R hR => by
      refine ⟨fun q o hq n1 => set_far (HK3.out q o hq n1) (by have := (Array.getElem?_eq_some_iff.1 hq).1; omega) _ _, fun B hB hB2 => (HB3.out B hB hB2).setCell (by show B ≤ w.heap.size; omega) _, ?_⟩
      by_cases hc : c = t.size
      · left
        rw [decide_eq_true hc] at hR
        subst hR
        have hgs := grown_set w3 w.heap.size 0 (.bool true)
        refine ⟨m, a, cap, b, capb, rfl, set_far h1 hne _ _, own_mono (h2.kept hgs (Or.inr (own_not h2 HW3.out (by decide)))) (by have := HRL.out; omega), own_mono (h3.kept hgs (Or.inr (own_not h3 HW3.out (by decide)))) (by have := HRL.out; omega), ?_, fun u hu => (h6 u hu).2⟩
        rw [← Batches.cut_all t, ← hc]
        exact h5
      · right
        rw [decide_eq_false hc] at hR
        subst hR
        exact ⟨rfl, fun u hu => hc (h6 u hu).1⟩
    clear hw3 h1 h2 h3 h4 h5 h6 g1 g2 hW HW HBW HQ HW3 HK3 HB3 HRL
    obtain ⟨R, hR⟩ : ∃ R : Bool, R = decide (c = t.size) := ⟨_, rfl⟩
    have hRc : ((c : Int) == (t.size : Int)) = R := by
      rw [hR]
      by_cases hc : c = t.size
      · rw [decide_eq_true hc]; exact beq_iff_eq.2 (by omega)
      · rw [decide_eq_false hc]; exact beq_eq_false_iff_ne.2 (by omega)
    have HPR : Hid (WholePost14 w MB t (.returned (.bool R)) (w3.setCell ⟨w.heap.size, 0, none⟩ (.bool R))) := HPO.out R hR
    clear hR HPO
    go_wp2
    refine leaves_cons (f := 47) (args := #[.pointer (some ⟨w.heap.size, 0, none⟩)]) (by simp) (by simp [go_sem]) ?_
    refine (catch_idle ⟨w.heap.size, 0, none⟩ _).mono ?_
    rintro e u' w'' ⟨rfl, rfl, rfl⟩
    have c1 : (w3.setCell ⟨w.heap.size, 0, none⟩ (.bool R)).cell? ⟨w.heap.size, 0, none⟩ = some (.bool R) := World.cell?_setCell_same _ _ _ c0
    simp [Leaves, settle, results, Tryz.results22, go_sem, c1]
    exact HPR.out
  · have hw3 := grown_keep HW.out g1 (by omega)
    have c0 := cell_of_row _ _ 0 _ _ _ hw3
    have f0 := frozen_of_row _ _ 0 _ _ hw3
    simp at c0
    have HPO : Hid (WholePost14 w MB t (.returned (.bool false)) (w3.setCell ⟨w.heap.size, 0, none⟩ (.bool false))) := by
      refine ⟨fun q o hq n1 => ?_, fun B hB hB2 => ?_, Or.inr ⟨rfl, h1⟩⟩
      · have hl : q < w.heap.size := (Array.getElem?_eq_some_iff.1 hq).1
        exact set_far (grown_keep ((HBW.out.block _ hl).trans hq) g1 (by omega)) (by omega) _ _
      · have b0 : Below B w W := HBW.out.mono hB2
        have b1 : Below B w w3 := b0.grown g1 (by have := b0.size; omega) (fun k e => by cases e; omega)
        exact b1.setCell (by show B ≤ w.heap.size; omega) _
    refine leaves_cons (f := 47) (args := #[.pointer (some ⟨w.heap.size, 0, none⟩)]) (by simp) (by simp [go_sem]) ?_
    refine (catch_panicking ⟨w.heap.size, 0, none⟩ false 112 (.agg #[]) [] w3 c0 f0).mono ?_
    rintro e u' w'' ⟨rfl, rfl, rfl⟩
    have c1 : (w3.setCell ⟨w.heap.size, 0, none⟩ (.bool false)).cell? ⟨w.heap.size, 0, none⟩ = some (.bool false) := World.cell?_setCell_same _ _ _ c0
    simp [Leaves, settle, results, Tryz.results22, go_sem, c1]
    exact HPO.out
theorem result6 {w : World} {g : Nat} {A C : Array Value} {R : Bool} (hg : w.heap[g]? = some (.cells C 25 (0, 0))) (hs : A.size = 12) {tmps : Array Value} (ht : tmps.getD 2 undef = .pointer (some ⟨g, 0, none⟩)) (h3 : tmps.getD 3 undef = .bool R) : (results Tryz.f6 tmps).run Tryz.prog (w.setRow g A) = .ok (.tuple #[.agg A, .bool R]) (w.setRow g A) := by
  have h := run_loadVar_agg (P := Tryz.prog) Tryz.isAgg25 Tryz.sizeOf25 (row_size (A := A) hg) hs
  have ht' : tmps[2]?.getD undef = .pointer (some ⟨g, 0, none⟩) := by simpa using ht
  have h3' : tmps[3]?.getD undef = .bool R := by simpa using h3
  simp [results, Tryz.results6, ht', h3', asAddr, h]
set_option maxHeartbeats 8000000 in
set_option maxRecDepth 100000 in
theorem implDec_is {t : ByteArray} (hs : t.size ≤ 1048576) (w : World) : Calls Tryz.prog 6 #[.string t] w (DecPost w t) := by
  have hmf : ∀ (fn : Fn) (first cap : Array Value) (w : World), (Instr.makeFunc fn first cap).run Tryz.prog w = .ok (.func fn first cap) w := fun _ _ _ _ => rfl
  obtain ⟨W, hW⟩ : ∃ W, W = (w.alloc (Obj.cells zeroC 25)).alloc (Obj.cells zeroC 25) := ⟨_, rfl⟩
  have HWD : Hid ((w.alloc (Obj.cells #[.int .i64 0, .int .i64 0, .int .i64 0, .int .i64 0, .int .i64 0, .int .i64 0, .int .i64 0, .bool false, .slice none 0 0, .slice none 0 0, .string ⟨#[]⟩, .bool false] 25)).alloc (Obj.cells #[.int .i64 0, .int .i64 0, .int .i64 0, .int .i64 0, .int .i64 0, .int .i64 0, .int .i64 0, .bool false, .slice none 0 0, .slice none 0 0, .string ⟨#[]⟩, .bool false] 25) = W) := hW.symm
  have hb : Below w.heap.size w W := by rw [hW]; exact ((Below.refl _ _).alloc (Nat.le_refl _) _).alloc (by simp) _
  have HZ : Hid (W.heap[w.heap.size]? = some (.cells zeroC 25 (0, 0))) := by
    show _ = _
    rw [hW, Below.heap_alloc _ _ _ (by simp)]
    exact heap_alloc_new w _
  have h2 : W.heap[w.heap.size + 1]? = some (.cells zeroC 25 (0, 0)) := by
    rw [hW]
    have := heap_alloc_new (w.alloc (Obj.cells zeroC 25)) (Obj.cells zeroC 25)
    simpa using this
  have hWs : w.heap.size + 2 = W.heap.size := by rw [hW]; simp
  have HB : Hid (Below w.heap.size w W) := hb
  have HQ : Hid (Calls Tryz.prog 22 #[.string t, .func (.func 23) #[] #[.pointer (some ⟨w.heap.size + 1, 0, none⟩)]] W (WholePost14 W (w.heap.size + 1) t)) := whole14_is hs W h2
  clear h2 hb hW
  go_enter Tryz.func6, Tryz.ntmps6
  go_wp2_with fail
  rw [HWD.out]
  clear HWD
  refine Calls.mono HQ.out ?_
  intro en w3 hp
  obtain ⟨k1, k2, k3⟩ := hp
  have HZ3 : Hid (w3.heap[w.heap.size]? = some (.cells zeroC 25 (0, 0))) := k1 _ _ HZ.out (by omega)
  have HB3 : Hid (Below w.heap.size w w3) := HB.out.trans (k2 w.heap.size (by omega) (by omega))
  clear k1 k2 HQ HZ HB
  rcases k3 with ⟨m, a, cap, b, capb, rfl, h1, h2, h3, h4, h5⟩ | ⟨rfl, h1⟩
  · obtain ⟨R, hR⟩ : ∃ R, R = okM m := ⟨_, rfl⟩
    have HM : Hid (w3.heap[w.heap.size + 1]? = some (.cells (msgC m a cap b capb) 25 (0, 0))) := h1
    have HE : Hid (w3.ownsRow w.heap.size 44 3 (.slice a m.ents.length cap) m.ents.length (cellsEn m.ents)) := own_mono h2 (by omega)
    have HC : Hid (w3.ownsRow w.heap.size 3 1 (.slice b m.conf.length capb) m.conf.length (cellsI m.conf)) := own_mono h3 (by omega)
    have HSZ : Hid (m.ents.length ≤ 1048576 ∧ (∀ e ∈ m.ents, e.data.size ≤ 1048576) ∧ m.conf.length ≤ 1048576 ∧ m.data.size ≤ 1048576) := text_sizes (by rw [h4]) hs
    have HOK : Hid (Calls Tryz.prog 26 #[.agg #[.int .i64 m.kind, .int .i64 m.frm, .int .i64 m.dst, .int .i64 m.term, .int .i64 m.index, .int .i64 m.lterm, .int .i64 m.commit, .bool m.ok, .slice a m.ents.length cap, .slice b m.conf.length capb, .string m.data, .bool m.last]] w3 fun en w' => en = .returned (.bool R) ∧ Below w3.heap.size w3 w') := by
      obtain ⟨ge, oe, he⟩ := en_own HE.out
      obtain ⟨gi, oi, hi⟩ := int_own HC.out
      rw [hR]
      exact implMsgOk_is m HSZ.out.1 HSZ.out.2.1 HSZ.out.2.2.1 HSZ.out.2.2.2 w3 he hi
    have HT : Hid (Batches.by_ t = Msgs.text m) := h4
    have HU : Hid (∀ u, Got t u → m = u) := h5
    have HR : Hid (R = okM m) := hR
    have HONE : Hid (∀ v ∈ (msgC m a cap b capb).toList, v.oneCell' = true) := msg_one m a cap b capb
    clear h1 h2 h3 h4 h5 hR
    have q0 := cell_of_row _ _ 0 _ _ _ HM.out
    have q1 := cell_of_row _ _ 1 _ _ _ HM.out
    have q2 := cell_of_row _ _ 2 _ _ _ HM.out
    have q3 := cell_of_row _ _ 3 _ _ _ HM.out
    have q4 := cell_of_row _ _ 4 _ _ _ HM.out
    have q5 := cell_of_row _ _ 5 _ _ _ HM.out
    have q6 := cell_of_row _ _ 6 _ _ _ HM.out
    have q7 := cell_of_row _ _ 7 _ _ _ HM.out
    have q8 := cell_of_row _ _ 8 _ _ _ HM.out
    have q9 := cell_of_row _ _ 9 _ _ _ HM.out
    have q10 := cell_of_row _ _ 10 _ _ _ HM.out
    have q11 := cell_of_row _ _ 11 _ _ _ HM.out
    simp [msgC] at q0 q1 q2 q3 q4 q5 q6 q7 q8 q9 q10 q11
    go_wp2_with fail
    clear q0 q1 q2 q3 q4 q5 q6 q7 q8 q9 q10 q11
    refine HOK.out.mono ?_
    rintro en w4 ⟨rfl, hb4⟩
    have HZ4 : Hid (w4.heap[w.heap.size]? = some (.cells zeroC 25 (0, 0))) := (hb4.block _ (Array.getElem?_eq_some_iff.1 HZ3.out).1).trans HZ3.out
    have HM4 : Hid (w4.heap[w.heap.size + 1]? = some (.cells (msgC m a cap b capb) 25 (0, 0))) := (hb4.block _ (Array.getElem?_eq_some_iff.1 HM.out).1).trans HM.out
    have HE4 : Hid (w4.ownsRow w.heap.size 44 3 (.slice a m.ents.length cap) m.ents.length (cellsEn m.ents)) := own_kept HE.out hb4
    have HC4 : Hid (w4.ownsRow w.heap.size 3 1 (.slice b m.conf.length capb) m.conf.length (cellsI m.conf)) := own_kept HC.out hb4
    have HB4 : Hid (Below w.heap.size w w4) := HB3.out.trans (hb4.mono HB3.out.size)
    clear hb4 HZ3 HM HE HC HB3 HOK
    cases R with
    | false =>
      go_wp2_with (first | (refine wpList_storeA Tryz.sizeOf25 rfl _ _ rfl w.heap.size zeroC zeroC 25 rfl rfl HZ4.out rfl rfl zero_one ?_) | fail)
      refine bodyPost_ret (result6 HZ4.out rfl rfl rfl) rfl ⟨below_row HB4.out (Nat.le_refl _) _, Or.inr ⟨fun u hu => ?_, rfl⟩⟩
      have e := HU.out u hu
      subst e
      have := HR.out
      rw [hu.2] at this
      cases this
    | true =>
      go_wp2_with (first | (refine wpList_loadA Tryz.isAgg25 Tryz.sizeOf25 rfl _ rfl (w.heap.size + 1) (msgC m a cap b capb) 25 rfl HM4.out rfl ?_) | (refine wpList_storeA Tryz.sizeOf25 rfl _ _ rfl w.heap.size (msgC m a cap b capb) zeroC 25 rfl rfl HZ4.out rfl rfl HONE.out ?_) | fail)
      refine bodyPost_ret (result6 HZ4.out rfl rfl rfl) rfl ⟨below_row HB4.out (Nat.le_refl _) _, Or.inl ⟨m, a, cap, b, capb, ⟨HT.out, HR.out.symm⟩, HU.out, rfl, own_row HE4.out _ _ (own_not HE4.out HZ4.out (by decide)), own_row HC4.out _ _ (own_not HC4.out HZ4.out (by decide))⟩⟩
  · have HN : Hid (∀ u, ¬ Got t u) := h1
    clear h1
    go_wp2_with (first | (refine wpList_storeA Tryz.sizeOf25 rfl _ _ rfl w.heap.size zeroC zeroC 25 rfl rfl HZ3.out rfl rfl zero_one ?_) | fail)
    refine bodyPost_ret (result6 HZ3.out rfl rfl rfl) rfl ⟨below_row HB3.out (Nat.le_refl _) _, Or.inr ⟨HN.out, rfl⟩⟩
end Go.Proofs.YtimacmijinblmaaGreat
