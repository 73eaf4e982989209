/- The program's watching of replies, walked. -/
import Derived.Test.YtddmogggdckneaaLRp
import Derived.Test.YtddmogggdckneaaLWb
import Derived.Test.YtddmogggdckneaaEntA
namespace Go.Proofs.Ytddmogggdckneaa
open Go.RowKit
set_option linter.unusedVariables false
set_option linter.unusedSimpArgs false
theorem result51 {w : World} {g : Nat} {A : Array Value} (hg : w.heap[g]? = some (.cells A 97 (0, 0))) (hs : A.size = 2) {tmps : Array Value} (ht : tmps.getD 2 undef = .pointer (some ⟨g, 0, none⟩)) {b : Value} (hb : tmps.getD 3 undef = b) : (results Try.f51 tmps).run Try.prog w = .ok (.tuple #[.agg A, b]) w := by
  have h := run_loadVar_agg (P := Try.prog) Try.isAgg97 Try.sizeOf97 hg hs
  have ht' : tmps[2]?.getD undef = .pointer (some ⟨g, 0, none⟩) := by simpa using ht
  have hb' : tmps[3]?.getD undef = b := by simpa using hb
  simp [results, Try.results51, ht', hb', asAddr, h]
set_option maxHeartbeats 4000000 in
set_option maxRecDepth 100000 in
theorem closRp_is (r : RpL) (w : World) :
    Calls Try.prog 51 #[rpV r] w fun e w' => e = .returned (.tuple #[.agg #[.int .i64 r.session, .int .i64 r.seq], .string r.text]) ∧ Below w.heap.size w w' := by
  obtain ⟨F0, F1, F2, F3, F4, F5, F6, F7, F8⟩ := r
  unfold rpV
  go_enter Try.func51, Try.ntmps51
  go_wp2_with fail
  obtain ⟨W, hW⟩ : ∃ W, W = (w.alloc (Obj.cells #[.int .i64 F0, .int .i64 F1, .int .i64 F2, .int .i64 F3, .int .i64 F4, .string F5, .string F6, .string F7, .string F8] 87)).alloc (Obj.cells #[.int .i64 0, .int .i64 0] 97) := ⟨_, rfl⟩
  rw [← hW]
  have hb : Below w.heap.size w W := by rw [hW]; exact (((Below.refl _ _).alloc (Nat.le_refl _) _).alloc (by simp) _)
  have hr : W.heap[w.heap.size]? = some (.cells #[.int .i64 F0, .int .i64 F1, .int .i64 F2, .int .i64 F3, .int .i64 F4, .string F5, .string F6, .string F7, .string F8] 87 (0, 0)) := by
    rw [hW, Below.heap_alloc _ _ _ (by simp)]
    exact heap_alloc_new w _
  have hz : W.heap[w.heap.size + 1]? = some (.cells #[.int .i64 0, .int .i64 0] 97 (0, 0)) := by
    rw [hW]
    have := heap_alloc_new (w.alloc (Obj.cells #[.int .i64 F0, .int .i64 F1, .int .i64 F2, .int .i64 F3, .int .i64 F4, .string F5, .string F6, .string F7, .string F8] 87)) (.cells #[.int .i64 0, .int .i64 0] 97)
    simpa using this
  clear hW
  have HB : Hid _ := hb
  have HZ : Hid _ := hz
  have c3 := cell_of_row _ _ 3 _ _ _ hr
  have c4 := cell_of_row _ _ 4 _ _ _ hr
  have c8 := cell_of_row _ _ 8 _ _ _ hr
  simp at c3 c4 c8
  have o0 := cell_of_row _ _ 0 _ _ _ hz
  have o1 := cell_of_row _ _ 1 _ _ _ hz
  simp at o0 o1
  have f0 := frozen_of_row _ _ 0 _ _ hz
  have f1 := frozen_of_row _ _ 1 _ _ hz
  have h1 := heap_setCell_same W (w.heap.size + 1) 0 _ 97 (.int .i64 F3) hz
  have h2 := heap_setCell_same _ (w.heap.size + 1) 1 _ 97 (.int .i64 F4) h1
  simp at h2
  have HR3 : Hid _ := h2
  clear h1 h2 hr hz hb
  go_region
  go_wp2
  have hq : w.heap.size ≤ w.heap.size + 1 := by omega
  exact bodyPost_ret (v := .tuple #[.agg #[.int .i64 F3, .int .i64 F4], .string F8]) (result51 (w := ((W.setCell ⟨w.heap.size + 1, 0, none⟩ (.int .i64 F3)).setCell ⟨w.heap.size + 1, 1, none⟩ (.int .i64 F4)).drew) HR3.out rfl rfl rfl) rfl ⟨rfl, ((HB.out.setCell hq _).setCell hq _).drew⟩
def wbS (l : List RpL) : List WbL := l.map wbOf
set_option maxHeartbeats 2000000 in
set_option maxRecDepth 100000 in
theorem watchRp_is {a : Option Addr} {g off cap : Nat} (l : List RpL) (hlen : l.length ≤ 1048576) (w : World) (hf : RpAt w a g off l) :
    Calls Try.prog 50 #[.slice a l.length cap, .func (.func 51) #[] #[]] w fun e w' => e = .returned (.slice (some ⟨w.heap.size, 0, none⟩) l.length l.length) ∧
      w'.ownsRow w.heap.size 132 3 (.slice (some ⟨w.heap.size, 0, none⟩) l.length l.length) l.length (cellsWb (wbS l)) ∧ Below w.heap.size w w' := by
  obtain ⟨i0, hi, hz0, hz1, hz2⟩ := info_parts Try.info132
  have HF : Hid (RpAt w a g off l) := hf
  clear hf
  go_enter Try.func50, Try.ntmps50
  go_wp2_with (at_make; refine wpList_make_full _ rfl _ _ 94 rfl w.heap.size 132 i0 (.agg #[Value.int .i64 0, Value.int .i64 0, Value.string ByteArray.empty]) 3 Try.underlying94 hi hz0 hz1 _ _ _ _ l.length rfl rfl (by omega) (by omega) ?b2 ?b3 (Nat.le_refl _) ?_)
  case b2 => rw [hz2]; omega
  case b3 => unfold maxLen; omega
  intro w0 hown0 hgrow0
  have hbel0 : Below w.heap.size w w0 := (Below.refl _ _).grown hgrow0 (Nat.le_refl _) (by simp)
  have hown0' : w0.ownsRow w.heap.size 132 3 (.slice (some ⟨w.heap.size, 0, none⟩) l.length l.length) l.length (cellsWb (List.replicate l.length ⟨0, 0, ByteArray.empty⟩)) := by rw [← madeWb]; exact hown0
  clear hgrow0 hown0
  go_wp2
  go_loopw [12] (fun i wr => ∃ (k : Nat) (pre : List WbL), k ≤ l.length ∧ i = .int .i64 (k : Int) ∧ pre.length = l.length ∧ pre.take k = (wbS l).take k ∧
      wr.ownsRow w.heap.size 132 3 (.slice (some ⟨w.heap.size, 0, none⟩) l.length l.length) l.length (cellsWb pre) ∧ Below w.heap.size w wr)
    (fun i _ => l.length - (intOf i).toNat)
  case atStart => exact ⟨0, _, Nat.zero_le _, rfl, by simp, by simp, hown0', hbel0⟩
  case round =>
    obtain ⟨k, pre, hk, rfl, hpl, hpt, hown, hbel⟩ := hrel
    have HL : Hid (pre.length = l.length) := hpl
    have HT : Hid (pre.take k = (wbS l).take k) := hpt
    clear hpl hpt hown0' hbel0
    by_cases hlt : k < l.length
    · have hcc := (HF.out.kept hbel).2 k hlt
      have ea := HF.out.1 (by omega)
      subst ea
      have hgz := HF.out.lt (by omega)
      obtain ⟨F0, hF0⟩ : ∃ F0, F0 = l[k].call := ⟨_, rfl⟩
      obtain ⟨F1, hF1⟩ : ∃ F1, F1 = l[k].idx := ⟨_, rfl⟩
      obtain ⟨F2, hF2⟩ : ∃ F2, F2 = l[k].op := ⟨_, rfl⟩
      obtain ⟨F3, hF3⟩ : ∃ F3, F3 = l[k].session := ⟨_, rfl⟩
      obtain ⟨F4, hF4⟩ : ∃ F4, F4 = l[k].seq := ⟨_, rfl⟩
      obtain ⟨F5, hF5⟩ : ∃ F5, F5 = l[k].key := ⟨_, rfl⟩
      obtain ⟨F6, hF6⟩ : ∃ F6, F6 = l[k].old := ⟨_, rfl⟩
      obtain ⟨F7, hF7⟩ : ∃ F7, F7 = l[k].value := ⟨_, rfl⟩
      obtain ⟨F8, hF8⟩ : ∃ F8, F8 = l[k].text := ⟨_, rfl⟩
      have HEL : Hid ((wbS l)[k]'(by unfold wbS; simpa using hlt) = ⟨F3, F4, F8⟩) := by show _ = _; simp [wbS, wbOf, hF3, hF4, hF8]
      simp only [← hF0, ← hF1, ← hF2, ← hF3, ← hF4, ← hF5, ← hF6, ← hF7, ← hF8] at hcc
      obtain ⟨c0, c1, c2, c3, c4, c5, c6, c7, c8⟩ := hcc
      clear hF0 hF1 hF2 hF3 hF4 hF5 hF6 hF7 hF8
      have hk0 : (0 : Int) ≤ (k : Int) := by omega
      have hk1 : (k : Int) < (l.length : Int) := by omega
      go_wp2_with (go_at_call 51; fail)
      refine (closRp_is ⟨F0, F1, F2, F3, F4, F5, F6, F7, F8⟩ wr).mono ?_
      rintro e w1 ⟨rfl, hb1⟩
      have hown1 := own_kept hown hb1
      have hbel1 : Below w.heap.size w w1 := hbel.trans (hb1.mono hbel.size)
      have hf0 := hown1.frozenAt (k * 3)
      have hf1 := hown1.frozenAt (k * 3 + 1)
      have hf2 := hown1.frozenAt (k * 3 + 2)
      obtain ⟨u0, hu0⟩ : ∃ u0, w1.cell? ⟨w.heap.size, k * 3, none⟩ = some u0 := by
        rw [hown1.cellAt (k * 3) (by omega)]
        exact ⟨_, (cellsWb_at pre k (by rw [HL.out]; exact hlt)).1⟩
      obtain ⟨u1, hu1⟩ : ∃ u1, w1.cell? ⟨w.heap.size, k * 3 + 1, none⟩ = some u1 := by
        rw [hown1.cellAt (k * 3 + 1) (by omega)]
        exact ⟨_, (cellsWb_at pre k (by rw [HL.out]; exact hlt)).2.1⟩
      obtain ⟨u2, hu2⟩ : ∃ u2, w1.cell? ⟨w.heap.size, k * 3 + 2, none⟩ = some u2 := by
        rw [hown1.cellAt (k * 3 + 2) (by omega)]
        exact ⟨_, (cellsWb_at pre k (by rw [HL.out]; exact hlt)).2.2⟩
      have hst := (((hown1.stored (k * 3) (.int .i64 F3)).1.stored (k * 3 + 1) (.int .i64 F4)).1.stored (k * 3 + 2) (.string F8))
      rw [← cellsWb_set pre k ⟨F3, F4, F8⟩] at hst
      have HST : Hid (_ ∧ _) := hst
      clear hst hb1 hown hbel
      go_wp2
      go_roundw
      case rel => exact ⟨k + 1, pre.set k ⟨F3, F4, F8⟩, by omega, by go_num, by rw [List.length_set]; exact HL.out, take_set_step (by unfold wbS; simpa using hlt) (by rw [HL.out]; unfold wbS; simp) HT.out HEL.out, HST.out.1, (((hbel1.setCell (Nat.le_refl _) _).setCell (Nat.le_refl _) _).setCell (Nat.le_refl _) _)⟩
      case measure => simp [intOf]; omega
    · have hk1 : ¬ (k : Int) < (l.length : Int) := by omega
      have HE : Hid (pre = wbS l) := by
        show _ = _
        have h := HT.out
        rwa [List.take_of_length_le (by rw [HL.out]; omega), List.take_of_length_le (by unfold wbS; simp; omega)] at h
      go_wp2
      go_ret
      exact ⟨rfl, by rw [HE.out] at hown; exact hown, hbel⟩
end Go.Proofs.Ytddmogggdckneaa
