/- The program's watching of what was applied, walked. -/
import Derived.Test.YtddmogggdckneaaLAp
import Derived.Test.YtddmogggdckneaaLWa
import Derived.Test.YtddmogggdckneaaEntA
namespace Go.Proofs.Ytddmogggdckneaa
open Go.RowKit
set_option linter.unusedVariables false
set_option linter.unusedSimpArgs false
theorem result72 {w : World} {g : Nat} {A : Array Value} (hg : w.heap[g]? = some (.cells A 27 (0, 0))) (hs : A.size = 3) {tmps : Array Value} (ht : tmps.getD 3 undef = .pointer (some ⟨g, 0, none⟩)) {b : Value} (hb : tmps.getD 2 undef = b) : (results Try.f72 tmps).run Try.prog w = .ok (.tuple #[b, .agg A]) w := by
  have h := run_loadVar_agg (P := Try.prog) Try.isAgg27 Try.sizeOf27 hg hs
  have ht' : tmps[3]?.getD undef = .pointer (some ⟨g, 0, none⟩) := by simpa using ht
  have hb' : tmps[2]?.getD undef = b := by simpa using hb
  simp [results, Try.results72, ht', hb', asAddr, h]
set_option maxHeartbeats 2000000 in
set_option maxRecDepth 100000 in
theorem closAp_is (r : ApL) (w : World) :
    Calls Try.prog 72 #[apV r] w fun e w' => e = .returned (.tuple #[.int .i64 r.index, .agg #[.int .i64 r.eterm, .int .i64 r.ekind, .string r.edata]]) ∧ Below w.heap.size w w' := by
  obtain ⟨F0, F1, F2, F3, F4, F5⟩ := r
  unfold apV
  go_enter Try.func72, Try.ntmps72
  go_wp2_with fail
  obtain ⟨W, hW⟩ : ∃ W, W = (w.alloc (Obj.cells #[.int .i64 F0, .int .i64 F1, .int .i64 F2, .int .i64 F3, .int .i64 F4, .string F5] 64)).alloc (Obj.cells #[.int .i64 0, .int .i64 0, .string ⟨#[]⟩] 27) := ⟨_, rfl⟩
  rw [← hW]
  have hb : Below w.heap.size w W := by rw [hW]; exact (((Below.refl _ _).alloc (Nat.le_refl _) _).alloc (by simp) _)
  have hr : W.heap[w.heap.size]? = some (.cells #[.int .i64 F0, .int .i64 F1, .int .i64 F2, .int .i64 F3, .int .i64 F4, .string F5] 64 (0, 0)) := by
    rw [hW, Below.heap_alloc _ _ _ (by simp)]
    exact heap_alloc_new w _
  have hz : W.heap[w.heap.size + 1]? = some (.cells #[.int .i64 0, .int .i64 0, .string ⟨#[]⟩] 27 (0, 0)) := by
    rw [hW]
    have := heap_alloc_new (w.alloc (Obj.cells #[.int .i64 F0, .int .i64 F1, .int .i64 F2, .int .i64 F3, .int .i64 F4, .string F5] 64)) (.cells #[.int .i64 0, .int .i64 0, .string ⟨#[]⟩] 27)
    simpa using this
  clear hW
  have HB : Hid _ := hb
  have HZ : Hid _ := hz
  have c2 := cell_of_row _ _ 2 _ _ _ hr
  have c3 := cell_of_row _ _ 3 _ _ _ hr
  have c4 := cell_of_row _ _ 4 _ _ _ hr
  have c5 := cell_of_row _ _ 5 _ _ _ hr
  simp at c2 c3 c4 c5
  have o0 := cell_of_row _ _ 0 _ _ _ hz
  have o1 := cell_of_row _ _ 1 _ _ _ hz
  have o2 := cell_of_row _ _ 2 _ _ _ hz
  simp at o0 o1 o2
  have f0 := frozen_of_row _ _ 0 _ _ hz
  have f1 := frozen_of_row _ _ 1 _ _ hz
  have f2 := frozen_of_row _ _ 2 _ _ hz
  have h1 := heap_setCell_same W (w.heap.size + 1) 0 _ 27 (.int .i64 F3) hz
  have h2 := heap_setCell_same _ (w.heap.size + 1) 1 _ 27 (.int .i64 F4) h1
  have h3 := heap_setCell_same _ (w.heap.size + 1) 2 _ 27 (.string F5) h2
  simp at h3
  have HR3 : Hid _ := h3
  clear h1 h2 h3 hr hz hb
  go_region
  go_wp2
  have hq : w.heap.size ≤ w.heap.size + 1 := by omega
  exact bodyPost_ret (v := .tuple #[.int .i64 F2, .agg #[.int .i64 F3, .int .i64 F4, .string F5]]) (result72 (w := (((W.setCell ⟨w.heap.size + 1, 0, none⟩ (.int .i64 F3)).setCell ⟨w.heap.size + 1, 1, none⟩ (.int .i64 F4)).setCell ⟨w.heap.size + 1, 2, none⟩ (.string F5)).drew) HR3.out rfl rfl rfl) rfl ⟨rfl, (((HB.out.setCell hq _).setCell hq _).setCell hq _).drew⟩

def waS (l : List ApL) : List WaL := l.map waOf
set_option maxHeartbeats 2000000 in
set_option maxRecDepth 100000 in
theorem watchAp_is {a : Option Addr} {g off cap : Nat} (l : List ApL) (hlen : l.length ≤ 1048576) (w : World) (hf : ApAt w a g off l) :
    Calls Try.prog 71 #[.slice a l.length cap, .func (.func 72) #[] #[]] w fun e w' => e = .returned (.slice (some ⟨w.heap.size, 0, none⟩) l.length l.length) ∧
      w'.ownsRow w.heap.size 126 4 (.slice (some ⟨w.heap.size, 0, none⟩) l.length l.length) l.length (cellsWa (waS l)) ∧ Below w.heap.size w w' := by
  obtain ⟨i0, hi, hz0, hz1, hz2⟩ := info_parts Try.info126
  have HF : Hid (ApAt w a g off l) := hf
  clear hf
  go_enter Try.func71, Try.ntmps71
  go_wp2_with (at_make; refine wpList_make_full _ rfl _ _ 76 rfl w.heap.size 126 i0 (.agg #[Value.int .i64 0, Value.int .i64 0, Value.int .i64 0, Value.string ByteArray.empty]) 4 Try.underlying76 hi hz0 hz1 _ _ _ _ l.length rfl rfl (by omega) (by omega) ?b2 ?b3 (Nat.le_refl _) ?_)
  case b2 => rw [hz2]; omega
  case b3 => unfold maxLen; omega
  intro w0 hown0 hgrow0
  have hbel0 : Below w.heap.size w w0 := (Below.refl _ _).grown hgrow0 (Nat.le_refl _) (by simp)
  have hown0' : w0.ownsRow w.heap.size 126 4 (.slice (some ⟨w.heap.size, 0, none⟩) l.length l.length) l.length (cellsWa (List.replicate l.length ⟨0, 0, 0, ByteArray.empty⟩)) := by rw [← madeWa]; exact hown0
  clear hgrow0 hown0
  go_wp2
  go_loopw [12] (fun i wr => ∃ (k : Nat) (pre : List WaL), k ≤ l.length ∧ i = .int .i64 (k : Int) ∧ pre.length = l.length ∧ pre.take k = (waS l).take k ∧
      wr.ownsRow w.heap.size 126 4 (.slice (some ⟨w.heap.size, 0, none⟩) l.length l.length) l.length (cellsWa pre) ∧ Below w.heap.size w wr)
    (fun i _ => l.length - (intOf i).toNat)
  case atStart => exact ⟨0, _, Nat.zero_le _, rfl, by simp, by simp, hown0', hbel0⟩
  case round =>
    obtain ⟨k, pre, hk, rfl, hpl, hpt, hown, hbel⟩ := hrel
    have HL : Hid (pre.length = l.length) := hpl
    have HT : Hid (pre.take k = (waS l).take k) := hpt
    clear hpl hpt hown0' hbel0
    by_cases hlt : k < l.length
    · have hcc := (HF.out.kept hbel).2 k hlt
      have ea := HF.out.1 (by omega)
      subst ea
      have hgz := HF.out.lt (by omega)
      obtain ⟨F0, hF0⟩ : ∃ F0, F0 = l[k].node := ⟨_, rfl⟩
      obtain ⟨F1, hF1⟩ : ∃ F1, F1 = l[k].term := ⟨_, rfl⟩
      obtain ⟨F2, hF2⟩ : ∃ F2, F2 = l[k].index := ⟨_, rfl⟩
      obtain ⟨F3, hF3⟩ : ∃ F3, F3 = l[k].eterm := ⟨_, rfl⟩
      obtain ⟨F4, hF4⟩ : ∃ F4, F4 = l[k].ekind := ⟨_, rfl⟩
      obtain ⟨F5, hF5⟩ : ∃ F5, F5 = l[k].edata := ⟨_, rfl⟩
      have HEL : Hid ((waS l)[k]'(by unfold waS; simpa using hlt) = ⟨F2, F3, F4, F5⟩) := by show _ = _; simp [waS, waOf, hF2, hF3, hF4, hF5]
      simp only [← hF0, ← hF1, ← hF2, ← hF3, ← hF4, ← hF5] at hcc
      obtain ⟨c0, c1, c2, c3, c4, c5⟩ := hcc
      clear hF0 hF1 hF2 hF3 hF4 hF5
      have hk0 : (0 : Int) ≤ (k : Int) := by omega
      have hk1 : (k : Int) < (l.length : Int) := by omega
      go_wp2_with (go_at_call 72; fail)
      refine (closAp_is ⟨F0, F1, F2, F3, F4, F5⟩ wr).mono ?_
      rintro e w1 ⟨rfl, hb1⟩
      have hown1 := own_kept hown hb1
      have hbel1 : Below w.heap.size w w1 := hbel.trans (hb1.mono hbel.size)
      have hf0 := hown1.frozenAt (k * 4)
      have hf1 := hown1.frozenAt (k * 4 + 1)
      have hf2 := hown1.frozenAt (k * 4 + 2)
      have hf3 := hown1.frozenAt (k * 4 + 3)
      obtain ⟨u0, hu0⟩ : ∃ u0, w1.cell? ⟨w.heap.size, k * 4, none⟩ = some u0 := by
        rw [hown1.cellAt (k * 4) (by omega)]
        exact ⟨_, (cellsWa_at pre k (by rw [HL.out]; exact hlt)).1⟩
      obtain ⟨u1, hu1⟩ : ∃ u1, w1.cell? ⟨w.heap.size, k * 4 + 1, none⟩ = some u1 := by
        rw [hown1.cellAt (k * 4 + 1) (by omega)]
        exact ⟨_, (cellsWa_at pre k (by rw [HL.out]; exact hlt)).2.1⟩
      obtain ⟨u2, hu2⟩ : ∃ u2, w1.cell? ⟨w.heap.size, k * 4 + 2, none⟩ = some u2 := by
        rw [hown1.cellAt (k * 4 + 2) (by omega)]
        exact ⟨_, (cellsWa_at pre k (by rw [HL.out]; exact hlt)).2.2.1⟩
      obtain ⟨u3, hu3⟩ : ∃ u3, w1.cell? ⟨w.heap.size, k * 4 + 3, none⟩ = some u3 := by
        rw [hown1.cellAt (k * 4 + 3) (by omega)]
        exact ⟨_, (cellsWa_at pre k (by rw [HL.out]; exact hlt)).2.2.2⟩
      have hst := ((((hown1.stored (k * 4) (.int .i64 F2)).1.stored (k * 4 + 1) (.int .i64 F3)).1.stored (k * 4 + 2) (.int .i64 F4)).1.stored (k * 4 + 3) (.string F5))
      rw [← cellsWa_set pre k ⟨F2, F3, F4, F5⟩] at hst
      have HST : Hid (_ ∧ _) := hst
      clear hst hb1 hown hbel
      go_wp2
      go_roundw
      case rel => exact ⟨k + 1, pre.set k ⟨F2, F3, F4, F5⟩, by omega, by go_num, by rw [List.length_set]; exact HL.out, take_set_step (by unfold waS; simpa using hlt) (by rw [HL.out]; unfold waS; simp) HT.out HEL.out, HST.out.1, ((((hbel1.setCell (Nat.le_refl _) _).setCell (Nat.le_refl _) _).setCell (Nat.le_refl _) _).setCell (Nat.le_refl _) _)⟩
      case measure => simp [intOf]; omega
    · have hk1 : ¬ (k : Int) < (l.length : Int) := by omega
      have HE : Hid (pre = waS l) := by
        show _ = _
        have h := HT.out
        rwa [List.take_of_length_le (by rw [HL.out]; omega), List.take_of_length_le (by unfold waS; simp; omega)] at h
      go_wp2
      go_ret
      exact ⟨rfl, by rw [HE.out] at hown; exact hown, hbel⟩
end Go.Proofs.Ytddmogggdckneaa
