/- The program's watching of leaders, walked. -/
import Derived.Test.YtddmogggdckneaaLLdS
import Derived.Test.YtddmogggdckneaaLWc
import Derived.Test.YtddmogggdckneaaEntA
namespace Go.Proofs.Ytddmogggdckneaa
open Go.RowKit
set_option linter.unusedVariables false
set_option linter.unusedSimpArgs false
set_option maxHeartbeats 2000000 in
set_option maxRecDepth 100000 in
theorem closLc_is (r : LcL) (w : World) :
    Calls Try.prog 57 #[lcV r] w fun e w' => e = .returned (.tuple #[.int .i64 r.term, .int .i64 r.node]) ∧ Below w.heap.size w w' := by
  obtain ⟨F0, F1, F2, F3, b, n, cb⟩ := r
  unfold lcV
  go_enter Try.func57, Try.ntmps57
  go_wp2_with fail
  obtain ⟨W, hW⟩ : ∃ W, W = (w.alloc (Obj.cells #[.int .i64 F0, .int .i64 F1, .int .i64 F2, .int .i64 F3, .slice b n cb] 104)) := ⟨_, rfl⟩
  rw [← hW]
  have hb : Below w.heap.size w W := by rw [hW]; exact (Below.refl _ _).alloc (Nat.le_refl _) _
  have hr : W.heap[w.heap.size]? = some (.cells #[.int .i64 F0, .int .i64 F1, .int .i64 F2, .int .i64 F3, .slice b n cb] 104 (0, 0)) := by
    rw [hW]
    exact heap_alloc_new w _
  clear hW
  have HB : Hid _ := hb
  have c0 := cell_of_row _ _ 0 _ _ _ hr
  have c1 := cell_of_row _ _ 1 _ _ _ hr
  simp at c0 c1
  clear hr hb
  go_region
  go_wp2
  go_ret2
  exact ⟨rfl, HB.out.drew⟩
set_option maxHeartbeats 2000000 in
set_option maxRecDepth 100000 in
theorem watchLc_is {a : Option Addr} {g off cap : Nat} (l : List LcL) (hlen : l.length ≤ 1048576) (w : World) (hf : LcAt w a g off l) :
    Calls Try.prog 56 #[.slice a l.length cap, .func (.func 57) #[] #[]] w fun e w' => e = .returned (.slice (some ⟨w.heap.size, 0, none⟩) l.length l.length) ∧
      w'.ownsRow w.heap.size 137 2 (.slice (some ⟨w.heap.size, 0, none⟩) l.length l.length) l.length (cellsWc (wcS l)) ∧ Below w.heap.size w w' := by
  obtain ⟨i0, hi, hz0, hz1, hz2⟩ := info_parts Try.info137
  have HF : Hid (LcAt w a g off l) := hf
  clear hf
  go_enter Try.func56, Try.ntmps56
  go_wp2_with (at_make; refine wpList_make_full _ rfl _ _ 107 rfl w.heap.size 137 i0 (.agg #[Value.int .i64 0, Value.int .i64 0]) 2 Try.underlying107 hi hz0 hz1 _ _ _ _ l.length rfl rfl (by omega) (by omega) ?b2 ?b3 (Nat.le_refl _) ?_)
  case b2 => rw [hz2]; omega
  case b3 => unfold maxLen; omega
  intro w0 hown0 hgrow0
  have hbel0 : Below w.heap.size w w0 := (Below.refl _ _).grown hgrow0 (Nat.le_refl _) (by simp)
  have hown0' : w0.ownsRow w.heap.size 137 2 (.slice (some ⟨w.heap.size, 0, none⟩) l.length l.length) l.length (cellsWc (List.replicate l.length ⟨0, 0⟩)) := by rw [← madeWc]; exact hown0
  clear hgrow0 hown0
  go_wp2
  go_loopw [12] (fun i wr => ∃ (k : Nat) (pre : List WcL), k ≤ l.length ∧ i = .int .i64 (k : Int) ∧ pre.length = l.length ∧ pre.take k = (wcS l).take k ∧
      wr.ownsRow w.heap.size 137 2 (.slice (some ⟨w.heap.size, 0, none⟩) l.length l.length) l.length (cellsWc pre) ∧ Below w.heap.size w wr)
    (fun i _ => l.length - (intOf i).toNat)
  case atStart => exact ⟨0, _, Nat.zero_le _, rfl, by simp, by simp, hown0', hbel0⟩
  case round =>
    obtain ⟨k, pre, hk, rfl, hpl, hpt, hown, hbel⟩ := hrel
    have HL : Hid (pre.length = l.length) := hpl
    have HT : Hid (pre.take k = (wcS l).take k) := hpt
    clear hpl hpt hown0' hbel0
    by_cases hlt : k < l.length
    · have hcc := (HF.out.kept hbel).2 k hlt
      have ea := HF.out.1 (by omega)
      subst ea
      have hgz := HF.out.lt (by omega)
      obtain ⟨C, hC⟩ : ∃ C, C = l[k] := ⟨_, rfl⟩
      rw [← hC] at hcc
      have HEL : Hid ((wcS l)[k]'(by unfold wcS; simpa using hlt) = wcOf C) := by show _ = _; rw [hC]; simp [wcS]
      clear hC
      obtain ⟨F0, F1, F2, F3, b, n, cb⟩ := C
      obtain ⟨c0, c1, c2, c3, c4⟩ := hcc
      have hk0 : (0 : Int) ≤ (k : Int) := by omega
      have hk1 : (k : Int) < (l.length : Int) := by omega
      go_wp2_with (go_at_call 57; fail)
      refine (closLc_is ⟨F0, F1, F2, F3, b, n, cb⟩ wr).mono ?_
      rintro e w1 ⟨rfl, hb1⟩
      have hown1 := own_kept hown hb1
      have hbel1 : Below w.heap.size w w1 := hbel.trans (hb1.mono hbel.size)
      have hf0 := hown1.frozenAt (k * 2)
      have hf1 := hown1.frozenAt (k * 2 + 1)
      obtain ⟨u0, hu0⟩ : ∃ u0, w1.cell? ⟨w.heap.size, k * 2, none⟩ = some u0 := by
        rw [hown1.cellAt (k * 2) (by omega)]
        exact ⟨_, (cellsWc_at pre k (by rw [HL.out]; exact hlt)).1⟩
      obtain ⟨u1, hu1⟩ : ∃ u1, w1.cell? ⟨w.heap.size, k * 2 + 1, none⟩ = some u1 := by
        rw [hown1.cellAt (k * 2 + 1) (by omega)]
        exact ⟨_, (cellsWc_at pre k (by rw [HL.out]; exact hlt)).2⟩
      have hst := ((hown1.stored (k * 2) (.int .i64 F1)).1.stored (k * 2 + 1) (.int .i64 F0))
      rw [← cellsWc_set pre k ⟨F1, F0⟩] at hst
      have HST : Hid (_ ∧ _) := hst
      clear hst hb1 hown hbel
      go_wp2
      go_roundw
      case rel => exact ⟨k + 1, pre.set k ⟨F1, F0⟩, by omega, by go_num, by rw [List.length_set]; exact HL.out, take_set_step (by unfold wcS; simpa using hlt) (by rw [HL.out]; unfold wcS; simp) HT.out HEL.out, HST.out.1, ((hbel1.setCell (Nat.le_refl _) _).setCell (Nat.le_refl _) _)⟩
      case measure => simp [intOf]; omega
    · have hk1 : ¬ (k : Int) < (l.length : Int) := by omega
      have HE : Hid (pre = wcS l) := by
        show _ = _
        have h := HT.out
        rwa [List.take_of_length_le (by rw [HL.out]; omega), List.take_of_length_le (by unfold wcS; simp; omega)] at h
      go_wp2
      go_ret
      exact ⟨rfl, by rw [HE.out] at hown; exact hown, hbel⟩
end Go.Proofs.Ytddmogggdckneaa
