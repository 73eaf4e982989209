/- The specification's EntryOk and EntryText, walked. Bytes that were made, and one of them set. -/
import Derived.Test.YtimacmijinblmaaGreatSpecConf
import Derived.Deep.RegionHeld3
import Derived.Test.YtimacmijinblmaaGreatKit
namespace Go.Proofs.YtimacmijinblmaaGreat
open Go.RowKit
open Ents (okB kindB text textS right)
set_option linter.unusedVariables false
set_option linter.unusedSimpArgs false

theorem nil_size (d : ByteArray) : d.toList.isEmpty = decide (d.size = 0) := by
  rw [ByteArray.toList_eq, ← Words.size_list]
  cases d.data.toList with
  | nil => rfl
  | cons x r => simp
def entV (e : EntL) : Value := .agg #[.int .i64 e.term, .int .i64 e.kind, .string e.data]
set_option maxHeartbeats 2000000 in
set_option maxRecDepth 100000 in
theorem specEntOk_is (e : EntL) (hs : e.data.size ≤ 1048576) (w : World) : Calls Tryz.prog 37 #[entV e] w fun en w' => en = .returned (.bool (okB e)) ∧ Below w.heap.size w w' := by
  obtain ⟨O, hO⟩ : ∃ O, O = okB e := ⟨_, rfl⟩
  rw [← hO]
  have HO : Hid (O = okB e) := hO
  obtain ⟨W, hW⟩ : ∃ W, W = w.alloc (Obj.cells #[.int .i64 e.term, .int .i64 e.kind, .string e.data] 44) := ⟨_, rfl⟩
  have HB : Hid (Below w.heap.size w W) := by show Below _ _ _; rw [hW]; exact (Below.refl _ _).alloc (Nat.le_refl _) _
  have p0 : W.heap[w.heap.size]? = some (.cells #[.int .i64 e.term, .int .i64 e.kind, .string e.data] 44 (0, 0)) := by rw [hW]; exact heap_alloc_new w _
  have HC : Hid (∀ W', Below W.heap.size W W' → W'.cell? ⟨w.heap.size, 1, none⟩ = some (.int .i64 e.kind) ∧ W'.cell? ⟨w.heap.size, 2, none⟩ = some (.string e.data)) := fun W' h => by
    have q := (h.block _ (Array.getElem?_eq_some_iff.1 p0).1).trans p0
    exact ⟨cell_of_row _ _ 1 _ _ _ q, cell_of_row _ _ 2 _ _ _ q⟩
  have c0 := cell_of_row _ _ 0 _ _ _ p0
  simp at c0
  rw [hW] at c0
  unfold entV
  clear hO p0
  by_cases ht : 0 ≤ e.term ∧ e.term ≤ 100000
  · go_enter Tryz.func37, Tryz.ntmps37
    go_wp2_with fail
    rw [← hW]
    refine (in_yes _ _ _ ht _).mono ?_
    rintro en w1 ⟨rfl, hw1⟩
    have hw2 := hw1.symm
    clear hw1
    subst hw2
    obtain ⟨c1, c2⟩ := HC.out _ (Below.refl _ _)
    clear c0 hW HC
    have hk : O = kindB e := by rw [HO.out]; unfold okB; simp [ht]
    unfold kindB at hk
    clear ht HO
    by_cases k1 : e.kind = 1
    · rw [if_pos k1] at hk
      have hd := nil_size e.data
      have HE : Hid (O = e.data.toList.isEmpty) := by show _ = _; rw [hk]; exact hd.symm
      have e1 : (e.kind == 1) = true := by simp [k1]
      clear hk hd k1
      go_wp2
      go_ret
      exact ⟨by rw [HE.out]; rfl, HB.out⟩
    · rw [if_neg k1] at hk
      have e1 : (e.kind == 1) = false := by simp [k1]
      by_cases k2 : e.kind = 2
      · rw [if_pos k2] at hk
        have e2 : (e.kind == 2) = true := by simp [k2]
        obtain ⟨l, R, hRC⟩ := rc_ex e.data
        have HOR : Hid (O = R) := by
          show _ = _
          rw [hk]
          rcases hRC with ⟨h1, h2⟩ | ⟨h1, _, h2⟩
          · rw [h2]
            unfold Ents.readC at h1
            split at h1
            · assumption
            · cases h1
          · rw [h2]
            unfold Ents.readC at h1
            split at h1
            · cases h1
            · rename_i hc; simpa using hc
        have HR : Hid (Calls Tryz.prog 20 #[.string e.data] W (RCPost W l R)) := specReadConf_is e.data hs l R hRC W
        clear hk k1 k2 hRC
        go_wp2_with fail
        refine Calls.mono HR.out ?_
        rintro en w2 ⟨v, rfl, ho2, hb2⟩
        obtain ⟨va, vc, hv⟩ := own_slice ho2
        subst hv
        have HB2 : Hid (Below w.heap.size w w2) := HB.out.trans (hb2.mono HB.out.size)
        clear ho2 hb2 HR c1 c2
        go_wp2
        go_ret
        exact ⟨by rw [HOR.out]; rfl, HB2.out⟩
      · rw [if_neg k2] at hk
        have e2 : (e.kind == 2) = false := by simp [k2]
        by_cases k3 : e.kind = 3
        · rw [if_pos k3] at hk
          have e3 : (e.kind == 3) = true := by simp [k3]
          have HE : Hid (O = decide ((e.data.size : Int) ≤ 120)) := by show _ = _; rw [hk]; apply decide_eq_decide.2; omega
          clear hk k1 k2 k3
          go_wp2
          go_ret
          exact ⟨by rw [HE.out]; rfl, HB.out⟩
        · rw [if_neg k3] at hk
          have e3 : (e.kind == 3) = false := by simp [k3]
          subst hk
          clear k1 k2 k3
          go_wp2
          go_ret
          exact ⟨rfl, HB.out⟩
  · have hf : O = false := by rw [HO.out]; unfold okB; simp [ht]
    subst hf
    go_enter Tryz.func37, Tryz.ntmps37
    go_wp2_with (go_at_call 36; refine (in_no _ _ _ ht _).mono ?_; rintro en w1 ⟨rfl, rfl⟩)
    go_ret
    exact ⟨rfl, by rw [← hW]; exact HB.out⟩
end Go.Proofs.YtimacmijinblmaaGreat
namespace Go.Proofs.YtimacmijinblmaaGreat
open Go.RowKit
set_option linter.unusedVariables false
set_option linter.unusedSimpArgs false

theorem made_bytes (n : Nat) : (madeCells #[Value.int .u8 0] n).toList = cellsB (List.replicate n 0) := by
  rw [toList_madeCells_one]
  simp [cellsB]

theorem set_bytes (pre : List UInt8) (j : Nat) (c : UInt8) : (cellsB pre).set j (.int .u8 (c.toNat : Int)) = cellsB (pre.set j c) := by
  simp [cellsB, List.map_set]
end Go.Proofs.YtimacmijinblmaaGreat
