/- Manifests as the laws mark them: markManifest, heldManifest, walked. -/
import Derived.Test.YtcmjidcdkooliaaMans
import Derived.Test.YtcmjidcdkooliaaRdMan
namespace Go.Proofs.Ytcmjidcdkooliaa
open Go.RowKit
set_option linter.unusedVariables false

theorem grown_of {w w' : World} (h : Below w.heap.size w w') (row : Option Nat) : w.grownBy w' row := ⟨h.os, h.tape, h.output, h.size, fun k hk _ => h.block k hk⟩
theorem apart_ne {v1 v2 : Value} (h : Apart v1 v2) : v1.ownBlock = none ∨ v1.ownBlock ≠ v2.ownBlock := by
  cases e : v1.ownBlock with
  | none => exact Or.inl rfl
  | some g => exact Or.inr (fun e2 => h g e e2.symm)
theorem apart_ne' {v1 v2 : Value} (h : Apart v1 v2) : v2.ownBlock = none ∨ v2.ownBlock ≠ v1.ownBlock := by
  cases e : v2.ownBlock with
  | none => exact Or.inl rfl
  | some g => exact Or.inr (fun e2 => h g e2.symm e)
set_option maxHeartbeats 2000000 in
theorem markMan_is {v1 v2 : Value} {B : Nat} {x y z : Int} (l l' : List Int) (h1 : l.length ≤ 1000) (h2 : l'.length ≤ 1000) (w : World) (hA : w.ownsRow B 3 1 v1 l.length (cellsI l)) (hB : w.ownsRow B 3 1 v2 l'.length (cellsI l')) (hap : Apart v1 v2) :
    Calls Try.prog 25 #[.agg #[v1, .int .i64 x, .int .i64 y, .int .i64 z, v2], .int .i64 1] w fun e w' => e = .returned (.int .i64 ((1 + l.length + l'.length : Nat) : Int)) ∧ w'.ownsRow B 3 1 v1 l.length (cellsI (marksI 1 l.length)) ∧ w'.ownsRow B 3 1 v2 l'.length (cellsI (marksI (1 + l.length) l'.length)) ∧ ∃ w1, w.grownBy w1 v1.ownBlock ∧ w1.grownBy w' v2.ownBlock := by
  obtain ⟨va1, vc1, hv1⟩ := own_slice hA
  obtain ⟨va2, vc2, hv2⟩ := own_slice hB
  subst hv1 hv2
  obtain ⟨W, hW⟩ : ∃ W, W = w.alloc (.cells #[.slice va1 l.length vc1, .int .i64 x, .int .i64 y, .int .i64 z, .slice va2 l'.length vc2] 26) := ⟨_, rfl⟩
  have hb : Below w.heap.size w W := by rw [hW]; exact (Below.refl _ _).alloc (Nat.le_refl _) _
  have hp : W.heap[w.heap.size]? = some (.cells #[.slice va1 l.length vc1, .int .i64 x, .int .i64 y, .int .i64 z, .slice va2 l'.length vc2] 26 (0, 0)) := by rw [hW]; exact heap_alloc_new w _
  have HA : Hid (W.ownsRow B 3 1 (.slice va1 l.length vc1) l.length (cellsI l)) := own_kept hA hb
  have HB : Hid (W.ownsRow B 3 1 (.slice va2 l'.length vc2) l'.length (cellsI l')) := own_kept hB hb
  have HP : Hid (_ = _) := hp
  have HAP : Hid (Apart (.slice va1 l.length vc1) (.slice va2 l'.length vc2)) := hap
  have HG : Hid (Below w.heap.size w W) := hb
  have hk1 := markIntS_own l (by omega) 1 (by omega) W HA.out
  clear hA hB hap hp hb
  go_enter Try.func25, Try.ntmps25
  go_wp2_with fail
  rw [← hW]
  clear hW
  refine hk1.mono ?_
  rintro e w1 ⟨rfl, ho1, hg1⟩
  have hp1 := grown_keep' HP.out hg1 (own_not HA.out HP.out (by decide))
  have HO1 : Hid (w1.ownsRow B 3 1 (.slice va1 l.length vc1) l.length (cellsI (marksI 1 l.length))) := ho1
  have HB1 : Hid (w1.ownsRow B 3 1 (.slice va2 l'.length vc2) l'.length (cellsI l')) := HB.out.kept hg1 (apart_ne' HAP.out)
  have HG1 : Hid (w.grownBy w1 (Value.slice va1 l.length vc1).ownBlock) := (grown_of HG.out _).trans hg1
  have c4 := cell_of_row _ _ 4 _ _ _ hp1
  simp at c4
  have hk2 := markIntS_own l' (by omega) (1 + l.length) (by omega) w1 HB1.out
  have HK2 : Hid _ := hk2
  clear hk1 hk2 ho1 hg1 hp1
  go_wp2_with fail
  refine Calls.mono HK2.out ?_
  rintro e w2 ⟨rfl, ho2, hg2⟩
  have HO2 : Hid (w2.ownsRow B 3 1 (.slice va2 l'.length vc2) l'.length (cellsI (marksI (1 + l.length) l'.length))) := ho2
  have HG2 : Hid (w1.grownBy w2 (Value.slice va2 l'.length vc2).ownBlock) := hg2
  have HO3 : Hid (w2.ownsRow B 3 1 (.slice va1 l.length vc1) l.length (cellsI (marksI 1 l.length))) := HO1.out.kept hg2 (apart_ne HAP.out)
  clear ho2 hg2 HK2
  go_wp2
  go_ret
  exact ⟨rfl, HO3.out, HO2.out, w1, HG1.out, HG2.out⟩
set_option maxHeartbeats 2000000 in
theorem heldMan_is {v1 v2 : Value} {B1 B2 : Nat} {x y z : Int} (n n' : Nat) (h1 : n ≤ 1000) (h2 : n' ≤ 1000) (w : World) (hA : w.ownsRow B1 3 1 v1 n (cellsI (marksI 1 n))) (hB : w.ownsRow B2 3 1 v2 n' (cellsI (marksI (1 + n) n'))) :
    Calls Try.prog 26 #[.agg #[v1, .int .i64 x, .int .i64 y, .int .i64 z, v2], .int .i64 1] w fun e w' => e = .returned (.int .i64 ((1 + n + n' : Nat) : Int)) ∧ Below w.heap.size w w' := by
  obtain ⟨va1, g1, vc1, e1, at1⟩ := cellsI_slice (l := marksI 1 n) (by rw [marksI_len]; exact hA)
  obtain ⟨va2, g2, vc2, e2, at2⟩ := cellsI_slice (l := marksI (1 + n) n') (by rw [marksI_len]; exact hB)
  rw [marksI_len] at e1 e2
  subst e1 e2
  obtain ⟨W, hW⟩ : ∃ W, W = w.alloc (.cells #[.slice va1 n vc1, .int .i64 x, .int .i64 y, .int .i64 z, .slice va2 n' vc2] 26) := ⟨_, rfl⟩
  have hb : Below w.heap.size w W := by rw [hW]; exact (Below.refl _ _).alloc (Nat.le_refl _) _
  have hp : W.heap[w.heap.size]? = some (.cells #[.slice va1 n vc1, .int .i64 x, .int .i64 y, .int .i64 z, .slice va2 n' vc2] 26 (0, 0)) := by rw [hW]; exact heap_alloc_new w _
  have HA : Hid (IntAt W va1 g1 0 (marksI 1 n)) := at1.kept hb
  have HB : Hid (IntAt W va2 g2 0 (marksI (1 + n) n')) := at2.kept hb
  have HG : Hid (Below w.heap.size w W) := hb
  have c4 := cell_of_row _ _ 4 _ _ _ hp
  simp at c4
  clear hA hB at1 at2 hp hb
  go_enter Try.func26, Try.ntmps26
  go_wp2_with fail
  rw [← hW]
  clear hW
  refine (heldIntS_is (by omega) 1 (by omega) W HA.out).mono ?_
  rintro e w1 ⟨rfl, rfl⟩
  go_wp2_with fail
  refine (heldIntS_is (by omega) (1 + n) (by omega) W HB.out).mono ?_
  rintro e w2 ⟨rfl, rfl⟩
  go_wp2
  go_ret
  exact ⟨rfl, HG.out⟩
end Go.Proofs.Ytcmjidcdkooliaa
