/- spec.l16Others and the program's others of a node, walked. Made by program. -/
import Derived.Test.YtiifjhalkihlbaaConfAtS
namespace Go.Proofs.Ytiifjhalkihlbaa
open Go.RowKit
open Ents (okB confOf)
open Logs (okL)
set_option linter.unusedVariables false
set_option linter.unusedSimpArgs false
def othersL (c : List Int) (id : Int) : List Int := c.filter fun x => decide (x ≠ id)
theorem othersL_take {c : List Int} {id : Int} {k : Nat} (h : k < c.length) : othersL (c.take (k + 1)) id = othersL (c.take k) id ++ if c[k] = id then [] else [c[k]] := by
  unfold othersL
  rw [List.take_succ_eq_append_getElem h, List.filter_append]
  congr 1
  by_cases hk : c[k] = id
  · simp [hk]
  · simp [hk]
theorem othersL_len (c : List Int) (id : Int) : (othersL c id).length ≤ c.length := List.length_filter_le _ _
set_option maxHeartbeats 4000000 in
set_option maxRecDepth 100000 in
theorem specOthers_is {a : Option Addr} {g off cap : Nat} (c : List Int) (hlen : c.length ≤ 1048576) (id : Int) (w : World) (hf : IntAt w a g off c) :
    Calls Try.prog 28 #[.slice a c.length cap, .int .i64 id] w fun e w' => ∃ v, e = .returned v ∧ w'.ownsRow w.heap.size 3 1 v (othersL c id).length (cellsI (othersL c id)) ∧ Below w.heap.size w w' := by
  obtain ⟨i0, hi, hz0, hz1, hz2⟩ := info_parts Try.info3
  have ho := World.ownsRow_made (base := w.heap.size) (e := 3) (size := 1) w #[] 0 (Nat.le_refl _) (by unfold maxLen; omega) rfl
  have HO : Hid ((w.alloc (Obj.cells #[] 3)).ownsRow w.heap.size 3 1 (.slice (some ⟨w.heap.size, 0, none⟩) 0 0) (othersL (c.take 0) id).length (cellsI (othersL (c.take 0) id))) := ho
  have HB2 : Hid (Below w.heap.size w (w.alloc (Obj.cells #[] 3))) := (Below.refl _ _).alloc (Nat.le_refl _) _
  have HF : Hid (∀ X, Below w.heap.size w X → IntAt X a g off c) := fun X h => hf.kept h
  clear ho hf
  go_enter Try.func28, Try.ntmps28
  go_wp2_with fail
  go_loopw [5, 6] (fun v i wr => ∃ k : Nat, k ≤ c.length ∧ i = .int .i64 (k : Int) ∧ Hid (wr.ownsRow w.heap.size 3 1 v (othersL (c.take k) id).length (cellsI (othersL (c.take k) id))) ∧ Hid (Below w.heap.size w wr))
    (fun _ i _ => c.length - (intOf i).toNat)
  case atStart => exact ⟨0, Nat.zero_le _, rfl, HO, HB2⟩
  case round =>
    clear HO HB2
    obtain ⟨k, hk, rfl, HOW, HBW⟩ := hrel
    by_cases hlt : k < c.length
    · have hk0 : (0 : Int) ≤ (k : Int) := by omega
      have hk1 : (k : Int) < (c.length : Int) := by omega
      have cK := (HF.out _ HBW.out).2 k hlt
      have eea := (HF.out _ HBW.out).1 (by omega)
      subst eea
      obtain ⟨pre, hpre⟩ : ∃ pre, pre = othersL (c.take k) id := ⟨_, rfl⟩
      have HNX : Hid (othersL (c.take (k + 1)) id = pre ++ if c[k] = id then [] else [c[k]]) := by show _ = _; rw [othersL_take hlt, hpre]
      have hpl : pre.length ≤ 1048576 := by rw [hpre]; have := othersL_len (c.take k) id; have := List.length_take_le k c; omega
      rw [← hpre] at HOW
      clear hpre
      by_cases he : c[k] = id
      · have HE : Hid (c[k] = id) := he
        rw [he] at cK
        clear he
        go_wp2
        go_roundw
        case rel => exact ⟨k + 1, by omega, by go_num, by rw [HNX.out, if_pos HE.out, List.append_nil]; exact HOW, HBW⟩
        case measure => simp [intOf]; omega
      · have HE : Hid (¬ c[k] = id) := he
        obtain ⟨va, vc, hv⟩ := own_slice HOW.out
        subst hv
        have hown := HOW.out
        have cK2 : ∀ o : Obj, (wr.alloc o).cell? ⟨g, off + k, none⟩ = some (.int .i64 c[k]) := fun o => ((HF.out _ (HBW.out.alloc HBW.out.size o)).2 k hlt)
        go_wp2_with (at_builtin; refine wpList_append_own _ rfl _ _ 22 rfl w.heap.size 3 i0 (.int .i64 0) 1 8 Try.underlying22 hi hz0 hz1 hz2 rfl (by decide) _ _ _ rfl (hown.alloc _) ⟨wr.heap.size, 0, none⟩ 1 1 [.int .i64 c[k]] rfl rfl ?c1 ?c2 ?c3 ?c4 ?c5 ?_)
        case c1 =>
          intro j u hj
          match j, hj with
          | 0, hj => simp at hj; subst hj; simp [Addr.add]
        case c2 => intro u hu; simp at hu; subst hu; rfl
        case c3 => unfold maxLen; omega
        case c4 => omega
        case c5 => have := HBW.out.size; simp; omega
        intro v' w2 hown' hgrow _
        have HOW2 : Hid (w2.ownsRow w.heap.size 3 1 v' (pre ++ [c[k]]).length (cellsI (pre ++ [c[k]]))) := ownI_snoc hown'
        have HBW2 : Hid (Below w.heap.size w w2) := (HBW.out.alloc HBW.out.size _).grown hgrow (by have := HBW.out.size; simp; omega) (fun k e => (hown.lt k e).1)
        clear hown hown' hgrow cK2
        go_wp2
        go_roundw
        case rel => exact ⟨k + 1, by omega, by go_num, by rw [HNX.out, if_neg HE.out]; exact HOW2, HBW2⟩
        case measure => simp [intOf]; omega
    · have HE2 : Hid (c.take k = c) := by show _ = _; exact List.take_of_length_le (by omega)
      have hk1 : ¬ (k : Int) < (c.length : Int) := by omega
      go_wp2
      go_ret
      exact ⟨_, rfl, by rw [HE2.out] at HOW; exact HOW.out, HBW.out⟩
end Go.Proofs.Ytiifjhalkihlbaa
