/- The call of Unframe's yield, walked: a whole frame's record is put behind the records, and the place moves on; at a torn one it says false. -/
import Derived.Test.YtinhgonmdnbdiaaFramed
import Derived.OneCell
import Derived.Deep.AppendLies
import Derived.Deep.RegionHeld3
import Derived.Deep.RegionLaw
namespace Go.Proofs.Ytinhgonmdnbdiaa
open Go.RowKit

theorem one_string_list (S : ByteArray) : ∀ u ∈ [Value.string S], u.oneCell' = true := by intro u hu; simp at hu; subst hu; rfl
theorem blk_kept {w w' : World} {k : Nat} {o : Obj} (h : w.heap[k]? = some o) (hb : Below w.heap.size w w') : w'.heap[k]? = some o := (hb.block k (Array.getElem?_eq_some_iff.1 h).1).trans h
theorem blk_alloc {w : World} {k : Nat} {o : Obj} (h : w.heap[k]? = some o) (x : Obj) : (w.alloc x).heap[k]? = some o := blk_kept h ((Below.refl _ _).alloc (Nat.le_refl _) x)
theorem blk_grown {w w' : World} {k : Nat} {o : Obj} {r : Option Nat} (h : w.heap[k]? = some o) (hg : w.grownBy w' r) (hne : some k ≠ r) : w'.heap[k]? = some o := (hg.block k (Array.getElem?_eq_some_iff.1 h).1 hne).trans h
theorem blk_cell {w : World} {k j : Nat} {cs : Array Value} {t : TypeId} {v : Value} (h : w.heap[k]? = some (.cells cs t (0, 0))) (hj : cs[j]? = some v) : w.cell? ⟨k, j, none⟩ = some v := by
  simp [World.cell?, h, hj]

/-- The two variables that yield writes: the records told so far, and the place behind the last. -/
def Tell (base R Q : Nat) (ps : List (List UInt8)) (z : Nat) (w : World) : Prop :=
  ∃ v, w.heap[R]? = some (.cells #[v] 23 (0, 0)) ∧ w.heap[Q]? = some (.cells #[.int .i64 (z : Int)] 3 (0, 0)) ∧ w.ownsRow base 9 1 v ps.length (cellsS ps)

/-- The structs that stood in their own cells are as they were. -/
def Kept64 (w w' : World) : Prop := ∀ (k : Nat) (cs : Array Value), w.heap[k]? = some (.cells cs 100 (0, 0)) → w'.heap[k]? = some (.cells cs 100 (0, 0))

set_option maxHeartbeats 1000000 in
set_option maxRecDepth 100000 in
theorem yield_no (R Q : Nat) (A B : ByteArray) (E : Int) (hB : B.size ≤ 20000) (h : (A.toList == Sums.four (Sums.sumOf B.data.toList)) = false) (w : World) :
    Calls Try.prog 73 #[framedV A B E, .pointer (some ⟨R, 0, none⟩), .pointer (some ⟨Q, 0, none⟩)] w fun e w' => e = .returned (.bool false) ∧ Below w.heap.size w w' := by
  have HW : Hid (∀ wx, Calls Try.prog 74 #[framedV A B E] wx fun e w' => e = .returned (.bool false) ∧ Below wx.heap.size wx w') := by
    intro wx
    have := whole_is A B E (by omega) wx
    rwa [h] at this
  clear h
  unfold framedV at *
  go_enter Try.func73, Try.ntmps73
  go_wp2_with (go_at_call 74; refine (HW.out _).mono ?_; rintro e w1 ⟨rfl, hb1⟩)
  go_ret
  exact ⟨rfl, ((Below.refl _ _).alloc (Nat.le_refl _) _).trans (hb1.mono (by simp))⟩

set_option maxHeartbeats 1000000 in
set_option maxRecDepth 100000 in
theorem yield_yes {base R Q : Nat} (hRB : R < base) (hQB : Q < base) (hRQ : R < Q) (A B : ByteArray) (E : Nat) (hB : B.size ≤ 20000) (h : (A.toList == Sums.four (Sums.sumOf B.data.toList)) = true)
    (ps : List (List UInt8)) (z : Nat) (hlen : ps.length ≤ 20000) (w : World) (hbase : base ≤ w.heap.size) (hT : Tell base R Q ps z w) :
    Calls Try.prog 73 #[framedV A B (E : Int), .pointer (some ⟨R, 0, none⟩), .pointer (some ⟨Q, 0, none⟩)] w fun e w' => e = .returned (.bool true) ∧ Tell base R Q (ps ++ [B.data.toList]) E w' ∧ Below R w w' ∧ Kept64 w w' := by
  obtain ⟨i0, hi, hz0, hz1, hz2⟩ := info_parts Try.info9
  obtain ⟨v, hR, hQ, hown⟩ := hT
  have HW : Hid (∀ wx, Calls Try.prog 74 #[framedV A B (E : Int)] wx fun e w' => e = .returned (.bool true) ∧ Below wx.heap.size wx w') := by
    intro wx
    have := whole_is A B E (by omega) wx
    rwa [h] at this
  clear h
  unfold framedV at *
  obtain ⟨va, vc, rfl⟩ := own_slice hown
  have hsz1 : ∀ x : Obj, (w.alloc x).heap.size = w.heap.size + 1 := fun x => by simp
  have HF : Hid ((w.alloc (.cells #[.string A, .string B, .int .i64 (E : Int)] 100)).heap[w.heap.size]? = some (.cells #[.string A, .string B, .int .i64 (E : Int)] 100 (0, 0))) := heap_alloc_new w _
  have HR : Hid (w.heap[R]? = some (.cells #[.slice va ps.length vc] 23 (0, 0))) := hR
  have HQ : Hid (w.heap[Q]? = some (.cells #[.int .i64 (z : Int)] 3 (0, 0))) := hQ
  have HO : Hid (w.ownsRow base 9 1 (.slice va ps.length vc) ps.length (cellsS ps)) := hown
  have HLT : Hid (∀ k, (Value.slice va ps.length vc).ownBlock = some k → base ≤ k ∧ k < w.heap.size) := fun k hk => hown.lt k hk
  have hneR : some R ≠ (Value.slice va ps.length vc).ownBlock := fun e => by have := HLT.out R e.symm; omega
  have hneQ : some Q ≠ (Value.slice va ps.length vc).ownBlock := fun e => by have := HLT.out Q e.symm; omega
  have hneF : some w.heap.size ≠ (Value.slice va ps.length vc).ownBlock := fun e => by have := HLT.out _ e.symm; omega
  have HK : Hid (∀ (k : Nat) (cs : Array Value), w.heap[k]? = some (.cells cs 100 (0, 0)) → k ≠ R ∧ k ≠ Q ∧ some k ≠ (Value.slice va ps.length vc).ownBlock) := by
    intro k cs hk
    refine ⟨fun e => by subst e; rw [hR] at hk; simp at hk, fun e => by subst e; rw [hQ] at hk; simp at hk, fun e => ?_⟩
    rcases hown.2 with ⟨h1, _⟩ | ⟨g, cap, cur, h1, _, hh, _⟩
    · rw [h1] at e; simp [Value.ownBlock] at e
    · rw [h1] at e
      obtain rfl : k = g := by simpa [Value.ownBlock] using e
      rw [hh] at hk; simp at hk
  clear hR hQ hown
  go_enter Try.func73, Try.ntmps73
  go_wp2_with fail
  refine (HW.out _).mono ?_
  rintro e w1 ⟨rfl, hb1⟩
  have HR1 : Hid (w1.heap[R]? = some (.cells #[.slice va ps.length vc] 23 (0, 0))) := blk_kept (blk_alloc HR.out _) hb1
  have HQ1 : Hid (w1.heap[Q]? = some (.cells #[.int .i64 (z : Int)] 3 (0, 0))) := blk_kept (blk_alloc HQ.out _) hb1
  have HF1 : Hid (w1.heap[w.heap.size]? = some (.cells #[.string A, .string B, .int .i64 (E : Int)] 100 (0, 0))) := blk_kept HF.out hb1
  have HO1 : Hid (w1.ownsRow base 9 1 (.slice va ps.length vc) ps.length (cellsS ps)) := own_kept (HO.out.alloc _) hb1
  have HB1 : Hid (Below w.heap.size w w1) := ((Below.refl _ _).alloc (Nat.le_refl _) _).trans (hb1.mono (by simp))
  have hz1' : w.heap.size + 1 ≤ w1.heap.size := by have := hb1.size; simpa using this
  clear hb1 HF HR HQ HO HW
  go_wp2_with fail
  have cR : w1.cell? ⟨R, 0, none⟩ = some (.slice va ps.length vc) := cell_of_one HR1.out
  have cB : w1.cell? ⟨w.heap.size, 1, none⟩ = some (.string B) := blk_cell HF1.out rfl
  have fR : w1.frozen? ⟨R, 0, none⟩ = false := free_of_one HR1.out
  have HC : Hid (∀ wx : World, (callFunc 63 #[.string B]).run Try.prog wx = .ok (.enter 63 #[.string B]) wx) := fun _ => by kernel_rfl
  have hnl : ps.length + 1 ≤ maxLen := by unfold maxLen; omega
  have hby : (ps.length + 1) * 16 ≤ 140737488355328 := by omega
  go_region_law (first
      | (refine step_call (by rfl) 63 _ _ (by rfl) (.string B) (by rfl) (.string B) _ HC.out (clone_any B (by omega) _) ?_; intro wa hba; have HRa : Hid (wa.heap[R]? = some (.cells #[.slice va ps.length vc] 23 (0, 0))) := blk_kept (w := w1.drew) HR1.out hba; have cRa := cell_of_one HRa.out; have cRb := fun o => cell_of_one (blk_alloc HRa.out o))
      | (refine step_append_lies _ (by rfl) _ _ _ (by rfl) base 9 i0 _ 1 16 Try.underlying23 hi hz0 hz1 hz2 rfl (Nat.zero_lt_succ _) _ ps.length (cellsS ps) (by rfl) ((own_kept (w := w1.drew) HO1.out hba).alloc _) ⟨wa.heap.size, 0, none⟩ 1 1 [.string B] (by rfl) (by rfl) (World.news_of_block (cs := #[.string B]) (t := 9) (fr := (0, 0)) (heap_alloc_new wa _)) (one_string_list B) (Nat.zero_lt_succ _) hnl hby (by have h2 := hba.size; simp at h2 ⊢; omega) (wa.heap.size + 1) (Array.size_push ..) ?_; intro g2 cap2 w8 hown8 hgrow hat hlt8; have HR8 : Hid (w8.heap[R]? = some (.cells #[.slice va ps.length vc] 23 (0, 0))) := blk_grown (blk_alloc HRa.out _) hgrow hneR; have cR8 := cell_of_one HR8.out; have fR8 := free_of_one HR8.out))
  all_goals
    have HQ8 : Hid (w8.heap[Q]? = some (.cells #[.int .i64 (z : Int)] 3 (0, 0))) := blk_grown (blk_alloc (blk_kept (w := w1.drew) HQ1.out hba) _) hgrow hneQ
    have HF8 : Hid (w8.heap[w.heap.size]? = some (.cells #[.string A, .string B, .int .i64 (E : Int)] 100 (0, 0))) := blk_grown (blk_alloc (blk_kept (w := w1.drew) HF1.out hba) _) hgrow hneF
    have HO8 : Hid (w8.ownsRow base 9 1 (.slice (some ⟨g2, 0, none⟩) (ps.length + 1) cap2) (ps.length + 1) (cellsS ps ++ [.string B])) := hown8
    have HB8 : Hid (Below R w w8) := (((HB1.out.mono (by omega)).drew.trans (hba.mono (by simp; omega))).alloc (by have := hba.size; simp at this; omega) _).grown hgrow (by have := hba.size; simp at this ⊢; omega) (fun j hj => by have := (HLT.out j hj).1; omega)
    have HK8 : Hid (∀ (k : Nat) (cs : Array Value), w.heap[k]? = some (.cells cs 100 (0, 0)) → w8.heap[k]? = some (.cells cs 100 (0, 0))) := fun k cs hk => blk_grown (blk_alloc (blk_kept (w := w1.drew) (blk_kept hk HB1.out.drew) hba) _) hgrow (HK.out k cs hk).2.2
    clear hba hown8 hgrow hat hlt8
    have cF9 : (w8.setCell ⟨R, 0, none⟩ (.slice (some ⟨g2, 0, none⟩) (ps.length + 1) cap2)).cell? ⟨w.heap.size, 2, none⟩ = some (.int .i64 (E : Int)) := blk_cell ((Below.heap_setCell _ _ _ _ (by show _ ≠ R; omega)).trans HF8.out) rfl
    have hQ9 : (w8.setCell ⟨R, 0, none⟩ (.slice (some ⟨g2, 0, none⟩) (ps.length + 1) cap2)).heap[Q]? = some (.cells #[.int .i64 (z : Int)] 3 (0, 0)) := (Below.heap_setCell _ _ _ _ (by show _ ≠ R; omega)).trans HQ8.out
    have cQ9 := cell_of_one hQ9
    have fQ9 := free_of_one hQ9
    have HQ9 : Hid (_ = _) := hQ9
    clear hQ9
    go_wp2
    go_ret
    refine ⟨rfl, ⟨.slice (some ⟨g2, 0, none⟩) (ps.length + 1) cap2, ?_, one_setCell HQ9.out, ?_⟩, (HB8.out.setCell (Nat.le_refl _) _).setCell (by show R ≤ Q; omega) _, fun k cs hk => ?_⟩
    · exact (Below.heap_setCell _ _ _ _ (by show R ≠ Q; omega)).trans (one_setCell HR8.out)
    · rw [cellsS_app, List.length_append]
      exact ownsRow_setCell_below (ownsRow_setCell_below HO8.out (by show R < base; omega) _) (by show Q < base; omega) _
    · exact (Below.heap_setCell _ _ _ _ (HK.out k cs hk).2.1).trans ((Below.heap_setCell _ _ _ _ (HK.out k cs hk).1).trans (HK8.out k cs hk))
end Go.Proofs.Ytinhgonmdnbdiaa
