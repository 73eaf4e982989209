/- Lists of texts that a call owns; the law's own helpers over them, walked: they are compared, marked, and found marked. The calls of framedAt and of whole, walked. The call of Unframe's yield, walked: a whole frame's record is put behind the records, and the place moves on; at a torn one it says false. The calls of tellFrames and of Unframe, walked: the records of the whole frames, and the place behind the last. The call of the document's Unframe, walked: the records of the whole frames, and the place behind the last. -/
import Derived.Test.YtahpoemmlpbgdaaGreatSealA
import Derived.Test.YtahpoemmlpbgdaaGreatMarkA
import Derived.Maps.AppendAt
import Derived.Test.YtahpoemmlpbgdaaGreatTxtA
import Derived.Test.YtahpoemmlpbgdaaGreatMathB
import Derived.OneCell
import Derived.Deep.AppendLies
import Derived.Deep.RegionHeld3
import Derived.Deep.RegionLaw
namespace Go.Proofs.YtahpoemmlpbgdaaGreat
section
open Go.RowKit

theorem cell_at {w : World} {base g cap : Nat} {ps : List (List UInt8)} (h : w.ownsRow base 9 1 (.slice (some ⟨g, 0, none⟩) ps.length cap) ps.length (cellsS ps)) (k : Nat) (hk : k < ps.length) :
    w.cell? ⟨g, k, none⟩ = some (.string ⟨ps[k].toArray⟩) := by
  rw [h.cellAt k (by omega)]
  simp [cellsS, hk]

end
section
open Go.RowKit

def framedV (a b : ByteArray) (e : Int) : Value := .agg #[.string a, .string b, .int .i64 e]

theorem rdZ_nat (s : ByteArray) (a : Nat) (h : a ≤ s.size) : rdZ s (a : Int) = Words.rd s.data.toList a := by
  unfold rdZ
  rw [if_pos (by omega)]; simp

set_option maxHeartbeats 1000000 in
theorem framedAt_no (s : ByteArray) (hs : s.size ≤ 20000) (a : Nat) (ha : a ≤ s.size) (h : Words.fit s.data.toList a = none) (w : World) :
    Calls Tryz.prog 89 #[.string s, .int .i64 (a : Int)] w fun e w' => e = .returned (.tuple #[framedV ⟨#[]⟩ ⟨#[]⟩ 0, .bool false]) ∧ Below w.heap.size w w' := by
  rcases Words.fit_none h with hr | ⟨n, b, hr, hc⟩
  · have HR : Hid (rdZ s (a : Int) = none) := by show _ = _; rw [rdZ_nat s a ha]; exact hr
    clear hr h
    go_enter Tryz.func89, Tryz.ntmps89
    go_wp2_with (go_at_call 109; refine (implRead_none (by omega) HR.out _).mono ?_; rintro e w' ⟨rfl, rfl⟩)
    exact bodyPost_ret (v := .tuple #[.agg #[.string ⟨#[]⟩, .string ⟨#[]⟩, .int .i64 0], .bool false]) (by simp [results, Tryz.results89, go_sem]) rfl ⟨rfl, (Below.refl _ _).alloc (Nat.le_refl _) _⟩
  · have HR : Hid (rdZ s (a : Int) = some (n, b)) := by show _ = _; rw [rdZ_nat s a ha]; exact hr
    obtain ⟨g1, g2, g3, g4, g5, g6⟩ := Words.rd_front hr
    rw [Words.size_list] at g3 g4 hc
    clear hr h g5
    by_cases hn : 1 ≤ n ∧ n ≤ 9000
    · have hn1 := hn.1
      have hn2 := hn.2
      have hlt : ((s.size : Int) - (b : Int)) < 4 + (n : Int) := by omega
      clear hc
      go_enter Tryz.func89, Tryz.ntmps89
      go_wp2_with (first | (go_at_call 109; refine (implRead_some (by omega) HR.out _).mono ?_; rintro e w' ⟨rfl, rfl⟩) | (go_at_call 83; refine (sizeOk_yes _ (by omega) _).mono ?_; rintro e w' ⟨rfl, rfl⟩))
      exact bodyPost_ret (v := .tuple #[.agg #[.string ⟨#[]⟩, .string ⟨#[]⟩, .int .i64 0], .bool false]) (by simp [results, Tryz.results89, go_sem]) rfl ⟨rfl, (Below.refl _ _).alloc (Nat.le_refl _) _⟩
    · go_enter Tryz.func89, Tryz.ntmps89
      go_wp2_with (first | (go_at_call 109; refine (implRead_some (by omega) HR.out _).mono ?_; rintro e w' ⟨rfl, rfl⟩) | (go_at_call 83; refine (sizeOk_no _ (by omega) _).mono ?_; rintro e w' ⟨rfl, rfl⟩))
      exact bodyPost_ret (v := .tuple #[.agg #[.string ⟨#[]⟩, .string ⟨#[]⟩, .int .i64 0], .bool false]) (by simp [results, Tryz.results89, go_sem]) rfl ⟨rfl, (Below.refl _ _).alloc (Nat.le_refl _) _⟩

set_option maxHeartbeats 1000000 in
theorem framedAt_yes (s : ByteArray) (hs : s.size ≤ 20000) (a n b : Nat) (ha : a ≤ s.size) (h : Words.fit s.data.toList a = some (n, b)) (w : World) :
    Calls Tryz.prog 89 #[.string s, .int .i64 (a : Int)] w fun e w' => e = .returned (.tuple #[framedV (s.extract b (b + 4)) (s.extract (b + 4) (b + 4 + n)) ((b + 4 + n : Nat) : Int), .bool true]) ∧ Below w.heap.size w w' := by
  obtain ⟨hr, hn1, hn2, hn3⟩ := Words.fit_some h
  have HR : Hid (rdZ s (a : Int) = some (n, b)) := by show _ = _; rw [rdZ_nat s a ha]; exact hr
  obtain ⟨g1, g2, g3, g4, g5, g6⟩ := Words.rd_front hr
  rw [Words.size_list] at g3 g4 hn3
  clear hr h g5
  have hs1 : ∀ wx, (Instr.slice 9 (.string s) (some (.int .i64 (b : Int))) (some (.int .i64 ((b : Int) + 4))) none).run Tryz.prog wx = .ok (.string (s.extract b (b + 4))) wx := fun wx => by
    rw [run_slice_string wx 9 s .i64 .i64 _ _ Tryz.underlying9 (by omega) (by omega) (by omega), Int.toNat_natCast, show ((b : Int) + 4).toNat = b + 4 from by omega]
  have hs2 : ∀ wx, (Instr.slice 9 (.string s) (some (.int .i64 ((b : Int) + 4))) (some (.int .i64 ((b : Int) + 4 + (n : Int)))) none).run Tryz.prog wx = .ok (.string (s.extract (b + 4) (b + 4 + n))) wx := fun wx => by
    rw [run_slice_string wx 9 s .i64 .i64 _ _ Tryz.underlying9 (by omega) (by omega) (by omega), show ((b : Int) + 4).toNat = b + 4 from by omega, show ((b : Int) + 4 + (n : Int)).toNat = b + 4 + n from by omega]
  go_enter Tryz.func89, Tryz.ntmps89
  go_wp2_with (first | (go_at_call 109; refine (implRead_some (by omega) HR.out _).mono ?_; rintro e w' ⟨rfl, rfl⟩) | (go_at_call 83; refine (sizeOk_yes _ (by omega) _).mono ?_; rintro e w' ⟨rfl, rfl⟩))
  go_region_held3 (fun _ => True) (trivial) (fail)
  go_wp2
  have hres : (w.alloc (Obj.cells #[.string (s.extract b (b + 4)), .string (s.extract (b + 4) (b + 4 + n)), .int .i64 ((b : Int) + 4 + (n : Int))] 94)).cell? ⟨w.heap.size, 0, none⟩ = some (.string (s.extract b (b + 4))) := by simp
  exact bodyPost_ret (v := .tuple #[.agg #[.string (s.extract b (b + 4)), .string (s.extract (b + 4) (b + 4 + n)), .int .i64 ((b : Int) + 4 + (n : Int))], .bool true]) (by simp [results, Tryz.results89, go_sem]) rfl ⟨rfl, ((Below.refl _ _).alloc (Nat.le_refl _) _).drew⟩

set_option maxHeartbeats 1000000 in
theorem whole_is (A B : ByteArray) (E : Int) (hB : B.size ≤ 1048576) (w : World) :
    Calls Tryz.prog 57 #[framedV A B E] w fun e w' => e = .returned (.bool (A.toList == Sums.four (Sums.sumOf B.data.toList))) ∧ Below w.heap.size w w' := by
  unfold framedV
  have hA : (w.alloc (.cells #[.string A, .string B, .int .i64 E] 94)).cell? ⟨w.heap.size, 0, none⟩ = some (.string A) := by simp
  have hBc : (w.alloc (.cells #[.string A, .string B, .int .i64 E] 94)).cell? ⟨w.heap.size, 1, none⟩ = some (.string B) := by simp
  go_enter Tryz.func57, Tryz.ntmps57
  go_wp2
  go_region_held3 (fun wx => wx.cell? ⟨w.heap.size, 0, none⟩ = some (.string A) ∧ wx.cell? ⟨w.heap.size, 1, none⟩ = some (.string B)) (first | go_keep | exact ⟨(hb1.cell (p := ⟨w.heap.size, 0, none⟩) (by simp)).trans (by simp), (hb1.cell (p := ⟨w.heap.size, 1, none⟩) (by simp)).trans (by simp)⟩) (first | (go_at_call 85; refine (sealOf_any B (by omega) _).mono ?_; rintro e w1 ⟨rfl, hb1⟩))
  all_goals (try go_wp2)
  go_ret
  exact ⟨rfl, (((Below.refl _ _).alloc (Nat.le_refl _) _).drew).trans (hb1.mono (by simp))⟩
end
section
open Go.RowKit

theorem one_string_list (S : ByteArray) : ∀ u ∈ [Value.string S], u.oneCell' = true := by intro u hu; simp at hu; subst hu; rfl
theorem blk_kept {w w' : World} {k : Nat} {o : Obj} (h : w.heap[k]? = some o) (hb : Below w.heap.size w w') : w'.heap[k]? = some o := (hb.block k (Array.getElem?_eq_some_iff.1 h).1).trans h
theorem blk_alloc {w : World} {k : Nat} {o : Obj} (h : w.heap[k]? = some o) (x : Obj) : (w.alloc x).heap[k]? = some o := blk_kept h ((Below.refl _ _).alloc (Nat.le_refl _) x)
theorem blk_grown {w w' : World} {k : Nat} {o : Obj} {r : Option Nat} (h : w.heap[k]? = some o) (hg : w.grownBy w' r) (hne : some k ≠ r) : w'.heap[k]? = some o := (hg.block k (Array.getElem?_eq_some_iff.1 h).1 hne).trans h
theorem blk_cell {w : World} {k j : Nat} {cs : Array Value} {t : TypeId} {v : Value} (h : w.heap[k]? = some (.cells cs t (0, 0))) (hj : cs[j]? = some v) : w.cell? ⟨k, j, none⟩ = some v := by
  simp [World.cell?, h, hj]

/-- The two variables that yield writes: the records told so far, and the place behind the last. -/
def Tell (base R Q : Nat) (ps : List (List UInt8)) (z : Nat) (w : World) : Prop :=
  ∃ v, w.heap[R]? = some (.cells #[v] 60 (0, 0)) ∧ w.heap[Q]? = some (.cells #[.int .i64 (z : Int)] 3 (0, 0)) ∧ w.ownsRow base 9 1 v ps.length (cellsS ps)

/-- The structs that stood in their own cells are as they were. -/
def Kept64 (w w' : World) : Prop := ∀ (k : Nat) (cs : Array Value), w.heap[k]? = some (.cells cs 94 (0, 0)) → w'.heap[k]? = some (.cells cs 94 (0, 0))

set_option maxHeartbeats 1000000 in
set_option maxRecDepth 100000 in
theorem yield_no (R Q : Nat) (A B : ByteArray) (E : Int) (hB : B.size ≤ 20000) (h : (A.toList == Sums.four (Sums.sumOf B.data.toList)) = false) (w : World) :
    Calls Tryz.prog 56 #[framedV A B E, .pointer (some ⟨R, 0, none⟩), .pointer (some ⟨Q, 0, none⟩)] w fun e w' => e = .returned (.bool false) ∧ Below w.heap.size w w' := by
  have HW : Hid (∀ wx, Calls Tryz.prog 57 #[framedV A B E] wx fun e w' => e = .returned (.bool false) ∧ Below wx.heap.size wx w') := by
    intro wx
    have := whole_is A B E (by omega) wx
    rwa [h] at this
  clear h
  unfold framedV at *
  go_enter Tryz.func56, Tryz.ntmps56
  go_wp2_with (go_at_call 57; refine (HW.out _).mono ?_; rintro e w1 ⟨rfl, hb1⟩)
  go_ret
  exact ⟨rfl, ((Below.refl _ _).alloc (Nat.le_refl _) _).trans (hb1.mono (by simp))⟩

set_option maxHeartbeats 1000000 in
set_option maxRecDepth 100000 in
theorem yield_yes {base R Q : Nat} (hRB : R < base) (hQB : Q < base) (hRQ : R < Q) (A B : ByteArray) (E : Nat) (hB : B.size ≤ 20000) (h : (A.toList == Sums.four (Sums.sumOf B.data.toList)) = true)
    (ps : List (List UInt8)) (z : Nat) (hlen : ps.length ≤ 20000) (w : World) (hbase : base ≤ w.heap.size) (hT : Tell base R Q ps z w) :
    Calls Tryz.prog 56 #[framedV A B (E : Int), .pointer (some ⟨R, 0, none⟩), .pointer (some ⟨Q, 0, none⟩)] w fun e w' => e = .returned (.bool true) ∧ Tell base R Q (ps ++ [B.data.toList]) E w' ∧ Below R w w' ∧ Kept64 w w' := by
  obtain ⟨i0, hi, hz0, hz1, hz2⟩ := info_parts Tryz.info9
  obtain ⟨v, hR, hQ, hown⟩ := hT
  have HW : Hid (∀ wx, Calls Tryz.prog 57 #[framedV A B (E : Int)] wx fun e w' => e = .returned (.bool true) ∧ Below wx.heap.size wx w') := by
    intro wx
    have := whole_is A B E (by omega) wx
    rwa [h] at this
  clear h
  unfold framedV at *
  obtain ⟨va, vc, rfl⟩ := own_slice hown
  have hsz1 : ∀ x : Obj, (w.alloc x).heap.size = w.heap.size + 1 := fun x => by simp
  have HF : Hid ((w.alloc (.cells #[.string A, .string B, .int .i64 (E : Int)] 94)).heap[w.heap.size]? = some (.cells #[.string A, .string B, .int .i64 (E : Int)] 94 (0, 0))) := heap_alloc_new w _
  have HR : Hid (w.heap[R]? = some (.cells #[.slice va ps.length vc] 60 (0, 0))) := hR
  have HQ : Hid (w.heap[Q]? = some (.cells #[.int .i64 (z : Int)] 3 (0, 0))) := hQ
  have HO : Hid (w.ownsRow base 9 1 (.slice va ps.length vc) ps.length (cellsS ps)) := hown
  have HLT : Hid (∀ k, (Value.slice va ps.length vc).ownBlock = some k → base ≤ k ∧ k < w.heap.size) := fun k hk => hown.lt k hk
  have hneR : some R ≠ (Value.slice va ps.length vc).ownBlock := fun e => by have := HLT.out R e.symm; omega
  have hneQ : some Q ≠ (Value.slice va ps.length vc).ownBlock := fun e => by have := HLT.out Q e.symm; omega
  have hneF : some w.heap.size ≠ (Value.slice va ps.length vc).ownBlock := fun e => by have := HLT.out _ e.symm; omega
  have HK : Hid (∀ (k : Nat) (cs : Array Value), w.heap[k]? = some (.cells cs 94 (0, 0)) → k ≠ R ∧ k ≠ Q ∧ some k ≠ (Value.slice va ps.length vc).ownBlock) := by
    intro k cs hk
    refine ⟨fun e => by subst e; rw [hR] at hk; simp at hk, fun e => by subst e; rw [hQ] at hk; simp at hk, fun e => ?_⟩
    rcases hown.2 with ⟨h1, _⟩ | ⟨g, cap, cur, h1, _, hh, _⟩
    · rw [h1] at e; simp [Value.ownBlock] at e
    · rw [h1] at e
      obtain rfl : k = g := by simpa [Value.ownBlock] using e
      rw [hh] at hk; simp at hk
  clear hR hQ hown
  go_enter Tryz.func56, Tryz.ntmps56
  go_wp2_with fail
  refine (HW.out _).mono ?_
  rintro e w1 ⟨rfl, hb1⟩
  have HR1 : Hid (w1.heap[R]? = some (.cells #[.slice va ps.length vc] 60 (0, 0))) := blk_kept (blk_alloc HR.out _) hb1
  have HQ1 : Hid (w1.heap[Q]? = some (.cells #[.int .i64 (z : Int)] 3 (0, 0))) := blk_kept (blk_alloc HQ.out _) hb1
  have HF1 : Hid (w1.heap[w.heap.size]? = some (.cells #[.string A, .string B, .int .i64 (E : Int)] 94 (0, 0))) := blk_kept HF.out hb1
  have HO1 : Hid (w1.ownsRow base 9 1 (.slice va ps.length vc) ps.length (cellsS ps)) := own_kept (HO.out.alloc _) hb1
  have HB1 : Hid (Below w.heap.size w w1) := ((Below.refl _ _).alloc (Nat.le_refl _) _).trans (hb1.mono (by simp))
  have hz1' : w.heap.size + 1 ≤ w1.heap.size := by have := hb1.size; simpa using this
  clear hb1 HF HR HQ HO HW
  go_wp2_with fail
  have cR : w1.cell? ⟨R, 0, none⟩ = some (.slice va ps.length vc) := cell_of_one HR1.out
  have cB : w1.cell? ⟨w.heap.size, 1, none⟩ = some (.string B) := blk_cell HF1.out rfl
  have fR : w1.frozen? ⟨R, 0, none⟩ = false := free_of_one HR1.out
  have HC : Hid (∀ wx : World, (callFunc 58 #[.string B]).run Tryz.prog wx = .ok (.enter 58 #[.string B]) wx) := fun _ => by kernel_rfl
  have hnl : ps.length + 1 ≤ maxLen := by unfold maxLen; omega
  have hby : (ps.length + 1) * 16 ≤ 140737488355328 := by omega
  go_region_law (first
      | (refine step_call (by rfl) 58 _ _ (by rfl) (.string B) (by rfl) (.string B) _ HC.out (clone_any B (by omega) _) ?_; intro wa hba; have HRa : Hid (wa.heap[R]? = some (.cells #[.slice va ps.length vc] 60 (0, 0))) := blk_kept (w := w1.drew) HR1.out hba; have cRa := cell_of_one HRa.out; have cRb := fun o => cell_of_one (blk_alloc HRa.out o))
      | (refine step_append_lies _ (by rfl) _ _ _ (by rfl) base 9 i0 _ 1 16 Tryz.underlying60 hi hz0 hz1 hz2 rfl (Nat.zero_lt_succ _) _ ps.length (cellsS ps) (by rfl) ((own_kept (w := w1.drew) HO1.out hba).alloc _) ⟨wa.heap.size, 0, none⟩ 1 1 [.string B] (by rfl) (by rfl) (World.news_of_block (cs := #[.string B]) (t := 9) (fr := (0, 0)) (heap_alloc_new wa _)) (one_string_list B) (Nat.zero_lt_succ _) hnl hby (by have h2 := hba.size; simp at h2 ⊢; omega) (wa.heap.size + 1) (Array.size_push ..) ?_; intro g2 cap2 w8 hown8 hgrow hat hlt8; have HR8 : Hid (w8.heap[R]? = some (.cells #[.slice va ps.length vc] 60 (0, 0))) := blk_grown (blk_alloc HRa.out _) hgrow hneR; have cR8 := cell_of_one HR8.out; have fR8 := free_of_one HR8.out))
  all_goals
    have HQ8 : Hid (w8.heap[Q]? = some (.cells #[.int .i64 (z : Int)] 3 (0, 0))) := blk_grown (blk_alloc (blk_kept (w := w1.drew) HQ1.out hba) _) hgrow hneQ
    have HF8 : Hid (w8.heap[w.heap.size]? = some (.cells #[.string A, .string B, .int .i64 (E : Int)] 94 (0, 0))) := blk_grown (blk_alloc (blk_kept (w := w1.drew) HF1.out hba) _) hgrow hneF
    have HO8 : Hid (w8.ownsRow base 9 1 (.slice (some ⟨g2, 0, none⟩) (ps.length + 1) cap2) (ps.length + 1) (cellsS ps ++ [.string B])) := hown8
    have HB8 : Hid (Below R w w8) := (((HB1.out.mono (by omega)).drew.trans (hba.mono (by simp; omega))).alloc (by have := hba.size; simp at this; omega) _).grown hgrow (by have := hba.size; simp at this ⊢; omega) (fun j hj => by have := (HLT.out j hj).1; omega)
    have HK8 : Hid (∀ (k : Nat) (cs : Array Value), w.heap[k]? = some (.cells cs 94 (0, 0)) → w8.heap[k]? = some (.cells cs 94 (0, 0))) := fun k cs hk => blk_grown (blk_alloc (blk_kept (w := w1.drew) (blk_kept hk HB1.out.drew) hba) _) hgrow (HK.out k cs hk).2.2
    clear hba hown8 hgrow hat hlt8
    have cF9 : (w8.setCell ⟨R, 0, none⟩ (.slice (some ⟨g2, 0, none⟩) (ps.length + 1) cap2)).cell? ⟨w.heap.size, 2, none⟩ = some (.int .i64 (E : Int)) := blk_cell ((Below.heap_setCell _ _ _ _ (by show _ ≠ R; omega)).trans HF8.out) rfl
    have hQ9 : (w8.setCell ⟨R, 0, none⟩ (.slice (some ⟨g2, 0, none⟩) (ps.length + 1) cap2)).heap[Q]? = some (.cells #[.int .i64 (z : Int)] 3 (0, 0)) := (Below.heap_setCell _ _ _ _ (by show _ ≠ R; omega)).trans HQ8.out
    have cQ9 := cell_of_one hQ9
    have fQ9 := free_of_one hQ9
    have HQ9 : Hid (_ = _) := hQ9
    clear hQ9
    go_wp2
    go_ret
    refine ⟨rfl, ⟨.slice (some ⟨g2, 0, none⟩) (ps.length + 1) cap2, ?_, one_setCell HQ9.out, ?_⟩, (HB8.out.setCell (Nat.le_refl _) _).setCell (by show R ≤ Q; omega) _, fun k cs hk => ?_⟩
    · exact (Below.heap_setCell _ _ _ _ (by show R ≠ Q; omega)).trans (one_setCell HR8.out)
    · rw [cellsS_app, List.length_append]
      exact ownsRow_setCell_below (ownsRow_setCell_below HO8.out (by show R < base; omega) _) (by show Q < base; omega) _
    · exact (Below.heap_setCell _ _ _ _ (HK.out k cs hk).2.1).trans ((Below.heap_setCell _ _ _ _ (HK.out k cs hk).1).trans (HK8.out k cs hk))
end
section
open Go.RowKit

theorem ext_list (s : ByteArray) (b n : Nat) : (s.extract (b + 4) (b + 4 + n)).data.toList = (s.data.toList.drop (b + 4)).take n := by
  rw [Words.extract_list]; congr 1; omega
theorem sum_iff (s : ByteArray) (b n : Nat) : ((s.extract b (b + 4)).toList == Sums.four (Sums.sumOf (s.extract (b + 4) (b + 4 + n)).data.toList)) = decide ((s.data.toList.drop b).take 4 = Sums.four (Sums.sumOf ((s.data.toList.drop (b + 4)).take n))) := by
  rw [ext_list, ByteArray.toList_eq, Words.extract_list, show b + 4 - b = 4 by omega]
  rw [Bool.eq_iff_iff]; simp

theorem tell_kept {base R Q : Nat} {ps : List (List UInt8)} {z : Nat} {w w' : World} (h : Tell base R Q ps z w) (hb : Below w.heap.size w w') : Tell base R Q ps z w' := by
  obtain ⟨v, h1, h2, h3⟩ := h
  exact ⟨v, blk_kept h1 hb, blk_kept h2 hb, own_kept h3 hb⟩

set_option maxHeartbeats 1000000 in
set_option maxRecDepth 100000 in
theorem tell_is {base R Q : Nat} (hRB : R < base) (hQB : Q < base) (hRQ : R < Q) (s : ByteArray) (hs : s.size ≤ 20000) (w : World) (hbase : base ≤ w.heap.size) (hT : Tell base R Q [] 0 w) :
    Calls Tryz.prog 55 #[.string s, .func (.func 56) #[] #[.pointer (some ⟨R, 0, none⟩), .pointer (some ⟨Q, 0, none⟩)]] w fun e w' =>
      e = .returned (.tuple #[]) ∧ Tell base R Q (Words.un (s.size + 1) s.data.toList 0) (Words.stop (s.size + 1) s.data.toList 0) w' ∧ Below R w w' := by
  have HT : Hid (Tell base R Q [] 0 w) := hT
  clear hT
  go_enter Tryz.func55, Tryz.ntmps55
  go_wp2
  go_loopw [4] (fun x wr => ∃ (a f : Nat) (ps : List (List UInt8)), x = .int .i64 (a : Int) ∧ a ≤ s.size ∧ ps.length ≤ a ∧ s.size < a + f ∧ Hid (ps ++ Words.un f s.data.toList a = Words.un (s.size + 1) s.data.toList 0 ∧ Words.stop f s.data.toList a = Words.stop (s.size + 1) s.data.toList 0) ∧ Hid (Tell base R Q ps a wr) ∧ base ≤ wr.heap.size ∧ Hid (Below R w wr))
    (fun x _ => s.size - (intOf x).toNat)
  case atStart => exact ⟨0, s.size + 1, [], rfl, by omega, by simp, by omega, ⟨rfl, rfl⟩, HT, hbase, Below.refl _ _⟩
  case round =>
    obtain ⟨a, f, ps, rfl, ha, hpl, hf, HE, HTr, hbr, HB⟩ := hrel
    cases hfit : Words.fit s.data.toList a with
    | none =>
      have HF : Hid (Words.fit s.data.toList a = none) := hfit
      clear hfit
      go_wp2_with (go_at_call 89; refine (framedAt_no s hs a ha HF.out _).mono ?_; rintro e w1 ⟨rfl, hb1⟩; unfold framedV)
      refine bodyPost_ret (v := .tuple #[]) (by simp [results, Tryz.results55, go_sem]) rfl ?_
      have U := Words.un_end f (Words.fr_none HF.out)
      have E := HE.out
      rw [U.1, U.2, List.append_nil] at E
      refine ⟨rfl, ?_, ?_⟩
      · rw [← E.1, ← E.2]; exact tell_kept HTr.out (((Below.refl _ _).trans hb1).alloc (hb1.size) _)
      · exact (HB.out.trans (hb1.mono (by omega))).alloc (by have := hb1.size; omega) _
    | some p =>
      obtain ⟨n, b⟩ := p
      have HF : Hid (Words.fit s.data.toList a = some (n, b)) := hfit
      obtain ⟨hr, hn1, hn2, hn3⟩ := Words.fit_some hfit
      obtain ⟨g1, g2, g3, g4, g5, g6⟩ := Words.rd_front hr
      rw [Words.size_list] at g3 g4 hn3
      clear hr hfit g5
      have hBs : (s.extract (b + 4) (b + 4 + n)).size ≤ 20000 := by rw [ByteArray.size_extract]; omega
      have hS := sum_iff s b n
      have HX : Hid ((s.extract (b + 4) (b + 4 + n)).data.toList = (s.data.toList.drop (b + 4)).take n) := ext_list s b n
      by_cases hw : (s.data.toList.drop b).take 4 = Sums.four (Sums.sumOf ((s.data.toList.drop (b + 4)).take n))
      · have HS : Hid (_ = true) := hS.trans (decide_eq_true hw)
        have HW : Hid (Words.fr s.data.toList a = some (_, _)) := Words.fr_whole HF.out hw
        clear hS hw
        obtain ⟨A, hA⟩ : ∃ A, A = s.extract b (b + 4) := ⟨_, rfl⟩
        obtain ⟨B, hB⟩ : ∃ B, B = s.extract (b + 4) (b + 4 + n) := ⟨_, rfl⟩
        obtain ⟨E, hE⟩ : ∃ E, E = b + 4 + n := ⟨_, rfl⟩
        have HFA : Hid (∀ w, Calls Tryz.prog 89 #[.string s, .int .i64 (a : Int)] w fun e w' => e = .returned (.tuple #[framedV A B (E : Int), .bool true]) ∧ Below w.heap.size w w') := fun w => by
          rw [hA, hB, hE]; exact framedAt_yes s hs a n b ha HF.out w
        rw [← hA, ← hB] at HS
        rw [← hB] at hBs HX
        have HW2 : Hid (Words.fr s.data.toList a = some (B.data.toList, E)) := by show _ = _; rw [HX.out, hE]; exact HW.out
        clear hA hB HX HW
        have hE1 : a < E := by omega
        have hE2 : E ≤ s.size := by omega
        clear hE g1 g2 g3 g4 g6 hn1 hn2 hn3
        go_wp2_with (go_at_call 89; refine (HFA.out _).mono ?_; rintro e w1 ⟨rfl, hb1⟩; unfold framedV)
        have hz1 := hb1.size
        have HT2 : Hid (Tell base R Q ps a (w1.alloc (.cells #[.string A, .string B, .int .i64 (E : Int)] 94))) := tell_kept HTr.out (hb1.alloc hb1.size _)
        have HB2 : Hid (Below R w (w1.alloc (.cells #[.string A, .string B, .int .i64 (E : Int)] 94))) := (HB.out.trans (hb1.mono (by omega))).alloc (by omega) _
        have HF2 : Hid ((w1.alloc (.cells #[.string A, .string B, .int .i64 (E : Int)] 94)).heap[w1.heap.size]? = some (.cells #[.string A, .string B, .int .i64 (E : Int)] 94 (0, 0))) := heap_alloc_new w1 _
        refine (yield_yes hRB hQB hRQ A B E hBs HS.out ps a (by omega) _ (by simp; omega) HT2.out).mono ?_
        rintro e w2 ⟨rfl, ht, hb2, hk⟩
        have cE : w2.cell? ⟨w1.heap.size, 2, none⟩ = some (.int .i64 (E : Int)) := blk_cell (hk _ _ HF2.out) rfl
        have HT3 : Hid (Tell base R Q (ps ++ [B.data.toList]) E w2) := ht
        have hz2 : base ≤ w2.heap.size := by have := hb2.size; simp at this; omega
        have HB3 : Hid (Below R w w2) := HB2.out.trans hb2
        clear ht hk hb2 HT2 HB2 HF2 hb1
        go_wp2
        go_roundw
        case rel =>
          obtain ⟨f', rfl⟩ : ∃ f', f = f' + 1 := ⟨f - 1, by omega⟩
          have U := Words.un_more f' HW2.out
          have E' := HE.out
          rw [U.1, U.2] at E'
          exact ⟨E, f', ps ++ [B.data.toList], rfl, hE2, by simp; omega, by omega, ⟨by rw [← E'.1]; simp, E'.2⟩, HT3, hz2, HB3⟩
        case measure => simp [intOf]; omega
      · have HS : Hid (_ = false) := hS.trans (decide_eq_false hw)
        have HW : Hid (Words.fr s.data.toList a = none) := Words.fr_torn HF.out hw
        clear hS hw
        obtain ⟨A, hA⟩ : ∃ A, A = s.extract b (b + 4) := ⟨_, rfl⟩
        obtain ⟨B, hB⟩ : ∃ B, B = s.extract (b + 4) (b + 4 + n) := ⟨_, rfl⟩
        have HFA : Hid (∀ w, Calls Tryz.prog 89 #[.string s, .int .i64 (a : Int)] w fun e w' => e = .returned (.tuple #[framedV A B ((b + 4 + n : Nat) : Int), .bool true]) ∧ Below w.heap.size w w') := fun w => by
          rw [hA, hB]; exact framedAt_yes s hs a n b ha HF.out w
        rw [← hA, ← hB] at HS
        rw [← hB] at hBs
        clear hA hB HX
        go_wp2_with (first | (go_at_call 89; refine (HFA.out _).mono ?_; rintro e w1 ⟨rfl, hb1⟩; unfold framedV) | (go_at_call 56; refine (yield_no R Q A B _ hBs HS.out _).mono ?_; rintro e w2 ⟨rfl, hb2⟩))
        refine bodyPost_ret (v := .tuple #[]) (by simp [results, Tryz.results55, go_sem]) rfl ?_
        have U := Words.un_end f HW.out
        have E := HE.out
        rw [U.1, U.2, List.append_nil] at E
        have hbz := hb1.size
        have hb3 : Below wr.heap.size wr w2 := (((Below.refl _ _).trans hb1).alloc hb1.size _).trans (hb2.mono (by simp; omega))
        refine ⟨rfl, ?_, ?_⟩
        · rw [← E.1, ← E.2]; exact tell_kept HTr.out hb3
        · exact HB.out.trans (hb3.mono (by omega))

def unT (v : Value) (z : Nat) : Value := .tuple #[v, .int .i64 (z : Int)]
theorem un_long {s : ByteArray} : (Words.un (s.size + 1) s.data.toList 0).length ≤ s.size := by
  have := Words.un_len (s.size + 1) s.data.toList 0
  rwa [Words.size_list] at this
theorem below2 (w : World) (o o' : Obj) : Below w.heap.size w ((w.alloc o).alloc o') := ((Below.refl _ _).alloc (Nat.le_refl _) o).alloc (by simp) o'

set_option maxHeartbeats 1000000 in
set_option maxRecDepth 100000 in
theorem implUn_is (s : ByteArray) (hs : s.size ≤ 20000) (w : World) :
    Calls Tryz.prog 24 #[.string s] w fun e w' => ∃ v, e = .returned (unT v (Words.stop (s.size + 1) s.data.toList 0)) ∧ w'.ownsRow w.heap.size 9 1 v (Words.un (s.size + 1) s.data.toList 0).length (cellsS (Words.un (s.size + 1) s.data.toList 0)) ∧ Below w.heap.size w w' := by
  have hmf : ∀ (fn : Fn) (first cap : Array Value) (w : World), (Instr.makeFunc fn first cap).run Tryz.prog w = .ok (.func fn first cap) w := fun _ _ _ _ => rfl
  go_enter Tryz.func24, Tryz.ntmps24
  go_wp2_with fail
  have hT0 : Tell (w.heap.size + 2) w.heap.size (w.heap.size + 1) [] 0 ((w.alloc (.cells #[.slice none 0 0] 60)).alloc (.cells #[.int .i64 0] 3)) :=
    ⟨.slice none 0 0, blk_alloc (heap_alloc_new w _) _, by have := heap_alloc_new (w.alloc (.cells #[.slice none 0 0] 60)) (.cells #[.int .i64 0] 3); simpa using this, World.ownsRow_nil _ _ _ _⟩
  refine (tell_is (by omega) (by omega) (by omega) s hs _ (by simp) hT0).mono ?_
  rintro e w1 ⟨rfl, ⟨v, h1, h2, h3⟩, hb1⟩
  clear hT0 hmf
  have c1 := cell_of_one h1
  have c2 := cell_of_one h2
  have HO : Hid (w1.ownsRow _ 9 1 v _ _) := h3
  obtain ⟨va, vc, hv⟩ := own_slice h3
  subst hv
  have HB : Hid (Below w.heap.size w w1) := (below2 w _ _).trans hb1
  clear h1 h2 h3 hb1
  go_wp2
  go_quiet (fail)
  go_wp2
  go_ret2
  exact ⟨_, rfl, own_mono (own_kept HO.out (below_drewN (Below.refl _ _) _)) (by omega), below_drewN HB.out _⟩
end
section
open Go.RowKit

set_option maxHeartbeats 2000000 in
set_option maxRecDepth 100000 in
theorem specUn_is (s : ByteArray) (hs : s.size ≤ 20000) (w : World) :
    Calls Tryz.prog 66 #[.string s] w fun e w' => ∃ v, e = .returned (unT v (Words.stop (s.size + 1) s.data.toList 0)) ∧ w'.ownsRow w.heap.size 9 1 v (Words.un (s.size + 1) s.data.toList 0).length (cellsS (Words.un (s.size + 1) s.data.toList 0)) ∧ Below w.heap.size w w' := by
  obtain ⟨i0, hi, hz0, hz1, hz2⟩ := info_parts Tryz.info9
  go_enter Tryz.func66, Tryz.ntmps66
  go_wp2
  go_loopw [4, 5] (fun v x wr => ∃ (a f : Nat) (ps : List (List UInt8)), x = .int .i64 (a : Int) ∧ a ≤ s.size ∧ ps.length ≤ a ∧ s.size < a + f ∧ Hid (ps ++ Words.un f s.data.toList a = Words.un (s.size + 1) s.data.toList 0 ∧ Words.stop f s.data.toList a = Words.stop (s.size + 1) s.data.toList 0) ∧ Hid (wr.ownsRow w.heap.size 9 1 v ps.length (cellsS ps)) ∧ Hid (Below w.heap.size w wr))
    (fun _ x _ => s.size - (intOf x).toNat)
  case atStart => exact ⟨0, s.size + 1, [], rfl, by omega, by simp, by omega, ⟨rfl, rfl⟩, World.ownsRow_made w #[] 0 (Nat.le_refl _) (by unfold maxLen; omega) rfl, (Below.refl _ _).alloc (Nat.le_refl _) _⟩
  case round =>
    obtain ⟨a, f, ps, rfl, ha, hpl, hf, HE, HO, HB⟩ := hrel
    obtain ⟨va, vc, rfl⟩ := own_slice HO.out
    have HEnd : Hid (Words.fr s.data.toList a = none → ∀ w', Below wr.heap.size wr w' → ∃ v, Ending.returned (.tuple #[.slice va ps.length vc, .int .i64 (a : Int)]) = .returned (unT v (Words.stop (s.size + 1) s.data.toList 0)) ∧ w'.ownsRow w.heap.size 9 1 v (Words.un (s.size + 1) s.data.toList 0).length (cellsS (Words.un (s.size + 1) s.data.toList 0)) ∧ Below w.heap.size w w') := fun hn w' hb => by
      have U := Words.un_end f hn
      have E := HE.out
      rw [U.1, U.2, List.append_nil] at E
      exact ⟨_, by rw [← E.2]; rfl, by rw [← E.1]; exact own_kept HO.out hb, HB.out.trans (hb.mono HB.out.size)⟩
    by_cases hlt : a < s.size
    · have hlti : (a : Int) < (s.size : Int) := by omega
      cases hrd : Words.rd s.data.toList a with
      | none =>
        have HR : Hid (rdZ s (a : Int) = none) := by show _ = _; rw [rdZ_nat s a ha]; exact hrd
        have HF : Hid (Words.fit s.data.toList a = none) := by show _ = _; unfold Words.fit; rw [hrd]
        clear hrd
        go_wp2_with (go_at_call 97; refine (specRead_none (by omega) HR.out _).mono ?_; rintro e w1 ⟨rfl, hb1⟩)
        go_ret2
        exact HEnd.out (Words.fr_none HF.out) _ hb1
      | some p =>
        obtain ⟨n, b⟩ := p
        have HR : Hid (rdZ s (a : Int) = some (n, b)) := by show _ = _; rw [rdZ_nat s a ha]; exact hrd
        obtain ⟨g1, g2, g3, g4, g5, g6⟩ := Words.rd_front hrd
        rw [Words.size_list] at g3 g4
        have HFI : Hid (Words.fit s.data.toList a = if 1 ≤ n ∧ n ≤ 9000 ∧ b + 4 + n ≤ s.size then some (n, b) else none) := by show _ = _; unfold Words.fit; rw [hrd]; rfl
        clear hrd g5 g4
        by_cases hfit : b + 4 + n ≤ s.size
        · have hle : (n : Int) ≤ (s.size : Int) - (b : Int) - 4 := by omega
          obtain ⟨T, hT⟩ : ∃ T, T = s.extract (b + 4) (b + 4 + n) := ⟨_, rfl⟩
          have hTs : T.size = n := by rw [hT, ByteArray.size_extract]; omega
          have hs2 : ∀ wx, (Instr.slice 9 (.string s) (some (.int .i64 ((b : Int) + 4))) (some (.int .i64 ((b : Int) + 4 + (n : Int)))) none).run Tryz.prog wx = .ok (.string T) wx := fun wx => by
            rw [run_slice_string wx 9 s .i64 .i64 _ _ Tryz.underlying9 (by omega) (by omega) (by omega), show ((b : Int) + 4).toNat = b + 4 from by omega, show ((b : Int) + 4 + (n : Int)).toNat = b + 4 + n from by omega, hT]
          by_cases hn : 1 ≤ n ∧ n ≤ 9000
          · have HF : Hid (Words.fit s.data.toList a = some (n, b)) := by show _ = _; rw [HFI.out, if_pos ⟨hn.1, hn.2, hfit⟩]
            obtain ⟨G, hG⟩ : ∃ G, G = frameB T := ⟨_, rfl⟩
            obtain ⟨S2, hS2⟩ : ∃ S2, S2 = s.extract a (b + 4 + n) := ⟨_, rfl⟩
            have hs3 : ∀ wx, (Instr.slice 9 (.string s) (some (.int .i64 (a : Int))) (some (.int .i64 ((b : Int) + 4 + (n : Int)))) none).run Tryz.prog wx = .ok (.string S2) wx := fun wx => by
              rw [run_slice_string wx 9 s .i64 .i64 _ _ Tryz.underlying9 (by omega) (by omega) (by omega), show ((b : Int) + 4 + (n : Int)).toNat = b + 4 + n from by omega, Int.toNat_natCast, hS2]
            have HFY : Hid (∀ w, Calls Tryz.prog 70 #[.string T] w fun e w' => e = .returned (.tuple #[.string G, .bool true]) ∧ Below w.heap.size w w') := fun w => by
              rw [hG]; exact specFrame_yes T (by omega) (by omega) w
            have hTl : T.data.toList = (s.data.toList.drop (b + 4)).take n := by rw [hT]; exact ext_list s b n
            have hcmp : (G.toList == S2.toList) = decide ((s.data.toList.drop b).take 4 = Sums.four (Sums.sumOf ((s.data.toList.drop (b + 4)).take n))) := by
              rw [Bool.eq_iff_iff, beq_iff_eq, decide_eq_true_iff, ← Words.frame_iff HF.out, ByteArray.toList_eq, ByteArray.toList_eq, hG, hS2, Words.extract_list, frameB_list, hTl]
            have HTL : Hid (_ = _) := hTl
            by_cases hw : (s.data.toList.drop b).take 4 = Sums.four (Sums.sumOf ((s.data.toList.drop (b + 4)).take n))
            · have hcb : (G.toList == S2.toList) = true := hcmp.trans (decide_eq_true hw)
              have HW : Hid (Words.fr s.data.toList a = some (T.data.toList, b + 4 + n)) := by show _ = _; rw [hTl]; exact Words.fr_whole HF.out hw
              clear hT hG hS2 hTl hcmp hw HFI
              have hz0' := HB.out.size
              go_wp2_with (first | (go_at_call 97; refine (specRead_some (by omega) HR.out _).mono ?_; rintro e w1 ⟨rfl, hb1⟩) | (go_at_call 70; refine (HFY.out _).mono ?_; rintro e w2 ⟨rfl, hb2⟩; have HO2 : Hid (w2.ownsRow w.heap.size 9 1 (.slice va ps.length vc) ps.length (cellsS ps)) := own_kept (own_kept HO.out hb1) hb2; have hz2' : w.heap.size ≤ w2.heap.size := Nat.le_trans hz0' (Nat.le_trans hb1.size hb2.size)) | (at_builtin; refine wpList_append_own _ rfl _ _ 60 rfl w.heap.size 9 i0 (.string ⟨#[]⟩) 1 16 Tryz.underlying60 hi hz0 hz1 hz2 rfl (by decide) _ _ _ rfl (HO2.out.alloc _) ⟨w2.heap.size, 0, none⟩ 1 1 [.string T] rfl rfl ?c1 ?c2 ?c3 ?c4 ?c5 ?_))
              case c1 =>
                intro j u hj
                match j, hj with
                | 0, hj => simp at hj; subst hj; simp [Addr.add]
              case c2 => intro u hu; simp at hu; subst hu; rfl
              case c3 => unfold maxLen; omega
              case c4 => omega
              case c5 => simp; omega
              intro v' w3 hown3 hgrow _
              have HO3 : Hid (w3.ownsRow w.heap.size 9 1 v' (ps ++ [T.data.toList]).length (cellsS (ps ++ [T.data.toList]))) := by
                show World.ownsRow _ _ _ _ _ _ _
                rw [cellsS_app, List.length_append]; exact hown3
              have HB3 : Hid (Below w.heap.size w w3) := ((HB.out.trans ((hb1.trans (hb2.mono hb1.size)).mono hz0')).alloc hz2' _).grown hgrow (by simp; omega) (fun j hj => (HO2.out.lt j hj).1)
              clear hown3 hgrow hb1 hb2 HO2
              go_wp2
              go_roundw
              case rel =>
                obtain ⟨f', rfl⟩ : ∃ f', f = f' + 1 := ⟨f - 1, by omega⟩
                have U := Words.un_more f' HW.out
                have E' := HE.out
                rw [U.1, U.2] at E'
                exact ⟨b + 4 + n, f', ps ++ [T.data.toList], by go_num, hfit, by simp; omega, by omega, ⟨by rw [← E'.1]; simp, E'.2⟩, HO3, HB3⟩
              case measure => simp [intOf]; omega
            · have hcb : (G.toList == S2.toList) = false := hcmp.trans (decide_eq_false hw)
              have HW : Hid (Words.fr s.data.toList a = none) := Words.fr_torn HF.out hw
              clear hT hG hS2 hTl hcmp hw HFI
              go_wp2_with (first | (go_at_call 97; refine (specRead_some (by omega) HR.out _).mono ?_; rintro e w1 ⟨rfl, hb1⟩) | (go_at_call 70; refine (HFY.out _).mono ?_; rintro e w2 ⟨rfl, hb2⟩))
              go_ret2
              exact HEnd.out HW.out _ (hb1.trans (hb2.mono hb1.size))
          · have HF : Hid (Words.fit s.data.toList a = none) := by show _ = _; rw [HFI.out, if_neg (fun h => hn ⟨h.1, h.2.1⟩)]
            have hTn : ¬ (1 ≤ T.size ∧ T.size ≤ 9000) := by rw [hTs]; exact hn
            have hTm : T.size ≤ maxLen := by unfold maxLen; omega
            clear hT hn HFI
            go_wp2_with (first | (go_at_call 97; refine (specRead_some (by omega) HR.out _).mono ?_; rintro e w1 ⟨rfl, hb1⟩) | (go_at_call 70; refine (specFrame_no T hTm hTn _).mono ?_; rintro e w2 ⟨rfl, hb2⟩))
            go_ret2
            exact HEnd.out (Words.fr_none HF.out) _ (hb1.trans (hb2.mono hb1.size))
        · have hle : (s.size : Int) - (b : Int) - 4 < (n : Int) := by omega
          have HF : Hid (Words.fit s.data.toList a = none) := by show _ = _; rw [HFI.out, if_neg (fun h => hfit h.2.2)]
          clear HFI hfit
          go_wp2_with (go_at_call 97; refine (specRead_some (by omega) HR.out _).mono ?_; rintro e w1 ⟨rfl, hb1⟩)
          go_ret2
          exact HEnd.out (Words.fr_none HF.out) _ hb1
    · have hlti : ¬ (a : Int) < (s.size : Int) := by omega
      have HF : Hid (Words.fit s.data.toList a = none) := by
        show _ = _
        cases h : Words.fit s.data.toList a with
        | none => rfl
        | some p =>
          obtain ⟨n, b⟩ := p
          have := (Words.rd_front (Words.fit_some h).1).2.2.2.1
          rw [Words.size_list] at this
          exact absurd this hlt
      go_wp2
      go_ret2
      exact HEnd.out (Words.fr_none HF.out) _ (Below.refl _ _)
end
end Go.Proofs.YtahpoemmlpbgdaaGreat
