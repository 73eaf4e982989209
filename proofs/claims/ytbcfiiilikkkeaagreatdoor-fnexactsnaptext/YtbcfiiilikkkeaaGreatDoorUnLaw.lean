/- The calls of tellFrames and of Unframe, walked: the records of the whole frames, and the place behind the last. The call of the document's Unframe, walked: the records of the whole frames, and the place behind the last. The exact law of Unframe, walked: it answers true at every file. -/
import Derived.Test.YtbcfiiilikkkeaaGreatDoorYield
namespace Go.Proofs.YtbcfiiilikkkeaaGreatDoor
open Go.RowKit

theorem ext_list (s : ByteArray) (b n : Nat) : (s.extract (b + 4) (b + 4 + n)).data.toList = (s.data.toList.drop (b + 4)).take n := by
  rw [Words.extract_list]; congr 1; omega
theorem sum_iff (s : ByteArray) (b n : Nat) : ((s.extract b (b + 4)).toList == Sums.four (Sums.sumOf (s.extract (b + 4) (b + 4 + n)).data.toList)) = decide ((s.data.toList.drop b).take 4 = Sums.four (Sums.sumOf ((s.data.toList.drop (b + 4)).take n))) := by
  rw [ext_list, ByteArray.toList_eq, Words.extract_list, show b + 4 - b = 4 by omega]
  rw [Bool.eq_iff_iff]; simp

theorem tell_kept {base R Q : Nat} {ps : List (List UInt8)} {z : Nat} {w w' : World} (h : Tell base R Q ps z w) (hb : Below w.heap.size w w') : Tell base R Q ps z w' := by
  obtain ⟨v, h1, h2, h3⟩ := h
  exact ⟨v, blk_kept h1 hb, blk_kept h2 hb, own_kept h3 hb⟩

set_option maxHeartbeats 1000000 in
set_option maxRecDepth 100000 in
theorem tell_is {base R Q : Nat} (hRB : R < base) (hQB : Q < base) (hRQ : R < Q) (s : ByteArray) (hs : s.size ≤ 20000) (w : World) (hbase : base ≤ w.heap.size) (hT : Tell base R Q [] 0 w) :
    Calls Tryz.prog 224 #[.string s, .func (.func 225) #[] #[.pointer (some ⟨R, 0, none⟩), .pointer (some ⟨Q, 0, none⟩)]] w fun e w' =>
      e = .returned (.tuple #[]) ∧ Tell base R Q (Words.un (s.size + 1) s.data.toList 0) (Words.stop (s.size + 1) s.data.toList 0) w' ∧ Below R w w' := by
  have HT : Hid (Tell base R Q [] 0 w) := hT
  clear hT
  go_enter Tryz.func224, Tryz.ntmps224
  go_wp2
  go_loopw [4] (fun x wr => ∃ (a f : Nat) (ps : List (List UInt8)), x = .int .i64 (a : Int) ∧ a ≤ s.size ∧ ps.length ≤ a ∧ s.size < a + f ∧ Hid (ps ++ Words.un f s.data.toList a = Words.un (s.size + 1) s.data.toList 0 ∧ Words.stop f s.data.toList a = Words.stop (s.size + 1) s.data.toList 0) ∧ Hid (Tell base R Q ps a wr) ∧ base ≤ wr.heap.size ∧ Hid (Below R w wr))
    (fun x _ => s.size - (intOf x).toNat)
  case atStart => exact ⟨0, s.size + 1, [], rfl, by omega, by simp, by omega, ⟨rfl, rfl⟩, HT, hbase, Below.refl _ _⟩
  case round =>
    obtain ⟨a, f, ps, rfl, ha, hpl, hf, HE, HTr, hbr, HB⟩ := hrel
    cases hfit : Words.fit s.data.toList a with
    | none =>
      have HF : Hid (Words.fit s.data.toList a = none) := hfit
      clear hfit
      go_wp2_with (go_at_call 279; refine (framedAt_no s hs a ha HF.out _).mono ?_; rintro e w1 ⟨rfl, hb1⟩; unfold framedV)
      refine bodyPost_ret (v := .tuple #[]) (by simp [results, Tryz.results224, go_sem]) rfl ?_
      have U := Words.un_end f (Words.fr_none HF.out)
      have E := HE.out
      rw [U.1, U.2, List.append_nil] at E
      refine ⟨rfl, ?_, ?_⟩
      · rw [← E.1, ← E.2]; exact tell_kept HTr.out (((Below.refl _ _).trans hb1).alloc (hb1.size) _)
      · exact (HB.out.trans (hb1.mono (by omega))).alloc (by have := hb1.size; omega) _
    | some p =>
      obtain ⟨n, b⟩ := p
      have HF : Hid (Words.fit s.data.toList a = some (n, b)) := hfit
      obtain ⟨hr, hn1, hn2, hn3⟩ := Words.fit_some hfit
      obtain ⟨g1, g2, g3, g4, g5, g6⟩ := Words.rd_front hr
      rw [Words.size_list] at g3 g4 hn3
      clear hr hfit g5
      have hBs : (s.extract (b + 4) (b + 4 + n)).size ≤ 20000 := by rw [ByteArray.size_extract]; omega
      have hS := sum_iff s b n
      have HX : Hid ((s.extract (b + 4) (b + 4 + n)).data.toList = (s.data.toList.drop (b + 4)).take n) := ext_list s b n
      by_cases hw : (s.data.toList.drop b).take 4 = Sums.four (Sums.sumOf ((s.data.toList.drop (b + 4)).take n))
      · have HS : Hid (_ = true) := hS.trans (decide_eq_true hw)
        have HW : Hid (Words.fr s.data.toList a = some (_, _)) := Words.fr_whole HF.out hw
        clear hS hw
        obtain ⟨A, hA⟩ : ∃ A, A = s.extract b (b + 4) := ⟨_, rfl⟩
        obtain ⟨B, hB⟩ : ∃ B, B = s.extract (b + 4) (b + 4 + n) := ⟨_, rfl⟩
        obtain ⟨E, hE⟩ : ∃ E, E = b + 4 + n := ⟨_, rfl⟩
        have HFA : Hid (∀ w, Calls Tryz.prog 279 #[.string s, .int .i64 (a : Int)] w fun e w' => e = .returned (.tuple #[framedV A B (E : Int), .bool true]) ∧ Below w.heap.size w w') := fun w => by
          rw [hA, hB, hE]; exact framedAt_yes s hs a n b ha HF.out w
        rw [← hA, ← hB] at HS
        rw [← hB] at hBs HX
        have HW2 : Hid (Words.fr s.data.toList a = some (B.data.toList, E)) := by show _ = _; rw [HX.out, hE]; exact HW.out
        clear hA hB HX HW
        have hE1 : a < E := by omega
        have hE2 : E ≤ s.size := by omega
        clear hE g1 g2 g3 g4 g6 hn1 hn2 hn3
        go_wp2_with (go_at_call 279; refine (HFA.out _).mono ?_; rintro e w1 ⟨rfl, hb1⟩; unfold framedV)
        have hz1 := hb1.size
        have HT2 : Hid (Tell base R Q ps a (w1.alloc (.cells #[.string A, .string B, .int .i64 (E : Int)] 286))) := tell_kept HTr.out (hb1.alloc hb1.size _)
        have HB2 : Hid (Below R w (w1.alloc (.cells #[.string A, .string B, .int .i64 (E : Int)] 286))) := (HB.out.trans (hb1.mono (by omega))).alloc (by omega) _
        have HF2 : Hid ((w1.alloc (.cells #[.string A, .string B, .int .i64 (E : Int)] 286)).heap[w1.heap.size]? = some (.cells #[.string A, .string B, .int .i64 (E : Int)] 286 (0, 0))) := heap_alloc_new w1 _
        refine (yield_yes hRB hQB hRQ A B E hBs HS.out ps a (by omega) _ (by simp; omega) HT2.out).mono ?_
        rintro e w2 ⟨rfl, ht, hb2, hk⟩
        have cE : w2.cell? ⟨w1.heap.size, 2, none⟩ = some (.int .i64 (E : Int)) := blk_cell (hk _ _ HF2.out) rfl
        have HT3 : Hid (Tell base R Q (ps ++ [B.data.toList]) E w2) := ht
        have hz2 : base ≤ w2.heap.size := by have := hb2.size; simp at this; omega
        have HB3 : Hid (Below R w w2) := HB2.out.trans hb2
        clear ht hk hb2 HT2 HB2 HF2 hb1
        go_wp2
        go_roundw
        case rel =>
          obtain ⟨f', rfl⟩ : ∃ f', f = f' + 1 := ⟨f - 1, by omega⟩
          have U := Words.un_more f' HW2.out
          have E' := HE.out
          rw [U.1, U.2] at E'
          exact ⟨E, f', ps ++ [B.data.toList], rfl, hE2, by simp; omega, by omega, ⟨by rw [← E'.1]; simp, E'.2⟩, HT3, hz2, HB3⟩
        case measure => simp [intOf]; omega
      · have HS : Hid (_ = false) := hS.trans (decide_eq_false hw)
        have HW : Hid (Words.fr s.data.toList a = none) := Words.fr_torn HF.out hw
        clear hS hw
        obtain ⟨A, hA⟩ : ∃ A, A = s.extract b (b + 4) := ⟨_, rfl⟩
        obtain ⟨B, hB⟩ : ∃ B, B = s.extract (b + 4) (b + 4 + n) := ⟨_, rfl⟩
        have HFA : Hid (∀ w, Calls Tryz.prog 279 #[.string s, .int .i64 (a : Int)] w fun e w' => e = .returned (.tuple #[framedV A B ((b + 4 + n : Nat) : Int), .bool true]) ∧ Below w.heap.size w w') := fun w => by
          rw [hA, hB]; exact framedAt_yes s hs a n b ha HF.out w
        rw [← hA, ← hB] at HS
        rw [← hB] at hBs
        clear hA hB HX
        go_wp2_with (first | (go_at_call 279; refine (HFA.out _).mono ?_; rintro e w1 ⟨rfl, hb1⟩; unfold framedV) | (go_at_call 225; refine (yield_no R Q A B _ hBs HS.out _).mono ?_; rintro e w2 ⟨rfl, hb2⟩))
        refine bodyPost_ret (v := .tuple #[]) (by simp [results, Tryz.results224, go_sem]) rfl ?_
        have U := Words.un_end f HW.out
        have E := HE.out
        rw [U.1, U.2, List.append_nil] at E
        have hbz := hb1.size
        have hb3 : Below wr.heap.size wr w2 := (((Below.refl _ _).trans hb1).alloc hb1.size _).trans (hb2.mono (by simp; omega))
        refine ⟨rfl, ?_, ?_⟩
        · rw [← E.1, ← E.2]; exact tell_kept HTr.out hb3
        · exact HB.out.trans (hb3.mono (by omega))

def unT (v : Value) (z : Nat) : Value := .tuple #[v, .int .i64 (z : Int)]
theorem un_long {s : ByteArray} : (Words.un (s.size + 1) s.data.toList 0).length ≤ s.size := by
  have := Words.un_len (s.size + 1) s.data.toList 0
  rwa [Words.size_list] at this
theorem below2 (w : World) (o o' : Obj) : Below w.heap.size w ((w.alloc o).alloc o') := ((Below.refl _ _).alloc (Nat.le_refl _) o).alloc (by simp) o'

set_option maxHeartbeats 1000000 in
set_option maxRecDepth 100000 in
theorem implUn_big (s : ByteArray) (hs : 20000 < s.size) (h2 : s.size ≤ maxLen) (w : World) :
    Calls Tryz.prog 170 #[.string s] w fun e w' => e = .returned (.tuple #[.slice none 0 0, .int .i64 0]) ∧ Below w.heap.size w w' := by
  unfold maxLen at h2
  go_enter Tryz.func170, Tryz.ntmps170
  go_wp2
  go_ret2
  exact ⟨rfl, Below.refl _ _⟩

set_option maxHeartbeats 1000000 in
set_option maxRecDepth 100000 in
theorem implUn_is (s : ByteArray) (hs : s.size ≤ 20000) (w : World) :
    Calls Tryz.prog 170 #[.string s] w fun e w' => ∃ v, e = .returned (unT v (Words.stop (s.size + 1) s.data.toList 0)) ∧ w'.ownsRow w.heap.size 9 1 v (Words.un (s.size + 1) s.data.toList 0).length (cellsS (Words.un (s.size + 1) s.data.toList 0)) ∧ Below w.heap.size w w' := by
  have hmf : ∀ (fn : Fn) (first cap : Array Value) (w : World), (Instr.makeFunc fn first cap).run Tryz.prog w = .ok (.func fn first cap) w := fun _ _ _ _ => rfl
  go_enter Tryz.func170, Tryz.ntmps170
  go_wp2_with fail
  have hT0 : Tell (w.heap.size + 2) w.heap.size (w.heap.size + 1) [] 0 ((w.alloc (.cells #[.slice none 0 0] 158)).alloc (.cells #[.int .i64 0] 3)) :=
    ⟨.slice none 0 0, blk_alloc (heap_alloc_new w _) _, by have := heap_alloc_new (w.alloc (.cells #[.slice none 0 0] 158)) (.cells #[.int .i64 0] 3); simpa using this, World.ownsRow_nil _ _ _ _⟩
  refine (tell_is (by omega) (by omega) (by omega) s hs _ (by simp) hT0).mono ?_
  rintro e w1 ⟨rfl, ⟨v, h1, h2, h3⟩, hb1⟩
  clear hT0 hmf
  have c1 := cell_of_one h1
  have c2 := cell_of_one h2
  have HO : Hid (w1.ownsRow _ 9 1 v _ _) := h3
  obtain ⟨va, vc, hv⟩ := own_slice h3
  subst hv
  have HB : Hid (Below w.heap.size w w1) := (below2 w _ _).trans hb1
  clear h1 h2 h3 hb1
  go_wp2
  go_quiet (fail)
  go_wp2
  go_ret2
  exact ⟨_, rfl, own_mono (own_kept HO.out (below_drewN (Below.refl _ _) _)) (by omega), below_drewN HB.out _⟩
end Go.Proofs.YtbcfiiilikkkeaaGreatDoor
namespace Go.Proofs.YtbcfiiilikkkeaaGreatDoor
open Go.RowKit

theorem frameB_list (T : ByteArray) : (frameB T).data.toList = Words.frame T.data.toList := by
  unfold frameB Words.frame
  simp

set_option maxHeartbeats 1000000 in
set_option maxRecDepth 100000 in
theorem specUn_big (s : ByteArray) (hs : 20000 < s.size) (h2 : s.size ≤ maxLen) (w : World) :
    Calls Tryz.prog 114 #[.string s] w fun e w' => ∃ v, e = .returned (unT v 0) ∧ w'.ownsRow w.heap.size 9 1 v 0 [] ∧ Below w.heap.size w w' := by
  unfold maxLen at h2
  go_enter Tryz.func114, Tryz.ntmps114
  go_wp2
  go_ret2
  exact ⟨_, rfl, World.ownsRow_made w #[] 0 (Nat.le_refl _) (by unfold maxLen; omega) rfl, (Below.refl _ _).alloc (Nat.le_refl _) _⟩

set_option maxHeartbeats 2000000 in
set_option maxRecDepth 100000 in
theorem specUn_is (s : ByteArray) (hs : s.size ≤ 20000) (w : World) :
    Calls Tryz.prog 114 #[.string s] w fun e w' => ∃ v, e = .returned (unT v (Words.stop (s.size + 1) s.data.toList 0)) ∧ w'.ownsRow w.heap.size 9 1 v (Words.un (s.size + 1) s.data.toList 0).length (cellsS (Words.un (s.size + 1) s.data.toList 0)) ∧ Below w.heap.size w w' := by
  obtain ⟨i0, hi, hz0, hz1, hz2⟩ := info_parts Tryz.info9
  go_enter Tryz.func114, Tryz.ntmps114
  go_wp2
  go_loopw [4, 5] (fun v x wr => ∃ (a f : Nat) (ps : List (List UInt8)), x = .int .i64 (a : Int) ∧ a ≤ s.size ∧ ps.length ≤ a ∧ s.size < a + f ∧ Hid (ps ++ Words.un f s.data.toList a = Words.un (s.size + 1) s.data.toList 0 ∧ Words.stop f s.data.toList a = Words.stop (s.size + 1) s.data.toList 0) ∧ Hid (wr.ownsRow w.heap.size 9 1 v ps.length (cellsS ps)) ∧ Hid (Below w.heap.size w wr))
    (fun _ x _ => s.size - (intOf x).toNat)
  case atStart => exact ⟨0, s.size + 1, [], rfl, by omega, by simp, by omega, ⟨rfl, rfl⟩, World.ownsRow_made w #[] 0 (Nat.le_refl _) (by unfold maxLen; omega) rfl, (Below.refl _ _).alloc (Nat.le_refl _) _⟩
  case round =>
    obtain ⟨a, f, ps, rfl, ha, hpl, hf, HE, HO, HB⟩ := hrel
    obtain ⟨va, vc, rfl⟩ := own_slice HO.out
    have HEnd : Hid (Words.fr s.data.toList a = none → ∀ w', Below wr.heap.size wr w' → ∃ v, Ending.returned (.tuple #[.slice va ps.length vc, .int .i64 (a : Int)]) = .returned (unT v (Words.stop (s.size + 1) s.data.toList 0)) ∧ w'.ownsRow w.heap.size 9 1 v (Words.un (s.size + 1) s.data.toList 0).length (cellsS (Words.un (s.size + 1) s.data.toList 0)) ∧ Below w.heap.size w w') := fun hn w' hb => by
      have U := Words.un_end f hn
      have E := HE.out
      rw [U.1, U.2, List.append_nil] at E
      exact ⟨_, by rw [← E.2]; rfl, by rw [← E.1]; exact own_kept HO.out hb, HB.out.trans (hb.mono HB.out.size)⟩
    by_cases hlt : a < s.size
    · have hlti : (a : Int) < (s.size : Int) := by omega
      cases hrd : Words.rd s.data.toList a with
      | none =>
        have HR : Hid (rdZ s (a : Int) = none) := by show _ = _; rw [rdZ_nat s a ha]; exact hrd
        have HF : Hid (Words.fit s.data.toList a = none) := by show _ = _; unfold Words.fit; rw [hrd]
        clear hrd
        go_wp2_with (go_at_call 173; refine (specRead_none (by omega) HR.out _).mono ?_; rintro e w1 ⟨rfl, hb1⟩)
        go_ret2
        exact HEnd.out (Words.fr_none HF.out) _ hb1
      | some p =>
        obtain ⟨n, b⟩ := p
        have HR : Hid (rdZ s (a : Int) = some (n, b)) := by show _ = _; rw [rdZ_nat s a ha]; exact hrd
        obtain ⟨g1, g2, g3, g4, g5, g6⟩ := Words.rd_front hrd
        rw [Words.size_list] at g3 g4
        have HFI : Hid (Words.fit s.data.toList a = if 1 ≤ n ∧ n ≤ 9000 ∧ b + 4 + n ≤ s.size then some (n, b) else none) := by show _ = _; unfold Words.fit; rw [hrd]; rfl
        clear hrd g5 g4
        by_cases hfit : b + 4 + n ≤ s.size
        · have hle : (n : Int) ≤ (s.size : Int) - (b : Int) - 4 := by omega
          obtain ⟨T, hT⟩ : ∃ T, T = s.extract (b + 4) (b + 4 + n) := ⟨_, rfl⟩
          have hTs : T.size = n := by rw [hT, ByteArray.size_extract]; omega
          have hs2 : ∀ wx, (Instr.slice 9 (.string s) (some (.int .i64 ((b : Int) + 4))) (some (.int .i64 ((b : Int) + 4 + (n : Int)))) none).run Tryz.prog wx = .ok (.string T) wx := fun wx => by
            rw [run_slice_string wx 9 s .i64 .i64 _ _ Tryz.underlying9 (by omega) (by omega) (by omega), show ((b : Int) + 4).toNat = b + 4 from by omega, show ((b : Int) + 4 + (n : Int)).toNat = b + 4 + n from by omega, hT]
          by_cases hn : 1 ≤ n ∧ n ≤ 9000
          · have HF : Hid (Words.fit s.data.toList a = some (n, b)) := by show _ = _; rw [HFI.out, if_pos ⟨hn.1, hn.2, hfit⟩]
            obtain ⟨G, hG⟩ : ∃ G, G = frameB T := ⟨_, rfl⟩
            obtain ⟨S2, hS2⟩ : ∃ S2, S2 = s.extract a (b + 4 + n) := ⟨_, rfl⟩
            have hs3 : ∀ wx, (Instr.slice 9 (.string s) (some (.int .i64 (a : Int))) (some (.int .i64 ((b : Int) + 4 + (n : Int)))) none).run Tryz.prog wx = .ok (.string S2) wx := fun wx => by
              rw [run_slice_string wx 9 s .i64 .i64 _ _ Tryz.underlying9 (by omega) (by omega) (by omega), show ((b : Int) + 4 + (n : Int)).toNat = b + 4 + n from by omega, Int.toNat_natCast, hS2]
            have HFY : Hid (∀ w, Calls Tryz.prog 60 #[.string T] w fun e w' => e = .returned (.tuple #[.string G, .bool true]) ∧ Below w.heap.size w w') := fun w => by
              rw [hG]; exact specFrame_yes T (by omega) (by omega) w
            have hTl : T.data.toList = (s.data.toList.drop (b + 4)).take n := by rw [hT]; exact ext_list s b n
            have hcmp : (G.toList == S2.toList) = decide ((s.data.toList.drop b).take 4 = Sums.four (Sums.sumOf ((s.data.toList.drop (b + 4)).take n))) := by
              rw [Bool.eq_iff_iff, beq_iff_eq, decide_eq_true_iff, ← Words.frame_iff HF.out, ByteArray.toList_eq, ByteArray.toList_eq, hG, hS2, Words.extract_list, frameB_list, hTl]
            have HTL : Hid (_ = _) := hTl
            by_cases hw : (s.data.toList.drop b).take 4 = Sums.four (Sums.sumOf ((s.data.toList.drop (b + 4)).take n))
            · have hcb : (G.toList == S2.toList) = true := hcmp.trans (decide_eq_true hw)
              have HW : Hid (Words.fr s.data.toList a = some (T.data.toList, b + 4 + n)) := by show _ = _; rw [hTl]; exact Words.fr_whole HF.out hw
              clear hT hG hS2 hTl hcmp hw HFI
              have hz0' := HB.out.size
              go_wp2_with (first | (go_at_call 173; refine (specRead_some (by omega) HR.out _).mono ?_; rintro e w1 ⟨rfl, hb1⟩) | (go_at_call 60; refine (HFY.out _).mono ?_; rintro e w2 ⟨rfl, hb2⟩; have HO2 : Hid (w2.ownsRow w.heap.size 9 1 (.slice va ps.length vc) ps.length (cellsS ps)) := own_kept (own_kept HO.out hb1) hb2; have hz2' : w.heap.size ≤ w2.heap.size := Nat.le_trans hz0' (Nat.le_trans hb1.size hb2.size)) | (at_builtin; refine wpList_append_own _ rfl _ _ 158 rfl w.heap.size 9 i0 (.string ⟨#[]⟩) 1 16 Tryz.underlying158 hi hz0 hz1 hz2 rfl (by decide) _ _ _ rfl (HO2.out.alloc _) ⟨w2.heap.size, 0, none⟩ 1 1 [.string T] rfl rfl ?c1 ?c2 ?c3 ?c4 ?c5 ?_))
              case c1 =>
                intro j u hj
                match j, hj with
                | 0, hj => simp at hj; subst hj; simp [Addr.add]
              case c2 => intro u hu; simp at hu; subst hu; rfl
              case c3 => unfold maxLen; omega
              case c4 => omega
              case c5 => simp; omega
              intro v' w3 hown3 hgrow _
              have HO3 : Hid (w3.ownsRow w.heap.size 9 1 v' (ps ++ [T.data.toList]).length (cellsS (ps ++ [T.data.toList]))) := by
                show World.ownsRow _ _ _ _ _ _ _
                rw [cellsS_app, List.length_append]; exact hown3
              have HB3 : Hid (Below w.heap.size w w3) := ((HB.out.trans ((hb1.trans (hb2.mono hb1.size)).mono hz0')).alloc hz2' _).grown hgrow (by simp; omega) (fun j hj => (HO2.out.lt j hj).1)
              clear hown3 hgrow hb1 hb2 HO2
              go_wp2
              go_roundw
              case rel =>
                obtain ⟨f', rfl⟩ : ∃ f', f = f' + 1 := ⟨f - 1, by omega⟩
                have U := Words.un_more f' HW.out
                have E' := HE.out
                rw [U.1, U.2] at E'
                exact ⟨b + 4 + n, f', ps ++ [T.data.toList], by go_num, hfit, by simp; omega, by omega, ⟨by rw [← E'.1]; simp, E'.2⟩, HO3, HB3⟩
              case measure => simp [intOf]; omega
            · have hcb : (G.toList == S2.toList) = false := hcmp.trans (decide_eq_false hw)
              have HW : Hid (Words.fr s.data.toList a = none) := Words.fr_torn HF.out hw
              clear hT hG hS2 hTl hcmp hw HFI
              go_wp2_with (first | (go_at_call 173; refine (specRead_some (by omega) HR.out _).mono ?_; rintro e w1 ⟨rfl, hb1⟩) | (go_at_call 60; refine (HFY.out _).mono ?_; rintro e w2 ⟨rfl, hb2⟩))
              go_ret2
              exact HEnd.out HW.out _ (hb1.trans (hb2.mono hb1.size))
          · have HF : Hid (Words.fit s.data.toList a = none) := by show _ = _; rw [HFI.out, if_neg (fun h => hn ⟨h.1, h.2.1⟩)]
            have hTn : ¬ (1 ≤ T.size ∧ T.size ≤ 9000) := by rw [hTs]; exact hn
            have hTm : T.size ≤ maxLen := by unfold maxLen; omega
            clear hT hn HFI
            go_wp2_with (first | (go_at_call 173; refine (specRead_some (by omega) HR.out _).mono ?_; rintro e w1 ⟨rfl, hb1⟩) | (go_at_call 60; refine (specFrame_no T hTm hTn _).mono ?_; rintro e w2 ⟨rfl, hb2⟩))
            go_ret2
            exact HEnd.out (Words.fr_none HF.out) _ (hb1.trans (hb2.mono hb1.size))
        · have hle : (s.size : Int) - (b : Int) - 4 < (n : Int) := by omega
          have HF : Hid (Words.fit s.data.toList a = none) := by show _ = _; rw [HFI.out, if_neg (fun h => hfit h.2.2)]
          clear HFI hfit
          go_wp2_with (go_at_call 173; refine (specRead_some (by omega) HR.out _).mono ?_; rintro e w1 ⟨rfl, hb1⟩)
          go_ret2
          exact HEnd.out (Words.fr_none HF.out) _ hb1
    · have hlti : ¬ (a : Int) < (s.size : Int) := by omega
      have HF : Hid (Words.fit s.data.toList a = none) := by
        show _ = _
        cases h : Words.fit s.data.toList a with
        | none => rfl
        | some p =>
          obtain ⟨n, b⟩ := p
          have := (Words.rd_front (Words.fit_some h).1).2.2.2.1
          rw [Words.size_list] at this
          exact absurd this hlt
      go_wp2
      go_ret2
      exact HEnd.out (Words.fr_none HF.out) _ (Below.refl _ _)
end Go.Proofs.YtbcfiiilikkkeaaGreatDoor
namespace Go.Proofs.YtbcfiiilikkkeaaGreatDoor
open Go.RowKit

/-- What Unframe answers. -/
def unS (s : ByteArray) : List (List UInt8) := if s.size ≤ 20000 then Words.un (s.size + 1) s.data.toList 0 else []
def unE (s : ByteArray) : Nat := if s.size ≤ 20000 then Words.stop (s.size + 1) s.data.toList 0 else 0
theorem unS_len (s : ByteArray) : (unS s).length ≤ 20000 := by
  unfold unS
  split
  · have := @un_long s; omega
  · simp
def UnPost (ps : List (List UInt8)) (z : Nat) (w : World) (e : Ending) (w' : World) : Prop := ∃ v, e = .returned (.tuple #[v, .int .i64 (z : Int)]) ∧ w'.ownsRow w.heap.size 9 1 v ps.length (cellsS ps) ∧ Below w.heap.size w w'
theorem implUn_any (s : ByteArray) (hs : s.size ≤ maxLen) (w : World) : Calls Tryz.prog 170 #[.string s] w fun e w' => UnPost (unS s) (unE s) w e w' := by
  by_cases h : s.size ≤ 20000
  · have := implUn_is s h w
    unfold unS unE
    rw [if_pos h, if_pos h]
    exact this
  · unfold unS unE
    rw [if_neg h, if_neg h]
    refine (implUn_big s (by omega) hs w).mono ?_
    rintro e w' ⟨rfl, hb⟩
    exact ⟨_, rfl, World.ownsRow_nil _ _ _ _, hb⟩
theorem specUn_any (s : ByteArray) (hs : s.size ≤ maxLen) (w : World) : Calls Tryz.prog 114 #[.string s] w fun e w' => UnPost (unS s) (unE s) w e w' := by
  by_cases h : s.size ≤ 20000
  · have := specUn_is s h w
    unfold unS unE
    rw [if_pos h, if_pos h]
    exact this
  · unfold unS unE
    rw [if_neg h, if_neg h]
    exact specUn_big s (by omega) hs w
end Go.Proofs.YtbcfiiilikkkeaaGreatDoor
