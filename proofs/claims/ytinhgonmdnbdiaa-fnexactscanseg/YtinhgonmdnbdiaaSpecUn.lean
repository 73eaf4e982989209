/- The call of the document's Unframe, walked: the records of the whole frames, and the place behind the last. -/
import Derived.Test.YtinhgonmdnbdiaaTell
namespace Go.Proofs.Ytinhgonmdnbdiaa
open Go.RowKit

theorem frameB_list (T : ByteArray) : (frameB T).data.toList = Words.frame T.data.toList := by
  unfold frameB Words.frame
  simp

set_option maxHeartbeats 1000000 in
set_option maxRecDepth 100000 in
theorem specUn_big (s : ByteArray) (hs : 20000 < s.size) (h2 : s.size ≤ maxLen) (w : World) :
    Calls Try.prog 26 #[.string s] w fun e w' => ∃ v, e = .returned (unT v 0) ∧ w'.ownsRow w.heap.size 9 1 v 0 [] ∧ Below w.heap.size w w' := by
  unfold maxLen at h2
  go_enter Try.func26, Try.ntmps26
  go_wp2
  go_ret2
  exact ⟨_, rfl, World.ownsRow_made w #[] 0 (Nat.le_refl _) (by unfold maxLen; omega) rfl, (Below.refl _ _).alloc (Nat.le_refl _) _⟩

set_option maxHeartbeats 2000000 in
set_option maxRecDepth 100000 in
theorem specUn_is (s : ByteArray) (hs : s.size ≤ 20000) (w : World) :
    Calls Try.prog 26 #[.string s] w fun e w' => ∃ v, e = .returned (unT v (Words.stop (s.size + 1) s.data.toList 0)) ∧ w'.ownsRow w.heap.size 9 1 v (Words.un (s.size + 1) s.data.toList 0).length (cellsS (Words.un (s.size + 1) s.data.toList 0)) ∧ Below w.heap.size w w' := by
  obtain ⟨i0, hi, hz0, hz1, hz2⟩ := info_parts Try.info9
  go_enter Try.func26, Try.ntmps26
  go_wp2
  go_loopw [4, 5] (fun v x wr => ∃ (a f : Nat) (ps : List (List UInt8)), x = .int .i64 (a : Int) ∧ a ≤ s.size ∧ ps.length ≤ a ∧ s.size < a + f ∧ Hid (ps ++ Words.un f s.data.toList a = Words.un (s.size + 1) s.data.toList 0 ∧ Words.stop f s.data.toList a = Words.stop (s.size + 1) s.data.toList 0) ∧ Hid (wr.ownsRow w.heap.size 9 1 v ps.length (cellsS ps)) ∧ Hid (Below w.heap.size w wr))
    (fun _ x _ => s.size - (intOf x).toNat)
  case atStart => exact ⟨0, s.size + 1, [], rfl, by omega, by simp, by omega, ⟨rfl, rfl⟩, World.ownsRow_made w #[] 0 (Nat.le_refl _) (by unfold maxLen; omega) rfl, (Below.refl _ _).alloc (Nat.le_refl _) _⟩
  case round =>
    obtain ⟨a, f, ps, rfl, ha, hpl, hf, HE, HO, HB⟩ := hrel
    obtain ⟨va, vc, rfl⟩ := own_slice HO.out
    have HEnd : Hid (Words.fr s.data.toList a = none → ∀ w', Below wr.heap.size wr w' → ∃ v, Ending.returned (.tuple #[.slice va ps.length vc, .int .i64 (a : Int)]) = .returned (unT v (Words.stop (s.size + 1) s.data.toList 0)) ∧ w'.ownsRow w.heap.size 9 1 v (Words.un (s.size + 1) s.data.toList 0).length (cellsS (Words.un (s.size + 1) s.data.toList 0)) ∧ Below w.heap.size w w') := fun hn w' hb => by
      have U := Words.un_end f hn
      have E := HE.out
      rw [U.1, U.2, List.append_nil] at E
      exact ⟨_, by rw [← E.2]; rfl, by rw [← E.1]; exact own_kept HO.out hb, HB.out.trans (hb.mono HB.out.size)⟩
    by_cases hlt : a < s.size
    · have hlti : (a : Int) < (s.size : Int) := by omega
      cases hrd : Words.rd s.data.toList a with
      | none =>
        have HR : Hid (rdZ s (a : Int) = none) := by show _ = _; rw [rdZ_nat s a ha]; exact hrd
        have HF : Hid (Words.fit s.data.toList a = none) := by show _ = _; unfold Words.fit; rw [hrd]
        clear hrd
        go_wp2_with (go_at_call 53; refine (specRead_none (by omega) HR.out _).mono ?_; rintro e w1 ⟨rfl, hb1⟩)
        go_ret2
        exact HEnd.out (Words.fr_none HF.out) _ hb1
      | some p =>
        obtain ⟨n, b⟩ := p
        have HR : Hid (rdZ s (a : Int) = some (n, b)) := by show _ = _; rw [rdZ_nat s a ha]; exact hrd
        obtain ⟨g1, g2, g3, g4, g5, g6⟩ := Words.rd_front hrd
        rw [Words.size_list] at g3 g4
        have HFI : Hid (Words.fit s.data.toList a = if 1 ≤ n ∧ n ≤ 9000 ∧ b + 4 + n ≤ s.size then some (n, b) else none) := by show _ = _; unfold Words.fit; rw [hrd]; rfl
        clear hrd g5 g4
        by_cases hfit : b + 4 + n ≤ s.size
        · have hle : (n : Int) ≤ (s.size : Int) - (b : Int) - 4 := by omega
          obtain ⟨T, hT⟩ : ∃ T, T = s.extract (b + 4) (b + 4 + n) := ⟨_, rfl⟩
          have hTs : T.size = n := by rw [hT, ByteArray.size_extract]; omega
          have hs2 : ∀ wx, (Instr.slice 9 (.string s) (some (.int .i64 ((b : Int) + 4))) (some (.int .i64 ((b : Int) + 4 + (n : Int)))) none).run Try.prog wx = .ok (.string T) wx := fun wx => by
            rw [run_slice_string wx 9 s .i64 .i64 _ _ Try.underlying9 (by omega) (by omega) (by omega), show ((b : Int) + 4).toNat = b + 4 from by omega, show ((b : Int) + 4 + (n : Int)).toNat = b + 4 + n from by omega, hT]
          by_cases hn : 1 ≤ n ∧ n ≤ 9000
          · have HF : Hid (Words.fit s.data.toList a = some (n, b)) := by show _ = _; rw [HFI.out, if_pos ⟨hn.1, hn.2, hfit⟩]
            obtain ⟨G, hG⟩ : ∃ G, G = frameB T := ⟨_, rfl⟩
            obtain ⟨S2, hS2⟩ : ∃ S2, S2 = s.extract a (b + 4 + n) := ⟨_, rfl⟩
            have hs3 : ∀ wx, (Instr.slice 9 (.string s) (some (.int .i64 (a : Int))) (some (.int .i64 ((b : Int) + 4 + (n : Int)))) none).run Try.prog wx = .ok (.string S2) wx := fun wx => by
              rw [run_slice_string wx 9 s .i64 .i64 _ _ Try.underlying9 (by omega) (by omega) (by omega), show ((b : Int) + 4 + (n : Int)).toNat = b + 4 + n from by omega, Int.toNat_natCast, hS2]
            have HFY : Hid (∀ w, Calls Try.prog 28 #[.string T] w fun e w' => e = .returned (.tuple #[.string G, .bool true]) ∧ Below w.heap.size w w') := fun w => by
              rw [hG]; exact specFrame_yes T (by omega) (by omega) w
            have hTl : T.data.toList = (s.data.toList.drop (b + 4)).take n := by rw [hT]; exact ext_list s b n
            have hcmp : (G.toList == S2.toList) = decide ((s.data.toList.drop b).take 4 = Sums.four (Sums.sumOf ((s.data.toList.drop (b + 4)).take n))) := by
              rw [Bool.eq_iff_iff, beq_iff_eq, decide_eq_true_iff, ← Words.frame_iff HF.out, ByteArray.toList_eq, ByteArray.toList_eq, hG, hS2, Words.extract_list, frameB_list, hTl]
            have HTL : Hid (_ = _) := hTl
            by_cases hw : (s.data.toList.drop b).take 4 = Sums.four (Sums.sumOf ((s.data.toList.drop (b + 4)).take n))
            · have hcb : (G.toList == S2.toList) = true := hcmp.trans (decide_eq_true hw)
              have HW : Hid (Words.fr s.data.toList a = some (T.data.toList, b + 4 + n)) := by show _ = _; rw [hTl]; exact Words.fr_whole HF.out hw
              clear hT hG hS2 hTl hcmp hw HFI
              have hz0' := HB.out.size
              go_wp2_with (first | (go_at_call 53; refine (specRead_some (by omega) HR.out _).mono ?_; rintro e w1 ⟨rfl, hb1⟩) | (go_at_call 28; refine (HFY.out _).mono ?_; rintro e w2 ⟨rfl, hb2⟩; have HO2 : Hid (w2.ownsRow w.heap.size 9 1 (.slice va ps.length vc) ps.length (cellsS ps)) := own_kept (own_kept HO.out hb1) hb2; have hz2' : w.heap.size ≤ w2.heap.size := Nat.le_trans hz0' (Nat.le_trans hb1.size hb2.size)) | (at_builtin; refine wpList_append_own _ rfl _ _ 23 rfl w.heap.size 9 i0 (.string ⟨#[]⟩) 1 16 Try.underlying23 hi hz0 hz1 hz2 rfl (by decide) _ _ _ rfl (HO2.out.alloc _) ⟨w2.heap.size, 0, none⟩ 1 1 [.string T] rfl rfl ?c1 ?c2 ?c3 ?c4 ?c5 ?_))
              case c1 =>
                intro j u hj
                match j, hj with
                | 0, hj => simp at hj; subst hj; simp [Addr.add]
              case c2 => intro u hu; simp at hu; subst hu; rfl
              case c3 => unfold maxLen; omega
              case c4 => omega
              case c5 => simp; omega
              intro v' w3 hown3 hgrow _
              have HO3 : Hid (w3.ownsRow w.heap.size 9 1 v' (ps ++ [T.data.toList]).length (cellsS (ps ++ [T.data.toList]))) := by
                show World.ownsRow _ _ _ _ _ _ _
                rw [cellsS_app, List.length_append]; exact hown3
              have HB3 : Hid (Below w.heap.size w w3) := ((HB.out.trans ((hb1.trans (hb2.mono hb1.size)).mono hz0')).alloc hz2' _).grown hgrow (by simp; omega) (fun j hj => (HO2.out.lt j hj).1)
              clear hown3 hgrow hb1 hb2 HO2
              go_wp2
              go_roundw
              case rel =>
                obtain ⟨f', rfl⟩ : ∃ f', f = f' + 1 := ⟨f - 1, by omega⟩
                have U := Words.un_more f' HW.out
                have E' := HE.out
                rw [U.1, U.2] at E'
                exact ⟨b + 4 + n, f', ps ++ [T.data.toList], by go_num, hfit, by simp; omega, by omega, ⟨by rw [← E'.1]; simp, E'.2⟩, HO3, HB3⟩
              case measure => simp [intOf]; omega
            · have hcb : (G.toList == S2.toList) = false := hcmp.trans (decide_eq_false hw)
              have HW : Hid (Words.fr s.data.toList a = none) := Words.fr_torn HF.out hw
              clear hT hG hS2 hTl hcmp hw HFI
              go_wp2_with (first | (go_at_call 53; refine (specRead_some (by omega) HR.out _).mono ?_; rintro e w1 ⟨rfl, hb1⟩) | (go_at_call 28; refine (HFY.out _).mono ?_; rintro e w2 ⟨rfl, hb2⟩))
              go_ret2
              exact HEnd.out HW.out _ (hb1.trans (hb2.mono hb1.size))
          · have HF : Hid (Words.fit s.data.toList a = none) := by show _ = _; rw [HFI.out, if_neg (fun h => hn ⟨h.1, h.2.1⟩)]
            have hTn : ¬ (1 ≤ T.size ∧ T.size ≤ 9000) := by rw [hTs]; exact hn
            have hTm : T.size ≤ maxLen := by unfold maxLen; omega
            clear hT hn HFI
            go_wp2_with (first | (go_at_call 53; refine (specRead_some (by omega) HR.out _).mono ?_; rintro e w1 ⟨rfl, hb1⟩) | (go_at_call 28; refine (specFrame_no T hTm hTn _).mono ?_; rintro e w2 ⟨rfl, hb2⟩))
            go_ret2
            exact HEnd.out (Words.fr_none HF.out) _ (hb1.trans (hb2.mono hb1.size))
        · have hle : (s.size : Int) - (b : Int) - 4 < (n : Int) := by omega
          have HF : Hid (Words.fit s.data.toList a = none) := by show _ = _; rw [HFI.out, if_neg (fun h => hfit h.2.2)]
          clear HFI hfit
          go_wp2_with (go_at_call 53; refine (specRead_some (by omega) HR.out _).mono ?_; rintro e w1 ⟨rfl, hb1⟩)
          go_ret2
          exact HEnd.out (Words.fr_none HF.out) _ hb1
    · have hlti : ¬ (a : Int) < (s.size : Int) := by omega
      have HF : Hid (Words.fit s.data.toList a = none) := by
        show _ = _
        cases h : Words.fit s.data.toList a with
        | none => rfl
        | some p =>
          obtain ⟨n, b⟩ := p
          have := (Words.rd_front (Words.fit_some h).1).2.2.2.1
          rw [Words.size_list] at this
          exact absurd this hlt
      go_wp2
      go_ret2
      exact HEnd.out (Words.fr_none HF.out) _ (Below.refl _ _)
end Go.Proofs.Ytinhgonmdnbdiaa
