/- The exact law of Whole, walked. -/
import Derived.Test.YtddmogggdckneaaSpecWhole
import Derived.Test.YtddmogggdckneaaOLd
namespace Go.Proofs.Ytddmogggdckneaa
open Go.RowKit
set_option linter.unusedVariables false
set_option linter.unusedSimpArgs false
set_option maxHeartbeats 8000000 in
set_option maxRecDepth 100000 in
theorem lawWhole_any {a : Option Addr} {g off cap : Nat} (cs : List LcL) (l : List LdL) (r : ApL) (hlen : l.length ≤ maxLen) (hr : ∀ d ∈ l, rightLd d) (hra : smallAp maxLen r) (hi : okIdx r) (w : World) (hf : LdAt w a g off cs l) :
    Calls Try.prog 7 #[.slice a l.length cap, apV r] w fun e w' => e = .returned (.bool true) ∧ Below w.heap.size w w' := by
  have HF : Hid (LdAt w a g off cs l) := hf
  have HS : Hid (∀ r ∈ l, smallLd maxLen r) := fun r h => (hr r h).1
  have HL : Hid (l.length ≤ maxLen) := hlen
  have HI : Hid (okIdx r) := hi
  have hsa : ∀ (left : Nat), left ≤ 1048576 → ∀ X, Calls Try.prog 29 #[apV r, .int .i64 (left : Int)] X fun e w' => ∃ x : Int, e = .returned (.int .i64 x) ∧ Left left (totAp1 r) x ∧ Below X.heap.size X w' := fun left hl X => szAp1_is r hra left hl X
  have hta : ∀ X, Calls Try.prog 31 #[apV r] X fun e w' => e = .returned (apV r) ∧ Below X.heap.size X w' := fun X => toAp1_is r X
  obtain ⟨TA, hTA⟩ : ∃ TA, TA = totAp1 r := ⟨_, rfl⟩
  simp only [← hTA] at hsa
  obtain ⟨RV, hRV⟩ : ∃ RV, RV = r := ⟨_, rfl⟩
  have HRV : Hid (RV = r) := hRV
  clear hf hr hlen hi hra hTA
  obtain ⟨P0, P1, P2, P3, P4, P5⟩ := r
  rw [apV_eq] at hsa hta ⊢
  have HSA : Hid (∀ (left : Nat), left ≤ 1048576 → ∀ X, _) := hsa
  have HTA : Hid (∀ X, _) := hta
  clear hsa hta hRV
  obtain ⟨W, hW⟩ : ∃ W, W = w.alloc (Obj.cells #[.int .i64 P0, .int .i64 P1, .int .i64 P2, .int .i64 P3, .int .i64 P4, .string P5] 60) := ⟨_, rfl⟩
  have hWb : Below w.heap.size w W := by rw [hW]; exact (Below.refl _ _).alloc (Nat.le_refl _) _
  have hq : W.heap[w.heap.size]? = some (.cells #[.int .i64 P0, .int .i64 P1, .int .i64 P2, .int .i64 P3, .int .i64 P4, .string P5] 60 (0, 0)) := by rw [hW]; exact heap_alloc_new w _
  have HC : Hid (∀ X, Below W.heap.size W X → (X.cell? ⟨w.heap.size, 0, none⟩ = some (.int .i64 P0) ∧ X.cell? ⟨w.heap.size, 1, none⟩ = some (.int .i64 P1) ∧ X.cell? ⟨w.heap.size, 2, none⟩ = some (.int .i64 P2) ∧ X.cell? ⟨w.heap.size, 3, none⟩ = some (.int .i64 P3) ∧ X.cell? ⟨w.heap.size, 4, none⟩ = some (.int .i64 P4) ∧ X.cell? ⟨w.heap.size, 5, none⟩ = some (.string P5))) := fun X h => by
    have hh := (h.block _ (Array.getElem?_eq_some_iff.1 hq).1).trans hq
    exact ⟨cell_of_row _ _ 0 _ _ _ hh, cell_of_row _ _ 1 _ _ _ hh, cell_of_row _ _ 2 _ _ _ hh, cell_of_row _ _ 3 _ _ _ hh, cell_of_row _ _ 4 _ _ _ hh, cell_of_row _ _ 5 _ _ _ hh⟩
  have HWB : Hid (Below w.heap.size w W) := hWb
  clear hq hWb
  go_enter Try.func7, Try.ntmps7
  go_wp2_with fail
  rw [← hW]
  clear hW
  refine (szLdS_is cs l HL.out HS.out 1048576 (Nat.le_refl _) W (HF.out.kept HWB.out)).mono ?_
  rintro e w1 ⟨x, rfl, hx, hb1⟩
  have HC1 : Hid (Below W.heap.size W w1) := hb1
  clear hb1
  rcases hx with ⟨hx1, hx2⟩ | ⟨hx1, hx2⟩
  · obtain ⟨Y, hY⟩ : ∃ Y : Nat, Y = 1048576 - totLd l := ⟨_, rfl⟩
    rw [← hY] at hx2
    subst hx2
    have hYb : Y ≤ 1048576 := by omega
    clear hY
    obtain ⟨hl, hs⟩ := totLd_small hx1
    have HB2 : Hid (∀ r ∈ l, smallLd 1048576 r) := hs
    clear hx1 hs
    obtain ⟨q0, q1, q2, q3, q4, q5⟩ := HC.out w1 HC1.out
    go_wp2_with fail
    refine (HSA.out Y hYb w1).mono ?_
    rintro e w2 ⟨x, rfl, hx, hb2⟩
    have HC2 : Hid (Below W.heap.size W w2) := HC1.out.trans (hb2.mono HC1.out.size)
    clear q0 q1 q2 q3 q4 q5 hb2 HC1
    rcases hx with ⟨hx1, hx2⟩ | ⟨hx1, hx2⟩
    · obtain ⟨Z, hZ⟩ : ∃ Z : Nat, Z = Y - TA := ⟨_, rfl⟩
      rw [← hZ] at hx2
      subst hx2
      clear hZ hx1
      obtain ⟨R, hR⟩ : ∃ R, R = wholeB l RV := ⟨_, rfl⟩
      have HSP : Hid (∀ (X : World) (g1 : Nat) (ds : List LcL), LdAt X (some ⟨g1, 0, none⟩) g1 0 ds l → Calls Try.prog 30 #[.slice (some ⟨g1, 0, none⟩) l.length l.length, .agg #[.int .i64 P0, .int .i64 P1, .int .i64 P2, .int .i64 P3, .int .i64 P4, .string P5]] X fun e w' => e = .returned (.bool R) ∧ Below X.heap.size X w') := fun X g1 ds h => by rw [hR, HRV.out]; exact specWhole_is ds l ⟨P0, P1, P2, P3, P4, P5⟩ hl HB2.out HI.out X h
      have HIM : Hid (∀ (X : World) (g1 : Nat) (ds : List LcL), LdAt X (some ⟨g1, 0, none⟩) g1 0 ds l → Calls Try.prog 32 #[.slice (some ⟨g1, 0, none⟩) l.length l.length, .agg #[.int .i64 P0, .int .i64 P1, .int .i64 P2, .int .i64 P3, .int .i64 P4, .string P5]] X fun e w' => e = .returned (.bool R) ∧ Below X.heap.size X w') := fun X g1 ds h => by rw [hR, HRV.out]; exact implWhole_is ds l ⟨P0, P1, P2, P3, P4, P5⟩ hl HB2.out HI.out X h
      have HTO : Hid (∀ X, Below W.heap.size W X → Calls Try.prog 26 #[.slice a l.length cap] X (CopyLdS X l)) := fun X h => toLdS_is cs l hl HB2.out X (HF.out.kept (HWB.out.trans (h.mono HWB.out.size)))
      clear hR
      have HX : Hid (∀ X, Below w2.heap.size w2 X → (X.cell? ⟨w.heap.size, 0, none⟩ = some (.int .i64 P0) ∧ X.cell? ⟨w.heap.size, 1, none⟩ = some (.int .i64 P1) ∧ X.cell? ⟨w.heap.size, 2, none⟩ = some (.int .i64 P2) ∧ X.cell? ⟨w.heap.size, 3, none⟩ = some (.int .i64 P3) ∧ X.cell? ⟨w.heap.size, 4, none⟩ = some (.int .i64 P4) ∧ X.cell? ⟨w.heap.size, 5, none⟩ = some (.string P5))) := fun X h => HC.out X (HC2.out.trans (h.mono HC2.out.size))
      obtain ⟨q0, q1, q2, q3, q4, q5⟩ := HC.out w2 HC2.out
      go_wp2_with fail
      go_region_held3 (fun X => X.cell? ⟨w.heap.size, 0, none⟩ = some (.int .i64 P0) ∧ X.cell? ⟨w.heap.size, 1, none⟩ = some (.int .i64 P1) ∧ X.cell? ⟨w.heap.size, 2, none⟩ = some (.int .i64 P2) ∧ X.cell? ⟨w.heap.size, 3, none⟩ = some (.int .i64 P3) ∧ X.cell? ⟨w.heap.size, 4, none⟩ = some (.int .i64 P4) ∧ X.cell? ⟨w.heap.size, 5, none⟩ = some (.string P5))
        (first | go_keep | exact HX.out _ ((Below.refl _ _).drew.trans hba) | exact HX.out _ (((Below.refl _ _).drew.trans hba).trans (hbb.mono ((Below.refl _ _).drew.trans hba).size)) | exact HX.out _ ((((Below.refl _ _).drew.trans hba).trans (hbb.mono ((Below.refl _ _).drew.trans hba).size)).trans (hbc.mono (((Below.refl _ _).drew.trans hba).trans (hbb.mono ((Below.refl _ _).drew.trans hba).size)).size)))
        (first | (go_at_call 26; refine (HTO.out _ HC2.out.drew).mono ?_; rintro e wa hp; unfold CopyLdS at hp; obtain ⟨da, rfl, hata, hba⟩ := hp) | (go_at_call 31; refine (HTA.out _).mono ?_; rintro e wb ⟨rfl, hbb⟩) | (go_at_call 30; refine (HSP.out _ _ da (hata.kept hbb)).mono ?_; rintro e wc ⟨rfl, hbc⟩) | fail)
      have hc3 : Below w2.heap.size w2 wc := (((Below.refl _ _).drew.trans hba).trans (hbb.mono ((Below.refl _ _).drew.trans hba).size)).trans (hbc.mono (((Below.refl _ _).drew.trans hba).trans (hbb.mono ((Below.refl _ _).drew.trans hba).size)).size)
      have HC3 : Hid (Below W.heap.size W wc) := HC2.out.trans (hc3.mono HC2.out.size)
      clear hba hbb hbc hata hc3 q0 q1 q2 q3 q4 q5 HX HC2 HSP
      go_wp2_with fail
      refine (HTO.out wc HC3.out).mono ?_
      rintro e w4 hp
      unfold CopyLdS at hp
      obtain ⟨d4, rfl, hat4, hb4⟩ := hp
      have HC4 : Hid (Below W.heap.size W w4) := HC3.out.trans (hb4.mono HC3.out.size)
      have HF4 : Hid (LdAt w4 (some ⟨wc.heap.size, 0, none⟩) wc.heap.size 0 d4 l) := hat4
      clear hb4 hat4 HC3
      obtain ⟨q0, q1, q2, q3, q4, q5⟩ := HC.out w4 HC4.out
      go_wp2_with fail
      refine (HTA.out w4).mono ?_
      rintro e w5 ⟨rfl, hb5⟩
      have HC5 : Hid (Below W.heap.size W w5) := HC4.out.trans (hb5.mono HC4.out.size)
      have HF5 : Hid (LdAt w5 (some ⟨wc.heap.size, 0, none⟩) wc.heap.size 0 d4 l) := HF4.out.kept hb5
      clear hb5 q0 q1 q2 q3 q4 q5 HC4 HF4
      go_wp2_with fail
      refine (HIM.out w5 _ d4 HF5.out).mono ?_
      rintro e w6 ⟨rfl, hb6⟩
      have HC6 : Hid (Below W.heap.size W w6) := HC5.out.trans (hb6.mono HC5.out.size)
      have HF6 : Hid (LdAt w6 (some ⟨wc.heap.size, 0, none⟩) wc.heap.size 0 d4 l) := HF5.out.kept hb6
      clear hb6 HC5 HF5 HIM
      cases R
      all_goals
        go_wp2_with fail
        refine (HTO.out w6 HC6.out).mono ?_
        rintro e w7 hp
        unfold CopyLdS at hp
        obtain ⟨d7, rfl, hat7, hb7⟩ := hp
        have HC7 : Hid (Below W.heap.size W w7) := HC6.out.trans (hb7.mono HC6.out.size)
        have HF7 : Hid (LdAt w7 (some ⟨wc.heap.size, 0, none⟩) wc.heap.size 0 d4 l) := HF6.out.kept hb7
        have HA7 : Hid (LdAt w7 (some ⟨w6.heap.size, 0, none⟩) w6.heap.size 0 d7 l) := hat7
        clear hb7 hat7 HC6 HF6
        go_wp2_with fail
        refine (eqLdS_same d4 d7 l hl HB2.out w7 HF7.out HA7.out).mono ?_
        rintro e w8 ⟨rfl, hb8⟩
        have hB8 : Below w.heap.size w w8 := HWB.out.trans ((HC7.out.trans (hb8.mono HC7.out.size)).mono HWB.out.size)
        clear hb8
        go_wp2
        go_ret
        exact ⟨rfl, hB8⟩
    · subst hx2
      go_wp2
      go_ret
      exact ⟨rfl, HWB.out.trans (HC2.out.mono HWB.out.size)⟩
  · subst hx2
    go_wp2
    go_ret
    exact ⟨rfl, HWB.out.trans (HC1.out.mono HWB.out.size)⟩
end Go.Proofs.Ytddmogggdckneaa
