/- The exact law of PutRaws, walked, out of the contracts of both PutRaws. -/
import Derived.Test.YtpkkejpidlkmnaaLaw
import Derived.Test.YtpkkejpidlkmnaaLRaw
import Derived.Test.YtpkkejpidlkmnaaImplRaws
namespace Go.Proofs.Ytpkkejpidlkmnaa
open Go.RowKit
set_option linter.unusedVariables false

theorem toRawS_at {a : Option Addr} {g off cap : Nat} (l : List Disks.RawL) (hlen : l.length ≤ 1048576) (w : World) (q : Nat) (hq : q = w.heap.size) (hf : RawsAt w a g off l) :
    Calls Try.prog 34 #[.slice a l.length cap] w fun e w' => e = .returned (.slice (some ⟨q, 0, none⟩) l.length l.length) ∧
      w'.ownsRow w.heap.size 45 4 (.slice (some ⟨q, 0, none⟩) l.length l.length) l.length (cellsRaw l) ∧ Below w.heap.size w w' := by
  rw [hq]; exact toRawS_is l hlen w hf
theorem LawS.raws {w W : World} {bs : List (Nat × Obj)} {rows : List RowD} (h : LawS w bs rows W) (i : Nat) {a : Option Addr} {e : TypeId} {n c : Nat} {l : List Disks.RawL} (hi : rows[i]? = some ⟨.slice a n c, e, 4, n, cellsRaw l⟩) (hn : l.length = n) : ∃ g, RawsAt W a g 0 l := by
  have h1 := h.row i hi
  rcases h1.2 with ⟨e1, e2⟩ | ⟨g, cap, cur, e1, _⟩
  · cases e1
    exact ⟨0, fun q => by simp only at *; omega, fun j hj => by simp only at *; omega⟩
  · cases e1
    exact ⟨g, cellsRaw_own hn h1⟩
/-- What PutRaws tells. -/
def runAll (l : List FileL) (rs : List Disks.RawL) : List FileL × Nat := if Disks.okB l && decide (rs.length ≤ 60) then Disks.run l rs else ([], 0)
theorem specPutRaws_is {a ra : Option Addr} {g off cap rg roff rcap : Nat} (l : List FileL) (rs : List Disks.RawL) (hlen : l.length ≤ 1048576) (hsz : ∀ f ∈ l, f.1.size ≤ 1048576 ∧ f.2.size ≤ 1048576) (hnil : a = none → cap = 0) (hrs : rs.length ≤ 1048576) (hr : ∀ r ∈ rs, smallRaw 1048576 r) (w : World) (hf : FilesAt w a g off l) (hrf : RawsAt w ra rg roff rs) :
    Calls Try.prog 33 #[.agg #[.slice a l.length cap], .slice ra rs.length rcap] w (rawsPost w (runAll l rs).1 (runAll l rs).2) := by
  unfold runAll
  by_cases hok : Disks.ok l
  · by_cases h60 : rs.length ≤ 60
    · rw [if_pos (by simp [(Disks.okB_iff l).2 hok, h60])]
      exact specPutRaws_yes l rs hok h60 hnil hr w hf hrf
    · rw [if_neg (by simp [h60])]
      exact specPutRaws_b2 l hlen hsz (by unfold maxLen; omega) hok (by omega) w hf
  · rw [if_neg (by simp [show Disks.okB l = false by rw [← Bool.not_eq_true, Disks.okB_iff]; exact hok])]
    exact specPutRaws_b1 l hlen hsz hok w hf
theorem implPutRaws_is {a ra : Option Addr} {g off cap rg roff rcap : Nat} (l : List FileL) (rs : List Disks.RawL) (hlen : l.length ≤ 1048576) (hsz : ∀ f ∈ l, f.1.size ≤ 1048576 ∧ f.2.size ≤ 1048576) (hrs : rs.length ≤ 1048576) (hr : ∀ r ∈ rs, smallRaw 1048576 r) (w : World) (hf : FilesAt w a g off l) (hrf : RawsAt w ra rg roff rs) :
    Calls Try.prog 35 #[.agg #[.slice a l.length cap], .slice ra rs.length rcap] w (rawsPost w (runAll l rs).1 (runAll l rs).2) := by
  unfold runAll
  by_cases hok : Disks.ok l
  · by_cases h60 : rs.length ≤ 60
    · rw [if_pos (by simp [(Disks.okB_iff l).2 hok, h60])]
      exact implPutRaws_yes l rs hok h60 hr w hf hrf
    · rw [if_neg (by simp [h60])]
      exact implPutRaws_big l hok (by unfold maxLen; omega) (by omega) w hf
  · rw [if_neg (by simp [show Disks.okB l = false by rw [← Bool.not_eq_true, Disks.okB_iff]; exact hok])]
    exact implPutRaws_no l hlen hsz hok w hf
theorem runAll_len (l : List FileL) (rs : List Disks.RawL) : (runAll l rs).1.length ≤ 30 := by
  unfold runAll
  split
  · rename_i h
    simp only [Bool.and_eq_true] at h
    exact (Disks.run_ok rs ((Disks.okB_iff l).1 h.1)).1
  · exact Nat.zero_le _

set_option maxHeartbeats 16000000 in
set_option maxRecDepth 100000 in
theorem lawPutRaws_any {a ra : Option Addr} {g off cap rg roff rcap : Nat} (l : List FileL) (hlen : l.length ≤ maxLen) (hsz : ∀ f ∈ l, f.1.size ≤ maxLen ∧ f.2.size ≤ maxLen) (rs : List Disks.RawL) (hrlen : rs.length ≤ maxLen) (hrsz : ∀ r ∈ rs, smallRaw maxLen r) (w : World) (hf : FilesAt w a g off l) (hrf : RawsAt w ra rg roff rs) :
    Calls Try.prog 9 #[.agg #[.slice a l.length cap], .slice ra rs.length rcap] w fun e w' => e = .returned (.bool true) ∧ Below w.heap.size w w' := by
  have HF : Hid (FilesAt w a g off l) := hf
  have HS : Hid (∀ f ∈ l, f.1.size ≤ maxLen ∧ f.2.size ≤ maxLen) := hsz
  have HLN : Hid (l.length ≤ maxLen) := hlen
  have HRF : Hid (RawsAt w ra rg roff rs) := hrf
  have HRS : Hid (∀ r ∈ rs, smallRaw maxLen r) := hrsz
  have HRL : Hid (rs.length ≤ maxLen) := hrlen
  clear hf hsz hlen hrf hrsz hrlen
  go_enter Try.func9, Try.ntmps9
  go_wp2_with fail
  obtain ⟨w0, hw0⟩ : ∃ W, W = w.alloc (Obj.cells #[Value.slice a l.length cap] 29) := ⟨_, rfl⟩
  have L0 := (LawS.start w).alloc (Obj.cells #[Value.slice a l.length cap] 29)
  rw [← hw0] at L0 ⊢
  clear hw0
  have L1 : Hid (LawS w [(w.heap.size, Obj.cells #[Value.slice a l.length cap] 29)] [] w0) := L0
  clear L0
  refine (szDisk_any l HLN.out HS.out 1048576 (Nat.le_refl _) w0 (HF.out.kept L1.out.below)).mono ?_
  rintro e w2 ⟨x, rfl, hx, hb⟩
  have L3 : Hid (LawS w [(w.heap.size, Obj.cells #[Value.slice a l.length cap] 29)] [] w2) := L1.out.step hb
  clear L1
  clear hb
  rcases hx with ⟨hx1, hx2⟩ | ⟨hx1, hx2⟩
  case inr =>
    subst hx2
    go_wp2
    go_ret
    exact ⟨rfl, L3.out.below⟩
  obtain ⟨Y, hY⟩ : ∃ Y : Nat, Y = 1048576 - tot l := ⟨_, rfl⟩
  rw [← hY] at hx2
  subst hx2
  have hYl : Y ≤ 1048576 := by omega
  clear hY
  obtain ⟨hl, hs⟩ := sizes_of_tot hx1
  have HSS : Hid (∀ f ∈ l, f.1.size ≤ 1048576 ∧ f.2.size ≤ 1048576) := hs
  clear hs hx1
  have c4 := L3.out.cell (b := w.heap.size) (x := Value.slice a l.length cap) (t := 29) (List.Mem.head _)
  go_wp2_with fail
  clear c4
  refine (szRawS_is rs HRL.out HRS.out Y hYl w2 (HRF.out.kept L3.out.below)).mono ?_
  rintro e w5 ⟨x, rfl, hx, hb⟩
  have L6 : Hid (LawS w [(w.heap.size, Obj.cells #[Value.slice a l.length cap] 29)] [] w5) := L3.out.step hb
  clear L3
  clear hb
  rcases hx with ⟨hx1, hx2⟩ | ⟨hx1, hx2⟩
  case inr =>
    subst hx2
    go_wp2
    go_ret
    exact ⟨rfl, L6.out.below⟩
  obtain ⟨Z, hZ⟩ : ∃ Z : Nat, Z = Y - totRaw rs := ⟨_, rfl⟩
  rw [← hZ] at hx2
  subst hx2
  clear hZ
  obtain ⟨hrl0, hrs0⟩ := totRaw_small hx1
  have hrl : rs.length ≤ 1048576 := by omega
  have HSR : Hid (∀ r ∈ rs, smallRaw 1048576 r) := fun r hr => by obtain ⟨h1, h2, h3⟩ := hrs0 r hr; exact ⟨by omega, by omega, by omega⟩
  clear hrl0 hrs0 hx1
  have HSPEC : Hid (∀ (wx : World) (a' ra' : Option Addr) (g' rg' c' rc' : Nat), (a' = none → c' = 0) → FilesAt wx a' g' 0 l → RawsAt wx ra' rg' 0 rs → Calls Try.prog 33 #[.agg #[.slice a' l.length c'], .slice ra' rs.length rc'] wx (rawsPost wx (runAll l rs).1 (runAll l rs).2)) := fun wx a' ra' g' rg' c' rc' h1 h2 h3 => specPutRaws_is l rs hl HSS.out h1 hrl HSR.out wx h2 h3
  have HIMPL : Hid (∀ (wx : World) (a' ra' : Option Addr) (g' rg' c' rc' : Nat), FilesAt wx a' g' 0 l → RawsAt wx ra' rg' 0 rs → Calls Try.prog 35 #[.agg #[.slice a' l.length c'], .slice ra' rs.length rc'] wx (rawsPost wx (runAll l rs).1 (runAll l rs).2)) := fun wx a' ra' g' rg' c' rc' h2 h3 => implPutRaws_is l rs hl HSS.out hrl HSR.out wx h2 h3
  have hR0 := runAll_len l rs
  obtain ⟨R, n, hRn⟩ : ∃ R n, runAll l rs = (R, n) := ⟨_, _, rfl⟩
  rw [hRn] at HSPEC HIMPL hR0
  simp only at HSPEC HIMPL hR0
  have hR30 : R.length ≤ 1048576 := by omega
  clear hRn hR0
  have c7 := L6.out.cell (b := w.heap.size) (x := Value.slice a l.length cap) (t := 29) (List.Mem.head _)
  go_wp2_with fail
  clear c7
  refine (toDisk_any l hl w5 (HF.out.kept L6.out.below)).mono ?_
  rintro e w9 ⟨g8, rfl, _, hown, hb⟩
  have L10 : Hid (LawS w [(w.heap.size, Obj.cells #[Value.slice a l.length cap] 29)] [⟨.slice (some ⟨g8, 0, none⟩) l.length l.length, 68, 2, l.length, cellsF l⟩] w9) := L6.out.call hb hown
  clear L6
  clear hb hown
  have c11 := L10.out.cell (b := w.heap.size) (x := Value.slice a l.length cap) (t := 29) (List.Mem.head _)
  go_wp2_with fail
  clear c11
  obtain ⟨g12, hg12⟩ : ∃ q, q = w9.heap.size := ⟨_, rfl⟩
  refine (toRawS_at rs hrl w9 g12 hg12 (HRF.out.kept L10.out.below)).mono ?_
  rintro e w13 ⟨rfl, hown, hb⟩
  have L14 : Hid (LawS w [(w.heap.size, Obj.cells #[Value.slice a l.length cap] 29)] [⟨.slice (some ⟨g12, 0, none⟩) rs.length rs.length, 45, 4, rs.length, cellsRaw rs⟩, ⟨.slice (some ⟨g8, 0, none⟩) l.length l.length, 68, 2, l.length, cellsF l⟩] w13) := L10.out.call hb hown
  clear L10
  clear hb hown
  clear hg12
  have c15 := L14.out.cell (b := w.heap.size) (x := Value.slice a l.length cap) (t := 29) (List.Mem.head _)
  go_wp2_with fail
  clear c15
  obtain ⟨hAg, hA⟩ := L14.out.files 1 rfl rfl
  obtain ⟨hBg, hB⟩ := L14.out.raws 0 rfl rfl
  refine (HSPEC.out w13 _ _ _ _ _ _ (fun h => by cases h) hA hB).mono ?_
  rintro e w16 ⟨v, rfl, hown, hb⟩
  have L17 : Hid (LawS w [(w.heap.size, Obj.cells #[Value.slice a l.length cap] 29)] [⟨v, 68, 2, R.length, cellsF R⟩, ⟨.slice (some ⟨g12, 0, none⟩) rs.length rs.length, 45, 4, rs.length, cellsRaw rs⟩, ⟨.slice (some ⟨g8, 0, none⟩) l.length l.length, 68, 2, l.length, cellsF l⟩] w16) := L14.out.call hb hown
  clear L14
  clear hb hown
  clear hA hB
  obtain ⟨sa, sc, rfl⟩ : ∃ x y, v = .slice x R.length y := own_slice (L17.out.row 0 rfl)
  have L18 : Hid (LawS w [(w.heap.size, Obj.cells #[Value.slice a l.length cap] 29)] [⟨.slice sa R.length sc, 68, 2, R.length, cellsF R⟩, ⟨.slice (some ⟨g12, 0, none⟩) rs.length rs.length, 45, 4, rs.length, cellsRaw rs⟩, ⟨.slice (some ⟨g8, 0, none⟩) l.length l.length, 68, 2, l.length, cellsF l⟩] w16) := L17.out
  clear L17
  clear HSPEC
  have c19 := L18.out.cell (b := w.heap.size) (x := Value.slice a l.length cap) (t := 29) (List.Mem.head _)
  have c20 := L18.out.cellA (b := w.heap.size) (x := Value.slice a l.length cap) (t := 29) (List.Mem.head _) (Obj.cells #[Value.slice sa R.length sc] 34)
  go_wp2_with fail
  clear c19 c20
  obtain ⟨w21, hw21⟩ : ∃ W, W = w16.alloc (Obj.cells #[Value.slice sa R.length sc] 34) := ⟨_, rfl⟩
  have L22 := L18.out.alloc (Obj.cells #[Value.slice sa R.length sc] 34)
  rw [← hw21] at L22 ⊢
  clear hw21
  have L23 : Hid (LawS w [(w16.heap.size, Obj.cells #[Value.slice sa R.length sc] 34), (w.heap.size, Obj.cells #[Value.slice a l.length cap] 29)] [⟨.slice sa R.length sc, 68, 2, R.length, cellsF R⟩, ⟨.slice (some ⟨g12, 0, none⟩) rs.length rs.length, 45, 4, rs.length, cellsRaw rs⟩, ⟨.slice (some ⟨g8, 0, none⟩) l.length l.length, 68, 2, l.length, cellsF l⟩] w21) := L22
  clear L18
  clear L22
  refine (toDisk_any l hl w21 (HF.out.kept L23.out.below)).mono ?_
  rintro e w25 ⟨g24, rfl, _, hown, hb⟩
  have L26 : Hid (LawS w [(w16.heap.size, Obj.cells #[Value.slice sa R.length sc] 34), (w.heap.size, Obj.cells #[Value.slice a l.length cap] 29)] [⟨.slice (some ⟨g24, 0, none⟩) l.length l.length, 68, 2, l.length, cellsF l⟩, ⟨.slice sa R.length sc, 68, 2, R.length, cellsF R⟩, ⟨.slice (some ⟨g12, 0, none⟩) rs.length rs.length, 45, 4, rs.length, cellsRaw rs⟩, ⟨.slice (some ⟨g8, 0, none⟩) l.length l.length, 68, 2, l.length, cellsF l⟩] w25) := L23.out.call hb hown
  clear L23
  clear hb hown
  have c27 := L26.out.cell (b := w16.heap.size) (x := Value.slice sa R.length sc) (t := 34) (List.Mem.head _)
  have c28 := L26.out.cell (b := w.heap.size) (x := Value.slice a l.length cap) (t := 29) (List.Mem.tail _ (List.Mem.head _))
  have c29 := L26.out.cellA (b := w16.heap.size) (x := Value.slice sa R.length sc) (t := 34) (List.Mem.head _) (Obj.cells #[Value.slice (some ⟨g24, 0, none⟩) l.length l.length] 34)
  have c30 := L26.out.cellA (b := w.heap.size) (x := Value.slice a l.length cap) (t := 29) (List.Mem.tail _ (List.Mem.head _)) (Obj.cells #[Value.slice (some ⟨g24, 0, none⟩) l.length l.length] 34)
  go_wp2_with fail
  clear c27 c28 c29 c30
  obtain ⟨w31, hw31⟩ : ∃ W, W = w25.alloc (Obj.cells #[Value.slice (some ⟨g24, 0, none⟩) l.length l.length] 34) := ⟨_, rfl⟩
  have L32 := L26.out.alloc (Obj.cells #[Value.slice (some ⟨g24, 0, none⟩) l.length l.length] 34)
  rw [← hw31] at L32 ⊢
  clear hw31
  have L33 : Hid (LawS w [(w25.heap.size, Obj.cells #[Value.slice (some ⟨g24, 0, none⟩) l.length l.length] 34), (w16.heap.size, Obj.cells #[Value.slice sa R.length sc] 34), (w.heap.size, Obj.cells #[Value.slice a l.length cap] 29)] [⟨.slice (some ⟨g24, 0, none⟩) l.length l.length, 68, 2, l.length, cellsF l⟩, ⟨.slice sa R.length sc, 68, 2, R.length, cellsF R⟩, ⟨.slice (some ⟨g12, 0, none⟩) rs.length rs.length, 45, 4, rs.length, cellsRaw rs⟩, ⟨.slice (some ⟨g8, 0, none⟩) l.length l.length, 68, 2, l.length, cellsF l⟩] w31) := L32
  clear L26
  clear L32
  obtain ⟨g34, hg34⟩ : ∃ q, q = w31.heap.size := ⟨_, rfl⟩
  refine (toRawS_at rs hrl w31 g34 hg34 (HRF.out.kept L33.out.below)).mono ?_
  rintro e w35 ⟨rfl, hown, hb⟩
  have L36 : Hid (LawS w [(w25.heap.size, Obj.cells #[Value.slice (some ⟨g24, 0, none⟩) l.length l.length] 34), (w16.heap.size, Obj.cells #[Value.slice sa R.length sc] 34), (w.heap.size, Obj.cells #[Value.slice a l.length cap] 29)] [⟨.slice (some ⟨g34, 0, none⟩) rs.length rs.length, 45, 4, rs.length, cellsRaw rs⟩, ⟨.slice (some ⟨g24, 0, none⟩) l.length l.length, 68, 2, l.length, cellsF l⟩, ⟨.slice sa R.length sc, 68, 2, R.length, cellsF R⟩, ⟨.slice (some ⟨g12, 0, none⟩) rs.length rs.length, 45, 4, rs.length, cellsRaw rs⟩, ⟨.slice (some ⟨g8, 0, none⟩) l.length l.length, 68, 2, l.length, cellsF l⟩] w35) := L33.out.call hb hown
  clear L33
  clear hb hown
  clear hg34
  have c37 := L36.out.cell (b := w25.heap.size) (x := Value.slice (some ⟨g24, 0, none⟩) l.length l.length) (t := 34) (List.Mem.head _)
  have c38 := L36.out.cell (b := w16.heap.size) (x := Value.slice sa R.length sc) (t := 34) (List.Mem.tail _ (List.Mem.head _))
  have c39 := L36.out.cell (b := w.heap.size) (x := Value.slice a l.length cap) (t := 29) (List.Mem.tail _ (List.Mem.tail _ (List.Mem.head _)))
  go_wp2_with fail
  clear c37 c38 c39
  obtain ⟨hAg, hA⟩ := L36.out.files 1 rfl rfl
  obtain ⟨hBg, hB⟩ := L36.out.raws 0 rfl rfl
  refine (HIMPL.out w35 _ _ _ _ _ _ hA hB).mono ?_
  rintro e w40 ⟨v, rfl, hown, hb⟩
  have L41 : Hid (LawS w [(w25.heap.size, Obj.cells #[Value.slice (some ⟨g24, 0, none⟩) l.length l.length] 34), (w16.heap.size, Obj.cells #[Value.slice sa R.length sc] 34), (w.heap.size, Obj.cells #[Value.slice a l.length cap] 29)] [⟨v, 68, 2, R.length, cellsF R⟩, ⟨.slice (some ⟨g34, 0, none⟩) rs.length rs.length, 45, 4, rs.length, cellsRaw rs⟩, ⟨.slice (some ⟨g24, 0, none⟩) l.length l.length, 68, 2, l.length, cellsF l⟩, ⟨.slice sa R.length sc, 68, 2, R.length, cellsF R⟩, ⟨.slice (some ⟨g12, 0, none⟩) rs.length rs.length, 45, 4, rs.length, cellsRaw rs⟩, ⟨.slice (some ⟨g8, 0, none⟩) l.length l.length, 68, 2, l.length, cellsF l⟩] w40) := L36.out.call hb hown
  clear L36
  clear hb hown
  clear hA hB
  obtain ⟨qa, qc, rfl⟩ : ∃ x y, v = .slice x R.length y := own_slice (L41.out.row 0 rfl)
  have L42 : Hid (LawS w [(w25.heap.size, Obj.cells #[Value.slice (some ⟨g24, 0, none⟩) l.length l.length] 34), (w16.heap.size, Obj.cells #[Value.slice sa R.length sc] 34), (w.heap.size, Obj.cells #[Value.slice a l.length cap] 29)] [⟨.slice qa R.length qc, 68, 2, R.length, cellsF R⟩, ⟨.slice (some ⟨g34, 0, none⟩) rs.length rs.length, 45, 4, rs.length, cellsRaw rs⟩, ⟨.slice (some ⟨g24, 0, none⟩) l.length l.length, 68, 2, l.length, cellsF l⟩, ⟨.slice sa R.length sc, 68, 2, R.length, cellsF R⟩, ⟨.slice (some ⟨g12, 0, none⟩) rs.length rs.length, 45, 4, rs.length, cellsRaw rs⟩, ⟨.slice (some ⟨g8, 0, none⟩) l.length l.length, 68, 2, l.length, cellsF l⟩] w40) := L41.out
  clear L41
  have c43 := L42.out.cell (b := w25.heap.size) (x := Value.slice (some ⟨g24, 0, none⟩) l.length l.length) (t := 34) (List.Mem.head _)
  have c44 := L42.out.cell (b := w16.heap.size) (x := Value.slice sa R.length sc) (t := 34) (List.Mem.tail _ (List.Mem.head _))
  have c45 := L42.out.cell (b := w.heap.size) (x := Value.slice a l.length cap) (t := 29) (List.Mem.tail _ (List.Mem.tail _ (List.Mem.head _)))
  have c46 := L42.out.cellA (b := w25.heap.size) (x := Value.slice (some ⟨g24, 0, none⟩) l.length l.length) (t := 34) (List.Mem.head _) (Obj.cells #[Value.slice qa R.length qc] 34)
  have c47 := L42.out.cellA (b := w16.heap.size) (x := Value.slice sa R.length sc) (t := 34) (List.Mem.tail _ (List.Mem.head _)) (Obj.cells #[Value.slice qa R.length qc] 34)
  have c48 := L42.out.cellA (b := w.heap.size) (x := Value.slice a l.length cap) (t := 29) (List.Mem.tail _ (List.Mem.tail _ (List.Mem.head _))) (Obj.cells #[Value.slice qa R.length qc] 34)
  go_wp2_with fail
  clear c43 c44 c45 c46 c47 c48
  obtain ⟨w49, hw49⟩ : ∃ W, W = w40.alloc (Obj.cells #[Value.slice qa R.length qc] 34) := ⟨_, rfl⟩
  have L50 := L42.out.alloc (Obj.cells #[Value.slice qa R.length qc] 34)
  rw [← hw49] at L50 ⊢
  clear hw49
  have L51 : Hid (LawS w [(w40.heap.size, Obj.cells #[Value.slice qa R.length qc] 34), (w25.heap.size, Obj.cells #[Value.slice (some ⟨g24, 0, none⟩) l.length l.length] 34), (w16.heap.size, Obj.cells #[Value.slice sa R.length sc] 34), (w.heap.size, Obj.cells #[Value.slice a l.length cap] 29)] [⟨.slice qa R.length qc, 68, 2, R.length, cellsF R⟩, ⟨.slice (some ⟨g34, 0, none⟩) rs.length rs.length, 45, 4, rs.length, cellsRaw rs⟩, ⟨.slice (some ⟨g24, 0, none⟩) l.length l.length, 68, 2, l.length, cellsF l⟩, ⟨.slice sa R.length sc, 68, 2, R.length, cellsF R⟩, ⟨.slice (some ⟨g12, 0, none⟩) rs.length rs.length, 45, 4, rs.length, cellsRaw rs⟩, ⟨.slice (some ⟨g8, 0, none⟩) l.length l.length, 68, 2, l.length, cellsF l⟩] w49) := L50
  clear L42
  clear L50
  obtain ⟨hAg, hA⟩ := L51.out.files 0 rfl rfl
  obtain ⟨hBg, hB⟩ := L51.out.files 3 rfl rfl
  refine (eqDisk_same R hR30 w49 hA hB).mono ?_
  rintro e w52 ⟨rfl, hb⟩
  have L53 : Hid (LawS w [(w40.heap.size, Obj.cells #[Value.slice qa R.length qc] 34), (w25.heap.size, Obj.cells #[Value.slice (some ⟨g24, 0, none⟩) l.length l.length] 34), (w16.heap.size, Obj.cells #[Value.slice sa R.length sc] 34), (w.heap.size, Obj.cells #[Value.slice a l.length cap] 29)] [⟨.slice qa R.length qc, 68, 2, R.length, cellsF R⟩, ⟨.slice (some ⟨g34, 0, none⟩) rs.length rs.length, 45, 4, rs.length, cellsRaw rs⟩, ⟨.slice (some ⟨g24, 0, none⟩) l.length l.length, 68, 2, l.length, cellsF l⟩, ⟨.slice sa R.length sc, 68, 2, R.length, cellsF R⟩, ⟨.slice (some ⟨g12, 0, none⟩) rs.length rs.length, 45, 4, rs.length, cellsRaw rs⟩, ⟨.slice (some ⟨g8, 0, none⟩) l.length l.length, 68, 2, l.length, cellsF l⟩] w52) := L51.out.step hb
  clear L51
  clear hb
  clear hA hB
  have c54 := L53.out.cell (b := w40.heap.size) (x := Value.slice qa R.length qc) (t := 34) (List.Mem.head _)
  have c55 := L53.out.cell (b := w25.heap.size) (x := Value.slice (some ⟨g24, 0, none⟩) l.length l.length) (t := 34) (List.Mem.tail _ (List.Mem.head _))
  have c56 := L53.out.cell (b := w16.heap.size) (x := Value.slice sa R.length sc) (t := 34) (List.Mem.tail _ (List.Mem.tail _ (List.Mem.head _)))
  have c57 := L53.out.cell (b := w.heap.size) (x := Value.slice a l.length cap) (t := 29) (List.Mem.tail _ (List.Mem.tail _ (List.Mem.tail _ (List.Mem.head _))))
  obtain ⟨hXg, hX⟩ := L53.out.files 2 rfl rfl
  go_wp2
  have hzx : w25.heap.size < w52.heap.size := World.block_lt_of_cell? _ _ c55
  have hzd : w.heap.size < w52.heap.size := World.block_lt_of_cell? _ _ c57
  go_region_held3 (fun w' => w'.cell? ⟨w25.heap.size, 0, none⟩ = some (Value.slice (some ⟨g24, 0, none⟩) l.length l.length) ∧ w'.cell? ⟨w.heap.size, 0, none⟩ = some (Value.slice a l.length cap)) (first | go_keep | exact ⟨(hb7.cell (p := ⟨w25.heap.size, 0, none⟩) hzx).trans c55, (hb7.cell (p := ⟨w.heap.size, 0, none⟩) hzd).trans c57⟩ | exact ⟨(hb8.cell (p := ⟨w25.heap.size, 0, none⟩) (Nat.lt_of_lt_of_le hzx hb7.size)).trans ((hb7.cell (p := ⟨w25.heap.size, 0, none⟩) hzx).trans c55), (hb8.cell (p := ⟨w.heap.size, 0, none⟩) (Nat.lt_of_lt_of_le hzd hb7.size)).trans ((hb7.cell (p := ⟨w.heap.size, 0, none⟩) hzd).trans c57)⟩) (first | (go_at_call 21; refine (toDisk_any l hl _ (HF.out.kept L53.out.below.drew)).mono ?_; rintro e w7 ⟨g7, rfl, hg7, hown7, hb7⟩) | (go_at_call 23; refine (eqDisk_same l hl _ (FilesAt.kept (w := w52.drew) hX hb7) (own_files rfl hown7)).mono ?_; rintro e w8 ⟨rfl, hb8⟩))
  clear c54 c55 c56 c57
  have L58 : Hid (LawS w [(w40.heap.size, Obj.cells #[Value.slice qa R.length qc] 34), (w25.heap.size, Obj.cells #[Value.slice (some ⟨g24, 0, none⟩) l.length l.length] 34), (w16.heap.size, Obj.cells #[Value.slice sa R.length sc] 34), (w.heap.size, Obj.cells #[Value.slice a l.length cap] 29)] [⟨.slice (some ⟨g7, 0, none⟩) l.length l.length, 68, 2, l.length, cellsF l⟩, ⟨.slice qa R.length qc, 68, 2, R.length, cellsF R⟩, ⟨.slice (some ⟨g34, 0, none⟩) rs.length rs.length, 45, 4, rs.length, cellsRaw rs⟩, ⟨.slice (some ⟨g24, 0, none⟩) l.length l.length, 68, 2, l.length, cellsF l⟩, ⟨.slice sa R.length sc, 68, 2, R.length, cellsF R⟩, ⟨.slice (some ⟨g12, 0, none⟩) rs.length rs.length, 45, 4, rs.length, cellsRaw rs⟩, ⟨.slice (some ⟨g8, 0, none⟩) l.length l.length, 68, 2, l.length, cellsF l⟩] w8) := (L53.out.drew.call hb7 hown7).step hb8
  clear L53
  clear hb7 hb8 hown7 hg7 hX hzx hzd
  have c59 := L58.out.cell (b := w40.heap.size) (x := Value.slice qa R.length qc) (t := 34) (List.Mem.head _)
  have c60 := L58.out.cell (b := w25.heap.size) (x := Value.slice (some ⟨g24, 0, none⟩) l.length l.length) (t := 34) (List.Mem.tail _ (List.Mem.head _))
  have c61 := L58.out.cell (b := w16.heap.size) (x := Value.slice sa R.length sc) (t := 34) (List.Mem.tail _ (List.Mem.tail _ (List.Mem.head _)))
  have c62 := L58.out.cell (b := w.heap.size) (x := Value.slice a l.length cap) (t := 29) (List.Mem.tail _ (List.Mem.tail _ (List.Mem.tail _ (List.Mem.head _))))
  go_wp2_with fail
  clear c59 c60 c61 c62
  obtain ⟨g63, hg63⟩ : ∃ q, q = w8.heap.size := ⟨_, rfl⟩
  refine (toRawS_at rs hrl w8 g63 hg63 (HRF.out.kept L58.out.below)).mono ?_
  rintro e w64 ⟨rfl, hown, hb⟩
  have L65 : Hid (LawS w [(w40.heap.size, Obj.cells #[Value.slice qa R.length qc] 34), (w25.heap.size, Obj.cells #[Value.slice (some ⟨g24, 0, none⟩) l.length l.length] 34), (w16.heap.size, Obj.cells #[Value.slice sa R.length sc] 34), (w.heap.size, Obj.cells #[Value.slice a l.length cap] 29)] [⟨.slice (some ⟨g63, 0, none⟩) rs.length rs.length, 45, 4, rs.length, cellsRaw rs⟩, ⟨.slice (some ⟨g7, 0, none⟩) l.length l.length, 68, 2, l.length, cellsF l⟩, ⟨.slice qa R.length qc, 68, 2, R.length, cellsF R⟩, ⟨.slice (some ⟨g34, 0, none⟩) rs.length rs.length, 45, 4, rs.length, cellsRaw rs⟩, ⟨.slice (some ⟨g24, 0, none⟩) l.length l.length, 68, 2, l.length, cellsF l⟩, ⟨.slice sa R.length sc, 68, 2, R.length, cellsF R⟩, ⟨.slice (some ⟨g12, 0, none⟩) rs.length rs.length, 45, 4, rs.length, cellsRaw rs⟩, ⟨.slice (some ⟨g8, 0, none⟩) l.length l.length, 68, 2, l.length, cellsF l⟩] w64) := L58.out.call hb hown
  clear L58
  clear hb hown
  clear hg63
  have c66 := L65.out.cell (b := w40.heap.size) (x := Value.slice qa R.length qc) (t := 34) (List.Mem.head _)
  have c67 := L65.out.cell (b := w25.heap.size) (x := Value.slice (some ⟨g24, 0, none⟩) l.length l.length) (t := 34) (List.Mem.tail _ (List.Mem.head _))
  have c68 := L65.out.cell (b := w16.heap.size) (x := Value.slice sa R.length sc) (t := 34) (List.Mem.tail _ (List.Mem.tail _ (List.Mem.head _)))
  have c69 := L65.out.cell (b := w.heap.size) (x := Value.slice a l.length cap) (t := 29) (List.Mem.tail _ (List.Mem.tail _ (List.Mem.tail _ (List.Mem.head _))))
  go_wp2_with fail
  clear c66 c67 c68 c69
  obtain ⟨hAg, hA⟩ := L65.out.raws 3 rfl rfl
  obtain ⟨hBg, hB⟩ := L65.out.raws 0 rfl rfl
  refine (eqRawS_same rs hrl w64 hA hB).mono ?_
  rintro e w70 ⟨rfl, hb⟩
  have L71 : Hid (LawS w [(w40.heap.size, Obj.cells #[Value.slice qa R.length qc] 34), (w25.heap.size, Obj.cells #[Value.slice (some ⟨g24, 0, none⟩) l.length l.length] 34), (w16.heap.size, Obj.cells #[Value.slice sa R.length sc] 34), (w.heap.size, Obj.cells #[Value.slice a l.length cap] 29)] [⟨.slice (some ⟨g63, 0, none⟩) rs.length rs.length, 45, 4, rs.length, cellsRaw rs⟩, ⟨.slice (some ⟨g7, 0, none⟩) l.length l.length, 68, 2, l.length, cellsF l⟩, ⟨.slice qa R.length qc, 68, 2, R.length, cellsF R⟩, ⟨.slice (some ⟨g34, 0, none⟩) rs.length rs.length, 45, 4, rs.length, cellsRaw rs⟩, ⟨.slice (some ⟨g24, 0, none⟩) l.length l.length, 68, 2, l.length, cellsF l⟩, ⟨.slice sa R.length sc, 68, 2, R.length, cellsF R⟩, ⟨.slice (some ⟨g12, 0, none⟩) rs.length rs.length, 45, 4, rs.length, cellsRaw rs⟩, ⟨.slice (some ⟨g8, 0, none⟩) l.length l.length, 68, 2, l.length, cellsF l⟩] w70) := L65.out.step hb
  clear L65
  clear hb
  clear hA hB
  have c72 := L71.out.cell (b := w40.heap.size) (x := Value.slice qa R.length qc) (t := 34) (List.Mem.head _)
  have c73 := L71.out.cell (b := w25.heap.size) (x := Value.slice (some ⟨g24, 0, none⟩) l.length l.length) (t := 34) (List.Mem.tail _ (List.Mem.head _))
  have c74 := L71.out.cell (b := w16.heap.size) (x := Value.slice sa R.length sc) (t := 34) (List.Mem.tail _ (List.Mem.tail _ (List.Mem.head _)))
  have c75 := L71.out.cell (b := w.heap.size) (x := Value.slice a l.length cap) (t := 29) (List.Mem.tail _ (List.Mem.tail _ (List.Mem.tail _ (List.Mem.head _))))
  go_wp2_with fail
  clear c72 c73 c74 c75
  refine (markDisk_own (B := w.heap.size) l hl w70 (L71.out.row 4 rfl)).mono ?_
  rintro e w76 ⟨rfl, hown, hg⟩
  have L77 : Hid (LawS w [(w40.heap.size, Obj.cells #[Value.slice qa R.length qc] 34), (w25.heap.size, Obj.cells #[Value.slice (some ⟨g24, 0, none⟩) l.length l.length] 34), (w16.heap.size, Obj.cells #[Value.slice sa R.length sc] 34), (w.heap.size, Obj.cells #[Value.slice a l.length cap] 29)] [⟨.slice (some ⟨g63, 0, none⟩) rs.length rs.length, 45, 4, rs.length, cellsRaw rs⟩, ⟨.slice (some ⟨g7, 0, none⟩) l.length l.length, 68, 2, l.length, cellsF l⟩, ⟨.slice qa R.length qc, 68, 2, R.length, cellsF R⟩, ⟨.slice (some ⟨g34, 0, none⟩) rs.length rs.length, 45, 4, rs.length, cellsRaw rs⟩, ⟨.slice (some ⟨g24, 0, none⟩) l.length l.length, 68, 2, l.length, cellsF (marksF 1 l.length)⟩, ⟨.slice sa R.length sc, 68, 2, R.length, cellsF R⟩, ⟨.slice (some ⟨g12, 0, none⟩) rs.length rs.length, 45, 4, rs.length, cellsRaw rs⟩, ⟨.slice (some ⟨g8, 0, none⟩) l.length l.length, 68, 2, l.length, cellsF l⟩] w76) := L71.out.mark 4 (r := ⟨.slice (some ⟨g24, 0, none⟩) l.length l.length, 68, 2, l.length, cellsF l⟩) rfl hg hown
  clear L71
  clear hg hown
  obtain ⟨K1, hK1⟩ : ∃ K, K = 1 + 2 * l.length := ⟨_, rfl⟩
  rw [← hK1]
  have hK1b : 0 < K1 ∧ K1 ≤ 100000000 := by omega
  clear hK1
  have c78 := L77.out.cell (b := w40.heap.size) (x := Value.slice qa R.length qc) (t := 34) (List.Mem.head _)
  have c79 := L77.out.cell (b := w25.heap.size) (x := Value.slice (some ⟨g24, 0, none⟩) l.length l.length) (t := 34) (List.Mem.tail _ (List.Mem.head _))
  have c80 := L77.out.cell (b := w16.heap.size) (x := Value.slice sa R.length sc) (t := 34) (List.Mem.tail _ (List.Mem.tail _ (List.Mem.head _)))
  have c81 := L77.out.cell (b := w.heap.size) (x := Value.slice a l.length cap) (t := 29) (List.Mem.tail _ (List.Mem.tail _ (List.Mem.tail _ (List.Mem.head _))))
  go_wp2_with fail
  clear c78 c79 c80 c81
  refine (markRawS_own (B := w.heap.size) rs hrl K1 hK1b.1 hK1b.2 w76 (L77.out.row 3 rfl)).mono ?_
  rintro e w82 ⟨rfl, hown, hg⟩
  have L83 : Hid (LawS w [(w40.heap.size, Obj.cells #[Value.slice qa R.length qc] 34), (w25.heap.size, Obj.cells #[Value.slice (some ⟨g24, 0, none⟩) l.length l.length] 34), (w16.heap.size, Obj.cells #[Value.slice sa R.length sc] 34), (w.heap.size, Obj.cells #[Value.slice a l.length cap] 29)] [⟨.slice (some ⟨g63, 0, none⟩) rs.length rs.length, 45, 4, rs.length, cellsRaw rs⟩, ⟨.slice (some ⟨g7, 0, none⟩) l.length l.length, 68, 2, l.length, cellsF l⟩, ⟨.slice qa R.length qc, 68, 2, R.length, cellsF R⟩, ⟨.slice (some ⟨g34, 0, none⟩) rs.length rs.length, 45, 4, rs.length, cellsRaw (marksRaw K1 rs.length)⟩, ⟨.slice (some ⟨g24, 0, none⟩) l.length l.length, 68, 2, l.length, cellsF (marksF 1 l.length)⟩, ⟨.slice sa R.length sc, 68, 2, R.length, cellsF R⟩, ⟨.slice (some ⟨g12, 0, none⟩) rs.length rs.length, 45, 4, rs.length, cellsRaw rs⟩, ⟨.slice (some ⟨g8, 0, none⟩) l.length l.length, 68, 2, l.length, cellsF l⟩] w82) := L77.out.mark 3 (r := ⟨.slice (some ⟨g34, 0, none⟩) rs.length rs.length, 45, 4, rs.length, cellsRaw rs⟩) rfl hg hown
  clear L77
  clear hg hown
  obtain ⟨K2, hK2⟩ : ∃ K, K = K1 + 4 * rs.length := ⟨_, rfl⟩
  rw [← hK2]
  have hK2b : 0 < K2 ∧ K2 ≤ 200000000 := by omega
  clear hK2
  have c84 := L83.out.cell (b := w40.heap.size) (x := Value.slice qa R.length qc) (t := 34) (List.Mem.head _)
  have c85 := L83.out.cell (b := w25.heap.size) (x := Value.slice (some ⟨g24, 0, none⟩) l.length l.length) (t := 34) (List.Mem.tail _ (List.Mem.head _))
  have c86 := L83.out.cell (b := w16.heap.size) (x := Value.slice sa R.length sc) (t := 34) (List.Mem.tail _ (List.Mem.tail _ (List.Mem.head _)))
  have c87 := L83.out.cell (b := w.heap.size) (x := Value.slice a l.length cap) (t := 29) (List.Mem.tail _ (List.Mem.tail _ (List.Mem.tail _ (List.Mem.head _))))
  go_wp2_with fail
  clear c84 c85 c86 c87
  obtain ⟨hAg, hA⟩ := L83.out.files 2 rfl rfl
  obtain ⟨hBg, hB⟩ := L83.out.files 5 rfl rfl
  refine (eqDisk_same R hR30 w82 hA hB).mono ?_
  rintro e w88 ⟨rfl, hb⟩
  have L89 : Hid (LawS w [(w40.heap.size, Obj.cells #[Value.slice qa R.length qc] 34), (w25.heap.size, Obj.cells #[Value.slice (some ⟨g24, 0, none⟩) l.length l.length] 34), (w16.heap.size, Obj.cells #[Value.slice sa R.length sc] 34), (w.heap.size, Obj.cells #[Value.slice a l.length cap] 29)] [⟨.slice (some ⟨g63, 0, none⟩) rs.length rs.length, 45, 4, rs.length, cellsRaw rs⟩, ⟨.slice (some ⟨g7, 0, none⟩) l.length l.length, 68, 2, l.length, cellsF l⟩, ⟨.slice qa R.length qc, 68, 2, R.length, cellsF R⟩, ⟨.slice (some ⟨g34, 0, none⟩) rs.length rs.length, 45, 4, rs.length, cellsRaw (marksRaw K1 rs.length)⟩, ⟨.slice (some ⟨g24, 0, none⟩) l.length l.length, 68, 2, l.length, cellsF (marksF 1 l.length)⟩, ⟨.slice sa R.length sc, 68, 2, R.length, cellsF R⟩, ⟨.slice (some ⟨g12, 0, none⟩) rs.length rs.length, 45, 4, rs.length, cellsRaw rs⟩, ⟨.slice (some ⟨g8, 0, none⟩) l.length l.length, 68, 2, l.length, cellsF l⟩] w88) := L83.out.step hb
  clear L83
  clear hb
  clear hA hB
  have c90 := L89.out.cell (b := w40.heap.size) (x := Value.slice qa R.length qc) (t := 34) (List.Mem.head _)
  have c91 := L89.out.cell (b := w25.heap.size) (x := Value.slice (some ⟨g24, 0, none⟩) l.length l.length) (t := 34) (List.Mem.tail _ (List.Mem.head _))
  have c92 := L89.out.cell (b := w16.heap.size) (x := Value.slice sa R.length sc) (t := 34) (List.Mem.tail _ (List.Mem.tail _ (List.Mem.head _)))
  have c93 := L89.out.cell (b := w.heap.size) (x := Value.slice a l.length cap) (t := 29) (List.Mem.tail _ (List.Mem.tail _ (List.Mem.tail _ (List.Mem.head _))))
  go_wp2_with fail
  clear c90 c91 c92 c93
  refine (markDisk_own (B := w.heap.size) R hR30 w88 (L89.out.row 2 rfl)).mono ?_
  rintro e w94 ⟨rfl, hown, hg⟩
  have L95 : Hid (LawS w [(w40.heap.size, Obj.cells #[Value.slice qa R.length qc] 34), (w25.heap.size, Obj.cells #[Value.slice (some ⟨g24, 0, none⟩) l.length l.length] 34), (w16.heap.size, Obj.cells #[Value.slice sa R.length sc] 34), (w.heap.size, Obj.cells #[Value.slice a l.length cap] 29)] [⟨.slice (some ⟨g63, 0, none⟩) rs.length rs.length, 45, 4, rs.length, cellsRaw rs⟩, ⟨.slice (some ⟨g7, 0, none⟩) l.length l.length, 68, 2, l.length, cellsF l⟩, ⟨.slice qa R.length qc, 68, 2, R.length, cellsF (marksF 1 R.length)⟩, ⟨.slice (some ⟨g34, 0, none⟩) rs.length rs.length, 45, 4, rs.length, cellsRaw (marksRaw K1 rs.length)⟩, ⟨.slice (some ⟨g24, 0, none⟩) l.length l.length, 68, 2, l.length, cellsF (marksF 1 l.length)⟩, ⟨.slice sa R.length sc, 68, 2, R.length, cellsF R⟩, ⟨.slice (some ⟨g12, 0, none⟩) rs.length rs.length, 45, 4, rs.length, cellsRaw rs⟩, ⟨.slice (some ⟨g8, 0, none⟩) l.length l.length, 68, 2, l.length, cellsF l⟩] w94) := L89.out.mark 2 (r := ⟨.slice qa R.length qc, 68, 2, R.length, cellsF R⟩) rfl hg hown
  clear L89
  clear hg hown
  obtain ⟨M1, hM1⟩ : ∃ K, K = 1 + 2 * R.length := ⟨_, rfl⟩
  have HM1 : Hid (M1 = 1 + 2 * R.length) := hM1
  rw [← hM1]
  have hM1b : 0 < M1 ∧ M1 ≤ 100000000 := by omega
  clear hM1
  have c96 := L95.out.cell (b := w40.heap.size) (x := Value.slice qa R.length qc) (t := 34) (List.Mem.head _)
  have c97 := L95.out.cell (b := w25.heap.size) (x := Value.slice (some ⟨g24, 0, none⟩) l.length l.length) (t := 34) (List.Mem.tail _ (List.Mem.head _))
  have c98 := L95.out.cell (b := w16.heap.size) (x := Value.slice sa R.length sc) (t := 34) (List.Mem.tail _ (List.Mem.tail _ (List.Mem.head _)))
  have c99 := L95.out.cell (b := w.heap.size) (x := Value.slice a l.length cap) (t := 29) (List.Mem.tail _ (List.Mem.tail _ (List.Mem.tail _ (List.Mem.head _))))
  go_wp2_with fail
  clear c96 c97 c98 c99
  have HH0 : Hid (∀ (wx : World) (g' : Nat), FilesAt wx qa g' 0 (marksF 1 R.length) → Calls Try.prog 31 #[.agg #[.slice qa R.length qc], .int .i64 1] wx fun e w' => e = .returned (.int .i64 (M1 : Int)) ∧ Below wx.heap.size wx w') := fun wx g' h => by rw [HM1.out]; exact heldDisk_is R.length hR30 wx h
  obtain ⟨hAg, hA⟩ := L95.out.files 2 rfl (marksF_len _ _)
  refine (HH0.out w94 _ hA).mono ?_
  rintro e w100 ⟨rfl, hb⟩
  have L101 : Hid (LawS w [(w40.heap.size, Obj.cells #[Value.slice qa R.length qc] 34), (w25.heap.size, Obj.cells #[Value.slice (some ⟨g24, 0, none⟩) l.length l.length] 34), (w16.heap.size, Obj.cells #[Value.slice sa R.length sc] 34), (w.heap.size, Obj.cells #[Value.slice a l.length cap] 29)] [⟨.slice (some ⟨g63, 0, none⟩) rs.length rs.length, 45, 4, rs.length, cellsRaw rs⟩, ⟨.slice (some ⟨g7, 0, none⟩) l.length l.length, 68, 2, l.length, cellsF l⟩, ⟨.slice qa R.length qc, 68, 2, R.length, cellsF (marksF 1 R.length)⟩, ⟨.slice (some ⟨g34, 0, none⟩) rs.length rs.length, 45, 4, rs.length, cellsRaw (marksRaw K1 rs.length)⟩, ⟨.slice (some ⟨g24, 0, none⟩) l.length l.length, 68, 2, l.length, cellsF (marksF 1 l.length)⟩, ⟨.slice sa R.length sc, 68, 2, R.length, cellsF R⟩, ⟨.slice (some ⟨g12, 0, none⟩) rs.length rs.length, 45, 4, rs.length, cellsRaw rs⟩, ⟨.slice (some ⟨g8, 0, none⟩) l.length l.length, 68, 2, l.length, cellsF l⟩] w100) := L95.out.step hb
  clear L95
  clear hb
  clear hA HH0
  have c102 := L101.out.cell (b := w40.heap.size) (x := Value.slice qa R.length qc) (t := 34) (List.Mem.head _)
  have c103 := L101.out.cell (b := w25.heap.size) (x := Value.slice (some ⟨g24, 0, none⟩) l.length l.length) (t := 34) (List.Mem.tail _ (List.Mem.head _))
  have c104 := L101.out.cell (b := w16.heap.size) (x := Value.slice sa R.length sc) (t := 34) (List.Mem.tail _ (List.Mem.tail _ (List.Mem.head _)))
  have c105 := L101.out.cell (b := w.heap.size) (x := Value.slice a l.length cap) (t := 29) (List.Mem.tail _ (List.Mem.tail _ (List.Mem.tail _ (List.Mem.head _))))
  go_wp2_with fail
  clear c102 c103 c104 c105
  refine (toDisk_any l hl w100 (HF.out.kept L101.out.below)).mono ?_
  rintro e w107 ⟨g106, rfl, _, hown, hb⟩
  have L108 : Hid (LawS w [(w40.heap.size, Obj.cells #[Value.slice qa R.length qc] 34), (w25.heap.size, Obj.cells #[Value.slice (some ⟨g24, 0, none⟩) l.length l.length] 34), (w16.heap.size, Obj.cells #[Value.slice sa R.length sc] 34), (w.heap.size, Obj.cells #[Value.slice a l.length cap] 29)] [⟨.slice (some ⟨g106, 0, none⟩) l.length l.length, 68, 2, l.length, cellsF l⟩, ⟨.slice (some ⟨g63, 0, none⟩) rs.length rs.length, 45, 4, rs.length, cellsRaw rs⟩, ⟨.slice (some ⟨g7, 0, none⟩) l.length l.length, 68, 2, l.length, cellsF l⟩, ⟨.slice qa R.length qc, 68, 2, R.length, cellsF (marksF 1 R.length)⟩, ⟨.slice (some ⟨g34, 0, none⟩) rs.length rs.length, 45, 4, rs.length, cellsRaw (marksRaw K1 rs.length)⟩, ⟨.slice (some ⟨g24, 0, none⟩) l.length l.length, 68, 2, l.length, cellsF (marksF 1 l.length)⟩, ⟨.slice sa R.length sc, 68, 2, R.length, cellsF R⟩, ⟨.slice (some ⟨g12, 0, none⟩) rs.length rs.length, 45, 4, rs.length, cellsRaw rs⟩, ⟨.slice (some ⟨g8, 0, none⟩) l.length l.length, 68, 2, l.length, cellsF l⟩] w107) := L101.out.call hb hown
  clear L101
  clear hb hown
  have c109 := L108.out.cell (b := w40.heap.size) (x := Value.slice qa R.length qc) (t := 34) (List.Mem.head _)
  have c110 := L108.out.cell (b := w25.heap.size) (x := Value.slice (some ⟨g24, 0, none⟩) l.length l.length) (t := 34) (List.Mem.tail _ (List.Mem.head _))
  have c111 := L108.out.cell (b := w16.heap.size) (x := Value.slice sa R.length sc) (t := 34) (List.Mem.tail _ (List.Mem.tail _ (List.Mem.head _)))
  have c112 := L108.out.cell (b := w.heap.size) (x := Value.slice a l.length cap) (t := 29) (List.Mem.tail _ (List.Mem.tail _ (List.Mem.tail _ (List.Mem.head _))))
  go_wp2_with fail
  clear c109 c110 c111 c112
  obtain ⟨g113, hg113⟩ : ∃ q, q = w107.heap.size := ⟨_, rfl⟩
  refine (toRawS_at rs hrl w107 g113 hg113 (HRF.out.kept L108.out.below)).mono ?_
  rintro e w114 ⟨rfl, hown, hb⟩
  have L115 : Hid (LawS w [(w40.heap.size, Obj.cells #[Value.slice qa R.length qc] 34), (w25.heap.size, Obj.cells #[Value.slice (some ⟨g24, 0, none⟩) l.length l.length] 34), (w16.heap.size, Obj.cells #[Value.slice sa R.length sc] 34), (w.heap.size, Obj.cells #[Value.slice a l.length cap] 29)] [⟨.slice (some ⟨g113, 0, none⟩) rs.length rs.length, 45, 4, rs.length, cellsRaw rs⟩, ⟨.slice (some ⟨g106, 0, none⟩) l.length l.length, 68, 2, l.length, cellsF l⟩, ⟨.slice (some ⟨g63, 0, none⟩) rs.length rs.length, 45, 4, rs.length, cellsRaw rs⟩, ⟨.slice (some ⟨g7, 0, none⟩) l.length l.length, 68, 2, l.length, cellsF l⟩, ⟨.slice qa R.length qc, 68, 2, R.length, cellsF (marksF 1 R.length)⟩, ⟨.slice (some ⟨g34, 0, none⟩) rs.length rs.length, 45, 4, rs.length, cellsRaw (marksRaw K1 rs.length)⟩, ⟨.slice (some ⟨g24, 0, none⟩) l.length l.length, 68, 2, l.length, cellsF (marksF 1 l.length)⟩, ⟨.slice sa R.length sc, 68, 2, R.length, cellsF R⟩, ⟨.slice (some ⟨g12, 0, none⟩) rs.length rs.length, 45, 4, rs.length, cellsRaw rs⟩, ⟨.slice (some ⟨g8, 0, none⟩) l.length l.length, 68, 2, l.length, cellsF l⟩] w114) := L108.out.call hb hown
  clear L108
  clear hb hown
  clear hg113
  have c116 := L115.out.cell (b := w40.heap.size) (x := Value.slice qa R.length qc) (t := 34) (List.Mem.head _)
  have c117 := L115.out.cell (b := w25.heap.size) (x := Value.slice (some ⟨g24, 0, none⟩) l.length l.length) (t := 34) (List.Mem.tail _ (List.Mem.head _))
  have c118 := L115.out.cell (b := w16.heap.size) (x := Value.slice sa R.length sc) (t := 34) (List.Mem.tail _ (List.Mem.tail _ (List.Mem.head _)))
  have c119 := L115.out.cell (b := w.heap.size) (x := Value.slice a l.length cap) (t := 29) (List.Mem.tail _ (List.Mem.tail _ (List.Mem.tail _ (List.Mem.head _))))
  go_wp2_with fail
  clear c116 c117 c118 c119
  obtain ⟨hAg, hA⟩ := L115.out.files 1 rfl rfl
  obtain ⟨hBg, hB⟩ := L115.out.raws 0 rfl rfl
  refine (HIMPL.out w114 _ _ _ _ _ _ hA hB).mono ?_
  rintro e w120 ⟨v, rfl, hown, hb⟩
  have L121 : Hid (LawS w [(w40.heap.size, Obj.cells #[Value.slice qa R.length qc] 34), (w25.heap.size, Obj.cells #[Value.slice (some ⟨g24, 0, none⟩) l.length l.length] 34), (w16.heap.size, Obj.cells #[Value.slice sa R.length sc] 34), (w.heap.size, Obj.cells #[Value.slice a l.length cap] 29)] [⟨v, 68, 2, R.length, cellsF R⟩, ⟨.slice (some ⟨g113, 0, none⟩) rs.length rs.length, 45, 4, rs.length, cellsRaw rs⟩, ⟨.slice (some ⟨g106, 0, none⟩) l.length l.length, 68, 2, l.length, cellsF l⟩, ⟨.slice (some ⟨g63, 0, none⟩) rs.length rs.length, 45, 4, rs.length, cellsRaw rs⟩, ⟨.slice (some ⟨g7, 0, none⟩) l.length l.length, 68, 2, l.length, cellsF l⟩, ⟨.slice qa R.length qc, 68, 2, R.length, cellsF (marksF 1 R.length)⟩, ⟨.slice (some ⟨g34, 0, none⟩) rs.length rs.length, 45, 4, rs.length, cellsRaw (marksRaw K1 rs.length)⟩, ⟨.slice (some ⟨g24, 0, none⟩) l.length l.length, 68, 2, l.length, cellsF (marksF 1 l.length)⟩, ⟨.slice sa R.length sc, 68, 2, R.length, cellsF R⟩, ⟨.slice (some ⟨g12, 0, none⟩) rs.length rs.length, 45, 4, rs.length, cellsRaw rs⟩, ⟨.slice (some ⟨g8, 0, none⟩) l.length l.length, 68, 2, l.length, cellsF l⟩] w120) := L115.out.call hb hown
  clear L115
  clear hb hown
  clear hA hB
  obtain ⟨ta, tc, rfl⟩ : ∃ x y, v = .slice x R.length y := own_slice (L121.out.row 0 rfl)
  have L122 : Hid (LawS w [(w40.heap.size, Obj.cells #[Value.slice qa R.length qc] 34), (w25.heap.size, Obj.cells #[Value.slice (some ⟨g24, 0, none⟩) l.length l.length] 34), (w16.heap.size, Obj.cells #[Value.slice sa R.length sc] 34), (w.heap.size, Obj.cells #[Value.slice a l.length cap] 29)] [⟨.slice ta R.length tc, 68, 2, R.length, cellsF R⟩, ⟨.slice (some ⟨g113, 0, none⟩) rs.length rs.length, 45, 4, rs.length, cellsRaw rs⟩, ⟨.slice (some ⟨g106, 0, none⟩) l.length l.length, 68, 2, l.length, cellsF l⟩, ⟨.slice (some ⟨g63, 0, none⟩) rs.length rs.length, 45, 4, rs.length, cellsRaw rs⟩, ⟨.slice (some ⟨g7, 0, none⟩) l.length l.length, 68, 2, l.length, cellsF l⟩, ⟨.slice qa R.length qc, 68, 2, R.length, cellsF (marksF 1 R.length)⟩, ⟨.slice (some ⟨g34, 0, none⟩) rs.length rs.length, 45, 4, rs.length, cellsRaw (marksRaw K1 rs.length)⟩, ⟨.slice (some ⟨g24, 0, none⟩) l.length l.length, 68, 2, l.length, cellsF (marksF 1 l.length)⟩, ⟨.slice sa R.length sc, 68, 2, R.length, cellsF R⟩, ⟨.slice (some ⟨g12, 0, none⟩) rs.length rs.length, 45, 4, rs.length, cellsRaw rs⟩, ⟨.slice (some ⟨g8, 0, none⟩) l.length l.length, 68, 2, l.length, cellsF l⟩] w120) := L121.out
  clear L121
  have c123 := L122.out.cell (b := w40.heap.size) (x := Value.slice qa R.length qc) (t := 34) (List.Mem.head _)
  have c124 := L122.out.cell (b := w25.heap.size) (x := Value.slice (some ⟨g24, 0, none⟩) l.length l.length) (t := 34) (List.Mem.tail _ (List.Mem.head _))
  have c125 := L122.out.cell (b := w16.heap.size) (x := Value.slice sa R.length sc) (t := 34) (List.Mem.tail _ (List.Mem.tail _ (List.Mem.head _)))
  have c126 := L122.out.cell (b := w.heap.size) (x := Value.slice a l.length cap) (t := 29) (List.Mem.tail _ (List.Mem.tail _ (List.Mem.tail _ (List.Mem.head _))))
  have c127 := L122.out.cellA (b := w40.heap.size) (x := Value.slice qa R.length qc) (t := 34) (List.Mem.head _) (Obj.cells #[Value.slice ta R.length tc] 34)
  have c128 := L122.out.cellA (b := w25.heap.size) (x := Value.slice (some ⟨g24, 0, none⟩) l.length l.length) (t := 34) (List.Mem.tail _ (List.Mem.head _)) (Obj.cells #[Value.slice ta R.length tc] 34)
  have c129 := L122.out.cellA (b := w16.heap.size) (x := Value.slice sa R.length sc) (t := 34) (List.Mem.tail _ (List.Mem.tail _ (List.Mem.head _))) (Obj.cells #[Value.slice ta R.length tc] 34)
  have c130 := L122.out.cellA (b := w.heap.size) (x := Value.slice a l.length cap) (t := 29) (List.Mem.tail _ (List.Mem.tail _ (List.Mem.tail _ (List.Mem.head _)))) (Obj.cells #[Value.slice ta R.length tc] 34)
  go_wp2_with fail
  clear c123 c124 c125 c126 c127 c128 c129 c130
  obtain ⟨w131, hw131⟩ : ∃ W, W = w120.alloc (Obj.cells #[Value.slice ta R.length tc] 34) := ⟨_, rfl⟩
  have L132 := L122.out.alloc (Obj.cells #[Value.slice ta R.length tc] 34)
  rw [← hw131] at L132 ⊢
  clear hw131
  have L133 : Hid (LawS w [(w120.heap.size, Obj.cells #[Value.slice ta R.length tc] 34), (w40.heap.size, Obj.cells #[Value.slice qa R.length qc] 34), (w25.heap.size, Obj.cells #[Value.slice (some ⟨g24, 0, none⟩) l.length l.length] 34), (w16.heap.size, Obj.cells #[Value.slice sa R.length sc] 34), (w.heap.size, Obj.cells #[Value.slice a l.length cap] 29)] [⟨.slice ta R.length tc, 68, 2, R.length, cellsF R⟩, ⟨.slice (some ⟨g113, 0, none⟩) rs.length rs.length, 45, 4, rs.length, cellsRaw rs⟩, ⟨.slice (some ⟨g106, 0, none⟩) l.length l.length, 68, 2, l.length, cellsF l⟩, ⟨.slice (some ⟨g63, 0, none⟩) rs.length rs.length, 45, 4, rs.length, cellsRaw rs⟩, ⟨.slice (some ⟨g7, 0, none⟩) l.length l.length, 68, 2, l.length, cellsF l⟩, ⟨.slice qa R.length qc, 68, 2, R.length, cellsF (marksF 1 R.length)⟩, ⟨.slice (some ⟨g34, 0, none⟩) rs.length rs.length, 45, 4, rs.length, cellsRaw (marksRaw K1 rs.length)⟩, ⟨.slice (some ⟨g24, 0, none⟩) l.length l.length, 68, 2, l.length, cellsF (marksF 1 l.length)⟩, ⟨.slice sa R.length sc, 68, 2, R.length, cellsF R⟩, ⟨.slice (some ⟨g12, 0, none⟩) rs.length rs.length, 45, 4, rs.length, cellsRaw rs⟩, ⟨.slice (some ⟨g8, 0, none⟩) l.length l.length, 68, 2, l.length, cellsF l⟩] w131) := L132
  clear L122
  clear L132
  obtain ⟨hAg, hA⟩ := L133.out.files 0 rfl rfl
  obtain ⟨hBg, hB⟩ := L133.out.files 8 rfl rfl
  refine (eqDisk_same R hR30 w131 hA hB).mono ?_
  rintro e w134 ⟨rfl, hb⟩
  have L135 : Hid (LawS w [(w120.heap.size, Obj.cells #[Value.slice ta R.length tc] 34), (w40.heap.size, Obj.cells #[Value.slice qa R.length qc] 34), (w25.heap.size, Obj.cells #[Value.slice (some ⟨g24, 0, none⟩) l.length l.length] 34), (w16.heap.size, Obj.cells #[Value.slice sa R.length sc] 34), (w.heap.size, Obj.cells #[Value.slice a l.length cap] 29)] [⟨.slice ta R.length tc, 68, 2, R.length, cellsF R⟩, ⟨.slice (some ⟨g113, 0, none⟩) rs.length rs.length, 45, 4, rs.length, cellsRaw rs⟩, ⟨.slice (some ⟨g106, 0, none⟩) l.length l.length, 68, 2, l.length, cellsF l⟩, ⟨.slice (some ⟨g63, 0, none⟩) rs.length rs.length, 45, 4, rs.length, cellsRaw rs⟩, ⟨.slice (some ⟨g7, 0, none⟩) l.length l.length, 68, 2, l.length, cellsF l⟩, ⟨.slice qa R.length qc, 68, 2, R.length, cellsF (marksF 1 R.length)⟩, ⟨.slice (some ⟨g34, 0, none⟩) rs.length rs.length, 45, 4, rs.length, cellsRaw (marksRaw K1 rs.length)⟩, ⟨.slice (some ⟨g24, 0, none⟩) l.length l.length, 68, 2, l.length, cellsF (marksF 1 l.length)⟩, ⟨.slice sa R.length sc, 68, 2, R.length, cellsF R⟩, ⟨.slice (some ⟨g12, 0, none⟩) rs.length rs.length, 45, 4, rs.length, cellsRaw rs⟩, ⟨.slice (some ⟨g8, 0, none⟩) l.length l.length, 68, 2, l.length, cellsF l⟩] w134) := L133.out.step hb
  clear L133
  clear hb
  clear hA hB
  have c136 := L135.out.cell (b := w120.heap.size) (x := Value.slice ta R.length tc) (t := 34) (List.Mem.head _)
  have c137 := L135.out.cell (b := w40.heap.size) (x := Value.slice qa R.length qc) (t := 34) (List.Mem.tail _ (List.Mem.head _))
  have c138 := L135.out.cell (b := w25.heap.size) (x := Value.slice (some ⟨g24, 0, none⟩) l.length l.length) (t := 34) (List.Mem.tail _ (List.Mem.tail _ (List.Mem.head _)))
  have c139 := L135.out.cell (b := w16.heap.size) (x := Value.slice sa R.length sc) (t := 34) (List.Mem.tail _ (List.Mem.tail _ (List.Mem.tail _ (List.Mem.head _))))
  have c140 := L135.out.cell (b := w.heap.size) (x := Value.slice a l.length cap) (t := 29) (List.Mem.tail _ (List.Mem.tail _ (List.Mem.tail _ (List.Mem.tail _ (List.Mem.head _)))))
  go_wp2_with fail
  clear c136 c137 c138 c139 c140
  have HH1 : Hid (∀ (wx : World) (g' : Nat), FilesAt wx qa g' 0 (marksF 1 R.length) → Calls Try.prog 31 #[.agg #[.slice qa R.length qc], .int .i64 1] wx fun e w' => e = .returned (.int .i64 (M1 : Int)) ∧ Below wx.heap.size wx w') := fun wx g' h => by rw [HM1.out]; exact heldDisk_is R.length hR30 wx h
  obtain ⟨hAg, hA⟩ := L135.out.files 5 rfl (marksF_len _ _)
  refine (HH1.out w134 _ hA).mono ?_
  rintro e w141 ⟨rfl, hb⟩
  have L142 : Hid (LawS w [(w120.heap.size, Obj.cells #[Value.slice ta R.length tc] 34), (w40.heap.size, Obj.cells #[Value.slice qa R.length qc] 34), (w25.heap.size, Obj.cells #[Value.slice (some ⟨g24, 0, none⟩) l.length l.length] 34), (w16.heap.size, Obj.cells #[Value.slice sa R.length sc] 34), (w.heap.size, Obj.cells #[Value.slice a l.length cap] 29)] [⟨.slice ta R.length tc, 68, 2, R.length, cellsF R⟩, ⟨.slice (some ⟨g113, 0, none⟩) rs.length rs.length, 45, 4, rs.length, cellsRaw rs⟩, ⟨.slice (some ⟨g106, 0, none⟩) l.length l.length, 68, 2, l.length, cellsF l⟩, ⟨.slice (some ⟨g63, 0, none⟩) rs.length rs.length, 45, 4, rs.length, cellsRaw rs⟩, ⟨.slice (some ⟨g7, 0, none⟩) l.length l.length, 68, 2, l.length, cellsF l⟩, ⟨.slice qa R.length qc, 68, 2, R.length, cellsF (marksF 1 R.length)⟩, ⟨.slice (some ⟨g34, 0, none⟩) rs.length rs.length, 45, 4, rs.length, cellsRaw (marksRaw K1 rs.length)⟩, ⟨.slice (some ⟨g24, 0, none⟩) l.length l.length, 68, 2, l.length, cellsF (marksF 1 l.length)⟩, ⟨.slice sa R.length sc, 68, 2, R.length, cellsF R⟩, ⟨.slice (some ⟨g12, 0, none⟩) rs.length rs.length, 45, 4, rs.length, cellsRaw rs⟩, ⟨.slice (some ⟨g8, 0, none⟩) l.length l.length, 68, 2, l.length, cellsF l⟩] w141) := L135.out.step hb
  clear L135
  clear hb
  clear hA HH1
  go_wp2
  go_ret
  exact ⟨rfl, L142.out.below⟩
end Go.Proofs.Ytpkkejpidlkmnaa
