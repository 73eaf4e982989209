/- The exact law of DirOk, walked. -/
import Derived.Test.YtinhgonmdnbdiaaSpecDirOk
import Derived.Test.YtinhgonmdnbdiaaDirOk
namespace Go.Proofs.Ytinhgonmdnbdiaa
open Go.RowKit
set_option linter.unusedVariables false

theorem toSpotS_own {a : Option Addr} {g off cap : Nat} (l : List SpotL) (hlen : l.length ≤ 1048576) (w : World) (hf : SpotAt w a g off l) :
    Calls Try.prog 18 #[.slice a l.length cap] w fun e w' => ∃ g' : Nat, e = .returned (.slice (some ⟨g', 0, none⟩) l.length l.length) ∧ w'.ownsRow w.heap.size 56 4 (.slice (some ⟨g', 0, none⟩) l.length l.length) l.length (cellsSpot l) ∧ Below w.heap.size w w' :=
  (toSpotS_is l hlen w hf).mono fun e w' ⟨h1, h2, h3⟩ => ⟨_, h1, h2, h3⟩
theorem small_two {l : List SpotL} (h : ∀ r ∈ l, smallSpot 1048576 r) : ∀ r ∈ l, smallSpot 2097152 r := fun r hr => Nat.le_trans (h r hr) (by omega)
theorem ok_ex (l : List SpotL) : ∃ R : Bool, R = true ↔ Dirs.ok l := by
  by_cases h : Dirs.ok l
  · exact ⟨true, by simp [h]⟩
  · exact ⟨false, by simp [h]⟩
set_option maxHeartbeats 1000000 in
set_option maxRecDepth 100000 in
theorem lawDirOk_any {a : Option Addr} {g off cap : Nat} (l : List SpotL) (hlen : l.length ≤ maxLen) (hsz : ∀ r ∈ l, smallSpot maxLen r) (w : World) (hf : SpotAt w a g off l) :
    Calls Try.prog 4 #[.slice a l.length cap] w fun e w' => e = .returned (.bool true) ∧ Below w.heap.size w w' := by
  have HF : Hid (SpotAt w a g off l) := hf
  have HS : Hid (∀ r ∈ l, smallSpot maxLen r) := hsz
  have HL : Hid (l.length ≤ maxLen) := hlen
  clear hf hsz hlen
  go_enter Try.func4, Try.ntmps4
  go_wp2_with fail
  refine (szSpotS_is l HL.out HS.out 1048576 (Nat.le_refl _) w HF.out).mono ?_
  rintro e w1 ⟨x, rfl, hx, hb1⟩
  rcases hx with ⟨hx1, hx2⟩ | ⟨hx1, hx2⟩
  · obtain ⟨Y, hY⟩ : ∃ Y : Nat, Y = 1048576 - totSpot l := ⟨_, rfl⟩
    rw [← hY] at hx2
    subst hx2
    clear hY
    obtain ⟨hl, hs⟩ := totSpot_small hx1
    have HSS : Hid (∀ r ∈ l, smallSpot 2097152 r) := small_two hs
    have HL2 : Hid (l.length ≤ 2097152) := by show _ ≤ _; omega
    clear hs hx1
    obtain ⟨R, hR⟩ := ok_ex l
    have HR : Hid (R = true ↔ Dirs.ok l) := hR
    clear hR
    go_wp2_with fail
    refine (toSpotS_own l hl w1 (HF.out.kept hb1)).mono ?_
    rintro e w2 ⟨g2, rfl, hown2, hb2⟩
    have hB2 : Below w.heap.size w w2 := hb1.trans (hb2.mono hb1.size)
    clear hb1 hb2
    go_wp2_with fail
    refine (specDirOk_any R l HL2.out w2 (cellsSpot_own rfl hown2) HSS.out HR.out).mono ?_
    rintro e w3 ⟨rfl, hb3⟩
    have hB3 : Below w.heap.size w w3 := hB2.trans (hb3.mono hB2.size)
    clear hB2 hb3 hown2
    go_wp2_with fail
    refine (toSpotS_own l hl w3 (HF.out.kept hB3)).mono ?_
    rintro e w4 ⟨g4, rfl, hown4, hb4⟩
    have hB4 : Below w.heap.size w w4 := hB3.trans (hb4.mono hB3.size)
    have HF4 : Hid (SpotAt w4 (some ⟨g4, 0, none⟩) g4 0 l) := cellsSpot_own rfl hown4
    clear hB3 hb4 hown4
    go_wp2_with fail
    refine (implDirOk_any R l HL2.out w4 HF4.out HSS.out HR.out).mono ?_
    rintro e w5 ⟨rfl, hb5⟩
    have hB5 : Below w.heap.size w w5 := hB4.trans (hb5.mono hB4.size)
    have HF5 : Hid (SpotAt w5 (some ⟨g4, 0, none⟩) g4 0 l) := HF4.out.kept hb5
    clear hB4 hb5 HF4
    go_wp2_with fail
    refine (toSpotS_own l hl w5 (HF.out.kept hB5)).mono ?_
    rintro e w6 ⟨g6, rfl, hown6, hb6⟩
    have hB6 : Below w.heap.size w w6 := hB5.trans (hb6.mono hB5.size)
    have HF6 : Hid (SpotAt w6 (some ⟨g4, 0, none⟩) g4 0 l) := HF5.out.kept hb6
    clear hB5 hb6 HF5
    go_wp2_with fail
    refine (eqSpotS_same l hl w6 HF6.out (cellsSpot_own rfl hown6)).mono ?_
    rintro e w7 ⟨rfl, hb7⟩
    have hB7 : Below w.heap.size w w7 := hB6.trans (hb7.mono hB6.size)
    clear hB6 hb7 hown6
    go_wp2
    go_ret
    exact ⟨rfl, hB7⟩
  · subst hx2
    go_wp2
    go_ret
    exact ⟨rfl, hb1⟩
end Go.Proofs.Ytinhgonmdnbdiaa
