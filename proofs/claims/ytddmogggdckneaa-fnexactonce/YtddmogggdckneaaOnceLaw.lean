/- For every list of replies FnExactOnce returns true: Once answers as its model; no condition. -/
import Derived.Test.YtddmogggdckneaaImplOnce
import Derived.Test.YtddmogggdckneaaSpecOnce
import Derived.Test.YtddmogggdckneaaORp
namespace Go.Proofs.Ytddmogggdckneaa
open Go.RowKit
set_option linter.unusedVariables false
set_option linter.unusedSimpArgs false
set_option maxHeartbeats 4000000 in
set_option maxRecDepth 100000 in
theorem lawOnce_any {a : Option Addr} {g off cap : Nat} (l : List RpL) (hlen : l.length ≤ maxLen) (hr : ∀ r ∈ l, rightRp r) (w : World) (hf : RpAt w a g off l) :
    Calls Try.prog 5 #[.slice a l.length cap] w fun e w' => e = .returned (.bool true) ∧ Below w.heap.size w w' := by
  have HF : Hid (RpAt w a g off l) := hf
  have HS : Hid (∀ r ∈ l, smallRp maxLen r) := fun r h => (hr r h).1
  have HR : Hid (∀ r ∈ l, rightRp r) := hr
  have HL : Hid (l.length ≤ maxLen) := hlen
  clear hf hr hlen
  go_enter Try.func5, Try.ntmps5
  go_wp2_with fail
  refine (szRpS_is l HL.out HS.out 1048576 (Nat.le_refl _) w HF.out).mono ?_
  rintro e w1 ⟨x, rfl, hx, hb1⟩
  rcases hx with ⟨hx1, hx2⟩ | ⟨hx1, hx2⟩
  · obtain ⟨Y, hY⟩ : ∃ Y : Nat, Y = 1048576 - totRp l := ⟨_, rfl⟩
    rw [← hY] at hx2
    subst hx2
    clear hY
    obtain ⟨hl, hs⟩ := totRp_small hx1
    have HB2 : Hid (∀ r ∈ l, smallRp 1048576 r) := hs
    clear hx1 hs
    obtain ⟨R, hR⟩ : ∃ R, R = onceB l := ⟨_, rfl⟩
    have HSP : Hid (∀ (X : World) (g1 : Nat), RpAt X (some ⟨g1, 0, none⟩) g1 0 l → Calls Try.prog 20 #[.slice (some ⟨g1, 0, none⟩) l.length l.length] X fun e w' => e = .returned (.bool R) ∧ Below X.heap.size X w') := fun X g1 h => by rw [hR]; exact specOnce_is l hl X h
    have HIM : Hid (∀ (X : World) (g1 : Nat), RpAt X (some ⟨g1, 0, none⟩) g1 0 l → Calls Try.prog 22 #[.slice (some ⟨g1, 0, none⟩) l.length l.length] X fun e w' => e = .returned (.bool R) ∧ Below X.heap.size X w') := fun X g1 h => by rw [hR]; exact implOnce_is l hl HR.out X h
    clear hR
    go_wp2_with fail
    refine (toRpS_is l hl w1 (HF.out.kept hb1)).mono ?_
    rintro e w2 ⟨rfl, hown2, hb2⟩
    have hB2 : Below w.heap.size w w2 := hb1.trans (hb2.mono hb1.size)
    have HF2 : Hid (RpAt w2 (some ⟨w1.heap.size, 0, none⟩) w1.heap.size 0 l) := cellsRp_own rfl hown2
    clear hb1 hb2 hown2
    go_wp2_with fail
    refine (HSP.out w2 w1.heap.size HF2.out).mono ?_
    rintro e w3 ⟨rfl, hb3⟩
    have hB3 : Below w.heap.size w w3 := hB2.trans (hb3.mono hB2.size)
    clear hB2 hb3
    go_wp2_with fail
    refine (toRpS_is l hl w3 (HF.out.kept hB3)).mono ?_
    rintro e w4 ⟨rfl, hown4, hb4⟩
    have hB4 : Below w.heap.size w w4 := hB3.trans (hb4.mono hB3.size)
    have HF4 : Hid (RpAt w4 (some ⟨w3.heap.size, 0, none⟩) w3.heap.size 0 l) := cellsRp_own rfl hown4
    clear hB3 hb4 hown4
    go_wp2_with fail
    refine (HIM.out w4 w3.heap.size HF4.out).mono ?_
    rintro e w5 ⟨rfl, hb5⟩
    have hB5 : Below w.heap.size w w5 := hB4.trans (hb5.mono hB4.size)
    have HF5 : Hid (RpAt w5 (some ⟨w3.heap.size, 0, none⟩) w3.heap.size 0 l) := HF4.out.kept hb5
    clear hB4 hb5 HF4
    cases R
    all_goals
      go_wp2_with fail
      refine (toRpS_is l hl w5 (HF.out.kept hB5)).mono ?_
      rintro e w6 ⟨rfl, hown6, hb6⟩
      have hB6 : Below w.heap.size w w6 := hB5.trans (hb6.mono hB5.size)
      have HF6 : Hid (RpAt w6 (some ⟨w3.heap.size, 0, none⟩) w3.heap.size 0 l) := HF5.out.kept hb6
      clear hB5 hb6 HF5
      go_wp2_with fail
      refine (eqRpS_same l hl w6 HF6.out (cellsRp_own rfl hown6)).mono ?_
      rintro e w7 ⟨rfl, hb7⟩
      have hB7 : Below w.heap.size w w7 := hB6.trans (hb7.mono hB6.size)
      clear hB6 hb7 hown6
      go_wp2
      go_ret
      exact ⟨rfl, hB7⟩
  · subst hx2
    go_wp2
    go_ret
    exact ⟨rfl, hb1⟩
end Go.Proofs.Ytddmogggdckneaa
