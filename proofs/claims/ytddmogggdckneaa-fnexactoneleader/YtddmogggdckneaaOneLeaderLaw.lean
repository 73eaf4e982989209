/- For every list of leaders FnExactOneLeader returns true: OneLeader answers as its model; no condition. -/
import Derived.Test.YtddmogggdckneaaAgreeLd
import Derived.Test.YtddmogggdckneaaSpecOne
import Derived.Test.YtddmogggdckneaaOLd
namespace Go.Proofs.Ytddmogggdckneaa
open Go.RowKit
set_option linter.unusedVariables false
set_option linter.unusedSimpArgs false
def ldPairs (l : List LdL) : List (Int × Int) := l.map fun r => (r.term, r.node)
theorem OneLd.pair {w : World} {c : LcL} {r : LdL} (h : OneLd w c r) : lcPair c = (r.term, r.node) := by
  obtain ⟨b, gb, ob, cb, rfl, _⟩ := h
  rfl
theorem FitsLd.pairs {w : World} {cs : List LcL} {l : List LdL} (h : FitsLd w cs l) : lcPairs cs = ldPairs l := by
  apply List.ext_getElem
  · simp [lcPairs, ldPairs, h.1]
  · intro i h1 h2
    have h1' : i < cs.length := by simpa [lcPairs] using h1
    have h2' : i < l.length := by simpa [ldPairs] using h2
    simp only [lcPairs, ldPairs, List.getElem_map]
    exact (h.2 i h1' h2').pair
theorem OneLd.term {w : World} {c : LcL} {r : LdL} (h : OneLd w c r) : c.term = r.term := by
  obtain ⟨b, gb, ob, cb, rfl, _⟩ := h
  rfl
def oneLd (l : List LdL) : Bool := Watch.allOne (ldPairs l) l.length
theorem specOneLd_is {a : Option Addr} {g off cap : Nat} (cs : List LcL) (l : List LdL) (hlen : l.length ≤ 1048576) (w : World) (hf : LdAt w a g off cs l) :
    Calls Try.prog 25 #[.slice a l.length cap] w fun e w' => e = .returned (.bool (oneLd l)) ∧ Below w.heap.size w w' := by
  have := specOneC_is (cap := cap) cs (by rw [hf.2.1]; exact hlen) w hf.1
  rw [hf.2.pairs, hf.2.1] at this
  exact this
theorem implOneLd_is {a : Option Addr} {g off cap : Nat} (cs : List LcL) (l : List LdL) (hlen : l.length ≤ 1048576) (hr : ∀ r ∈ l, rightLd r) (w : World) (hf : LdAt w a g off cs l) :
    Calls Try.prog 27 #[.slice a l.length cap] w fun e w' => e = .returned (.bool (oneLd l)) ∧ Below w.heap.size w w' := by
  have := implOneC_is (cap := cap) cs (by rw [hf.2.1]; exact hlen) (by
    intro c hc
    obtain ⟨i, hi, rfl⟩ := List.mem_iff_getElem.1 hc
    have hi' : i < l.length := by rw [← hf.2.1]; exact hi
    rw [(hf.2.2 i hi hi').term]
    exact (hr _ (List.getElem_mem hi')).2) w hf.1
  unfold oneB at this
  rw [hf.2.pairs, hf.2.1] at this
  exact this
set_option maxHeartbeats 4000000 in
set_option maxRecDepth 100000 in
theorem lawOneLeader_any {a : Option Addr} {g off cap : Nat} (cs : List LcL) (l : List LdL) (hlen : l.length ≤ maxLen) (hr : ∀ r ∈ l, rightLd r) (w : World) (hf : LdAt w a g off cs l) :
    Calls Try.prog 6 #[.slice a l.length cap] w fun e w' => e = .returned (.bool true) ∧ Below w.heap.size w w' := by
  have HF : Hid (LdAt w a g off cs l) := hf
  have HS : Hid (∀ r ∈ l, smallLd maxLen r) := fun r h => (hr r h).1
  have HR : Hid (∀ r ∈ l, rightLd r) := hr
  have HL : Hid (l.length ≤ maxLen) := hlen
  clear hf hr hlen
  go_enter Try.func6, Try.ntmps6
  go_wp2_with fail
  refine (szLdS_is cs l HL.out HS.out 1048576 (Nat.le_refl _) w HF.out).mono ?_
  rintro e w1 ⟨x, rfl, hx, hb1⟩
  rcases hx with ⟨hx1, hx2⟩ | ⟨hx1, hx2⟩
  · obtain ⟨Y, hY⟩ : ∃ Y : Nat, Y = 1048576 - totLd l := ⟨_, rfl⟩
    rw [← hY] at hx2
    subst hx2
    clear hY
    obtain ⟨hl, hs⟩ := totLd_small hx1
    have HB2 : Hid (∀ r ∈ l, smallLd 1048576 r) := hs
    clear hx1 hs
    obtain ⟨R, hR⟩ : ∃ R, R = oneLd l := ⟨_, rfl⟩
    have HSP : Hid (∀ (X : World) (g1 : Nat) (ds : List LcL), LdAt X (some ⟨g1, 0, none⟩) g1 0 ds l → Calls Try.prog 25 #[.slice (some ⟨g1, 0, none⟩) l.length l.length] X fun e w' => e = .returned (.bool R) ∧ Below X.heap.size X w') := fun X g1 ds h => by rw [hR]; exact specOneLd_is ds l hl X h
    have HIM : Hid (∀ (X : World) (g1 : Nat) (ds : List LcL), LdAt X (some ⟨g1, 0, none⟩) g1 0 ds l → Calls Try.prog 27 #[.slice (some ⟨g1, 0, none⟩) l.length l.length] X fun e w' => e = .returned (.bool R) ∧ Below X.heap.size X w') := fun X g1 ds h => by rw [hR]; exact implOneLd_is ds l hl HR.out X h
    clear hR
    go_wp2_with fail
    refine (toLdS_is cs l hl HB2.out w1 (HF.out.kept hb1)).mono ?_
    rintro e w2 hp
    unfold CopyLdS at hp
    obtain ⟨d2, rfl, hat2, hb2⟩ := hp
    have hB2 : Below w.heap.size w w2 := hb1.trans (hb2.mono hb1.size)
    have HF2 : Hid (LdAt w2 (some ⟨w1.heap.size, 0, none⟩) w1.heap.size 0 d2 l) := hat2
    clear hb1 hb2 hat2
    go_wp2_with fail
    refine (HSP.out w2 w1.heap.size d2 HF2.out).mono ?_
    rintro e w3 ⟨rfl, hb3⟩
    have hB3 : Below w.heap.size w w3 := hB2.trans (hb3.mono hB2.size)
    clear hB2 hb3 HF2
    go_wp2_with fail
    refine (toLdS_is cs l hl HB2.out w3 (HF.out.kept hB3)).mono ?_
    rintro e w4 hp
    unfold CopyLdS at hp
    obtain ⟨d4, rfl, hat4, hb4⟩ := hp
    have hB4 : Below w.heap.size w w4 := hB3.trans (hb4.mono hB3.size)
    have HF4 : Hid (LdAt w4 (some ⟨w3.heap.size, 0, none⟩) w3.heap.size 0 d4 l) := hat4
    clear hB3 hb4 hat4
    go_wp2_with fail
    refine (HIM.out w4 w3.heap.size d4 HF4.out).mono ?_
    rintro e w5 ⟨rfl, hb5⟩
    have hB5 : Below w.heap.size w w5 := hB4.trans (hb5.mono hB4.size)
    have HF5 : Hid (LdAt w5 (some ⟨w3.heap.size, 0, none⟩) w3.heap.size 0 d4 l) := HF4.out.kept hb5
    clear hB4 hb5 HF4
    cases R
    all_goals
      go_wp2_with fail
      refine (toLdS_is cs l hl HB2.out w5 (HF.out.kept hB5)).mono ?_
      rintro e w6 hp
      unfold CopyLdS at hp
      obtain ⟨d6, rfl, hat6, hb6⟩ := hp
      have hB6 : Below w.heap.size w w6 := hB5.trans (hb6.mono hB5.size)
      have HF6 : Hid (LdAt w6 (some ⟨w3.heap.size, 0, none⟩) w3.heap.size 0 d4 l) := HF5.out.kept hb6
      have HA6 : Hid (LdAt w6 (some ⟨w5.heap.size, 0, none⟩) w5.heap.size 0 d6 l) := hat6
      clear hB5 hb6 HF5 hat6
      go_wp2_with fail
      refine (eqLdS_same d4 d6 l hl HB2.out w6 HF6.out HA6.out).mono ?_
      rintro e w7 ⟨rfl, hb7⟩
      have hB7 : Below w.heap.size w w7 := hB6.trans (hb7.mono hB6.size)
      clear hB6 hb7
      go_wp2
      go_ret
      exact ⟨rfl, hB7⟩
  · subst hx2
    go_wp2
    go_ret
    exact ⟨rfl, hb1⟩
end Go.Proofs.Ytddmogggdckneaa
