/- The program's Once, walked. -/
import Derived.Test.YtddmogggdckneaaDelRp
import Derived.Test.YtddmogggdckneaaSpecOnce
import Derived.Test.YtddmogggdckneaaAgreeWb
import Derived.Test.YtddmogggdckneaaORp
namespace Go.Proofs.Ytddmogggdckneaa
open Go.RowKit
set_option linter.unusedVariables false
set_option linter.unusedSimpArgs false
set_option maxHeartbeats 2000000 in
set_option maxRecDepth 100000 in
theorem implOnce_is {g off cap : Nat} (l : List RpL) (hlen : l.length ≤ 1048576) (hr : ∀ r ∈ l, rightRp r) (w : World) (hf : RpAt w (some ⟨g, off, none⟩) g off l) :
    Calls Try.prog 22 #[.slice (some ⟨g, off, none⟩) l.length cap] w fun e w' => e = .returned (.bool (onceB l)) ∧ Below w.heap.size w w' := by
  obtain ⟨M, hM⟩ : ∃ M, M = l.filter doneR := ⟨_, rfl⟩
  have hml : M.length ≤ 1048576 := by rw [hM]; exact Nat.le_trans (List.length_filter_le _ _) hlen
  have hmw : (wbS M).length = M.length := by simp [wbS]
  have HV : Hid (Watch.agree (wbPairs (wbS M)) = onceB l) := by
    show _ = _
    unfold onceB
    rw [once_eq, Watch.agree_allOne, hM]
  have HAG : Hid (∀ (X : World) (g1 : Nat), WbAt X (some ⟨g1, 0, none⟩) g1 0 (wbS M) → Calls Try.prog 52 #[.slice (some ⟨g1, 0, none⟩) M.length M.length] X fun e w' => e = .returned (.bool (onceB l)) ∧ Below X.heap.size X w') := fun X g1 h => by
    have := agreeWb_is (cap := M.length) (wbS M) (by rw [hmw]; exact hml) (by
      intro r hr'
      obtain ⟨x, hx, rfl⟩ := List.mem_map.1 hr'
      rw [hM] at hx
      exact (hr x (List.mem_filter.1 hx).1).2) X h
    rw [hmw, HV.out] at this
    exact this
  have HDE : Hid (∀ (X : World) (v : Value) (base : Nat), X.ownsRow base 87 9 v l.length (cellsRp l) → base ≤ X.heap.size → Calls Try.prog 47 #[v, .func (.func 49) #[] #[]] X (DelPost l base X)) := fun X v base h hb => deleteRp_is l hlen X h hb
  have HML : Hid (M.length ≤ 1048576) := hml
  have HM : Hid (M = l.filter doneR) := hM
  clear hM hml hmw hr
  go_enter Try.func22, Try.ntmps22
  go_wp2_with fail
  refine (cloneRp_is l hlen w hf).mono ?_
  rintro e w1 ⟨v, rfl, hown1, hb1⟩
  have HB1 : Hid (Below w.heap.size w w1) := hb1
  have HO1 : Hid (w1.ownsRow w.heap.size 87 9 v l.length (cellsRp l)) := hown1
  clear hb1 hown1
  go_wp2_with fail
  refine (HDE.out w1 v w.heap.size HO1.out HB1.out.size).mono ?_
  rintro e w2 hp
  unfold DelPost at hp
  obtain ⟨a2, g2, cap2, rfl, hat2, hb2⟩ := hp
  rw [← HM.out] at hat2 ⊢
  have HB2 : Hid (Below w.heap.size w w2) := HB1.out.trans hb2
  have HA2 : Hid (RpAt w2 a2 g2 0 M) := hat2
  clear hb2 hat2 HO1 HB1
  go_wp2_with fail
  refine (watchRp_is M HML.out w2 HA2.out).mono ?_
  rintro e w3 ⟨rfl, hown3, hb3⟩
  have HB3 : Hid (Below w.heap.size w w3) := HB2.out.trans (hb3.mono HB2.out.size)
  have HW3 : Hid (WbAt w3 (some ⟨w2.heap.size, 0, none⟩) w2.heap.size 0 (wbS M)) := cellsWb_own (by simp [wbS]) hown3
  clear hown3 hb3 HB2 HA2
  go_wp2_with fail
  refine (HAG.out w3 _ HW3.out).mono ?_
  rintro e w4 ⟨rfl, hb4⟩
  go_wp2
  go_ret
  exact ⟨rfl, HB3.out.trans (hb4.mono HB3.out.size)⟩
end Go.Proofs.Ytddmogggdckneaa
