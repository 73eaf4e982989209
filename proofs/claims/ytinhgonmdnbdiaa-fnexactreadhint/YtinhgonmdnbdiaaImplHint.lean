/- The calls of the program's ReadHint and of the function that it hands on, walked. -/
import Derived.Test.YtinhgonmdnbdiaaRdDir
import Derived.Test.YtinhgonmdnbdiaaWhole2
import Derived.Test.YtinhgonmdnbdiaaHintText
namespace Go.Proofs.Ytinhgonmdnbdiaa
open Go.RowKit
set_option linter.unusedVariables false

set_option maxHeartbeats 400000 in
theorem dlit_thrown {rb B0 : Nat} {t : ByteArray} (hs : t.size ≤ 1048576) (w : World) (hr : Rd w rb t 0) (h : DTorn t 0) :
    Calls Try.prog 51 #[.pointer (some ⟨rb, 0, none⟩), .pointer (some ⟨B0, 0, none⟩)] w fun en w' => en = .panicked thrown ∧ w.grownBy w' (some rb) := by
  have HR : Hid (Rd w rb t 0) := hr
  have HH : Hid (DTorn t 0) := h
  clear hr h
  go_enter Try.func51, Try.ntmps51
  go_wp2_with (go_at_call 52; refine (dir_torn hs _ HR.out HH.out).mono ?_; rintro e w1 ⟨rfl, hg1⟩)
  exact ⟨rfl, rfl, hg1⟩
theorem one_set {W : World} {Z : Nat} {a0 : Value} {t : TypeId} (h : W.heap[Z]? = some (.cells #[a0] t (0, 0))) (v0 : Value) : (W.setCell ⟨Z, 0, none⟩ v0).heap[Z]? = some (.cells #[v0] t (0, 0)) := by
  have h1 := heap_setCell_same W Z 0 _ t v0 h
  simpa using h1
set_option maxHeartbeats 400000 in
theorem dlit_gets {rb B0 : Nat} {t : ByteArray} {a0 e : Nat} {l : List SpotL} (hs : t.size ≤ 1048576) (w : World) (hr : Rd w rb t 0) (h : Dirs.Gets t l a0 e) (hne : B0 ≠ rb) (hB : w.heap[B0]? = some (.cells #[.slice none 0 0] 22 (0, 0))) :
    Calls Try.prog 51 #[.pointer (some ⟨rb, 0, none⟩), .pointer (some ⟨B0, 0, none⟩)] w fun en w' => en = .returned (.tuple #[]) ∧
      ∃ v w1, w.grownBy w1 (some rb) ∧ w1.grownBy w' (some B0) ∧ w'.heap[B0]? = some (.cells #[v] 22 (0, 0)) ∧ w'.ownsRow w.heap.size 56 4 v l.length (cellsSpot l) ∧ Rd w' rb t e := by
  have HR : Hid (Rd w rb t 0) := hr
  have HB : Hid (_ = _) := hB
  have HH : Hid (Dirs.Gets t l a0 e) := h
  clear hr hB h
  go_enter Try.func51, Try.ntmps51
  go_wp2_with fail
  refine (dir_some hs _ HR.out HH.out.2.1 HH.out.1 HH.out.2.2).mono ?_
  rintro en w1 ⟨v, rfl, hown, hr1, hg1⟩
  obtain ⟨va, vc, rfl⟩ := own_slice hown
  have hb1 := grown_keep HB.out hg1 hne
  have HB1 : Hid (_ = _) := hb1
  have HO1 : Hid (w1.ownsRow w.heap.size 56 4 (.slice va l.length vc) l.length (cellsSpot l)) := hown
  have HR1 : Hid (Rd w1 rb t e) := hr1
  have HG1 : Hid (w.grownBy w1 (some rb)) := hg1
  have c0 := cell_of_row _ _ 0 _ _ _ hb1
  have f0 := frozen_of_row _ _ 0 _ _ hb1
  simp at c0
  clear hown hr1 hg1 hb1
  go_wp2
  go_end0
  refine ⟨rfl, .slice va l.length vc, w1, HG1.out, grown_set _ _ _ _, one_set HB1.out _, ?_, HR1.out.setNew hne.symm 0 _⟩
  exact own_set HO1.out _ _ _ (own_not HO1.out HB1.out (by decide))
set_option maxHeartbeats 400000 in
set_option maxRecDepth 100000 in
theorem dwhole_thrown {B0 : Nat} {t : ByteArray} (hs : t.size ≤ 1048576) (w : World) (hB0 : B0 < w.heap.size) (h : DTorn t 0) :
    Calls Try.prog 50 #[.string t, .func (.func 51) #[] #[.pointer (some ⟨B0, 0, none⟩)]] w fun en w' => en = .returned (.bool false) ∧ w.grownBy w' (some B0) := by
  have hmf : ∀ (fn : Fn) (first cap : Array Value) (w : World), (Instr.makeFunc fn first cap).run Try.prog w = .ok (.func fn first cap) w := fun _ _ _ _ => rfl
  have HH : Hid (DTorn t 0) := h
  clear h
  obtain ⟨W, hW, hr, hwh, hg, hz⟩ := whole_start t w B0
  have HR : Hid (Rd W (w.heap.size + 1) t 0) := hr
  have HW : Hid (_ = _) := hwh
  have HG : Hid (w.grownBy W (some B0)) := hg
  clear hr hwh hg
  go_enter_defers Try.func50, Try.ntmps50
  go_wp2_with fail
  rw [← hW]
  refine (dlit_thrown hs W HR.out HH.out).mono ?_
  rintro en w1 ⟨rfl, hg1⟩
  have hw1 := grown_keep HW.out hg1 (by omega)
  have hg2 : w.grownBy w1 (some B0) := HG.out.andThen hg1 (fun r e => Or.inl (by cases e; omega))
  have c0 := cell_of_row _ _ 0 _ _ _ hw1
  have f0 := frozen_of_row _ _ 0 _ _ hw1
  simp at c0
  refine leaves_cons (f := 67) (args := #[.pointer (some ⟨w.heap.size, 0, none⟩)]) (by simp) (by simp [go_sem]) ?_
  refine (catch_panicking ⟨w.heap.size, 0, none⟩ false 133 (.agg #[]) [] w1 c0 f0).mono ?_
  rintro e u' w'' ⟨rfl, rfl, rfl⟩
  have c1 : (w1.setCell ⟨w.heap.size, 0, none⟩ (.bool false)).cell? ⟨w.heap.size, 0, none⟩ = some (.bool false) := World.cell?_setCell_same _ _ _ c0
  simp [Leaves, settle, results, Try.results50, go_sem, c1]
  exact grown_new hg2 (Nat.le_refl _) _ _

set_option maxHeartbeats 400000 in
set_option maxRecDepth 100000 in
theorem dwhole_gets {B0 : Nat} {t : ByteArray} {a0 e : Nat} {l : List SpotL} (hs : t.size ≤ 1048576) (w : World) (hB : w.heap[B0]? = some (.cells #[.slice none 0 0] 22 (0, 0))) (h : Dirs.Gets t l a0 e) (R : Bool) (hR : R = ((e : Int) == (t.size : Int))) :
    Calls Try.prog 50 #[.string t, .func (.func 51) #[] #[.pointer (some ⟨B0, 0, none⟩)]] w fun en w' => en = .returned (.bool R) ∧ w.grownBy w' (some B0) ∧
      ∃ v, w'.heap[B0]? = some (.cells #[v] 22 (0, 0)) ∧ w'.ownsRow w.heap.size 56 4 v l.length (cellsSpot l) := by
  have hmf : ∀ (fn : Fn) (first cap : Array Value) (w : World), (Instr.makeFunc fn first cap).run Try.prog w = .ok (.func fn first cap) w := fun _ _ _ _ => rfl
  have hB0 : B0 < w.heap.size := (Array.getElem?_eq_some_iff.1 hB).1
  obtain ⟨W, hW, hr, hwh, hg, hz⟩ := whole_start t w B0
  have HH : Hid (Dirs.Gets t l a0 e) := h
  have HB : Hid (W.heap[B0]? = some (.cells #[.slice none 0 0] 22 (0, 0))) := by
    show _ = _
    rw [hW, Below.heap_alloc _ _ _ (by simp; omega), Below.heap_alloc _ _ _ hB0]; exact hB
  have HR : Hid (Rd W (w.heap.size + 1) t 0) := hr
  have HW : Hid (W.heap[w.heap.size]? = some (.cells #[.bool false] 4 (0, 0))) := hwh
  have HG : Hid (w.grownBy W (some B0)) := hg
  clear hr hwh hg h hB
  go_enter_defers Try.func50, Try.ntmps50
  go_wp2_with fail
  rw [← hW]
  refine (dlit_gets hs W HR.out HH.out (by omega) HB.out).mono ?_
  rintro en w2 ⟨rfl, v, w1, hg1, hg2, hb2, hown, hr2⟩
  have hw2 := grown_keep (grown_keep HW.out hg1 (by omega)) hg2 (by omega)
  have HG2 : Hid (w.grownBy w2 (some B0)) := (HG.out.andThen hg1 (fun r e => Or.inl (by cases e; omega))).trans hg2
  have HB2 : Hid (_ = _) := hb2
  have HO2 : Hid (w2.ownsRow w.heap.size 56 4 v l.length (cellsSpot l)) := own_mono hown (by omega)
  have HW2 : Hid (w2.heap[w.heap.size]? = some (.cells #[.bool false] 4 (0, 0))) := hw2
  have c0 := cell_of_row _ _ 0 _ _ _ hw2
  have f0 := frozen_of_row _ _ 0 _ _ hw2
  have q0 := hr2.c0
  have q1 := hr2.c1
  simp at c0
  clear hw2 hg1 hg2 hb2 hown hr2 hW
  go_wp2
  refine leaves_cons (f := 67) (args := #[.pointer (some ⟨w.heap.size, 0, none⟩)]) (by simp) (by simp [go_sem]) ?_
  refine (catch_idle ⟨w.heap.size, 0, none⟩ _).mono ?_
  rintro e u' w'' ⟨rfl, rfl, rfl⟩
  rw [← hR]
  have c1 : (w2.setCell ⟨w.heap.size, 0, none⟩ (.bool R)).cell? ⟨w.heap.size, 0, none⟩ = some (.bool R) := World.cell?_setCell_same _ _ _ c0
  simp [Leaves, settle, results, Try.results50, go_sem, c1]
  exact ⟨grown_new HG2.out (Nat.le_refl _) _ _, v, set_far HB2.out (by omega) _ _, own_set HO2.out _ _ _ (own_not HO2.out HW2.out (by decide))⟩
theorem specUnsealed_none (s : ByteArray) (hs : s.size ≤ 1048576) (h : Sums.unsealed s.data.toList = none) (w : World) :
    Calls Try.prog 46 #[.string s] w fun e w' => e = .returned (.tuple #[.string ⟨#[]⟩, .bool false]) ∧ Below w.heap.size w w' := by
  by_cases hr : 4 ≤ s.size ∧ s.size ≤ 20004
  · have := specUnsealed_in s hr.1 hr.2 w
    rw [h] at this
    exact this
  · exact specUnsealed_out s hs (by omega) w
theorem implUnsealed_none (s : ByteArray) (hs : s.size ≤ 1048576) (h : Sums.unsealed s.data.toList = none) (w : World) :
    Calls Try.prog 49 #[.string s] w fun e w' => e = .returned (.tuple #[.string ⟨#[]⟩, .bool false]) ∧ Below w.heap.size w w' := by
  by_cases hr : 4 ≤ s.size ∧ s.size ≤ 20004
  · have := implUnsealed_in s hr.1 hr.2 w
    rw [h] at this
    exact this
  · exact implUnsealed_out s hs (by omega) w
theorem un_range {s : ByteArray} {l : List UInt8} (h : Sums.unsealed s.data.toList = some l) : 4 ≤ s.size ∧ s.size ≤ 20004 := by
  unfold Sums.unsealed at h
  split at h
  · rename_i hc
    rw [Words.size_list] at hc
    exact ⟨hc.1, hc.2.1⟩
  · cases h
theorem specUnsealed_some (s : ByteArray) (l : List UInt8) (h : Sums.unsealed s.data.toList = some l) (w : World) :
    Calls Try.prog 46 #[.string s] w fun e w' => e = .returned (.tuple #[.string ⟨l.toArray⟩, .bool true]) ∧ Below w.heap.size w w' := by
  have := specUnsealed_in s (un_range h).1 (un_range h).2 w
  rw [h] at this
  exact this
theorem implUnsealed_some (s : ByteArray) (l : List UInt8) (h : Sums.unsealed s.data.toList = some l) (w : World) :
    Calls Try.prog 49 #[.string s] w fun e w' => e = .returned (.tuple #[.string ⟨l.toArray⟩, .bool true]) ∧ Below w.heap.size w w' := by
  have := implUnsealed_in s (un_range h).1 (un_range h).2 w
  rw [h] at this
  exact this

theorem un_size {t u : List UInt8} (h : Sums.unsealed t = some u) : (⟨u.toArray⟩ : ByteArray).size ≤ 1048576 := by
  have := (Dirs.unsealed_iff.1 h).2
  show u.toArray.size ≤ _
  simp
  omega
set_option maxHeartbeats 1000000 in
set_option maxRecDepth 100000 in
theorem implRH_unsealed {t : ByteArray} (hs : t.size ≤ 1048576) (w : World) (h : Sums.unsealed t.data.toList = none) :
    Calls Try.prog 25 #[.string t] w fun en w' => en = .returned (.tuple #[.slice none 0 0, .bool false]) ∧ Below w.heap.size w w' := by
  have hmf : ∀ (fn : Fn) (first cap : Array Value) (w : World), (Instr.makeFunc fn first cap).run Try.prog w = .ok (.func fn first cap) w := fun _ _ _ _ => rfl
  have HU : Hid (_ = _) := h
  clear h
  go_enter Try.func25, Try.ntmps25
  go_wp2_with (go_at_call 49; refine (implUnsealed_none t hs HU.out _).mono ?_; rintro en w1 ⟨rfl, hb1⟩)
  go_ret2
  exact ⟨rfl, hb1⟩
set_option maxHeartbeats 1000000 in
set_option maxRecDepth 100000 in
theorem implRH_torn {t : ByteArray} (hs : t.size ≤ 1048576) (w : World) (u : List UInt8) (h : Sums.unsealed t.data.toList = some u) (hu : (⟨u.toArray⟩ : ByteArray).size ≤ 1048576) (ht : DTorn ⟨u.toArray⟩ 0) :
    Calls Try.prog 25 #[.string t] w fun en w' => en = .returned (.tuple #[.slice none 0 0, .bool false]) ∧ Below w.heap.size w w' := by
  have HT : Hid (DTorn ⟨u.toArray⟩ 0) := ht
  clear ht
  have hmf : ∀ (fn : Fn) (first cap : Array Value) (w : World), (Instr.makeFunc fn first cap).run Try.prog w = .ok (.func fn first cap) w := fun _ _ _ _ => rfl
  have HU : Hid (_ = _) := h
  clear h
  go_enter Try.func25, Try.ntmps25
  go_wp2_with fail
  refine (implUnsealed_some t u HU.out _).mono ?_
  rintro en w1 ⟨rfl, hb1⟩
  have HZ : Hid ((w1.alloc (Obj.cells #[Value.slice none 0 0] 22)).heap[w1.heap.size]? = some (.cells #[.slice none 0 0] 22 (0, 0))) := heap_alloc_new w1 _
  have HB1 : Hid (Below w.heap.size w (w1.alloc (Obj.cells #[Value.slice none 0 0] 22))) := hb1.alloc hb1.size _
  have hz1 := hb1.size
  clear hb1
  obtain ⟨W, hW⟩ : ∃ W, W = w1.alloc (Obj.cells #[Value.slice none 0 0] 22) := ⟨_, rfl⟩
  have hz2 : w1.heap.size < W.heap.size := by rw [hW]; simp
  go_wp2_with fail
  rw [← hW] at HZ HB1 ⊢
  clear hW
  refine (dwhole_thrown hu W hz2 HT.out).mono ?_
  rintro en w2 ⟨rfl, hg2⟩
  have hB2 : Below w.heap.size w w2 := HB1.out.grown hg2 (by omega) (fun k e => by cases e; omega)
  clear hg2
  go_wp2
  go_ret2
  exact ⟨rfl, hB2⟩
set_option maxHeartbeats 1000000 in
set_option maxRecDepth 100000 in
theorem implRH_short {t : ByteArray} {l : List SpotL} {a0 e : Nat} (hs : t.size ≤ 1048576) (w : World) (u : List UInt8) (h : Sums.unsealed t.data.toList = some u) (hu : (⟨u.toArray⟩ : ByteArray).size ≤ 1048576) (ht : Dirs.Gets ⟨u.toArray⟩ l a0 e) (he : ¬ e = (⟨u.toArray⟩ : ByteArray).size) :
    Calls Try.prog 25 #[.string t] w fun en w' => en = .returned (.tuple #[.slice none 0 0, .bool false]) ∧ Below w.heap.size w w' := by
  have HT : Hid (Dirs.Gets ⟨u.toArray⟩ l a0 e) := ht
  have HE : Hid (false = ((e : Int) == ((⟨u.toArray⟩ : ByteArray).size : Int))) := by
    show _ = _
    symm
    rw [beq_eq_false_iff_ne]
    exact fun q => he (by omega)
  clear ht he
  have hmf : ∀ (fn : Fn) (first cap : Array Value) (w : World), (Instr.makeFunc fn first cap).run Try.prog w = .ok (.func fn first cap) w := fun _ _ _ _ => rfl
  have HU : Hid (_ = _) := h
  clear h
  go_enter Try.func25, Try.ntmps25
  go_wp2_with fail
  refine (implUnsealed_some t u HU.out _).mono ?_
  rintro en w1 ⟨rfl, hb1⟩
  have HZ : Hid ((w1.alloc (Obj.cells #[Value.slice none 0 0] 22)).heap[w1.heap.size]? = some (.cells #[.slice none 0 0] 22 (0, 0))) := heap_alloc_new w1 _
  have HB1 : Hid (Below w.heap.size w (w1.alloc (Obj.cells #[Value.slice none 0 0] 22))) := hb1.alloc hb1.size _
  have hz1 := hb1.size
  clear hb1
  obtain ⟨W, hW⟩ : ∃ W, W = w1.alloc (Obj.cells #[Value.slice none 0 0] 22) := ⟨_, rfl⟩
  have hz2 : w1.heap.size < W.heap.size := by rw [hW]; simp
  go_wp2_with fail
  rw [← hW] at HZ HB1 ⊢
  clear hW
  refine (dwhole_gets hu W HZ.out HT.out false HE.out).mono ?_
  rintro en w2 ⟨rfl, hg2, v, hb2, hown⟩
  have hB2 : Below w.heap.size w w2 := HB1.out.grown hg2 (by omega) (fun k e => by cases e; omega)
  clear hg2 hb2 hown
  go_wp2
  go_ret2
  exact ⟨rfl, hB2⟩
theorem gets_smallS {u : ByteArray} {l : List SpotL} {a0 e : Nat} (h : Dirs.Gets u l a0 e) : l.length ≤ 60 ∧ ∀ c ∈ l, smallSpot 2097152 c :=
  ⟨h.1, fun c hc => Nat.le_trans (Dirs.gets_small h c hc).1 (by omega)⟩
set_option maxHeartbeats 1000000 in
set_option maxRecDepth 100000 in
theorem implRH_wrong {t : ByteArray} {l : List SpotL} {a0 : Nat} (hs : t.size ≤ 1048576) (w : World) (u : List UInt8) (h : Sums.unsealed t.data.toList = some u) (hu : (⟨u.toArray⟩ : ByteArray).size ≤ 1048576) (ht : Dirs.Gets ⟨u.toArray⟩ l a0 (⟨u.toArray⟩ : ByteArray).size) (ho : ¬ Dirs.ok l) :
    Calls Try.prog 25 #[.string t] w fun en w' => en = .returned (.tuple #[.slice none 0 0, .bool false]) ∧ Below w.heap.size w w' := by
  have HT : Hid (Dirs.Gets ⟨u.toArray⟩ l a0 (⟨u.toArray⟩ : ByteArray).size) := ht
  have HK : Hid (¬ Dirs.ok l) := ho
  have HS : Hid (∀ c ∈ l, smallSpot 2097152 c) := (gets_smallS ht).2
  have hl := (gets_smallS ht).1
  clear ht ho
  have hmf : ∀ (fn : Fn) (first cap : Array Value) (w : World), (Instr.makeFunc fn first cap).run Try.prog w = .ok (.func fn first cap) w := fun _ _ _ _ => rfl
  have HU : Hid (_ = _) := h
  clear h
  go_enter Try.func25, Try.ntmps25
  go_wp2_with fail
  refine (implUnsealed_some t u HU.out _).mono ?_
  rintro en w1 ⟨rfl, hb1⟩
  have HZ : Hid ((w1.alloc (Obj.cells #[Value.slice none 0 0] 22)).heap[w1.heap.size]? = some (.cells #[.slice none 0 0] 22 (0, 0))) := heap_alloc_new w1 _
  have HB1 : Hid (Below w.heap.size w (w1.alloc (Obj.cells #[Value.slice none 0 0] 22))) := hb1.alloc hb1.size _
  have hz1 := hb1.size
  clear hb1
  obtain ⟨W, hW⟩ : ∃ W, W = w1.alloc (Obj.cells #[Value.slice none 0 0] 22) := ⟨_, rfl⟩
  have hz2 : w1.heap.size < W.heap.size := by rw [hW]; simp
  go_wp2_with fail
  rw [← hW] at HZ HB1 ⊢
  clear hW
  refine (dwhole_gets hu W HZ.out HT.out true (by simp)).mono ?_
  rintro en w2 ⟨rfl, hg2, v, hb2, hown⟩
  obtain ⟨va, gg, vc, rfl, hat⟩ := cellsSpot_slice hown
  have HB2 : Hid (Below w.heap.size w w2) := HB1.out.grown hg2 (by omega) (fun k e => by cases e; omega)
  have HO2 : Hid (w2.ownsRow w.heap.size 56 4 (.slice va l.length vc) l.length (cellsSpot l)) := own_mono hown (by omega)
  have HA2 : Hid (SpotAt w2 va gg 0 l) := hat
  have HV2 : Hid (_ = _) := hb2
  have d0 := cell_of_row _ _ 0 _ _ _ hb2
  simp at d0
  have hz3 : w1.heap.size < w2.heap.size := (Array.getElem?_eq_some_iff.1 hb2).1
  clear hg2 hb2 hown hat
  go_wp2_with fail
  refine (implDirOk_any false l (by omega) w2 HA2.out HS.out (by simp [HK.out])).mono ?_
  rintro en w3 ⟨rfl, hb3⟩
  have hB3 : Below w.heap.size w w3 := HB2.out.trans (hb3.mono HB2.out.size)
  have HO3 : Hid (w3.ownsRow w.heap.size 56 4 (.slice va l.length vc) l.length (cellsSpot l)) := own_kept HO2.out hb3
  have d3 : w3.cell? ⟨w1.heap.size, 0, none⟩ = some (.slice va l.length vc) := (hb3.cell (p := ⟨w1.heap.size, 0, none⟩) hz3).trans d0
  clear hb3 d0
  go_wp2
  go_ret2
  exact ⟨rfl, hB3⟩
set_option maxHeartbeats 1000000 in
set_option maxRecDepth 100000 in
theorem implRH_got {t : ByteArray} {l : List SpotL} {a0 : Nat} (hs : t.size ≤ 1048576) (w : World) (u : List UInt8) (h : Sums.unsealed t.data.toList = some u) (hu : (⟨u.toArray⟩ : ByteArray).size ≤ 1048576) (ht : Dirs.Gets ⟨u.toArray⟩ l a0 (⟨u.toArray⟩ : ByteArray).size) (ho : Dirs.ok l) :
    Calls Try.prog 25 #[.string t] w fun en w' => ∃ v, en = .returned (.tuple #[v, .bool true]) ∧ w'.ownsRow w.heap.size 56 4 v l.length (cellsSpot l) ∧ Below w.heap.size w w' := by
  have HT : Hid (Dirs.Gets ⟨u.toArray⟩ l a0 (⟨u.toArray⟩ : ByteArray).size) := ht
  have HK : Hid (Dirs.ok l) := ho
  have HS : Hid (∀ c ∈ l, smallSpot 2097152 c) := (gets_smallS ht).2
  have hl := (gets_smallS ht).1
  clear ht ho
  have hmf : ∀ (fn : Fn) (first cap : Array Value) (w : World), (Instr.makeFunc fn first cap).run Try.prog w = .ok (.func fn first cap) w := fun _ _ _ _ => rfl
  have HU : Hid (_ = _) := h
  clear h
  go_enter Try.func25, Try.ntmps25
  go_wp2_with fail
  refine (implUnsealed_some t u HU.out _).mono ?_
  rintro en w1 ⟨rfl, hb1⟩
  have HZ : Hid ((w1.alloc (Obj.cells #[Value.slice none 0 0] 22)).heap[w1.heap.size]? = some (.cells #[.slice none 0 0] 22 (0, 0))) := heap_alloc_new w1 _
  have HB1 : Hid (Below w.heap.size w (w1.alloc (Obj.cells #[Value.slice none 0 0] 22))) := hb1.alloc hb1.size _
  have hz1 := hb1.size
  clear hb1
  obtain ⟨W, hW⟩ : ∃ W, W = w1.alloc (Obj.cells #[Value.slice none 0 0] 22) := ⟨_, rfl⟩
  have hz2 : w1.heap.size < W.heap.size := by rw [hW]; simp
  go_wp2_with fail
  rw [← hW] at HZ HB1 ⊢
  clear hW
  refine (dwhole_gets hu W HZ.out HT.out true (by simp)).mono ?_
  rintro en w2 ⟨rfl, hg2, v, hb2, hown⟩
  obtain ⟨va, gg, vc, rfl, hat⟩ := cellsSpot_slice hown
  have HB2 : Hid (Below w.heap.size w w2) := HB1.out.grown hg2 (by omega) (fun k e => by cases e; omega)
  have HO2 : Hid (w2.ownsRow w.heap.size 56 4 (.slice va l.length vc) l.length (cellsSpot l)) := own_mono hown (by omega)
  have HA2 : Hid (SpotAt w2 va gg 0 l) := hat
  have HV2 : Hid (_ = _) := hb2
  have d0 := cell_of_row _ _ 0 _ _ _ hb2
  simp at d0
  have hz3 : w1.heap.size < w2.heap.size := (Array.getElem?_eq_some_iff.1 hb2).1
  clear hg2 hb2 hown hat
  go_wp2_with fail
  refine (implDirOk_any true l (by omega) w2 HA2.out HS.out (by simp [HK.out])).mono ?_
  rintro en w3 ⟨rfl, hb3⟩
  have hB3 : Below w.heap.size w w3 := HB2.out.trans (hb3.mono HB2.out.size)
  have HO3 : Hid (w3.ownsRow w.heap.size 56 4 (.slice va l.length vc) l.length (cellsSpot l)) := own_kept HO2.out hb3
  have d3 : w3.cell? ⟨w1.heap.size, 0, none⟩ = some (.slice va l.length vc) := (hb3.cell (p := ⟨w1.heap.size, 0, none⟩) hz3).trans d0
  clear hb3 d0
  go_wp2
  go_ret2
  exact ⟨_, rfl, HO3.out, hB3⟩
theorem implRH_yes {t : ByteArray} {l : List SpotL} (hs : t.size ≤ 1048576) (w : World) (h : Dirs.Got t l) :
    Calls Try.prog 25 #[.string t] w fun en w' => ∃ v, en = .returned (.tuple #[v, .bool true]) ∧ w'.ownsRow w.heap.size 56 4 v l.length (cellsSpot l) ∧ Below w.heap.size w w' := by
  have hu := Dirs.got_unsealed h
  obtain ⟨a0, hg⟩ := Dirs.text_gets (u := ⟨(Dirs.text l).toArray⟩) (by simp) h.2
  exact implRH_got hs w _ hu (un_size hu) hg h.2
theorem implRH_no {t : ByteArray} (hs : t.size ≤ 1048576) (w : World) (h : ∀ l, ¬ Dirs.Got t l) :
    Calls Try.prog 25 #[.string t] w fun en w' => en = .returned (.tuple #[.slice none 0 0, .bool false]) ∧ Below w.heap.size w w' := by
  cases hu : Sums.unsealed t.data.toList with
  | none => exact implRH_unsealed hs w hu
  | some u =>
    rcases Dirs.torn_or ⟨u.toArray⟩ with ht | ⟨l, a0, e, hg⟩
    · exact implRH_torn hs w u hu (un_size hu) ht
    · by_cases he : e = (⟨u.toArray⟩ : ByteArray).size
      · subst he
        refine implRH_wrong hs w u hu (un_size hu) hg (fun ho => h l ?_)
        refine Dirs.unsealed_got (l := l) ?_ ho
        have := Dirs.gets_text hg
        simp only [Batches.by_] at this ⊢
        rw [hu, ← this]
      · exact implRH_short hs w u hu (un_size hu) hg he
end Go.Proofs.Ytinhgonmdnbdiaa
