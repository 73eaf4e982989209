/- The call of the program's ReadManifest, walked. -/
import Derived.Test.YtbcfiiilikkkeaaGreatDoorWholeM
import Derived.Test.YtbcfiiilikkkeaaGreatDoorImplSeal
namespace Go.Proofs.YtbcfiiilikkkeaaGreatDoor
open Go.RowKit
set_option linter.unusedVariables false

theorem specUnsealed_none (s : ByteArray) (hs : s.size ≤ 1048576) (h : Sums.unsealed s.data.toList = none) (w : World) :
    Calls Tryz.prog 236 #[.string s] w fun e w' => e = .returned (.tuple #[.string ⟨#[]⟩, .bool false]) ∧ Below w.heap.size w w' := by
  by_cases hr : 4 ≤ s.size ∧ s.size ≤ 20004
  · have := specUnsealed_in s hr.1 hr.2 w
    rw [h] at this
    exact this
  · exact specUnsealed_out s hs (by omega) w
theorem implUnsealed_none (s : ByteArray) (hs : s.size ≤ 1048576) (h : Sums.unsealed s.data.toList = none) (w : World) :
    Calls Tryz.prog 200 #[.string s] w fun e w' => e = .returned (.tuple #[.string ⟨#[]⟩, .bool false]) ∧ Below w.heap.size w w' := by
  by_cases hr : 4 ≤ s.size ∧ s.size ≤ 20004
  · have := implUnsealed_in s hr.1 hr.2 w
    rw [h] at this
    exact this
  · exact implUnsealed_out s hs (by omega) w
theorem un_range {s : ByteArray} {l : List UInt8} (h : Sums.unsealed s.data.toList = some l) : 4 ≤ s.size ∧ s.size ≤ 20004 := by
  unfold Sums.unsealed at h
  split at h
  · rename_i hc
    rw [Words.size_list] at hc
    exact ⟨hc.1, hc.2.1⟩
  · cases h
theorem specUnsealed_some (s : ByteArray) (l : List UInt8) (h : Sums.unsealed s.data.toList = some l) (w : World) :
    Calls Tryz.prog 236 #[.string s] w fun e w' => e = .returned (.tuple #[.string ⟨l.toArray⟩, .bool true]) ∧ Below w.heap.size w w' := by
  have := specUnsealed_in s (un_range h).1 (un_range h).2 w
  rw [h] at this
  exact this
theorem implUnsealed_some (s : ByteArray) (l : List UInt8) (h : Sums.unsealed s.data.toList = some l) (w : World) :
    Calls Tryz.prog 200 #[.string s] w fun e w' => e = .returned (.tuple #[.string ⟨l.toArray⟩, .bool true]) ∧ Below w.heap.size w w' := by
  have := implUnsealed_in s (un_range h).1 (un_range h).2 w
  rw [h] at this
  exact this

set_option maxHeartbeats 1000000 in
set_option maxRecDepth 100000 in
theorem implRM_unsealed {t : ByteArray} (hs : t.size ≤ 1048576) (w : World) (h : Sums.unsealed t.data.toList = none) :
    Calls Tryz.prog 160 #[.string t] w fun en w' => en = .returned (.tuple #[.agg #[.slice none 0 0, .int .i64 0, .int .i64 0, .int .i64 0, .slice none 0 0], .bool false]) ∧ Below w.heap.size w w' := by
  have HZ : Hid ((w.alloc (.cells #[.slice none 0 0, .int .i64 0, .int .i64 0, .int .i64 0, .slice none 0 0] 37)).heap[w.heap.size]? = some (.cells #[.slice none 0 0, .int .i64 0, .int .i64 0, .int .i64 0, .slice none 0 0] 37 (0, 0))) := heap_alloc_new w _
  have HB0 : Hid (Below w.heap.size w (w.alloc (.cells #[.slice none 0 0, .int .i64 0, .int .i64 0, .int .i64 0, .slice none 0 0] 37))) := (Below.refl _ _).alloc (Nat.le_refl _) _
  have hz0 : w.heap.size < (w.alloc (.cells #[.slice none 0 0, .int .i64 0, .int .i64 0, .int .i64 0, .slice none 0 0] 37)).heap.size := by simp
  have hmf : ∀ (fn : Fn) (first cap : Array Value) (w : World), (Instr.makeFunc fn first cap).run Tryz.prog w = .ok (.func fn first cap) w := fun _ _ _ _ => rfl
  go_enter Tryz.func160, Tryz.ntmps160
  go_wp2_with fail
  refine (implUnsealed_none t hs h _).mono ?_
  rintro en w1 ⟨rfl, hb1⟩
  have hz1 := (hb1.block _ hz0).trans HZ.out
  have HZ1 : Hid (_ = _) := hz1
  have HB1 : Hid (Below w.heap.size w w1) := HB0.out.trans (hb1.mono HB0.out.size)
  have hlt1 : w.heap.size < w1.heap.size := (Array.getElem?_eq_some_iff.1 hz1).1
  have z0 := cell_of_row _ _ 0 _ _ _ hz1
  have z1 := cell_of_row _ _ 1 _ _ _ hz1
  have z2 := cell_of_row _ _ 2 _ _ _ hz1
  have z3 := cell_of_row _ _ 3 _ _ _ hz1
  have z4 := cell_of_row _ _ 4 _ _ _ hz1
  have zf0 := frozen_of_row _ _ 0 _ _ hz1
  have zf1 := frozen_of_row _ _ 1 _ _ hz1
  have zf2 := frozen_of_row _ _ 2 _ _ hz1
  have zf3 := frozen_of_row _ _ 3 _ _ hz1
  have zf4 := frozen_of_row _ _ 4 _ _ hz1
  simp at z0 z1 z2 z3 z4
  clear hz1 hb1
  go_wp2
  obtain ⟨k0, k1, k2, k3, k4⟩ := five_cell HZ1.out (.slice none 0 0) (.int .i64 0) (.int .i64 0) (.int .i64 0) (.slice none 0 0)
  exact bodyPost_ret (v := .tuple #[.agg #[.slice none 0 0, .int .i64 0, .int .i64 0, .int .i64 0, .slice none 0 0], .bool false]) (by simp [results, Tryz.results160, go_sem, k0, k1, k2, k3, k4]) rfl ⟨rfl, ((((HB1.out.setCell (by simp) _).setCell (by simp) _).setCell (by simp) _).setCell (by simp) _).setCell (by simp) _⟩
set_option maxHeartbeats 1000000 in
set_option maxRecDepth 100000 in
theorem implRM_torn {t : ByteArray} (hs : t.size ≤ 1048576) (w : World) (u : List UInt8) (h : Sums.unsealed t.data.toList = some u) (hu : (⟨u.toArray⟩ : ByteArray).size ≤ 1048576) (ht : Mans.Torn ⟨u.toArray⟩) :
    Calls Tryz.prog 160 #[.string t] w fun en w' => en = .returned (.tuple #[.agg #[.slice none 0 0, .int .i64 0, .int .i64 0, .int .i64 0, .slice none 0 0], .bool false]) ∧ Below w.heap.size w w' := by
  have HT : Hid (Mans.Torn ⟨u.toArray⟩) := ht
  clear ht
  have HZ : Hid ((w.alloc (.cells #[.slice none 0 0, .int .i64 0, .int .i64 0, .int .i64 0, .slice none 0 0] 37)).heap[w.heap.size]? = some (.cells #[.slice none 0 0, .int .i64 0, .int .i64 0, .int .i64 0, .slice none 0 0] 37 (0, 0))) := heap_alloc_new w _
  have HB0 : Hid (Below w.heap.size w (w.alloc (.cells #[.slice none 0 0, .int .i64 0, .int .i64 0, .int .i64 0, .slice none 0 0] 37))) := (Below.refl _ _).alloc (Nat.le_refl _) _
  have hz0 : w.heap.size < (w.alloc (.cells #[.slice none 0 0, .int .i64 0, .int .i64 0, .int .i64 0, .slice none 0 0] 37)).heap.size := by simp
  have hmf : ∀ (fn : Fn) (first cap : Array Value) (w : World), (Instr.makeFunc fn first cap).run Tryz.prog w = .ok (.func fn first cap) w := fun _ _ _ _ => rfl
  go_enter Tryz.func160, Tryz.ntmps160
  go_wp2_with fail
  refine (implUnsealed_some t u h _).mono ?_
  rintro en w1 ⟨rfl, hb1⟩
  have hz1 := (hb1.block _ hz0).trans HZ.out
  have HZ1 : Hid (_ = _) := hz1
  have HB1 : Hid (Below w.heap.size w w1) := HB0.out.trans (hb1.mono HB0.out.size)
  have hlt1 : w.heap.size < w1.heap.size := (Array.getElem?_eq_some_iff.1 hz1).1
  clear hz1 hb1 HZ HB0 hz0
  obtain ⟨W, hW⟩ : ∃ W, W = w1.alloc (.cells #[.slice none 0 0, .int .i64 0, .int .i64 0, .int .i64 0, .slice none 0 0] 37) := ⟨_, rfl⟩
  have hbW : Below w1.heap.size w1 W := by rw [hW]; exact (Below.refl _ _).alloc (Nat.le_refl _) _
  have HZW : Hid (W.heap[w.heap.size]? = some (.cells #[.slice none 0 0, .int .i64 0, .int .i64 0, .int .i64 0, .slice none 0 0] 37 (0, 0))) := (hbW.block _ hlt1).trans HZ1.out
  have HMW : Hid (W.heap[w1.heap.size]? = some (.cells #[.slice none 0 0, .int .i64 0, .int .i64 0, .int .i64 0, .slice none 0 0] 37 (0, 0))) := by show _ = _; rw [hW]; exact heap_alloc_new w1 _
  have HBW : Hid (Below w.heap.size w W) := HB1.out.trans (hbW.mono HB1.out.size)
  have hltW : w1.heap.size < W.heap.size := (Array.getElem?_eq_some_iff.1 HMW.out).1
  obtain ⟨mb, hmb⟩ : ∃ mb, mb = w1.heap.size := ⟨_, rfl⟩
  rw [← hmb] at HMW hltW hlt1
  go_wp2_with fail
  rw [← hW, ← hmb]
  clear hW hbW HZ1 hmb
  refine (whole_torn hu W hltW HT.out).mono ?_
  rintro en w2 ⟨rfl, hg2⟩
  have hz2 := grown_keep HZW.out hg2 (by omega)
  have HZ2 : Hid (_ = _) := hz2
  have HB2 : Hid (Below w.heap.size w w2) := HBW.out.grown hg2 HBW.out.size (fun k e => by cases e; omega)
  have z0 := cell_of_row _ _ 0 _ _ _ hz2
  have z1 := cell_of_row _ _ 1 _ _ _ hz2
  have z2 := cell_of_row _ _ 2 _ _ _ hz2
  have z3 := cell_of_row _ _ 3 _ _ _ hz2
  have z4 := cell_of_row _ _ 4 _ _ _ hz2
  have zf0 := frozen_of_row _ _ 0 _ _ hz2
  have zf1 := frozen_of_row _ _ 1 _ _ hz2
  have zf2 := frozen_of_row _ _ 2 _ _ hz2
  have zf3 := frozen_of_row _ _ 3 _ _ hz2
  have zf4 := frozen_of_row _ _ 4 _ _ hz2
  simp at z0 z1 z2 z3 z4
  clear hz2 hg2
  go_wp2
  obtain ⟨k0, k1, k2, k3, k4⟩ := five_cell HZ2.out (.slice none 0 0) (.int .i64 0) (.int .i64 0) (.int .i64 0) (.slice none 0 0)
  exact bodyPost_ret (v := .tuple #[.agg #[.slice none 0 0, .int .i64 0, .int .i64 0, .int .i64 0, .slice none 0 0], .bool false]) (by simp [results, Tryz.results160, go_sem, k0, k1, k2, k3, k4]) rfl ⟨rfl, ((((HB2.out.setCell (by simp) _).setCell (by simp) _).setCell (by simp) _).setCell (by simp) _).setCell (by simp) _⟩
set_option maxHeartbeats 1000000 in
set_option maxRecDepth 100000 in
theorem implRM_short {t : ByteArray} {l l' : List Int} {X Y Z e : Nat} (hs : t.size ≤ 1048576) (w : World) (u : List UInt8) (h : Sums.unsealed t.data.toList = some u) (hu : (⟨u.toArray⟩ : ByteArray).size ≤ 1048576) (ht : GetsN ⟨u.toArray⟩ l l' X Y Z e) (he : ¬ e = (⟨u.toArray⟩ : ByteArray).size) :
    Calls Tryz.prog 160 #[.string t] w fun en w' => en = .returned (.tuple #[.agg #[.slice none 0 0, .int .i64 0, .int .i64 0, .int .i64 0, .slice none 0 0], .bool false]) ∧ Below w.heap.size w w' := by
  have HT : Hid (GetsN ⟨u.toArray⟩ l l' X Y Z e) := ht
  clear ht
  have HZ : Hid ((w.alloc (.cells #[.slice none 0 0, .int .i64 0, .int .i64 0, .int .i64 0, .slice none 0 0] 37)).heap[w.heap.size]? = some (.cells #[.slice none 0 0, .int .i64 0, .int .i64 0, .int .i64 0, .slice none 0 0] 37 (0, 0))) := heap_alloc_new w _
  have HB0 : Hid (Below w.heap.size w (w.alloc (.cells #[.slice none 0 0, .int .i64 0, .int .i64 0, .int .i64 0, .slice none 0 0] 37))) := (Below.refl _ _).alloc (Nat.le_refl _) _
  have hz0 : w.heap.size < (w.alloc (.cells #[.slice none 0 0, .int .i64 0, .int .i64 0, .int .i64 0, .slice none 0 0] 37)).heap.size := by simp
  have hmf : ∀ (fn : Fn) (first cap : Array Value) (w : World), (Instr.makeFunc fn first cap).run Tryz.prog w = .ok (.func fn first cap) w := fun _ _ _ _ => rfl
  go_enter Tryz.func160, Tryz.ntmps160
  go_wp2_with fail
  refine (implUnsealed_some t u h _).mono ?_
  rintro en w1 ⟨rfl, hb1⟩
  have hz1 := (hb1.block _ hz0).trans HZ.out
  have HZ1 : Hid (_ = _) := hz1
  have HB1 : Hid (Below w.heap.size w w1) := HB0.out.trans (hb1.mono HB0.out.size)
  have hlt1 : w.heap.size < w1.heap.size := (Array.getElem?_eq_some_iff.1 hz1).1
  clear hz1 hb1 HZ HB0 hz0
  obtain ⟨W, hW⟩ : ∃ W, W = w1.alloc (.cells #[.slice none 0 0, .int .i64 0, .int .i64 0, .int .i64 0, .slice none 0 0] 37) := ⟨_, rfl⟩
  have hbW : Below w1.heap.size w1 W := by rw [hW]; exact (Below.refl _ _).alloc (Nat.le_refl _) _
  have HZW : Hid (W.heap[w.heap.size]? = some (.cells #[.slice none 0 0, .int .i64 0, .int .i64 0, .int .i64 0, .slice none 0 0] 37 (0, 0))) := (hbW.block _ hlt1).trans HZ1.out
  have HMW : Hid (W.heap[w1.heap.size]? = some (.cells #[.slice none 0 0, .int .i64 0, .int .i64 0, .int .i64 0, .slice none 0 0] 37 (0, 0))) := by show _ = _; rw [hW]; exact heap_alloc_new w1 _
  have HBW : Hid (Below w.heap.size w W) := HB1.out.trans (hbW.mono HB1.out.size)
  have hltW : w1.heap.size < W.heap.size := (Array.getElem?_eq_some_iff.1 HMW.out).1
  obtain ⟨mb, hmb⟩ : ∃ mb, mb = w1.heap.size := ⟨_, rfl⟩
  rw [← hmb] at HMW hltW hlt1
  go_wp2_with fail
  rw [← hW, ← hmb]
  clear hW hbW HZ1 hmb
  refine (whole_gets_cm hu W HMW.out HT.out false (by symm; simpa using fun h : (e : Int) = (⟨u.toArray⟩ : ByteArray).size => he (by omega))).mono ?_
  rintro en w2 ⟨rfl, hg2, _⟩
  have hz2 := grown_keep HZW.out hg2 (by omega)
  have HZ2 : Hid (_ = _) := hz2
  have HB2 : Hid (Below w.heap.size w w2) := HBW.out.grown hg2 HBW.out.size (fun k e => by cases e; omega)
  have z0 := cell_of_row _ _ 0 _ _ _ hz2
  have z1 := cell_of_row _ _ 1 _ _ _ hz2
  have z2 := cell_of_row _ _ 2 _ _ _ hz2
  have z3 := cell_of_row _ _ 3 _ _ _ hz2
  have z4 := cell_of_row _ _ 4 _ _ _ hz2
  have zf0 := frozen_of_row _ _ 0 _ _ hz2
  have zf1 := frozen_of_row _ _ 1 _ _ hz2
  have zf2 := frozen_of_row _ _ 2 _ _ hz2
  have zf3 := frozen_of_row _ _ 3 _ _ hz2
  have zf4 := frozen_of_row _ _ 4 _ _ hz2
  simp at z0 z1 z2 z3 z4
  clear hz2 hg2
  go_wp2
  obtain ⟨k0, k1, k2, k3, k4⟩ := five_cell HZ2.out (.slice none 0 0) (.int .i64 0) (.int .i64 0) (.int .i64 0) (.slice none 0 0)
  exact bodyPost_ret (v := .tuple #[.agg #[.slice none 0 0, .int .i64 0, .int .i64 0, .int .i64 0, .slice none 0 0], .bool false]) (by simp [results, Tryz.results160, go_sem, k0, k1, k2, k3, k4]) rfl ⟨rfl, ((((HB2.out.setCell (by simp) _).setCell (by simp) _).setCell (by simp) _).setCell (by simp) _).setCell (by simp) _⟩
theorem gets_lens {u : ByteArray} {l l' : List Int} {X Y Z e : Nat} (h : GetsN u l l' X Y Z e) : l.length ≤ 8 ∧ l'.length ≤ 4 := by
  obtain ⟨_, _, _, _, _, _, hG⟩ := h.of
  exact ⟨hG.n0, hG.n5⟩
set_option maxHeartbeats 1000000 in
set_option maxRecDepth 100000 in
theorem implRM_wrong {t : ByteArray} {l l' : List Int} {X Y Z : Nat} (hs : t.size ≤ 1048576) (w : World) (u : List UInt8) (h : Sums.unsealed t.data.toList = some u) (hu : (⟨u.toArray⟩ : ByteArray).size ≤ 1048576) (ht : GetsN ⟨u.toArray⟩ l l' X Y Z (⟨u.toArray⟩ : ByteArray).size) (ho : ¬ Mans.ok ⟨l, X, Y, Z, l'⟩) :
    Calls Tryz.prog 160 #[.string t] w fun en w' => en = .returned (.tuple #[.agg #[.slice none 0 0, .int .i64 0, .int .i64 0, .int .i64 0, .slice none 0 0], .bool false]) ∧ Below w.heap.size w w' := by
  have HT : Hid (GetsN ⟨u.toArray⟩ l l' X Y Z (⟨u.toArray⟩ : ByteArray).size) := ht
  have HK : Hid (¬ Mans.ok ⟨l, X, Y, Z, l'⟩) := ho
  have HG : Hid (_ ∧ _) := gets_lens ht
  clear ht ho
  have HZ : Hid ((w.alloc (.cells #[.slice none 0 0, .int .i64 0, .int .i64 0, .int .i64 0, .slice none 0 0] 37)).heap[w.heap.size]? = some (.cells #[.slice none 0 0, .int .i64 0, .int .i64 0, .int .i64 0, .slice none 0 0] 37 (0, 0))) := heap_alloc_new w _
  have HB0 : Hid (Below w.heap.size w (w.alloc (.cells #[.slice none 0 0, .int .i64 0, .int .i64 0, .int .i64 0, .slice none 0 0] 37))) := (Below.refl _ _).alloc (Nat.le_refl _) _
  have hz0 : w.heap.size < (w.alloc (.cells #[.slice none 0 0, .int .i64 0, .int .i64 0, .int .i64 0, .slice none 0 0] 37)).heap.size := by simp
  have hmf : ∀ (fn : Fn) (first cap : Array Value) (w : World), (Instr.makeFunc fn first cap).run Tryz.prog w = .ok (.func fn first cap) w := fun _ _ _ _ => rfl
  go_enter Tryz.func160, Tryz.ntmps160
  go_wp2_with fail
  refine (implUnsealed_some t u h _).mono ?_
  rintro en w1 ⟨rfl, hb1⟩
  have hz1 := (hb1.block _ hz0).trans HZ.out
  have HZ1 : Hid (_ = _) := hz1
  have HB1 : Hid (Below w.heap.size w w1) := HB0.out.trans (hb1.mono HB0.out.size)
  have hlt1 : w.heap.size < w1.heap.size := (Array.getElem?_eq_some_iff.1 hz1).1
  clear hz1 hb1 HZ HB0 hz0
  obtain ⟨W, hW⟩ : ∃ W, W = w1.alloc (.cells #[.slice none 0 0, .int .i64 0, .int .i64 0, .int .i64 0, .slice none 0 0] 37) := ⟨_, rfl⟩
  have hbW : Below w1.heap.size w1 W := by rw [hW]; exact (Below.refl _ _).alloc (Nat.le_refl _) _
  have HZW : Hid (W.heap[w.heap.size]? = some (.cells #[.slice none 0 0, .int .i64 0, .int .i64 0, .int .i64 0, .slice none 0 0] 37 (0, 0))) := (hbW.block _ hlt1).trans HZ1.out
  have HMW : Hid (W.heap[w1.heap.size]? = some (.cells #[.slice none 0 0, .int .i64 0, .int .i64 0, .int .i64 0, .slice none 0 0] 37 (0, 0))) := by show _ = _; rw [hW]; exact heap_alloc_new w1 _
  have HBW : Hid (Below w.heap.size w W) := HB1.out.trans (hbW.mono HB1.out.size)
  have hltW : w1.heap.size < W.heap.size := (Array.getElem?_eq_some_iff.1 HMW.out).1
  obtain ⟨mb, hmb⟩ : ∃ mb, mb = w1.heap.size := ⟨_, rfl⟩
  rw [← hmb] at HMW hltW hlt1
  go_wp2_with fail
  rw [← hW, ← hmb]
  clear hW hbW HZ1 hmb
  refine (whole_gets_cm hu W HMW.out HT.out true (by simp)).mono ?_
  rintro en w2 ⟨rfl, hg2, v1, v2, hm2, ho1, ho2, hap⟩
  obtain ⟨va1, vc1, hv1⟩ := own_slice ho1
  obtain ⟨va2, vc2, hv2⟩ := own_slice ho2
  subst hv1 hv2
  have hz2 := grown_keep HZW.out hg2 (by omega)
  have HZ2 : Hid (_ = _) := hz2
  have HM2 : Hid (_ = _) := hm2
  have HB2 : Hid (Below w.heap.size w w2) := HBW.out.grown hg2 HBW.out.size (fun k e => by cases e; omega)
  have HO1 : Hid (w2.ownsRow w.heap.size 3 1 (.slice va1 l.length vc1) l.length (cellsI l)) := own_mono ho1 HBW.out.size
  have HO2 : Hid (w2.ownsRow w.heap.size 3 1 (.slice va2 l'.length vc2) l'.length (cellsI l')) := own_mono ho2 HBW.out.size
  have HAP : Hid (Apart (.slice va1 l.length vc1) (.slice va2 l'.length vc2)) := hap
  obtain ⟨ba1, g1, bc1, e1, at1⟩ := cellsI_slice HO1.out
  obtain ⟨ba2, g2, bc2, e2, at2⟩ := cellsI_slice HO2.out
  simp only [Value.slice.injEq, true_and] at e1 e2
  obtain ⟨rfl, rfl⟩ := e1
  obtain ⟨rfl, rfl⟩ := e2
  have HA1 : Hid (IntAt w2 va1 g1 0 l) := at1
  have HA2 : Hid (IntAt w2 va2 g2 0 l') := at2
  have m0 := cell_of_row _ _ 0 _ _ _ hm2
  have m1 := cell_of_row _ _ 1 _ _ _ hm2
  have m2 := cell_of_row _ _ 2 _ _ _ hm2
  have m3 := cell_of_row _ _ 3 _ _ _ hm2
  have m4 := cell_of_row _ _ 4 _ _ _ hm2
  have mf0 := frozen_of_row _ _ 0 _ _ hm2
  have mf1 := frozen_of_row _ _ 1 _ _ hm2
  have mf2 := frozen_of_row _ _ 2 _ _ hm2
  have mf3 := frozen_of_row _ _ 3 _ _ hm2
  have mf4 := frozen_of_row _ _ 4 _ _ hm2
  simp at m0 m1 m2 m3 m4
  clear hz2 hm2 ho1 ho2 hap at1 at2 hg2
  go_wp2_with fail
  have hq := implMan_is (ca := vc1) (cb := vc2) l l' X Y Z (by have := HG.out.1; omega) (by have := HG.out.2; omega) false (by simp [HK.out]) w2 HA1.out HA2.out
  unfold manV at hq
  refine hq.mono ?_
  rintro en w3 ⟨rfl, hb3⟩
  have hlt2 : mb < w2.heap.size := (Array.getElem?_eq_some_iff.1 HM2.out).1
  have hz3 := (hb3.block _ (by omega)).trans HZ2.out
  have hm3 := (hb3.block _ hlt2).trans HM2.out
  have HZ3 : Hid (_ = _) := hz3
  have HO3 : Hid (w3.ownsRow w.heap.size 3 1 (.slice va1 l.length vc1) l.length (cellsI l)) := own_kept HO1.out hb3
  have HO4 : Hid (w3.ownsRow w.heap.size 3 1 (.slice va2 l'.length vc2) l'.length (cellsI l')) := own_kept HO2.out hb3
  have HB3 : Hid (Below w.heap.size w w3) := HB2.out.trans (hb3.mono HB2.out.size)
  clear m0 m1 m2 m3 m4 mf0 mf1 mf2 mf3 mf4 hq hb3
  have z0 := cell_of_row _ _ 0 _ _ _ hz3
  have z1 := cell_of_row _ _ 1 _ _ _ hz3
  have z2 := cell_of_row _ _ 2 _ _ _ hz3
  have z3 := cell_of_row _ _ 3 _ _ _ hz3
  have z4 := cell_of_row _ _ 4 _ _ _ hz3
  have zf0 := frozen_of_row _ _ 0 _ _ hz3
  have zf1 := frozen_of_row _ _ 1 _ _ hz3
  have zf2 := frozen_of_row _ _ 2 _ _ hz3
  have zf3 := frozen_of_row _ _ 3 _ _ hz3
  have zf4 := frozen_of_row _ _ 4 _ _ hz3
  simp at z0 z1 z2 z3 z4
  clear hz3 hm3
  go_wp2
  obtain ⟨k0, k1, k2, k3, k4⟩ := five_cell HZ3.out (.slice none 0 0) (.int .i64 0) (.int .i64 0) (.int .i64 0) (.slice none 0 0)
  exact bodyPost_ret (v := .tuple #[.agg #[.slice none 0 0, .int .i64 0, .int .i64 0, .int .i64 0, .slice none 0 0], .bool false]) (by simp [results, Tryz.results160, go_sem, k0, k1, k2, k3, k4]) rfl ⟨rfl, ((((HB3.out.setCell (by simp) _).setCell (by simp) _).setCell (by simp) _).setCell (by simp) _).setCell (by simp) _⟩
set_option maxHeartbeats 1000000 in
set_option maxRecDepth 100000 in
theorem implRM_got {t : ByteArray} {l l' : List Int} {X Y Z : Nat} (hs : t.size ≤ 1048576) (w : World) (u : List UInt8) (h : Sums.unsealed t.data.toList = some u) (hu : (⟨u.toArray⟩ : ByteArray).size ≤ 1048576) (ht : GetsN ⟨u.toArray⟩ l l' X Y Z (⟨u.toArray⟩ : ByteArray).size) (ho : Mans.ok ⟨l, X, Y, Z, l'⟩) :
    Calls Tryz.prog 160 #[.string t] w fun en w' => ∃ v1 v2, en = .returned (.tuple #[.agg #[v1, .int .i64 (X : Int), .int .i64 (Y : Int), .int .i64 (Z : Int), v2], .bool true]) ∧ w'.ownsRow w.heap.size 3 1 v1 l.length (cellsI l) ∧ w'.ownsRow w.heap.size 3 1 v2 l'.length (cellsI l') ∧ Apart v1 v2 ∧ Below w.heap.size w w' := by
  have HT : Hid (GetsN ⟨u.toArray⟩ l l' X Y Z (⟨u.toArray⟩ : ByteArray).size) := ht
  have HK : Hid (Mans.ok ⟨l, X, Y, Z, l'⟩) := ho
  have HG : Hid (_ ∧ _) := gets_lens ht
  clear ht ho
  have HZ : Hid ((w.alloc (.cells #[.slice none 0 0, .int .i64 0, .int .i64 0, .int .i64 0, .slice none 0 0] 37)).heap[w.heap.size]? = some (.cells #[.slice none 0 0, .int .i64 0, .int .i64 0, .int .i64 0, .slice none 0 0] 37 (0, 0))) := heap_alloc_new w _
  have HB0 : Hid (Below w.heap.size w (w.alloc (.cells #[.slice none 0 0, .int .i64 0, .int .i64 0, .int .i64 0, .slice none 0 0] 37))) := (Below.refl _ _).alloc (Nat.le_refl _) _
  have hz0 : w.heap.size < (w.alloc (.cells #[.slice none 0 0, .int .i64 0, .int .i64 0, .int .i64 0, .slice none 0 0] 37)).heap.size := by simp
  have hmf : ∀ (fn : Fn) (first cap : Array Value) (w : World), (Instr.makeFunc fn first cap).run Tryz.prog w = .ok (.func fn first cap) w := fun _ _ _ _ => rfl
  go_enter Tryz.func160, Tryz.ntmps160
  go_wp2_with fail
  refine (implUnsealed_some t u h _).mono ?_
  rintro en w1 ⟨rfl, hb1⟩
  have hz1 := (hb1.block _ hz0).trans HZ.out
  have HZ1 : Hid (_ = _) := hz1
  have HB1 : Hid (Below w.heap.size w w1) := HB0.out.trans (hb1.mono HB0.out.size)
  have hlt1 : w.heap.size < w1.heap.size := (Array.getElem?_eq_some_iff.1 hz1).1
  clear hz1 hb1 HZ HB0 hz0
  obtain ⟨W, hW⟩ : ∃ W, W = w1.alloc (.cells #[.slice none 0 0, .int .i64 0, .int .i64 0, .int .i64 0, .slice none 0 0] 37) := ⟨_, rfl⟩
  have hbW : Below w1.heap.size w1 W := by rw [hW]; exact (Below.refl _ _).alloc (Nat.le_refl _) _
  have HZW : Hid (W.heap[w.heap.size]? = some (.cells #[.slice none 0 0, .int .i64 0, .int .i64 0, .int .i64 0, .slice none 0 0] 37 (0, 0))) := (hbW.block _ hlt1).trans HZ1.out
  have HMW : Hid (W.heap[w1.heap.size]? = some (.cells #[.slice none 0 0, .int .i64 0, .int .i64 0, .int .i64 0, .slice none 0 0] 37 (0, 0))) := by show _ = _; rw [hW]; exact heap_alloc_new w1 _
  have HBW : Hid (Below w.heap.size w W) := HB1.out.trans (hbW.mono HB1.out.size)
  have hltW : w1.heap.size < W.heap.size := (Array.getElem?_eq_some_iff.1 HMW.out).1
  obtain ⟨mb, hmb⟩ : ∃ mb, mb = w1.heap.size := ⟨_, rfl⟩
  rw [← hmb] at HMW hltW hlt1
  go_wp2_with fail
  rw [← hW, ← hmb]
  clear hW hbW HZ1 hmb
  refine (whole_gets_cm hu W HMW.out HT.out true (by simp)).mono ?_
  rintro en w2 ⟨rfl, hg2, v1, v2, hm2, ho1, ho2, hap⟩
  obtain ⟨va1, vc1, hv1⟩ := own_slice ho1
  obtain ⟨va2, vc2, hv2⟩ := own_slice ho2
  subst hv1 hv2
  have hz2 := grown_keep HZW.out hg2 (by omega)
  have HZ2 : Hid (_ = _) := hz2
  have HM2 : Hid (_ = _) := hm2
  have HB2 : Hid (Below w.heap.size w w2) := HBW.out.grown hg2 HBW.out.size (fun k e => by cases e; omega)
  have HO1 : Hid (w2.ownsRow w.heap.size 3 1 (.slice va1 l.length vc1) l.length (cellsI l)) := own_mono ho1 HBW.out.size
  have HO2 : Hid (w2.ownsRow w.heap.size 3 1 (.slice va2 l'.length vc2) l'.length (cellsI l')) := own_mono ho2 HBW.out.size
  have HAP : Hid (Apart (.slice va1 l.length vc1) (.slice va2 l'.length vc2)) := hap
  obtain ⟨ba1, g1, bc1, e1, at1⟩ := cellsI_slice HO1.out
  obtain ⟨ba2, g2, bc2, e2, at2⟩ := cellsI_slice HO2.out
  simp only [Value.slice.injEq, true_and] at e1 e2
  obtain ⟨rfl, rfl⟩ := e1
  obtain ⟨rfl, rfl⟩ := e2
  have HA1 : Hid (IntAt w2 va1 g1 0 l) := at1
  have HA2 : Hid (IntAt w2 va2 g2 0 l') := at2
  have m0 := cell_of_row _ _ 0 _ _ _ hm2
  have m1 := cell_of_row _ _ 1 _ _ _ hm2
  have m2 := cell_of_row _ _ 2 _ _ _ hm2
  have m3 := cell_of_row _ _ 3 _ _ _ hm2
  have m4 := cell_of_row _ _ 4 _ _ _ hm2
  have mf0 := frozen_of_row _ _ 0 _ _ hm2
  have mf1 := frozen_of_row _ _ 1 _ _ hm2
  have mf2 := frozen_of_row _ _ 2 _ _ hm2
  have mf3 := frozen_of_row _ _ 3 _ _ hm2
  have mf4 := frozen_of_row _ _ 4 _ _ hm2
  simp at m0 m1 m2 m3 m4
  clear hz2 hm2 ho1 ho2 hap at1 at2 hg2
  go_wp2_with fail
  have hq := implMan_is (ca := vc1) (cb := vc2) l l' X Y Z (by have := HG.out.1; omega) (by have := HG.out.2; omega) true (by simp [HK.out]) w2 HA1.out HA2.out
  unfold manV at hq
  refine hq.mono ?_
  rintro en w3 ⟨rfl, hb3⟩
  have hlt2 : mb < w2.heap.size := (Array.getElem?_eq_some_iff.1 HM2.out).1
  have hz3 := (hb3.block _ (by omega)).trans HZ2.out
  have hm3 := (hb3.block _ hlt2).trans HM2.out
  have HZ3 : Hid (_ = _) := hz3
  have HO3 : Hid (w3.ownsRow w.heap.size 3 1 (.slice va1 l.length vc1) l.length (cellsI l)) := own_kept HO1.out hb3
  have HO4 : Hid (w3.ownsRow w.heap.size 3 1 (.slice va2 l'.length vc2) l'.length (cellsI l')) := own_kept HO2.out hb3
  have HB3 : Hid (Below w.heap.size w w3) := HB2.out.trans (hb3.mono HB2.out.size)
  clear m0 m1 m2 m3 m4 mf0 mf1 mf2 mf3 mf4 hq hb3
  have z0 := cell_of_row _ _ 0 _ _ _ hz3
  have z1 := cell_of_row _ _ 1 _ _ _ hz3
  have z2 := cell_of_row _ _ 2 _ _ _ hz3
  have z3 := cell_of_row _ _ 3 _ _ _ hz3
  have z4 := cell_of_row _ _ 4 _ _ _ hz3
  have zf0 := frozen_of_row _ _ 0 _ _ hz3
  have zf1 := frozen_of_row _ _ 1 _ _ hz3
  have zf2 := frozen_of_row _ _ 2 _ _ hz3
  have zf3 := frozen_of_row _ _ 3 _ _ hz3
  have zf4 := frozen_of_row _ _ 4 _ _ hz3
  simp at z0 z1 z2 z3 z4
  have y0 := cell_of_row _ _ 0 _ _ _ hm3
  have y1 := cell_of_row _ _ 1 _ _ _ hm3
  have y2 := cell_of_row _ _ 2 _ _ _ hm3
  have y3 := cell_of_row _ _ 3 _ _ _ hm3
  have y4 := cell_of_row _ _ 4 _ _ _ hm3
  have yf0 := frozen_of_row _ _ 0 _ _ hm3
  have yf1 := frozen_of_row _ _ 1 _ _ hm3
  have yf2 := frozen_of_row _ _ 2 _ _ hm3
  have yf3 := frozen_of_row _ _ 3 _ _ hm3
  have yf4 := frozen_of_row _ _ 4 _ _ hm3
  simp at y0 y1 y2 y3 y4
  clear hz3 hm3
  go_wp2
  obtain ⟨k0, k1, k2, k3, k4⟩ := five_cell HZ3.out (.slice va1 l.length vc1) (.int .i64 (X : Int)) (.int .i64 (Y : Int)) (.int .i64 (Z : Int)) (.slice va2 l'.length vc2)
  have n1 := own_not HO3.out HZ3.out (by decide)
  have n2 := own_not HO4.out HZ3.out (by decide)
  refine bodyPost_ret (v := .tuple #[.agg #[.slice va1 l.length vc1, .int .i64 (X : Int), .int .i64 (Y : Int), .int .i64 (Z : Int), .slice va2 l'.length vc2], .bool true]) (by simp [results, Tryz.results160, go_sem, k0, k1, k2, k3, k4]) rfl ⟨_, _, rfl, ?_, ?_, HAP.out, ((((HB3.out.setCell (by simp) _).setCell (by simp) _).setCell (by simp) _).setCell (by simp) _).setCell (by simp) _⟩
  · exact own_set (own_set (own_set (own_set (own_set HO3.out _ _ _ n1) _ _ _ n1) _ _ _ n1) _ _ _ n1) _ _ _ n1
  · exact own_set (own_set (own_set (own_set (own_set HO4.out _ _ _ n2) _ _ _ n2) _ _ _ n2) _ _ _ n2) _ _ _ n2
theorem un_size {t u : List UInt8} (h : Sums.unsealed t = some u) : (⟨u.toArray⟩ : ByteArray).size ≤ 1048576 := by
  have := (Mans.unsealed_iff.1 h).2
  show u.toArray.size ≤ _
  simp
  omega
theorem got_gets_cm {t : ByteArray} {m : ManL} (h : Mans.Got t m) : ∃ X Y Z : Nat, m = ⟨m.segs, X, Y, Z, m.conf⟩ ∧ GetsN ⟨(Mans.text m).toArray⟩ m.segs m.conf X Y Z (⟨(Mans.text m).toArray⟩ : ByteArray).size := by
  obtain ⟨a0, a1, a2, a3, a4, a5, hg⟩ := Mans.text_gets (u := ⟨(Mans.text m).toArray⟩) (by simp) h.2
  exact getsN hg
theorem implRM_yes {t : ByteArray} {m : ManL} (hs : t.size ≤ 1048576) (w : World) (h : Mans.Got t m) :
    Calls Tryz.prog 160 #[.string t] w fun en w' => ∃ v1 v2, en = .returned (.tuple #[.agg #[v1, .int .i64 m.next, .int .i64 m.base, .int .i64 m.term, v2], .bool true]) ∧ w'.ownsRow w.heap.size 3 1 v1 m.segs.length (cellsI m.segs) ∧ w'.ownsRow w.heap.size 3 1 v2 m.conf.length (cellsI m.conf) ∧ Apart v1 v2 ∧ Below w.heap.size w w' := by
  have hu := Mans.got_unsealed h
  obtain ⟨X, Y, Z, hm, hg⟩ := got_gets_cm h
  have ho := h.2
  rw [hm] at ho
  have := implRM_got hs w _ hu (un_size hu) hg ho
  rw [hm]
  exact this
theorem implRM_no {t : ByteArray} (hs : t.size ≤ 1048576) (w : World) (h : ∀ m, ¬ Mans.Got t m) :
    Calls Tryz.prog 160 #[.string t] w fun en w' => en = .returned (.tuple #[.agg #[.slice none 0 0, .int .i64 0, .int .i64 0, .int .i64 0, .slice none 0 0], .bool false]) ∧ Below w.heap.size w w' := by
  cases hu : Sums.unsealed t.data.toList with
  | none => exact implRM_unsealed hs w hu
  | some u =>
    rcases Mans.torn_or ⟨u.toArray⟩ with ht | ⟨m, a0, a1, a2, a3, a4, a5, e, hg⟩
    · exact implRM_torn hs w u hu (un_size hu) ht
    · obtain ⟨X, Y, Z, hm, hn⟩ := getsN hg
      by_cases he : e = (⟨u.toArray⟩ : ByteArray).size
      · subst he
        refine implRM_wrong hs w u hu (un_size hu) hn (fun ho => h m ?_)
        refine Mans.unsealed_got (m := m) ?_ (by rw [hm]; exact ho)
        have := Mans.gets_text hg
        simp only [Batches.by_] at this ⊢
        rw [hu, ← this]
      · exact implRM_short hs w u hu (un_size hu) hn he
end Go.Proofs.YtbcfiiilikkkeaaGreatDoor
