/- The program's OneLeader, walked. -/
import Derived.Test.YtddmogggdckneaaWatLd
import Derived.Test.YtddmogggdckneaaAgreeWa
namespace Go.Proofs.Ytddmogggdckneaa
open Go.RowKit Go.Maps
set_option linter.unusedVariables false
set_option linter.unusedSimpArgs false
set_option maxHeartbeats 2000000 in
set_option maxRecDepth 100000 in
theorem firstsWc_is {g off cap : Nat} {a : Option Addr} (l : List WcL) (hlen : l.length ≤ 1048576) (hwf : ∀ r ∈ l, (Lit.int .i64 r.thing).wf = true) (w : World) (hf : WcAt w a g off l) :
    Calls Try.prog 79 #[.slice a l.length cap] w fun e w' => e = .returned (.map (some w.heap.size)) ∧ (∃ n D, w'.ownsMap Try.prog 3 (plainElem (H := Unit) Try.prog 3) w.heap.size n D ∧ Watch.Told kInt (wcPairs l) l.length D) ∧ Below w.heap.size w w' := by
  have HF : Hid (WcAt w a g off l) := hf
  have HWF : Hid (∀ r ∈ l, (Lit.int .i64 r.thing).wf = true) := hwf
  clear hf hwf
  have hmm := @run_makeMap Try.prog
  go_enter Try.func79, Try.ntmps79
  go_wp2
  go_loopw [10] (fun i wr => ∃ (k n : Nat) (D : DataW Unit), k ≤ l.length ∧ n ≤ k ∧ i = .int .i64 (k : Int) ∧ Hid (wr.ownsMap Try.prog 3 (plainElem Try.prog 3) w.heap.size n D) ∧ Hid (Watch.Told kInt (wcPairs l) k D) ∧ Below w.heap.size w wr)
    (fun i _ => l.length - (intOf i).toNat)
  case atStart => exact ⟨0, 0, .map [], Nat.zero_le _, Nat.zero_le _, rfl, World.ownsMap_made _ _ _ _, Watch.told_nil _ _, (Below.refl _ _).alloc (Nat.le_refl _) _⟩
  case round =>
    obtain ⟨k, n, D, hk, hn, rfl, HO, HT, hbel⟩ := hrel
    by_cases hlt : k < l.length
    · obtain ⟨c0, -⟩ := (HF.out.kept hbel).2 k hlt
      have ea := HF.out.1 (by omega)
      subst ea
      obtain ⟨F0, hF0⟩ : ∃ F0, F0 = l[k].thing := ⟨_, rfl⟩
      have hwf0 := HWF.out _ (List.getElem_mem hlt)
      have HP1 : Hid (∃ h : k < (wcPairs l).length, (wcPairs l)[k].1 = F0) := ⟨by unfold wcPairs; simpa using hlt, by rw [hF0]; simp [wcPairs, wcPair]⟩
      rw [← hF0] at c0 hwf0
      clear hF0
      have hkey : keyOf Try.prog 3 (.int .i64 F0) = some (.int .i64 F0) := keyOf_int_mk Try.underlying3 hwf0
      have HIM : Hid (IsMap D) := HO.out.isMap
      have hk0 : (0 : Int) ≤ (k : Int) := by omega
      have hk1 : (k : Int) < (l.length : Int) := by omega
      obtain ⟨B, hB⟩ : ∃ B, Maps.has D (kInt F0) = B := ⟨_, rfl⟩
      have HB : Hid (B = ((wcPairs l).take k).any fun p => p.1 == F0) := by
        show _ = _
        rw [← hB, HT.out.has]
      clear hwf0
      have HK : Hid (keyOf Try.prog 3 (.int .i64 F0) = some (.int .i64 F0)) := hkey
      cases B
      · have HT2 : Hid (Watch.Told kInt (wcPairs l) (k + 1) (D.put (kInt F0) (.lit (.int .i64 (k : Int))))) := by
          obtain ⟨h, e⟩ := HP1.out
          have := Watch.told_put kInt_inj kInt_key HIM.out HT.out h (by rw [e]; exact HB.out.symm)
          rw [e] at this
          exact this
        go_wp2_with (first
          | (at_lookup; refine wpList_lookup_own_ok_int _ rfl _ _ 123 rfl 3 3 .i64 key3 Try.underlying123 Try.underlying3 (zer3 _) w.heap.size n D rfl HO.out _ _ rfl hkey ?_; intro c hat hwc; rw [hB])
          | (at_mapUpdate; refine wpList_mapUpdate_own _ rfl _ _ _ 123 rfl 3 3 key3 Try.underlying123 _ w.heap.size n D rfl HO.out (by unfold maxLen; omega) _ _ _ rfl rfl hkey _ [] (plainElem_int Try.underlying3 (k_wf hk hlen)) ?_; intro w1 hown1 hgrow1)
          | fail)
        go_roundw
        case rel => exact ⟨k + 1, n + 1, _, by omega, by omega, by go_num, hown1, HT2.out, hbel.grown hgrow1 hbel.size (fun j hj => by cases hj; exact Nat.le_refl _)⟩
        case measure => simp [intOf]; omega
      · have HT2 : Hid (Watch.Told kInt (wcPairs l) (k + 1) D) := by
          obtain ⟨h, e⟩ := HP1.out
          exact Watch.told_seen HT.out h (by rw [e]; exact HB.out.symm)
        go_wp2_with (first
          | (at_lookup; refine wpList_lookup_own_ok_int _ rfl _ _ 123 rfl 3 3 .i64 key3 Try.underlying123 Try.underlying3 (zer3 _) w.heap.size n D rfl HO.out _ _ rfl hkey ?_; intro c hat hwc; rw [hB])
          | fail)
        go_roundw
        case rel => exact ⟨k + 1, n, D, by omega, by omega, by go_num, HO.out, HT2.out, hbel⟩
        case measure => simp [intOf]; omega
    · have hkl : k = l.length := by omega
      subst hkl
      have hk1 : ¬ (l.length : Int) < (l.length : Int) := by omega
      go_wp2
      go_ret
      exact ⟨rfl, ⟨n, D, HO.out, HT.out⟩, hbel⟩
theorem wcSame {l : List WcL} {k P : Nat} {r s : WcL} (hk : l[k]? = some s) (hp : l[P]? = some r) (hP : P = Watch.place (wcPairs l) s.thing) : Watch.same (wcPairs l) k = decide (s.saw = r.saw) := by
  have h1 : (wcPairs l)[k]? = some (wcPair s) := by simp [wcPairs, hk]
  have h2 : (wcPairs l)[Watch.place (wcPairs l) (wcPair s).1]? = some (wcPair r) := by
    have : (wcPair s).1 = s.thing := rfl
    rw [this, ← hP]
    simp [wcPairs, hp]
  unfold Watch.same
  rw [h1]
  simp only [Option.bind_some]
  rw [h2]
  rw [Bool.eq_iff_iff]
  simp [wcPair]
set_option maxHeartbeats 2000000 in
set_option maxRecDepth 100000 in
theorem agreeWc_is {g off cap : Nat} {a : Option Addr} (l : List WcL) (hlen : l.length ≤ 1048576) (hwf : ∀ r ∈ l, (Lit.int .i64 r.thing).wf = true) (w : World) (hf : WcAt w a g off l) :
    Calls Try.prog 58 #[.slice a l.length cap] w fun e w' => e = .returned (.bool (Watch.agree (wcPairs l))) ∧ Below w.heap.size w w' := by
  have HF : Hid (WcAt w a g off l) := hf
  have HWF : Hid (∀ r ∈ l, (Lit.int .i64 r.thing).wf = true) := hwf
  have HFI : Hid (Calls Try.prog 79 #[.slice a l.length cap] w fun e w' => e = .returned (.map (some w.heap.size)) ∧ (∃ n D, w'.ownsMap Try.prog 3 (plainElem (H := Unit) Try.prog 3) w.heap.size n D ∧ Watch.Told kInt (wcPairs l) l.length D) ∧ Below w.heap.size w w') := firstsWc_is l hlen hwf w hf
  clear hf hwf
  go_enter Try.func58, Try.ntmps58
  go_wp2_with fail
  refine Calls.mono HFI.out ?_
  rintro e w1 ⟨rfl, ⟨n, D, hown, htold⟩, hb1⟩
  have HO : Hid (w1.ownsMap Try.prog 3 (plainElem (H := Unit) Try.prog 3) w.heap.size n D) := hown
  have HT : Hid (Watch.Told kInt (wcPairs l) l.length D) := htold
  have HB1 : Hid (Below w.heap.size w w1) := hb1
  clear hown htold hb1 HFI
  go_wp2
  go_loopw [9] (fun i wr => ∃ (k : Nat), k ≤ l.length ∧ i = .int .i64 (k : Int) ∧ Hid (Watch.agreeTo (wcPairs l) k = true) ∧ Below w1.heap.size w1 wr)
    (fun i _ => l.length - (intOf i).toNat)
  case atStart => exact ⟨0, Nat.zero_le _, rfl, Watch.agreeTo_zero _, Below.refl _ _⟩
  case round =>
    obtain ⟨k, hk, rfl, HA, hbel⟩ := hrel
    have HBW : Hid (Below w.heap.size w wr) := HB1.out.trans (hbel.mono HB1.out.size)
    by_cases hlt : k < l.length
    · have hkp : k < (wcPairs l).length := by unfold wcPairs; simpa using hlt
      obtain ⟨F0, hF0⟩ : ∃ F0, F0 = l[k].thing := ⟨_, rfl⟩
      have e0 : (wcPairs l)[k].1 = F0 := by rw [hF0]; simp [wcPairs, wcPair]
      have hp0 := Watch.place_lt hkp
      rw [e0] at hp0
      obtain ⟨P, hP⟩ : ∃ P, P = Watch.place (wcPairs l) F0 := ⟨_, rfl⟩
      have hp : P < l.length := by rw [hP]; unfold wcPairs at hp0 ⊢; simpa using hp0
      have hsame := wcSame (List.getElem?_eq_getElem hlt) (List.getElem?_eq_getElem hp) (by rw [hP, hF0])
      have hwf0 := HWF.out _ (List.getElem_mem hlt)
      rw [← hF0] at hwf0
      have HLK : Hid (∀ x : Abv wr, (Instr.lookup 123 (.map (some w.heap.size)) (.int .i64 F0) false).run Try.prog x.w = .ok (.int .i64 (P : Int)) x.w) := fun x => by
        rw [hP]
        have hlen' : l.length = (wcPairs l).length := by unfold wcPairs; simp
        have ht := HT.out
        rw [hlen'] at ht
        exact look_place ((HO.out.kept (below_grownN hbel) (by simp)).kept (below_grownN x.b) (by simp)) ht hkp e0 hwf0
      clear hP hp0
      obtain ⟨c0, c1⟩ := (HF.out.kept HBW.out).2 k hlt
      obtain ⟨-, d1⟩ := (HF.out.kept HBW.out).2 P hp
      have ea := HF.out.1 (by omega)
      subst ea
      obtain ⟨A1, q1⟩ : ∃ A1, A1 = l[k].saw := ⟨_, rfl⟩
      obtain ⟨B1, p1⟩ : ∃ B1, B1 = l[P].saw := ⟨_, rfl⟩
      rw [← hF0] at c0
      rw [← q1] at c1 hsame
      rw [← p1] at d1 hsame
      obtain ⟨X, hX⟩ : ∃ X, X = decide (¬ A1 = B1) := ⟨_, rfl⟩
      have x1 : decide (A1 = B1) = !X := by rw [hX]; simp
      have x2 : (A1 == B1) = !X := by rw [hX, Bool.eq_iff_iff]; simp
      have HS : Hid (Watch.same (wcPairs l) k = !X) := by show _ = _; rw [hsame, hX]; simp
      have HKP : Hid (k < (wcPairs l).length) := hkp
      clear hX hsame hF0 e0 hwf0 q1 p1 hkp
      have hk0 : (0 : Int) ≤ (k : Int) := by omega
      have hk1 : (k : Int) < (l.length : Int) := by omega
      have hp1 : (0 : Int) ≤ (P : Int) := by omega
      have hp2 : (P : Int) < (l.length : Int) := by omega
      go_wp2
      have NE := Abv.ne wr
      have C0 := fun x : Abv wr => x.cell c0
      have C1 := fun x : Abv wr => x.cell c1
      have D1 := fun x : Abv wr => x.cell d1
      have LK := HLK.out
      cases X
      · simp only [Bool.not_false] at x1 x2
        refine wp_region_above (by kernel_rfl) (by kernel_rfl) ?_
        repeat (go_big_quiet_step (fail))
        refine wpQuiet_nil ?_
        rintro w2 ⟨⟨_, hb2⟩, rfl⟩
        clear NE C0 C1 D1 LK
        go_wp2
        go_roundw
        case rel => exact ⟨k + 1, by omega, by go_num, by show _ = _; rw [Watch.agreeTo_succ, HA.out, HS.out]; rfl, hbel.trans (hb2.mono hbel.size)⟩
        case measure => simp [intOf]; omega
      · simp only [Bool.not_true] at x1 x2
        refine wp_region_above (by kernel_rfl) (by kernel_rfl) ?_
        repeat (go_big_quiet_step (fail))
        refine wpQuiet_nil ?_
        rintro w2 ⟨⟨_, hb2⟩, rfl⟩
        clear NE C0 C1 D1 LK
        have HN : Hid (Watch.agree (wcPairs l) = false) := Watch.agreeTo_no HKP.out (by rw [HS.out]; rfl)
        go_wp2
        go_ret
        exact ⟨by rw [HN.out]; rfl, HBW.out.trans (hb2.mono HBW.out.size)⟩
    · have hkl : k = l.length := by omega
      subst hkl
      have hk1 : ¬ (l.length : Int) < (l.length : Int) := by omega
      have HN : Hid (Watch.agree (wcPairs l) = true) := by
        show _ = _
        have := HA.out
        have hlen' : l.length = (wcPairs l).length := by unfold wcPairs; simp
        rw [hlen'] at this
        exact this
      go_wp2
      go_ret
      exact ⟨by rw [HN.out]; rfl, HBW.out⟩

/-- Whether no term has two leaders. -/
def oneB (l : List LcL) : Bool := Watch.allOne (lcPairs l) l.length
set_option maxHeartbeats 2000000 in
set_option maxRecDepth 100000 in
theorem implOneC_is {a : Option Addr} {g off cap : Nat} (l : List LcL) (hlen : l.length ≤ 1048576) (hwf : ∀ r ∈ l, (Lit.int .i64 r.term).wf = true) (w : World) (hf : LcAt w a g off l) :
    Calls Try.prog 27 #[.slice a l.length cap] w fun e w' => e = .returned (.bool (oneB l)) ∧ Below w.heap.size w w' := by
  have hl : (wcS l).length = l.length := by simp [wcS]
  have HAG : Hid (∀ (X : World) (g1 : Nat), WcAt X (some ⟨g1, 0, none⟩) g1 0 (wcS l) → Calls Try.prog 58 #[.slice (some ⟨g1, 0, none⟩) l.length l.length] X fun e w' => e = .returned (.bool (oneB l)) ∧ Below X.heap.size X w') := fun X g1 h => by
    have := agreeWc_is (cap := l.length) (wcS l) (by rw [hl]; exact hlen) (by
      intro r hr
      obtain ⟨x, hx, rfl⟩ := List.mem_map.1 hr
      exact hwf x hx) X h
    rw [hl, Watch.agree_allOne, wcPairs_wcS] at this
    have e : (lcPairs l).length = l.length := by simp [lcPairs]
    rw [e] at this
    exact this
  go_enter Try.func27, Try.ntmps27
  go_wp2_with fail
  refine (watchLc_is l hlen w hf).mono ?_
  rintro e w1 ⟨rfl, hown1, hb1⟩
  have HW1 : Hid (WcAt w1 (some ⟨w.heap.size, 0, none⟩) w.heap.size 0 (wcS l)) := cellsWc_own (by simp [wcS]) hown1
  clear hown1
  go_wp2_with fail
  refine (HAG.out w1 _ HW1.out).mono ?_
  rintro e w2 ⟨rfl, hb2⟩
  go_wp2
  go_ret
  exact ⟨rfl, hb1.trans (hb2.mono hb1.size)⟩
end Go.Proofs.Ytddmogggdckneaa
