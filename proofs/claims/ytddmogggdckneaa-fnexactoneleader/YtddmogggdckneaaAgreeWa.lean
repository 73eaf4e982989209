/- The program's agree of watchers of Entries, walked; and SameApplied. -/
import Derived.Test.YtddmogggdckneaaFirstsWa
import Derived.BigQuiet
namespace Go.Proofs.Ytddmogggdckneaa
open Go.RowKit Go.Maps
set_option linter.unusedVariables false
set_option linter.unusedSimpArgs false
theorem below_grownN {w w' : World} (h : Below w.heap.size w w') : w.grownBy w' none := ⟨h.os, h.tape, h.output, h.size, fun k hk _ => h.block k hk⟩
theorem look_place {S : Type} {l : List (Int × S)} {w : World} {b n : Nat} {D : DataW Unit} (h : w.ownsMap Try.prog 3 (plainElem Try.prog 3) b n D) (ht : Watch.Told kInt l l.length D) {k : Nat} (hk : k < l.length) {x : Int} (hx : l[k].1 = x) (hw : (Lit.int .i64 x).wf = true) :
    (Instr.lookup 123 (.map (some b)) (.int .i64 x) false).run Try.prog w = .ok (.int .i64 (Watch.place l x : Int)) w := by
  obtain ⟨c, hrun, hat, hwc⟩ := h.lookup_int key3 (t := 123) Try.underlying123 Try.underlying3 (zer3 w) (keyOf_int_mk Try.underlying3 hw)
  have := ht.elem k hk hk (.lit (.int .i64 0))
  subst hx
  rw [this] at hat
  have e : (Watch.place l l[k].1 : Int) = c := by simpa using hat
  rw [hrun, e]
theorem waSame {l : List WaL} {k P : Nat} {r s : WaL} (hk : l[k]? = some s) (hp : l[P]? = some r) (hP : P = Watch.place (waPairs l) s.thing) : Watch.same (waPairs l) k = decide (s.eterm = r.eterm ∧ s.ekind = r.ekind ∧ s.edata = r.edata) := by
  have h1 : (waPairs l)[k]? = some (waPair s) := by simp [waPairs, hk]
  have h2 : (waPairs l)[Watch.place (waPairs l) (waPair s).1]? = some (waPair r) := by
    have : (waPair s).1 = s.thing := rfl
    rw [this, ← hP]
    simp [waPairs, hp]
  unfold Watch.same
  rw [h1]
  simp only [Option.bind_some]
  rw [h2]
  rw [Bool.eq_iff_iff]
  simp [waPair]
set_option maxHeartbeats 2000000 in
set_option maxRecDepth 100000 in
theorem agreeWa_is {g off cap : Nat} {a : Option Addr} (l : List WaL) (hlen : l.length ≤ 1048576) (hwf : ∀ r ∈ l, (Lit.int .i64 r.thing).wf = true) (w : World) (hf : WaAt w a g off l) :
    Calls Try.prog 42 #[.slice a l.length cap] w fun e w' => e = .returned (.bool (Watch.agree (waPairs l))) ∧ Below w.heap.size w w' := by
  have HF : Hid (WaAt w a g off l) := hf
  have HWF : Hid (∀ r ∈ l, (Lit.int .i64 r.thing).wf = true) := hwf
  have HFI : Hid (Calls Try.prog 73 #[.slice a l.length cap] w fun e w' => e = .returned (.map (some w.heap.size)) ∧ (∃ n D, w'.ownsMap Try.prog 3 (plainElem (H := Unit) Try.prog 3) w.heap.size n D ∧ Watch.Told kInt (waPairs l) l.length D) ∧ Below w.heap.size w w') := firstsWa_is l hlen hwf w hf
  clear hf hwf
  go_enter Try.func42, Try.ntmps42
  go_wp2_with fail
  refine Calls.mono HFI.out ?_
  rintro e w1 ⟨rfl, ⟨n, D, hown, htold⟩, hb1⟩
  have HO : Hid (w1.ownsMap Try.prog 3 (plainElem (H := Unit) Try.prog 3) w.heap.size n D) := hown
  have HT : Hid (Watch.Told kInt (waPairs l) l.length D) := htold
  have HB1 : Hid (Below w.heap.size w w1) := hb1
  clear hown htold hb1 HFI
  go_wp2
  go_loopw [9] (fun i wr => ∃ (k : Nat), k ≤ l.length ∧ i = .int .i64 (k : Int) ∧ Hid (Watch.agreeTo (waPairs l) k = true) ∧ Below w1.heap.size w1 wr)
    (fun i _ => l.length - (intOf i).toNat)
  case atStart => exact ⟨0, Nat.zero_le _, rfl, Watch.agreeTo_zero _, Below.refl _ _⟩
  case round =>
    obtain ⟨k, hk, rfl, HA, hbel⟩ := hrel
    have HBW : Hid (Below w.heap.size w wr) := HB1.out.trans (hbel.mono HB1.out.size)
    by_cases hlt : k < l.length
    · have hkp : k < (waPairs l).length := by unfold waPairs; simpa using hlt
      obtain ⟨F0, hF0⟩ : ∃ F0, F0 = l[k].thing := ⟨_, rfl⟩
      have e0 : (waPairs l)[k].1 = F0 := by rw [hF0]; simp [waPairs, waPair]
      have hp0 := Watch.place_lt hkp
      rw [e0] at hp0
      obtain ⟨P, hP⟩ : ∃ P, P = Watch.place (waPairs l) F0 := ⟨_, rfl⟩
      have hp : P < l.length := by rw [hP]; unfold waPairs at hp0 ⊢; simpa using hp0
      have hsame := waSame (List.getElem?_eq_getElem hlt) (List.getElem?_eq_getElem hp) (by rw [hP, hF0])
      have hwf0 := HWF.out _ (List.getElem_mem hlt)
      rw [← hF0] at hwf0
      have HLK : Hid (∀ x : Abv wr, (Instr.lookup 123 (.map (some w.heap.size)) (.int .i64 F0) false).run Try.prog x.w = .ok (.int .i64 (P : Int)) x.w) := fun x => by
        rw [hP]
        have hlen' : l.length = (waPairs l).length := by unfold waPairs; simp
        have ht := HT.out
        rw [hlen'] at ht
        exact look_place ((HO.out.kept (below_grownN hbel) (by simp)).kept (below_grownN x.b) (by simp)) ht hkp e0 hwf0
      clear hP hp0
      obtain ⟨c0, c1, c2, c3⟩ := (HF.out.kept HBW.out).2 k hlt
      obtain ⟨-, d1, d2, d3⟩ := (HF.out.kept HBW.out).2 P hp
      have ea := HF.out.1 (by omega)
      subst ea
      obtain ⟨A1, q1⟩ : ∃ A1, A1 = l[k].eterm := ⟨_, rfl⟩
      obtain ⟨A2, q2⟩ : ∃ A2, A2 = l[k].ekind := ⟨_, rfl⟩
      obtain ⟨A3, q3⟩ : ∃ A3, A3 = l[k].edata := ⟨_, rfl⟩
      obtain ⟨B1, p1⟩ : ∃ B1, B1 = l[P].eterm := ⟨_, rfl⟩
      obtain ⟨B2, p2⟩ : ∃ B2, B2 = l[P].ekind := ⟨_, rfl⟩
      obtain ⟨B3, p3⟩ : ∃ B3, B3 = l[P].edata := ⟨_, rfl⟩
      rw [← hF0] at c0
      rw [← q1] at c1 hsame
      rw [← q2] at c2 hsame
      rw [← q3] at c3 hsame
      rw [← p1] at d1 hsame
      rw [← p2] at d2 hsame
      rw [← p3] at d3 hsame
      obtain ⟨X, hX⟩ : ∃ X, X = decide (¬ (A1 = B1 ∧ A2 = B2 ∧ A3 = B3)) := ⟨_, rfl⟩
      have hne : ∀ wx, (binOp .neq 27 (.agg #[.int .i64 A1, .int .i64 A2, .string A3]) (.agg #[.int .i64 B1, .int .i64 B2, .string B3])).run Try.prog wx = .ok (.bool X) wx := fun wx => by rw [hX]; exact neqEnt _ _ _ _ _ _ wx
      have HS : Hid (Watch.same (waPairs l) k = !X) := by show _ = _; rw [hsame, hX]; simp
      have HKP : Hid (k < (waPairs l).length) := hkp
      clear hX hsame hF0 e0 hwf0 q1 q2 q3 p1 p2 p3 hkp
      have hk0 : (0 : Int) ≤ (k : Int) := by omega
      have hk1 : (k : Int) < (l.length : Int) := by omega
      have hp1 : (0 : Int) ≤ (P : Int) := by omega
      have hp2 : (P : Int) < (l.length : Int) := by omega
      go_wp2
      have NE := Abv.ne wr
      have C0 := fun x : Abv wr => x.cell c0
      have C1 := fun x : Abv wr => x.cell c1
      have C2 := fun x : Abv wr => x.cell c2
      have C3 := fun x : Abv wr => x.cell c3
      have D1 := fun x : Abv wr => x.cell d1
      have D2 := fun x : Abv wr => x.cell d2
      have D3 := fun x : Abv wr => x.cell d3
      have LK := HLK.out
      cases X
      · refine wp_region_above (by kernel_rfl) (by kernel_rfl) ?_
        repeat (go_big_quiet_step (fail))
        refine wpQuiet_nil ?_
        rintro w2 ⟨⟨_, hb2⟩, rfl⟩
        clear NE C0 C1 C2 C3 D1 D2 D3 LK
        go_wp2
        go_roundw
        case rel => exact ⟨k + 1, by omega, by go_num, by show _ = _; rw [Watch.agreeTo_succ, HA.out, HS.out]; rfl, hbel.trans (hb2.mono hbel.size)⟩
        case measure => simp [intOf]; omega
      · refine wp_region_above (by kernel_rfl) (by kernel_rfl) ?_
        repeat (go_big_quiet_step (fail))
        refine wpQuiet_nil ?_
        rintro w2 ⟨⟨_, hb2⟩, rfl⟩
        clear NE C0 C1 C2 C3 D1 D2 D3 LK
        have HN : Hid (Watch.agree (waPairs l) = false) := Watch.agreeTo_no HKP.out (by rw [HS.out]; rfl)
        go_wp2
        go_ret
        exact ⟨by rw [HN.out]; rfl, HBW.out.trans (hb2.mono HBW.out.size)⟩
    · have hkl : k = l.length := by omega
      subst hkl
      have hk1 : ¬ (l.length : Int) < (l.length : Int) := by omega
      have HN : Hid (Watch.agree (waPairs l) = true) := by
        show _ = _
        have := HA.out
        have hlen' : l.length = (waPairs l).length := by unfold waPairs; simp
        rw [hlen'] at this
        exact this
      go_wp2
      go_ret
      exact ⟨by rw [HN.out]; rfl, HBW.out⟩

set_option maxHeartbeats 2000000 in
set_option maxRecDepth 100000 in
theorem watchingAp_is {a : Option Addr} {g off cap : Nat} (l : List ApL) (hlen : l.length ≤ 1048576) (w : World) (hf : ApAt w a g off l) :
    Calls Try.prog 41 #[.slice a l.length cap] w fun e w' => ∃ g1, e = .returned (.slice (some ⟨g1, 0, none⟩) l.length l.length) ∧ WaAt w' (some ⟨g1, 0, none⟩) g1 0 (waS l) ∧ Below w.heap.size w w' := by
  go_enter Try.func41, Try.ntmps41
  go_wp2_with fail
  refine (watchAp_is l hlen w hf).mono ?_
  rintro e w1 ⟨rfl, hown, hb⟩
  go_wp2
  go_ret
  exact ⟨_, rfl, cellsWa_own (by simp [waS]) hown, hb⟩
set_option maxHeartbeats 2000000 in
set_option maxRecDepth 100000 in
theorem implSameW_is {a : Option Addr} {g off cap : Nat} (l : List ApL) (hlen : l.length ≤ 1048576) (hwf : ∀ r ∈ l, (Lit.int .i64 r.index).wf = true) (w : World) (hf : ApAt w a g off l) :
    Calls Try.prog 17 #[.slice a l.length cap] w fun e w' => e = .returned (.bool (Watch.allOne (apPairs l) l.length)) ∧ Below w.heap.size w w' := by
  have hl : (waS l).length = l.length := by simp [waS]
  have HAG : Hid (∀ (X : World) (g1 : Nat), WaAt X (some ⟨g1, 0, none⟩) g1 0 (waS l) → Calls Try.prog 42 #[.slice (some ⟨g1, 0, none⟩) l.length l.length] X fun e w' => e = .returned (.bool (Watch.allOne (apPairs l) l.length)) ∧ Below X.heap.size X w') := fun X g1 h => by
    have := agreeWa_is (cap := l.length) (waS l) (by rw [hl]; exact hlen) (by
      intro r hr
      obtain ⟨x, hx, rfl⟩ := List.mem_map.1 hr
      exact hwf x hx) X h
    rw [hl, Watch.agree_allOne, waPairs_waS] at this
    have e : (apPairs l).length = l.length := by simp [apPairs]
    rw [e] at this
    exact this
  go_enter Try.func17, Try.ntmps17
  go_wp2_with fail
  refine (watchingAp_is l hlen w hf).mono ?_
  rintro e w1 ⟨g1, rfl, hw1, hb1⟩
  go_wp2_with fail
  refine (HAG.out w1 g1 hw1).mono ?_
  rintro e w2 ⟨rfl, hb2⟩
  go_wp2
  go_ret
  exact ⟨rfl, hb1.trans (hb2.mono hb1.size)⟩
end Go.Proofs.Ytddmogggdckneaa
