/- The program's agree of watchers of replies, walked. -/
import Derived.Test.YtddmogggdckneaaFirstsWb
import Derived.BigQuiet
namespace Go.Proofs.Ytddmogggdckneaa
open Go.RowKit Go.Maps
set_option linter.unusedVariables false
set_option linter.unusedSimpArgs false
theorem str_beq (A B : ByteArray) (X : Bool) (h : X = decide (¬ A = B)) : (A.toList == B.toList) = !X := by
  rw [h, Bool.eq_iff_iff]
  simp [toList_eq]
theorem str_deq (A B : ByteArray) (X : Bool) (h : X = decide (¬ A = B)) : decide (A.toList = B.toList) = !X := by
  rw [h]
  by_cases e : A = B
  · simp [e]
  · have : ¬ A.toList = B.toList := fun q => e ((toList_eq A B).1 q)
    simp [e, this]
theorem look_placeP {S : Type} {l : List ((Int × Int) × S)} {w : World} {b n : Nat} {D : DataW Unit} (h : w.ownsMap Try.prog 97 (plainElem Try.prog 3) b n D) (ht : Watch.ToldP okOn kOn l l.length D) {k : Nat} (hk : k < l.length) {x y : Int} (hx : l[k].1 = (x, y)) (hw : okOn (x, y)) :
    (Instr.lookup 133 (.map (some b)) (.agg #[.int .i64 x, .int .i64 y]) false).run Try.prog w = .ok (.int .i64 (Watch.place l (x, y) : Int)) w := by
  obtain ⟨c, hrun, hat, hwc⟩ := h.lookup_int key97 (t := 133) Try.underlying133 Try.underlying3 (zer3 w) (keyOf97 x y hw.1 hw.2)
  have := ht.elem k hk hk (.lit (.int .i64 0))
  rw [hx] at this
  rw [this] at hat
  have e : (Watch.place l (x, y) : Int) = c := by simpa using hat
  rw [hrun, e]
theorem wbSame {l : List WbL} {k P : Nat} {r s : WbL} (hk : l[k]? = some s) (hp : l[P]? = some r) (hP : P = Watch.place (wbPairs l) (s.session, s.seq)) : Watch.same (wbPairs l) k = decide (s.text = r.text) := by
  have h1 : (wbPairs l)[k]? = some (wbPair s) := by simp [wbPairs, hk]
  have h2 : (wbPairs l)[Watch.place (wbPairs l) (wbPair s).1]? = some (wbPair r) := by
    have : (wbPair s).1 = (s.session, s.seq) := rfl
    rw [this, ← hP]
    simp [wbPairs, hp]
  unfold Watch.same
  rw [h1]
  simp only [Option.bind_some]
  rw [h2]
  rw [Bool.eq_iff_iff]
  simp [wbPair]
set_option maxHeartbeats 2000000 in
set_option maxRecDepth 100000 in
theorem agreeWb_is {g off cap : Nat} {a : Option Addr} (l : List WbL) (hlen : l.length ≤ 1048576) (hwf : ∀ r ∈ l, okWb r) (w : World) (hf : WbAt w a g off l) :
    Calls Try.prog 52 #[.slice a l.length cap] w fun e w' => e = .returned (.bool (Watch.agree (wbPairs l))) ∧ Below w.heap.size w w' := by
  have HF : Hid (WbAt w a g off l) := hf
  have HWF : Hid (∀ r ∈ l, okWb r) := hwf
  have HFI : Hid (Calls Try.prog 77 #[.slice a l.length cap] w fun e w' => e = .returned (.map (some w.heap.size)) ∧ (∃ n D, w'.ownsMap Try.prog 97 (plainElem (H := Unit) Try.prog 3) w.heap.size n D ∧ Watch.ToldP okOn kOn (wbPairs l) l.length D) ∧ Below w.heap.size w w') := firstsWb_is l hlen hwf w hf
  clear hf hwf
  go_enter Try.func52, Try.ntmps52
  go_wp2_with fail
  refine Calls.mono HFI.out ?_
  rintro e w1 ⟨rfl, ⟨n, D, hown, htold⟩, hb1⟩
  have HO : Hid (w1.ownsMap Try.prog 97 (plainElem (H := Unit) Try.prog 3) w.heap.size n D) := hown
  have HT : Hid (Watch.ToldP okOn kOn (wbPairs l) l.length D) := htold
  have HB1 : Hid (Below w.heap.size w w1) := hb1
  clear hown htold hb1 HFI
  go_wp2
  go_loopw [9] (fun i wr => ∃ (k : Nat), k ≤ l.length ∧ i = .int .i64 (k : Int) ∧ Hid (Watch.agreeTo (wbPairs l) k = true) ∧ Below w1.heap.size w1 wr)
    (fun i _ => l.length - (intOf i).toNat)
  case atStart => exact ⟨0, Nat.zero_le _, rfl, Watch.agreeTo_zero _, Below.refl _ _⟩
  case round =>
    obtain ⟨k, hk, rfl, HA, hbel⟩ := hrel
    have HBW : Hid (Below w.heap.size w wr) := HB1.out.trans (hbel.mono HB1.out.size)
    by_cases hlt : k < l.length
    · have hkp : k < (wbPairs l).length := by unfold wbPairs; simpa using hlt
      obtain ⟨F0, hF0⟩ : ∃ F0, F0 = l[k].session := ⟨_, rfl⟩
      obtain ⟨F1, hF1⟩ : ∃ F1, F1 = l[k].seq := ⟨_, rfl⟩
      have e0 : (wbPairs l)[k].1 = (F0, F1) := by rw [hF0, hF1]; simp [wbPairs, wbPair]
      have hp0 := Watch.place_lt hkp
      rw [e0] at hp0
      obtain ⟨P, hP⟩ : ∃ P, P = Watch.place (wbPairs l) (F0, F1) := ⟨_, rfl⟩
      have hp : P < l.length := by rw [hP]; unfold wbPairs at hp0 ⊢; simpa using hp0
      have hsame := wbSame (List.getElem?_eq_getElem hlt) (List.getElem?_eq_getElem hp) (by rw [hP, hF0, hF1])
      have hwf0 := HWF.out _ (List.getElem_mem hlt)
      unfold okWb at hwf0
      rw [← hF0, ← hF1] at hwf0
      have HLK : Hid (∀ x : Abv wr, (Instr.lookup 133 (.map (some w.heap.size)) (.agg #[.int .i64 F0, .int .i64 F1]) false).run Try.prog x.w = .ok (.int .i64 (P : Int)) x.w) := fun x => by
        rw [hP]
        have hlen' : l.length = (wbPairs l).length := by unfold wbPairs; simp
        have ht := HT.out
        rw [hlen'] at ht
        exact look_placeP ((HO.out.kept (below_grownN hbel) (by simp)).kept (below_grownN x.b) (by simp)) ht hkp e0 hwf0
      clear hP hp0
      obtain ⟨c0, c1, c2⟩ := (HF.out.kept HBW.out).2 k hlt
      obtain ⟨-, -, d2⟩ := (HF.out.kept HBW.out).2 P hp
      have ea := HF.out.1 (by omega)
      subst ea
      obtain ⟨A3, q3⟩ : ∃ A3, A3 = l[k].text := ⟨_, rfl⟩
      obtain ⟨B3, p3⟩ : ∃ B3, B3 = l[P].text := ⟨_, rfl⟩
      rw [← hF0] at c0
      rw [← hF1] at c1
      rw [← q3] at c2 hsame
      rw [← p3] at d2 hsame
      obtain ⟨X, hX⟩ : ∃ X, X = decide (¬ A3 = B3) := ⟨_, rfl⟩
      have hb1 := str_beq A3 B3 X hX
      have hb2 := str_deq A3 B3 X hX
      have HS : Hid (Watch.same (wbPairs l) k = !X) := by show _ = _; rw [hsame, hX]; simp
      have HKP : Hid (k < (wbPairs l).length) := hkp
      clear hX hsame hF0 hF1 e0 hwf0 q3 p3 hkp
      have hk0 : (0 : Int) ≤ (k : Int) := by omega
      have hk1 : (k : Int) < (l.length : Int) := by omega
      have hp1 : (0 : Int) ≤ (P : Int) := by omega
      have hp2 : (P : Int) < (l.length : Int) := by omega
      go_wp2
      have NE := Abv.ne wr
      have C0 := fun x : Abv wr => x.cell c0
      have C1 := fun x : Abv wr => x.cell c1
      have C2 := fun x : Abv wr => x.cell c2
      have D2 := fun x : Abv wr => x.cell d2
      have LK := HLK.out
      cases X
      · refine wp_region_above (by kernel_rfl) (by kernel_rfl) ?_
        repeat (go_big_quiet_step (fail))
        refine wpQuiet_nil ?_
        rintro w2 ⟨⟨_, hb2⟩, rfl⟩
        clear NE C0 C1 C2 D2 LK
        go_wp2
        go_roundw
        case rel => exact ⟨k + 1, by omega, by go_num, by show _ = _; rw [Watch.agreeTo_succ, HA.out, HS.out]; rfl, hbel.trans (hb2.mono hbel.size)⟩
        case measure => simp [intOf]; omega
      · refine wp_region_above (by kernel_rfl) (by kernel_rfl) ?_
        repeat (go_big_quiet_step (fail))
        refine wpQuiet_nil ?_
        rintro w2 ⟨⟨_, hb2⟩, rfl⟩
        clear NE C0 C1 C2 D2 LK
        have HN : Hid (Watch.agree (wbPairs l) = false) := Watch.agreeTo_no HKP.out (by rw [HS.out]; rfl)
        go_wp2
        go_ret
        exact ⟨by rw [HN.out]; rfl, HBW.out.trans (hb2.mono HBW.out.size)⟩
    · have hkl : k = l.length := by omega
      subst hkl
      have hk1 : ¬ (l.length : Int) < (l.length : Int) := by omega
      have HN : Hid (Watch.agree (wbPairs l) = true) := by
        show _ = _
        have := HA.out
        have hlen' : l.length = (wbPairs l).length := by unfold wbPairs; simp
        rw [hlen'] at this
        exact this
      go_wp2
      go_ret
      exact ⟨by rw [HN.out]; rfl, HBW.out⟩

end Go.Proofs.Ytddmogggdckneaa
