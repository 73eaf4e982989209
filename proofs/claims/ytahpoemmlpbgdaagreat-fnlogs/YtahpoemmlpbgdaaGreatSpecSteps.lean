/- The specification's LogSteps, walked. -/
import Derived.Test.YtahpoemmlpbgdaaGreatImplSteps2
import Derived.Test.YtahpoemmlpbgdaaGreatSpecRL
import Derived.Deep.CutBlock
namespace Go.Proofs.YtahpoemmlpbgdaaGreat
open Go.RowKit
open Logs (okL recs frames file)
set_option linter.unusedVariables false
set_option linter.unusedSimpArgs false

theorem three_logs (w : World) (L M : Array Value) : ∃ W, W = ((w.alloc (.cells L 26)).alloc (.cells M 26)).alloc (.cells #[] 69) ∧ Below w.heap.size w W ∧ W.heap[w.heap.size]? = some (.cells L 26 (0, 0)) ∧ W.heap[w.heap.size + 1]? = some (.cells M 26 (0, 0)) ∧ W.ownsRow w.heap.size 69 4 (.slice (some ⟨w.heap.size + 1 + 1, 0, none⟩) 0 0) 0 [] := by
  obtain ⟨W, hW, hb, h0, h1⟩ := two_logs w L M
  have h2 : W.heap.size = w.heap.size + 1 + 1 := by rw [hW]; simp
  have hba : Below W.heap.size W (W.alloc (.cells #[] 69)) := (Below.refl _ _).alloc (Nat.le_refl _) _
  refine ⟨W.alloc (.cells #[] 69), by rw [hW], hb.trans (hba.mono hb.size), (hba.block _ (Array.getElem?_eq_some_iff.1 h0).1).trans h0, (hba.block _ (Array.getElem?_eq_some_iff.1 h1).1).trans h1, ?_⟩
  have := World.ownsRow_made (base := w.heap.size) (e := 69) (size := 4) W #[] 0 hb.size (by unfold maxLen; omega) rfl
  rw [h2] at this
  exact this
set_option maxHeartbeats 8000000 in
set_option maxRecDepth 100000 in
theorem specSteps_is {a a' : Option Addr} {g g' off off' cap cap' : Nat} (s : ByteArray) (hss : s.size ≤ 1048576) (old now lr : LogL) (er : Nat) (Rr : Bool) (hrd : ∀ W : World, Calls Tryz.prog 30 #[.string s] W (RLPost W lr er Rr)) (hro : Rr = true → okL lr = true) (n1 : old.ents.length ≤ 1048576) (n2 : lr.ents.length ≤ 1048576) (n3 : now.ents.length ≤ 1048576)
    (hd0 : ∀ e ∈ old.ents, e.data.size ≤ 1048576) (hd : ∀ e ∈ now.ents, e.data.size ≤ 1048576) (k : Nat) (hk : SameN old.ents now.ents k) (L : List RawL) (ok : Bool) (hst : StepsIs s old now lr er Rr k L ok) (w : World) (hA : EnAt w a g off old.ents) (hB : EnAt w a' g' off' now.ents) :
    Calls Tryz.prog 10 #[.string s, logV old a cap, logV now a' cap'] w (StepsPost w L ok) := by
  unfold logV
  obtain ⟨W, hW, hb, hp0, hp1, hon⟩ := three_logs w #[.int .i64 old.start, .int .i64 old.sterm, .slice a old.ents.length cap] #[.int .i64 now.start, .int .i64 now.sterm, .slice a' now.ents.length cap']
  have HB : Hid (Below w.heap.size w W) := hb
  obtain ⟨q, hq⟩ : ∃ q, q = w.heap.size := ⟨_, rfl⟩
  have HCE : Hid (∀ X, Below W.heap.size W X → (X.cell? ⟨q, 0, none⟩ = some (.int .i64 old.start) ∧ X.cell? ⟨q, 1, none⟩ = some (.int .i64 old.sterm) ∧ X.cell? ⟨q, 2, none⟩ = some (.slice a old.ents.length cap)) ∧ X.cell? ⟨q + 1, 0, none⟩ = some (.int .i64 now.start) ∧ X.cell? ⟨q + 1, 1, none⟩ = some (.int .i64 now.sterm) ∧ X.cell? ⟨q + 1, 2, none⟩ = some (.slice a' now.ents.length cap')) := fun X h => by
    rw [hq]
    exact ⟨cells3 ((h.block _ (Array.getElem?_eq_some_iff.1 hp0).1).trans hp0), cells3 ((h.block _ (Array.getElem?_eq_some_iff.1 hp1).1).trans hp1)⟩
  have HRL : Hid (Calls Tryz.prog 30 #[.string s] W fun en w' => ∃ a2 cap2, en = .returned (.tuple #[.agg #[.int .i64 lr.start, .int .i64 lr.sterm, .slice a2 lr.ents.length cap2], .int .i64 (er : Int), .bool Rr]) ∧ w'.ownsRow W.heap.size 51 3 (.slice a2 lr.ents.length cap2) lr.ents.length (cellsEn lr.ents) ∧ Below W.heap.size W w') := hrd W
  have HFI : Hid (∀ X, Below W.heap.size W X → Calls Tryz.prog 19 #[.agg #[.int .i64 now.start, .int .i64 now.sterm, .slice a' now.ents.length cap']] X fun en w' => en = .returned (fileTuple now) ∧ Below X.heap.size X w') := fun X h => specFile_is now n3 hd X ((hB.kept hb).kept h)
  obtain ⟨O, hO⟩ : ∃ O, O = okL old := ⟨_, rfl⟩
  have HOK : Hid (∀ X, Below W.heap.size W X → Calls Tryz.prog 15 #[.agg #[.int .i64 old.start, .int .i64 old.sterm, .slice a old.ents.length cap]] X fun en w' => en = .returned (.bool O) ∧ Below X.heap.size X w') := fun X h => by rw [hO]; exact specLogOk_is old n1 hd0 X ((hA.kept hb).kept h)
  have HOO : Hid (O = okL old) := hO
  have HRO : Hid (Rr = true → okL lr = true) := hro
  have HED : Hid (∀ X, Below W.heap.size W X → EnAt X a g off old.ents ∧ EnAt X a' g' off' now.ents) := fun X h => ⟨(hA.kept hb).kept h, (hB.kept hb).kept h⟩
  have HSA : Hid (∀ X, Below W.heap.size W X → ∀ Q : Bool, (Q = true ↔ old = now) → Calls Tryz.prog 31 #[.agg #[.int .i64 old.start, .int .i64 old.sterm, .slice a old.ents.length cap], .agg #[.int .i64 now.start, .int .i64 now.sterm, .slice a' now.ents.length cap']] X fun en w' => en = .returned (.bool Q) ∧ Below X.heap.size X w') := fun X h Q hQ => same12_is old now n1 n3 Q hQ X ((hA.kept hb).kept h) ((hB.kept hb).kept h)
  have HFR : Hid (okL now = true → ∀ X, Below W.heap.size W X → Calls Tryz.prog 32 #[.agg #[.int .i64 now.start, .int .i64 now.sterm, .slice a' now.ents.length cap'], .int .i64 (k : Int)] X fun en w' => en = .returned (.string (moreB now k)) ∧ Below X.heap.size X w') := fun h0 X h => specFrames_is now h0 k X ((hB.kept hb).kept h)
  have HST : Hid (StepsIs s old now lr er Rr k L ok) := hst
  have HEND : Hid (∀ X, Below W.heap.size W X → Below w.heap.size w X) := fun X h => HB.out.trans (h.mono HB.out.size)
  have HON : Hid (∀ X, Below W.heap.size W X → X.ownsRow w.heap.size 69 4 (.slice (some ⟨q + 1 + 1, 0, none⟩) 0 0) 0 []) := fun X h => by rw [hq]; exact own_kept hon h
  have HKN : Hid (SameN old.ents now.ents k) := hk
  have c0 := HCE.out W (Below.refl _ _)
  rw [hW] at c0
  obtain ⟨⟨p0, p1, p2⟩, q0, q1, q2⟩ := c0
  rw [hq] at p0 p1 p2 q0 q1 q2
  clear hA hB hb hp0 hp1 hrd hst hd hd0 hk hon hro hO
  go_enter Tryz.func10, Tryz.ntmps10
  go_wp2_with fail
  rw [← hW, ← hq]
  clear hW hq p0 p1 p2 q0 q1 q2
  refine Calls.mono HRL.out ?_
  rintro en w2 ⟨a2, cap2, rfl, ho2, hb2⟩
  obtain ⟨W3, hW3⟩ : ∃ W3, W3 = w2.alloc (Obj.cells #[.int .i64 lr.start, .int .i64 lr.sterm, .slice a2 lr.ents.length cap2] 26) := ⟨_, rfl⟩
  have hb3 : Below w2.heap.size w2 W3 := by rw [hW3]; exact (Below.refl _ _).alloc (Nat.le_refl _) _
  have hb23 : Below W.heap.size W W3 := hb2.trans (hb3.mono hb2.size)
  have hp3 : W3.heap[w2.heap.size]? = some (.cells #[.int .i64 lr.start, .int .i64 lr.sterm, .slice a2 lr.ents.length cap2] 26 (0, 0)) := by rw [hW3]; exact heap_alloc_new w2 _
  have HB3 : Hid (Below W.heap.size W W3) := hb23
  obtain ⟨b9, hb9⟩ : ∃ b9, b9 = w2.heap.size := ⟨_, rfl⟩
  have HC9 : Hid (∀ X, Below W3.heap.size W3 X → X.cell? ⟨b9, 0, none⟩ = some (.int .i64 lr.start) ∧ X.cell? ⟨b9, 1, none⟩ = some (.int .i64 lr.sterm) ∧ X.cell? ⟨b9, 2, none⟩ = some (.slice a2 lr.ents.length cap2)) := fun X h => by rw [hb9]; exact cells3 ((h.block _ (Array.getElem?_eq_some_iff.1 hp3).1).trans hp3)
  have HSW : Hid (∀ X, Below W3.heap.size W3 X → ∀ Q : Bool, (Q = true ↔ lr = old) → Calls Tryz.prog 31 #[.agg #[.int .i64 lr.start, .int .i64 lr.sterm, .slice a2 lr.ents.length cap2], .agg #[.int .i64 old.start, .int .i64 old.sterm, .slice a old.ents.length cap]] X fun e w' => e = .returned (.bool Q) ∧ Below X.heap.size X w') := fun X h Q hQ => by
    obtain ⟨a3, g3, cap3, e3, h3⟩ := cellsEn_slice (own_kept (own_kept ho2 hb3) h)
    simp only [Value.slice.injEq] at e3
    obtain ⟨rfl, _, rfl⟩ := e3
    exact same12_is lr old n2 n1 Q hQ X h3 (HED.out _ (hb23.trans (h.mono hb23.size))).1
  obtain ⟨⟨p0, p1, p2⟩, q0, q1, q2⟩ := HCE.out W3 hb23
  rw [hW3] at p0 p1 p2 q0 q1 q2
  clear ho2 hb2 hb3 hb23 hp3 HRL
  go_wp2_with fail
  rw [← hW3, ← hb9]
  clear hW3 hb9 p0 p1 p2 q0 q1 q2
  refine Calls.mono (HFI.out _ HB3.out) ?_
  rintro en w4 ⟨rfl, hb4⟩
  have HX4 : Hid (Below W3.heap.size W3 w4) := hb4
  have HB4 : Hid (Below W.heap.size W w4) := HB3.out.trans (hb4.mono HB3.out.size)
  clear hb4 HFI
  obtain ⟨T, Rn, hT, hTn⟩ : ∃ (T : ByteArray) (Rn : Bool), fileTuple now = .tuple #[.string T, .bool Rn] ∧ (Rn = true ↔ okL now = true) ∧ (Rn = true → T = fileB now) := by
    by_cases h : okL now = true
    · exact ⟨_, _, fileTuple_yes h, ⟨fun _ => h, fun _ => rfl⟩, fun _ => rfl⟩
    · exact ⟨_, _, fileTuple_no h, ⟨fun x => (by cases x), fun x => absurd x h⟩, fun x => (by cases x)⟩
  rw [hT]
  have HTN : Hid ((Rn = true ↔ okL now = true) ∧ (Rn = true → T = fileB now)) := hTn
  clear hT hTn
  obtain ⟨⟨p0, p1, p2⟩, q0, q1, q2⟩ := HCE.out _ HB4.out
  go_wp2_with fail
  refine Calls.mono (HOK.out _ HB4.out) ?_
  rintro en w5 ⟨rfl, hb5⟩
  have HX5 : Hid (Below W3.heap.size W3 w5) := HX4.out.trans (hb5.mono HX4.out.size)
  have HB5 : Hid (Below W.heap.size W w5) := HB4.out.trans (hb5.mono HB4.out.size)
  clear hb5 HOK p0 p1 p2 q0 q1 q2
  have HNO : Hid (¬ (okL now = true ∧ Rr = true ∧ er = s.size ∧ lr = old) → L = [] ∧ ok = false) := fun h => by
    rcases HST.out with ⟨_, h1, h2⟩ | ⟨h1, _⟩
    · exact ⟨h1, h2⟩
    · exact absurd h1 h
  cases O with
  | false =>
    obtain ⟨rfl, rfl⟩ := HNO.out (fun h => by have h1 := HRO.out h.2.1; rw [h.2.2.2, ← HOO.out] at h1; cases h1)
    clear HST HNO
    go_wp2
    go_ret2
    exact ⟨_, rfl, HON.out _ HB5.out, HEND.out _ HB5.out⟩
  | true =>
  cases Rn with
  | false =>
    obtain ⟨rfl, rfl⟩ := HNO.out (fun h => by have h1 := HTN.out.1.2 h.1; cases h1)
    clear HST HNO
    go_wp2
    go_ret2
    exact ⟨_, rfl, HON.out _ HB5.out, HEND.out _ HB5.out⟩
  | true =>
  cases Rr with
  | false =>
    obtain ⟨rfl, rfl⟩ := HNO.out (fun h => by cases h.2.1)
    clear HST HNO
    go_wp2
    go_ret2
    exact ⟨_, rfl, HON.out _ HB5.out, HEND.out _ HB5.out⟩
  | true =>
  by_cases hes : ¬ er = s.size
  · obtain ⟨rfl, rfl⟩ := HNO.out (fun h => hes h.2.2.1)
    have h0 : ((er : Int) != (s.size : Int)) = true := by simp; omega
    clear HST HNO hes
    go_wp2
    go_ret2
    exact ⟨_, rfl, HON.out _ HB5.out, HEND.out _ HB5.out⟩
  replace hes := Decidable.not_not.1 hes
  have h0 : ((er : Int) != (s.size : Int)) = false := by simp; omega
  obtain ⟨p9, p91, p92⟩ := HC9.out _ HX5.out
  obtain ⟨⟨p0, p1, p2⟩, q0, q1, q2⟩ := HCE.out _ HB5.out
  by_cases hlo : ¬ lr = old
  · obtain ⟨rfl, rfl⟩ := HNO.out (fun h => hlo h.2.2.2)
    have HC : Hid (Calls Tryz.prog 31 #[.agg #[.int .i64 lr.start, .int .i64 lr.sterm, .slice a2 lr.ents.length cap2], .agg #[.int .i64 old.start, .int .i64 old.sterm, .slice a old.ents.length cap]] w5 fun e w' => e = .returned (.bool false) ∧ Below w5.heap.size w5 w') := HSW.out w5 HX5.out false ⟨fun h => (by cases h), fun h => absurd h hlo⟩
    clear HST HNO hes hlo
    go_wp2_with fail
    refine Calls.mono HC.out ?_
    rintro en w6 ⟨rfl, hb6⟩
    have HB6 : Hid (Below W.heap.size W w6) := HB5.out.trans (hb6.mono HB5.out.size)
    clear hb6 p0 p1 p2 q0 q1 q2 p9 p91 p92
    go_wp2
    go_ret2
    exact ⟨_, rfl, HON.out _ HB6.out, HEND.out _ HB6.out⟩
  replace hlo := Classical.not_not.1 hlo
  have HGD : Hid (okL now = true ∧ er = s.size ∧ lr = old) := ⟨HTN.out.1.1 rfl, hes, hlo⟩
  have HTF : Hid (T = fileB now) := HTN.out.2 rfl
  have HC : Hid (Calls Tryz.prog 31 #[.agg #[.int .i64 lr.start, .int .i64 lr.sterm, .slice a2 lr.ents.length cap2], .agg #[.int .i64 old.start, .int .i64 old.sterm, .slice a old.ents.length cap]] w5 fun e w' => e = .returned (.bool true) ∧ Below w5.heap.size w5 w') := HSW.out w5 HX5.out true ⟨fun _ => hlo, fun _ => rfl⟩
  clear HNO hes hlo HSW HTN
  go_wp2_with fail
  refine Calls.mono HC.out ?_
  rintro en w6 ⟨rfl, hb6⟩
  have HB6 : Hid (Below W.heap.size W w6) := HB5.out.trans (hb6.mono HB5.out.size)
  clear hb6 p0 p1 p2 q0 q1 q2 p9 p91 p92 HC HC9 HX4 HX5 h0
  obtain ⟨⟨p0, p1, p2⟩, q0, q1, q2⟩ := HCE.out _ HB6.out
  by_cases hsm : old = now
  · have HC4 : Hid (Calls Tryz.prog 31 #[.agg #[.int .i64 old.start, .int .i64 old.sterm, .slice a old.ents.length cap], .agg #[.int .i64 now.start, .int .i64 now.sterm, .slice a' now.ents.length cap']] w6 fun en w' => en = .returned (.bool true) ∧ Below w6.heap.size w6 w') := HSA.out w6 HB6.out true ⟨fun _ => hsm, fun _ => rfl⟩
    obtain ⟨rfl, rfl⟩ : L = [] ∧ ok = true := by
      rcases HST.out with ⟨h, _⟩ | ⟨_, h1, ⟨_, h2⟩ | ⟨h2, _⟩⟩
      · exact absurd ⟨HGD.out.1, rfl, HGD.out.2⟩ h
      · exact ⟨h2, h1⟩
      · exact absurd hsm h2
    clear hsm HSA HST HFR
    go_wp2_with fail
    refine Calls.mono HC4.out ?_
    rintro en w7 ⟨rfl, hb7⟩
    have HB7 : Hid (Below W.heap.size W w7) := HB6.out.trans (hb7.mono HB6.out.size)
    clear hb7 p0 p1 p2 q0 q1 q2
    go_wp2
    go_ret2
    exact ⟨_, rfl, HON.out _ HB7.out, HEND.out _ HB7.out⟩
  · have HC4 : Hid (Calls Tryz.prog 31 #[.agg #[.int .i64 old.start, .int .i64 old.sterm, .slice a old.ents.length cap], .agg #[.int .i64 now.start, .int .i64 now.sterm, .slice a' now.ents.length cap']] w6 fun en w' => en = .returned (.bool false) ∧ Below w6.heap.size w6 w') := HSA.out w6 HB6.out false ⟨fun h => (by cases h), fun h => absurd h hsm⟩
    obtain ⟨hok1, hL⟩ : ok = true ∧ ((Behind s old now k ∧ L = [⟨2, nameLog, ⟨#[]⟩, moreB now k⟩]) ∨ (¬ Behind s old now k ∧ L = [⟨1, nameNew, ⟨#[]⟩, fileB now⟩, ⟨3, nameNew, nameLog, ⟨#[]⟩⟩])) := by
      rcases HST.out with ⟨h, _⟩ | ⟨_, h1, ⟨h2, _⟩ | ⟨_, h2⟩⟩
      · exact absurd ⟨HGD.out.1, rfl, HGD.out.2⟩ h
      · exact absurd h2 hsm
      · exact ⟨h1, h2⟩
    subst hok1
    have HL : Hid ((Behind s old now k ∧ L = [⟨2, nameLog, ⟨#[]⟩, moreB now k⟩]) ∨ (¬ Behind s old now k ∧ L = [⟨1, nameNew, ⟨#[]⟩, fileB now⟩, ⟨3, nameNew, nameLog, ⟨#[]⟩⟩])) := hL
    clear hsm HSA HST hL
    go_wp2_with fail
    refine Calls.mono HC4.out ?_
    rintro en w7 ⟨rfl, hb7⟩
    have HB7 : Hid (Below W.heap.size W w7) := HB6.out.trans (hb7.mono HB6.out.size)
    clear hb7 p0 p1 p2 q0 q1 q2 HC4
    go_upto_block 0 with fail
    go_cut [14] (fun i wx => i = .int .i64 (k : Int) ∧ Hid (Below W.heap.size W wx))
    case first => as_aux_lemma =>
      go_wp2_with fail
      go_loopw [14] (fun i wr => ∃ j : Nat, j ≤ k ∧ i = .int .i64 (j : Int) ∧ Hid (Below W.heap.size W wr)) (fun i _ => k - (intOf i).toNat)
      case atStart => exact ⟨0, Nat.zero_le _, rfl, HB7⟩
      case round =>
        obtain ⟨j, hj, rfl, HBL⟩ := hrel
        obtain ⟨⟨p0, p1, p2⟩, q0, q1, q2⟩ := HCE.out _ HBL.out
        clear p0 p1 q0 q1
        have hkl1 : k ≤ old.ents.length := HKN.out.1
        have hkl2 : k ≤ now.ents.length := HKN.out.2.1
        by_cases hbo : j < old.ents.length ∧ j < now.ents.length
        · obtain ⟨hlt, hltm⟩ := hbo
          obtain ⟨a0, a1, a2_⟩ := (HED.out _ HBL.out).1.2 j hlt
          obtain ⟨b0, b1, b2⟩ := (HED.out _ HBL.out).2.2 j hltm
          have ea := (HED.out _ HBL.out).1.1 (by omega)
          have eb := (HED.out _ HBL.out).2.1 (by omega)
          subst ea eb
          obtain ⟨X, hX⟩ : ∃ X, X = old.ents[j] := ⟨_, rfl⟩
          obtain ⟨Y, hY⟩ : ∃ Y, Y = now.ents[j] := ⟨_, rfl⟩
          rw [← hX] at a0 a1 a2_
          rw [← hY] at b0 b1 b2
          have HX : Hid (X = old.ents[j]) := hX
          have HY : Hid (Y = now.ents[j]) := hY
          clear hX hY
          have hk0 : (0 : Int) ≤ (j : Int) := by omega
          have hk1 : (j : Int) < (old.ents.length : Int) := by omega
          have hk2 : (j : Int) < (now.ents.length : Int) := by omega
          by_cases hxy : X = Y
          · have hkn : j < k := by
              rcases Nat.lt_or_ge j k with h | h
              · exact h
              · obtain rfl : j = k := by omega
                exact absurd (by rw [← HX.out, ← HY.out]; exact hxy) (HKN.out.2.2.2 hlt hltm)
            rw [← hxy] at b0 b1 b2
            clear hxy
            have hkey : (X.data.toList == X.data.toList) = true := by simp
            go_wp2_with fail
            have NE := Abv.ne wr
            have P2_ := fun x : Abv wr => x.cell p2
            have Q2_ := fun x : Abv wr => x.cell q2
            have A0_ := fun x : Abv wr => x.cell a0
            have A1_ := fun x : Abv wr => x.cell a1
            have A2__ := fun x : Abv wr => x.cell a2_
            have B0_ := fun x : Abv wr => x.cell b0
            have B1_ := fun x : Abv wr => x.cell b1
            have B2_ := fun x : Abv wr => x.cell b2
            refine wp_region_above (by kernel_rfl) (by kernel_rfl) ?_
            repeat (go_big_quiet_step (fail))
            refine wpQuiet_nil ?_
            rintro w1 ⟨⟨_, hb1⟩, rfl⟩
            clear NE P2_ Q2_ A0_ A1_ A2__ B0_ B1_ B2_
            have HB8 : Hid (Below W.heap.size W w1) := HBL.out.trans (hb1.mono HBL.out.size)
            clear hb1 p2 q2 a0 a1 a2_ b0 b1 b2
            go_wp2
            go_roundw
            case rel => exact ⟨j + 1, by omega, by go_num, HB8⟩
            case measure => simp [intOf]; omega
          · obtain rfl : j = k := by
              rcases Nat.lt_or_ge j k with h | h
              · exact absurd (by rw [HX.out, HY.out]; exact HKN.out.2.2.1 j hlt hltm h) hxy
              · omega
            have hcases := ent_ne hxy
            clear hxy
            rcases hcases with r0 | ⟨r0, r1 | ⟨r1, r2⟩⟩
            all_goals
              try (have s0 : (X.term == Y.term) = false := beq_eq_false_iff_ne.2 r0)
              try (have s0 : (X.term == Y.term) = true := beq_iff_eq.2 r0)
              try (have s1 : (X.kind == Y.kind) = false := beq_eq_false_iff_ne.2 r1)
              try (have s1 : (X.kind == Y.kind) = true := beq_iff_eq.2 r1)
              try (have s2 := toList_ne r2)
              try clear r0
              try clear r1
              try clear r2
              go_wp2_with fail
              have NE := Abv.ne wr
              have P2_ := fun x : Abv wr => x.cell p2
              have Q2_ := fun x : Abv wr => x.cell q2
              have A0_ := fun x : Abv wr => x.cell a0
              have A1_ := fun x : Abv wr => x.cell a1
              have A2__ := fun x : Abv wr => x.cell a2_
              have B0_ := fun x : Abv wr => x.cell b0
              have B1_ := fun x : Abv wr => x.cell b1
              have B2_ := fun x : Abv wr => x.cell b2
              refine wp_region_above (by kernel_rfl) (by kernel_rfl) ?_
              repeat (go_big_quiet_step (fail))
              refine wpQuiet_nil ?_
              rintro w1 ⟨⟨_, hb1⟩, rfl⟩
              clear NE P2_ Q2_ A0_ A1_ A2__ B0_ B1_ B2_
              have HB8 : Hid (Below W.heap.size W w1) := HBL.out.trans (hb1.mono HBL.out.size)
              clear hb1 p2 q2 a0 a1 a2_ b0 b1 b2
              try clear s0
              try clear s1
              try clear s2
              go_wp2_with fail
              go_meet
              case rel => exact ⟨rfl, HB8⟩
        · obtain rfl : j = k := by omega
          have hs1 : ¬ (j : Int) < (old.ents.length : Int) ∨ ((j : Int) < (old.ents.length : Int) ∧ ¬ (j : Int) < (now.ents.length : Int)) := by omega
          have HNB : Hid (True) := trivial
          rcases hs1 with hs1 | ⟨hs1, hs2⟩
          all_goals
            try (have e1 : (decide (j < old.ents.length)) = false := decide_eq_false (by omega))
            try (have e1 : (decide (j < old.ents.length)) = true := decide_eq_true (by omega))
            try (have e2 : (decide (j < now.ents.length)) = false := decide_eq_false (by omega))
            try (have g1 : old.ents.length ≤ j := by omega)
            try (have g2 : now.ents.length ≤ j := by omega)
            try (have d1 : (decide ((j : Int) < (old.ents.length : Int))) = false := decide_eq_false hs1)
            try (have d1 : (decide ((j : Int) < (old.ents.length : Int))) = true := decide_eq_true hs1)
            try (have d2 : (decide ((j : Int) < (now.ents.length : Int))) = false := decide_eq_false hs2)
            go_wp2_with fail
            have NE := Abv.ne wr
            have P2_ := fun x : Abv wr => x.cell p2
            have Q2_ := fun x : Abv wr => x.cell q2
            refine wp_region_above (by kernel_rfl) (by kernel_rfl) ?_
            repeat (go_big_quiet_step (fail))
            refine wpQuiet_nil ?_
            rintro w1 ⟨⟨_, hb1⟩, rfl⟩
            clear NE P2_ Q2_
            have HB8 : Hid (Below W.heap.size W w1) := HBL.out.trans (hb1.mono HBL.out.size)
            clear hb1 p2 q2
            go_wp2_with fail
            go_meet
            case rel => exact ⟨rfl, HB8⟩
    case rest =>
      obtain ⟨rfl, HB8⟩ := hcut
      obtain ⟨⟨p0, p1, p2⟩, q0, q1, q2⟩ := HCE.out _ HB8.out
      obtain ⟨M, hM⟩ : ∃ M, M = moreB now k := ⟨_, rfl⟩
      have HC5 : Hid (Calls Tryz.prog 32 #[.agg #[.int .i64 now.start, .int .i64 now.sterm, .slice a' now.ents.length cap'], .int .i64 (k : Int)] wc fun en w' => en = .returned (.string M) ∧ Below wc.heap.size wc w') := by rw [hM]; exact HFR.out HGD.out.1 wc HB8.out
      have hmx : M.size ≤ 16920 := by rw [hM]; exact more_len HGD.out.1 k HKN.out.2.1
      have HMM : Hid (M = moreB now k) := hM
      clear hM
      go_wp2_with fail
      refine Calls.mono HC5.out ?_
      rintro en w9 ⟨rfl, hb9⟩
      have HB9 : Hid (Below W.heap.size W w9) := HB8.out.trans (hb9.mono HB8.out.size)
      have HSZ9 : Hid (w.heap.size ≤ w9.heap.size) := (HEND.out _ HB9.out).size
      clear hb9 p0 p1 p2 q0 q1 q2 HC5
      obtain ⟨⟨p0, p1, p2⟩, q0, q1, q2⟩ := HCE.out _ HB9.out
      have HEQ : Hid (Behind s old now k ↔ ((old.start = now.start ∧ old.sterm = now.sterm) ∧ k < now.ents.length ∧ s.size + M.size ≤ 20000)) := by rw [HMM.out]; exact Iff.rfl
      by_cases hbh : (old.start = now.start ∧ old.sterm = now.sterm) ∧ k < now.ents.length ∧ s.size + M.size ≤ 20000
      · have hLe : L = [⟨2, nameLog, ⟨#[]⟩, moreB now k⟩] := by
          rcases HL.out with ⟨_, h⟩ | ⟨h, _⟩
          · exact h
          · exact absurd (HEQ.out.2 hbh) h
        rw [← HMM.out] at hLe
        have HLE : Hid (L = [⟨2, nameLog, ⟨#[]⟩, M⟩]) := hLe
        obtain ⟨⟨e1, e2⟩, e3, e4⟩ := hbh
        have f1 : (old.start == now.start) = true := by simp [e1]
        have f2 : (old.sterm == now.sterm) = true := by simp [e2]
        have f3 : (k : Int) < (now.ents.length : Int) := by omega
        have f4 : (s.size : Int) + (M.size : Int) ≤ 20000 := by omega
        clear e1 e2 e3 e4 hLe HL HEQ
        go_wp2
        go_ret2
        rw [HLE.out]
        exact ⟨_, rfl, rows_one HSZ9.out 2 nameLog ⟨#[]⟩ M, HEND.out _ (HB9.out.alloc HB9.out.size _)⟩
      · have hLe : L = [⟨1, nameNew, ⟨#[]⟩, fileB now⟩, ⟨3, nameNew, nameLog, ⟨#[]⟩⟩] := by
          rcases HL.out with ⟨h, _⟩ | ⟨_, h⟩
          · exact absurd (HEQ.out.1 h) hbh
          · exact h
        rw [← HTF.out] at hLe
        have HLE : Hid (L = [⟨1, nameNew, ⟨#[]⟩, T⟩, ⟨3, nameNew, nameLog, ⟨#[]⟩⟩]) := hLe
        have hways : (old.start == now.start) = false ∨ ((old.start == now.start) = true ∧ (old.sterm == now.sterm) = false) ∨ ((old.start == now.start) = true ∧ (old.sterm == now.sterm) = true ∧ ¬ (k : Int) < (now.ents.length : Int)) ∨ ((old.start == now.start) = true ∧ (old.sterm == now.sterm) = true ∧ (k : Int) < (now.ents.length : Int) ∧ ¬ (s.size : Int) + (M.size : Int) ≤ 20000) := by
          simp only [beq_eq_false_iff_ne, beq_iff_eq]
          omega
        clear hbh hLe HL HEQ
        rcases hways with f1 | ⟨f1, f2⟩ | ⟨f1, f2, f3⟩ | ⟨f1, f2, f3, f4⟩
        all_goals
          go_wp2
          go_ret2
          rw [HLE.out]
          exact ⟨_, rfl, rows_two HSZ9.out 1 nameNew ⟨#[]⟩ T 3 nameNew nameLog ⟨#[]⟩, HEND.out _ (HB9.out.alloc HB9.out.size _)⟩
end Go.Proofs.YtahpoemmlpbgdaaGreat
