/- The program's LogSteps, walked. -/
import Derived.Test.YtahpoemmlpbgdaaGreatImplSteps
namespace Go.Proofs.YtahpoemmlpbgdaaGreat
open Go.RowKit
open Logs (okL recs frames file)
set_option linter.unusedVariables false
set_option linter.unusedSimpArgs false

theorem file_small {m : LogL} (h : okL m = true) : (file m).length ≤ 20000 := by
  have h1 := file_len m h
  have h2 := frame_small (T := startS m) (by have := startS_size m (Logs.okL_iff.1 h).1; omega)
  have h3 := congrArg ByteArray.size (file_bytes m)
  have h4 : (⟨(file m).toArray⟩ : ByteArray).size = (file m).length := by show (file m).toArray.size = _; simp
  have h5 : (⟨(frames (recs m.start.toNat 0 (m.ents.drop 0))).toArray⟩ : ByteArray).size = (frames (recs m.start.toNat 0 (m.ents.drop 0))).length := by show (frames (recs m.start.toNat 0 (m.ents.drop 0))).toArray.size = _; simp
  rw [h4, ByteArray.size_append, h5] at h3
  unfold headS at h3
  omega
theorem fileTuple_yes {m : LogL} (h : okL m = true) : fileTuple m = .tuple #[.string (fileB m), .bool true] := by
  unfold fileTuple
  rw [if_pos ⟨h, file_small h⟩]
  rfl
theorem fileTuple_no {m : LogL} (h : ¬ okL m = true) : fileTuple m = .tuple #[.string ⟨#[]⟩, .bool false] := by
  unfold fileTuple
  rw [if_neg (fun x => h x.1)]
theorem more_len {m : LogL} (hok : okL m = true) (k : Nat) (hk : k ≤ m.ents.length) : (moreB m k).size ≤ 16920 := by
  obtain ⟨hfit, hris⟩ := Logs.okL_iff.1 hok
  have hme : ∀ e ∈ m.ents, Ents.okB e = true := fun e he => (Logs.rises_mem _ _ hris e he).1
  obtain ⟨f0, f1, _, _, hn, hm⟩ := hfit
  have key : ∀ (es : List EntL) (j : Nat), (∀ e ∈ es, Ents.okB e = true) → m.start.toNat + j + es.length ≤ 100000 → (frames (recs m.start.toNat j es)).length ≤ 141 * es.length := by
    intro es
    induction es with
    | nil => intro j _ _; simp [recs, frames]
    | cons e r ih =>
      intro j h1 h2
      simp only [List.length_cons] at h2 ⊢
      have h3 := ih (j + 1) (fun x hx => h1 x (List.mem_cons_of_mem _ hx)) (by omega)
      have h4 := frame_small (text_small (i := m.start.toNat + 1 + j) (e := e) (by omega) (h1 e (List.mem_cons_self ..))).2
      have h5 := congrArg List.length (frameB_list (Ents.textS (m.start.toNat + 1 + j) e))
      have h6 : (frameB (Ents.textS (m.start.toNat + 1 + j) e)).data.toList.length = (frameB (Ents.textS (m.start.toNat + 1 + j) e)).size := rfl
      rw [h6] at h5
      simp only [recs, Logs.frames_cons, List.length_append]
      have h7 : (Words.frame (Ents.text (m.start.toNat + 1 + j) e)).length = (frameB (Ents.textS (m.start.toNat + 1 + j) e)).size := h5.symm
      omega
  have h1 := key (m.ents.drop k) k (fun e he => hme e (List.mem_of_mem_drop he)) (by rw [List.length_drop]; omega)
  rw [List.length_drop] at h1
  show (frames (recs m.start.toNat k (m.ents.drop k))).toArray.size ≤ _
  simp only [List.size_toArray]
  omega
/-- What a log's box holds. -/
theorem cells3 {W : World} {g : Nat} {x y z : Value} {t : TypeId} (h : W.heap[g]? = some (.cells #[x, y, z] t (0, 0))) : W.cell? ⟨g, 0, none⟩ = some x ∧ W.cell? ⟨g, 1, none⟩ = some y ∧ W.cell? ⟨g, 2, none⟩ = some z := ⟨cell_of_row _ _ 0 _ _ _ h, cell_of_row _ _ 1 _ _ _ h, cell_of_row _ _ 2 _ _ _ h⟩
theorem text_some {M : ByteArray} (h : 0 < M.size) : (M.toList == []) = false := by
  rw [ByteArray.toList_eq]
  obtain ⟨⟨x⟩⟩ := M
  cases x with
  | nil => exact absurd h (by decide)
  | cons a r => rfl
theorem rows_one {X : World} {base : Nat} (hb : base ≤ X.heap.size) (k : Int) (n t u : ByteArray) : (X.alloc (Obj.cells #[.int .i64 k, .string n, .string t, .string u] 69)).ownsRow base 69 4 (.slice (some ⟨X.heap.size, 0, none⟩) 1 1) 1 (cellsRw [⟨k, n, t, u⟩]) :=
  World.ownsRow_lit X #[.int .i64 k, .string n, .string t, .string u] 1 hb (by unfold maxLen; omega) rfl
theorem rows_two {X : World} {base : Nat} (hb : base ≤ X.heap.size) (k : Int) (n t u : ByteArray) (k' : Int) (n' t' u' : ByteArray) : (X.alloc (Obj.cells #[.int .i64 k, .string n, .string t, .string u, .int .i64 k', .string n', .string t', .string u'] 69)).ownsRow base 69 4 (.slice (some ⟨X.heap.size, 0, none⟩) 2 2) 2 (cellsRw [⟨k, n, t, u⟩, ⟨k', n', t', u'⟩]) :=
  World.ownsRow_lit X #[.int .i64 k, .string n, .string t, .string u, .int .i64 k', .string n', .string t', .string u'] 2 hb (by unfold maxLen; omega) rfl
set_option maxHeartbeats 8000000 in
set_option maxRecDepth 100000 in
theorem implSteps_is {a a' : Option Addr} {g g' off off' cap cap' : Nat} (s : ByteArray) (hss : s.size ≤ 1048576) (old now lr : LogL) (er : Nat) (Rr : Bool) (hrd : ∀ W : World, Calls Tryz.prog 7 #[.string s] W (RLPost W lr er Rr)) (n1 : old.ents.length ≤ 1048576) (n2 : lr.ents.length ≤ 1048576) (n3 : now.ents.length ≤ 1048576)
    (hcap : now.ents.length ≤ cap') (hd : ∀ e ∈ now.ents, e.data.size ≤ 1048576) (k : Nat) (hk : SameN old.ents now.ents k) (L : List RawL) (ok : Bool) (hst : StepsIs s old now lr er Rr k L ok) (w : World) (hA : EnAt w a g off old.ents) (hB : EnAt w a' g' off' now.ents) :
    Calls Tryz.prog 9 #[.string s, logV old a cap, logV now a' cap'] w (StepsPost w L ok) := by
  unfold logV
  obtain ⟨W, hW, hb, hp0, hp1⟩ := two_logs w #[.int .i64 old.start, .int .i64 old.sterm, .slice a old.ents.length cap] #[.int .i64 now.start, .int .i64 now.sterm, .slice a' now.ents.length cap']
  have HB : Hid (Below w.heap.size w W) := hb
  obtain ⟨q, hq⟩ : ∃ q, q = w.heap.size := ⟨_, rfl⟩
  have HCE : Hid (∀ X, Below W.heap.size W X → (X.cell? ⟨q, 0, none⟩ = some (.int .i64 old.start) ∧ X.cell? ⟨q, 1, none⟩ = some (.int .i64 old.sterm) ∧ X.cell? ⟨q, 2, none⟩ = some (.slice a old.ents.length cap)) ∧ X.cell? ⟨q + 1, 0, none⟩ = some (.int .i64 now.start) ∧ X.cell? ⟨q + 1, 1, none⟩ = some (.int .i64 now.sterm) ∧ X.cell? ⟨q + 1, 2, none⟩ = some (.slice a' now.ents.length cap')) := fun X h => by
    rw [hq]
    exact ⟨cells3 ((h.block _ (Array.getElem?_eq_some_iff.1 hp0).1).trans hp0), cells3 ((h.block _ (Array.getElem?_eq_some_iff.1 hp1).1).trans hp1)⟩
  have HFI : Hid (∀ X, Below W.heap.size W X → Calls Tryz.prog 6 #[.agg #[.int .i64 now.start, .int .i64 now.sterm, .slice a' now.ents.length cap']] X fun en w' => en = .returned (fileTuple now) ∧ Below X.heap.size X w') := fun X h => implFile_is now n3 hcap hd X ((hB.kept hb).kept h)
  have HIS : Hid (∀ X, Below W.heap.size W X → ∀ F : Bool, (F = true ↔ Rr = true ∧ er = s.size ∧ lr = old) → Calls Tryz.prog 27 #[.string s, .agg #[.int .i64 old.start, .int .i64 old.sterm, .slice a old.ents.length cap]] X fun en w' => en = .returned (.bool F) ∧ Below X.heap.size X w') := fun X h F hF => isFile_is s hss old lr er Rr hrd n1 n2 F hF X ((hA.kept hb).kept h)
  have HSA : Hid (∀ X, Below W.heap.size W X → ∀ Q : Bool, (Q = true ↔ old = now) → Calls Tryz.prog 28 #[.agg #[.int .i64 old.start, .int .i64 old.sterm, .slice a old.ents.length cap], .agg #[.int .i64 now.start, .int .i64 now.sterm, .slice a' now.ents.length cap']] X fun en w' => en = .returned (.bool Q) ∧ Below X.heap.size X w') := fun X h Q hQ => sameLog_is old now n1 n3 Q hQ X ((hA.kept hb).kept h) ((hB.kept hb).kept h)
  have HAD : Hid (okL now = true → ∀ X, Below W.heap.size W X → Calls Tryz.prog 29 #[.agg #[.int .i64 old.start, .int .i64 old.sterm, .slice a old.ents.length cap], .agg #[.int .i64 now.start, .int .i64 now.sterm, .slice a' now.ents.length cap']] X fun en w' => en = .returned (.string (if old.start = now.start ∧ old.sterm = now.sterm then moreB now k else ⟨#[]⟩)) ∧ Below X.heap.size X w') := fun h0 X h => added_is old now n1 h0 hcap k hk X ((hA.kept hb).kept h) ((hB.kept hb).kept h)
  have HST : Hid (StepsIs s old now lr er Rr k L ok) := hst
  have HEND : Hid (∀ X, Below W.heap.size W X → Below w.heap.size w X) := fun X h => HB.out.trans (h.mono HB.out.size)
  have HQ : Hid (q = w.heap.size) := hq
  have c0 := HCE.out W (Below.refl _ _)
  rw [hW] at c0
  obtain ⟨⟨p0, p1, p2⟩, q0, q1, q2⟩ := c0
  rw [hq] at p0 p1 p2 q0 q1 q2
  have HKN : Hid (k ≤ now.ents.length) := hk.2.1
  clear hA hB hb hp0 hp1 hrd hst hd hk
  go_enter Tryz.func9, Tryz.ntmps9
  go_wp2_with fail
  rw [← hW, ← hq]
  clear hW hq p0 p1 p2 q0 q1 q2
  refine Calls.mono (HFI.out _ (Below.refl _ _)) ?_
  rintro en w2 ⟨rfl, hb2⟩
  have HB2 : Hid (Below W.heap.size W w2) := hb2
  clear hb2 HFI
  by_cases hno : okL now = true
  · rw [fileTuple_yes hno]
    have HNO : Hid (okL now = true) := hno
    obtain ⟨FB, hFB⟩ : ∃ FB, FB = fileB now := ⟨_, rfl⟩
    rw [← hFB]
    have HFB : Hid (FB = fileB now) := hFB
    clear hno hFB
    obtain ⟨⟨p0, p1, p2⟩, q0, q1, q2⟩ := HCE.out _ HB2.out
    by_cases hgood : Rr = true ∧ er = s.size ∧ lr = old
    · have HG : Hid (Rr = true ∧ er = s.size ∧ lr = old) := hgood
      have HC3 := HIS.out w2 HB2.out true ⟨fun _ => hgood, fun _ => rfl⟩
      have HC3H : Hid (Calls Tryz.prog 27 #[.string s, .agg #[.int .i64 old.start, .int .i64 old.sterm, .slice a old.ents.length cap]] w2 fun en w' => en = .returned (.bool true) ∧ Below w2.heap.size w2 w') := HC3
      clear hgood HC3 HIS
      go_wp2_with fail
      refine Calls.mono HC3H.out ?_
      rintro en w3 ⟨rfl, hb3⟩
      have HB3 : Hid (Below W.heap.size W w3) := HB2.out.trans (hb3.mono HB2.out.size)
      clear hb3 p0 p1 p2 q0 q1 q2 HC3H
      obtain ⟨⟨p0, p1, p2⟩, q0, q1, q2⟩ := HCE.out _ HB3.out
      by_cases hsm : old = now
      · have HC4 : Hid (Calls Tryz.prog 28 #[.agg #[.int .i64 old.start, .int .i64 old.sterm, .slice a old.ents.length cap], .agg #[.int .i64 now.start, .int .i64 now.sterm, .slice a' now.ents.length cap']] w3 fun en w' => en = .returned (.bool true) ∧ Below w3.heap.size w3 w') := HSA.out w3 HB3.out true ⟨fun _ => hsm, fun _ => rfl⟩
        obtain ⟨rfl, rfl⟩ : L = [] ∧ ok = true := by
          rcases HST.out with ⟨h, _⟩ | ⟨_, h1, ⟨_, h2⟩ | ⟨h2, _⟩⟩
          · exact absurd ⟨HNO.out, HG.out⟩ h
          · exact ⟨h2, h1⟩
          · exact absurd hsm h2
        clear hsm HSA HAD HST
        go_wp2_with fail
        refine Calls.mono HC4.out ?_
        rintro en w4 ⟨rfl, hb4⟩
        clear p0 p1 p2 q0 q1 q2
        go_wp2
        go_ret2
        exact ⟨_, rfl, World.ownsRow_nil _ _ _ _, HEND.out _ (HB3.out.trans (hb4.mono HB3.out.size))⟩
      · have HC4 : Hid (Calls Tryz.prog 28 #[.agg #[.int .i64 old.start, .int .i64 old.sterm, .slice a old.ents.length cap], .agg #[.int .i64 now.start, .int .i64 now.sterm, .slice a' now.ents.length cap']] w3 fun en w' => en = .returned (.bool false) ∧ Below w3.heap.size w3 w') := HSA.out w3 HB3.out false ⟨fun h => (by cases h), fun h => absurd h hsm⟩
        obtain ⟨hok1, hL⟩ : ok = true ∧ ((Behind s old now k ∧ L = [⟨2, nameLog, ⟨#[]⟩, moreB now k⟩]) ∨ (¬ Behind s old now k ∧ L = [⟨1, nameNew, ⟨#[]⟩, fileB now⟩, ⟨3, nameNew, nameLog, ⟨#[]⟩⟩])) := by
          rcases HST.out with ⟨h, _⟩ | ⟨_, h1, ⟨h2, _⟩ | ⟨_, h2⟩⟩
          · exact absurd ⟨HNO.out, HG.out⟩ h
          · exact absurd h2 hsm
          · exact ⟨h1, h2⟩
        subst hok1
        have HL : Hid ((Behind s old now k ∧ L = [⟨2, nameLog, ⟨#[]⟩, moreB now k⟩]) ∨ (¬ Behind s old now k ∧ L = [⟨1, nameNew, ⟨#[]⟩, fileB now⟩, ⟨3, nameNew, nameLog, ⟨#[]⟩⟩])) := hL
        clear hsm HSA HST hL
        go_wp2_with fail
        refine Calls.mono HC4.out ?_
        rintro en w4 ⟨rfl, hb4⟩
        have HB4 : Hid (Below W.heap.size W w4) := HB3.out.trans (hb4.mono HB3.out.size)
        clear hb4 p0 p1 p2 q0 q1 q2 HC4
        obtain ⟨⟨p0, p1, p2⟩, q0, q1, q2⟩ := HCE.out _ HB4.out
        obtain ⟨M, hM⟩ : ∃ M, M = if old.start = now.start ∧ old.sterm = now.sterm then moreB now k else ⟨#[]⟩ := ⟨_, rfl⟩
        have HC5 : Hid (Calls Tryz.prog 29 #[.agg #[.int .i64 old.start, .int .i64 old.sterm, .slice a old.ents.length cap], .agg #[.int .i64 now.start, .int .i64 now.sterm, .slice a' now.ents.length cap']] w4 fun en w' => en = .returned (.string M) ∧ Below w4.heap.size w4 w') := by rw [hM]; exact HAD.out HNO.out w4 HB4.out
        have hMB : (Behind s old now k ∧ M = moreB now k ∧ 0 < M.size ∧ s.size + M.size ≤ 20000) ∨ (¬ Behind s old now k ∧ (M = ⟨#[]⟩ ∨ (0 < M.size ∧ M.size ≤ 16920 ∧ ¬ s.size + M.size ≤ 20000))) := by
          by_cases hst : old.start = now.start ∧ old.sterm = now.sterm
          · rw [if_pos hst] at hM
            by_cases hkl : k < now.ents.length
            · have hpos := more_some hkl
              by_cases hsz : s.size + (moreB now k).size ≤ 20000
              · exact Or.inl ⟨⟨hst, hkl, hsz⟩, hM, by rw [hM]; exact hpos, by rw [hM]; exact hsz⟩
              · exact Or.inr ⟨fun h => hsz h.2.2, Or.inr ⟨by rw [hM]; exact hpos, by rw [hM]; exact more_len HNO.out k HKN.out, by rw [hM]; exact hsz⟩⟩
            · exact Or.inr ⟨fun h => hkl h.2.1, Or.inl (by rw [hM]; exact more_none (by omega))⟩
          · rw [if_neg hst] at hM
            exact Or.inr ⟨fun h => hst h.1, Or.inl hM⟩
        have HMB : Hid ((Behind s old now k ∧ M = moreB now k ∧ 0 < M.size ∧ s.size + M.size ≤ 20000) ∨ (¬ Behind s old now k ∧ (M = ⟨#[]⟩ ∨ (0 < M.size ∧ M.size ≤ 16920 ∧ ¬ s.size + M.size ≤ 20000)))) := hMB
        clear hM hMB HAD
        go_wp2_with fail
        refine Calls.mono HC5.out ?_
        rintro en w5 ⟨rfl, hb5⟩
        have HB5 : Hid (Below W.heap.size W w5) := HB4.out.trans (hb5.mono HB4.out.size)
        have HSZ5 : Hid (w.heap.size ≤ w5.heap.size) := (HEND.out _ HB5.out).size
        clear hb5 p0 p1 p2 q0 q1 q2 HC5
        rcases HMB.out with ⟨hbe, hMe, hpos, hsz⟩ | ⟨hnb, hcs⟩
        · have hLe : L = [⟨2, nameLog, ⟨#[]⟩, moreB now k⟩] := by
            rcases HL.out with ⟨_, h⟩ | ⟨h, _⟩
            · exact h
            · exact absurd hbe h
          rw [← hMe] at hLe
          have HLE : Hid (L = [⟨2, nameLog, ⟨#[]⟩, M⟩]) := hLe
          have t1 := text_some hpos
          have t2 : (s.size : Int) + (M.size : Int) ≤ 20000 := by omega
          clear hbe hMe hpos hsz hLe HL HMB
          go_wp2
          go_ret2
          rw [HLE.out]
          exact ⟨_, rfl, rows_one HSZ5.out 2 nameLog ⟨#[]⟩ M, HEND.out _ (HB5.out.alloc HB5.out.size _)⟩
        · have hLe : L = [⟨1, nameNew, ⟨#[]⟩, fileB now⟩, ⟨3, nameNew, nameLog, ⟨#[]⟩⟩] := by
            rcases HL.out with ⟨h, _⟩ | ⟨_, h⟩
            · exact absurd h hnb
            · exact h
          rw [← HFB.out] at hLe
          have HLE : Hid (L = [⟨1, nameNew, ⟨#[]⟩, FB⟩, ⟨3, nameNew, nameLog, ⟨#[]⟩⟩]) := hLe
          clear hnb hLe HL HMB
          rcases hcs with rfl | ⟨hpos, hmx, hsz⟩
          · go_wp2
            go_ret2
            rw [HLE.out]
            exact ⟨_, rfl, rows_two HSZ5.out 1 nameNew ⟨#[]⟩ FB 3 nameNew nameLog ⟨#[]⟩, HEND.out _ (HB5.out.alloc HB5.out.size _)⟩
          · have t1 := text_some hpos
            have t2 : ¬ (s.size : Int) + (M.size : Int) ≤ 20000 := by omega
            clear hpos hsz
            go_wp2
            go_ret2
            rw [HLE.out]
            exact ⟨_, rfl, rows_two HSZ5.out 1 nameNew ⟨#[]⟩ FB 3 nameNew nameLog ⟨#[]⟩, HEND.out _ (HB5.out.alloc HB5.out.size _)⟩
    · have HC3 : Hid (Calls Tryz.prog 27 #[.string s, .agg #[.int .i64 old.start, .int .i64 old.sterm, .slice a old.ents.length cap]] w2 fun en w' => en = .returned (.bool false) ∧ Below w2.heap.size w2 w') := HIS.out w2 HB2.out false ⟨fun h => (by cases h), fun h => absurd h hgood⟩
      obtain ⟨rfl, rfl⟩ : L = [] ∧ ok = false := by
        rcases HST.out with ⟨_, h1, h2⟩ | ⟨h, _⟩
        · exact ⟨h1, h2⟩
        · exact absurd h.2 hgood
      clear hgood HIS HSA HAD HST
      go_wp2_with fail
      refine Calls.mono HC3.out ?_
      rintro en w3 ⟨rfl, hb3⟩
      clear p0 p1 p2 q0 q1 q2
      go_wp2
      go_ret2
      exact ⟨_, rfl, World.ownsRow_nil _ _ _ _, HEND.out _ (HB2.out.trans (hb3.mono HB2.out.size))⟩
  · rw [fileTuple_no hno]
    obtain ⟨rfl, rfl⟩ : L = [] ∧ ok = false := by
      rcases HST.out with ⟨_, h1, h2⟩ | ⟨h, _⟩
      · exact ⟨h1, h2⟩
      · exact absurd h.1 hno
    clear hno HIS HSA HAD HST
    go_wp2
    go_ret2
    exact ⟨_, rfl, World.ownsRow_nil _ _ _ _, HEND.out _ HB2.out⟩
end Go.Proofs.YtahpoemmlpbgdaaGreat
