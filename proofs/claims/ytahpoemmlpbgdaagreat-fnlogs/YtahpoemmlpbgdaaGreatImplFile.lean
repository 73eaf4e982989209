/- The program's startFrame, framesFrom and LogFile, walked. -/
import Derived.Test.YtahpoemmlpbgdaaGreatSpecLog3
import Derived.Test.YtahpoemmlpbgdaaGreatImplEntT
import Derived.Test.YtahpoemmlpbgdaaGreatSpecBehind
namespace Go.Proofs.YtahpoemmlpbgdaaGreat
open Go.RowKit
open Ents (okB text textS)
open Logs (okL rises Fits inB startT recs frames file)
set_option linter.unusedVariables false
set_option linter.unusedSimpArgs false

set_option maxHeartbeats 2000000 in
set_option maxRecDepth 100000 in
theorem implHead_is {a : Option Addr} {cap : Nat} (l : LogL) (h : Fits l) (w : World) :
    Calls Tryz.prog 22 #[logV l a cap] w fun en w' => en = .returned (.string (headS l)) ∧ Below w.heap.size w w' := by
  unfold logV
  obtain ⟨W, hW⟩ : ∃ W, W = w.alloc (Obj.cells #[.int .i64 l.start, .int .i64 l.sterm, .slice a l.ents.length cap] 26) := ⟨_, rfl⟩
  have hb : Below w.heap.size w W := by rw [hW]; exact (Below.refl _ _).alloc (Nat.le_refl _) _
  have HB : Hid (Below w.heap.size w W) := hb
  have hla : LogAt W w.heap.size l a cap := by rw [hW]; exact LogAt.new w l a cap 26
  obtain ⟨q, hqq⟩ : ∃ q, q = w.heap.size := ⟨_, rfl⟩
  have HLA : Hid (∀ W', Below W.heap.size W W' → W'.cell? ⟨q, 0, none⟩ = some (.int .i64 l.start) ∧ W'.cell? ⟨q, 1, none⟩ = some (.int .i64 l.sterm)) := fun W' h => by rw [hqq]; exact ⟨(hla.kept h).1, (hla.kept h).2.1⟩
  obtain ⟨s1, s2⟩ := startS_size l h
  obtain ⟨f0, f1, g0, g1, _, _⟩ := h
  have sz1 := varS_size l.start 100000 (by omega)
  have sz2 := varS_size l.sterm 100000 (by omega)
  obtain ⟨T1, hT1⟩ : ∃ T, T = varS l.start := ⟨_, rfl⟩
  obtain ⟨T2, hT2⟩ : ∃ T, T = varS l.sterm := ⟨_, rfl⟩
  have hT : (⟨#[83]⟩ : ByteArray) ++ T1 ++ T2 = startS l := by rw [hT1, hT2]; exact startS_is l
  have HV1 : Hid (∀ W, Calls Tryz.prog 52 #[.int .i64 l.start] W fun en w' => en = .returned (.string T1) ∧ Below W.heap.size W w') := fun W => varOf_q2 _ f0 f1 _ hT1 W
  have HV2 : Hid (∀ W, Calls Tryz.prog 52 #[.int .i64 l.sterm] W fun en w' => en = .returned (.string T2) ∧ Below W.heap.size W w') := fun W => varOf_q2 _ g0 g1 _ hT2 W
  have HF : Hid (∀ W, Calls Tryz.prog 51 #[.string ((⟨#[83]⟩ : ByteArray) ++ T1 ++ T2)] W fun en w' => en = .returned (.tuple #[.string (headS l), .bool true]) ∧ Below W.heap.size W w') := fun W => by rw [hT]; exact implFrame_yes _ s1 (by omega) W
  rw [← hT1] at sz1
  rw [← hT2] at sz2
  clear hT hT1 hT2 hla hb
  have z1 : ¬ 9223372036854775807 < 1 + T1.size := by omega
  have z2 : ¬ 9223372036854775807 < 1 + T1.size + T2.size := by omega
  have HK : Hid (∀ X X' : World, Below W.heap.size W X → Below X.heap.size X X' → Below W.heap.size W X') := fun X X' a b => a.trans (b.mono a.size)
  have HEND : Hid (∀ X, Below W.heap.size W X → Below w.heap.size w X) := fun X a => HB.out.trans (a.mono HB.out.size)
  have BD : Below W.heap.size W W.drew := (Below.refl _ _).drew
  go_enter Tryz.func22, Tryz.ntmps22
  go_wp2_with fail
  rw [← hW, ← hqq]
  clear hW hqq
  go_region_held (fun w' => (w'.cell? ⟨q, 0, none⟩ = some (.int .i64 l.start) ∧ w'.cell? ⟨q, 1, none⟩ = some (.int .i64 l.sterm)) ∧ Below W.heap.size W w')
    (first | assumption | exact ⟨HLA.out _ (by assumption), by assumption⟩ | fail)
    (first | (go_at_call 52; (first | (with_reducible refine Calls.mono (HV1.out _) ?_) | (with_reducible refine Calls.mono (HV2.out _) ?_) | fail); rintro en w5 ⟨rfl, hb5⟩; have hq5 := HK.out _ _ (And.right (by assumption)) hb5; clear hb5) | (go_at_call 51; refine Calls.mono (HF.out _) ?_; rintro en w5 ⟨rfl, hb5⟩; have hq5 := HK.out _ _ (And.right (by assumption)) hb5; clear hb5) | fail)
  all_goals (
    go_wp2
    go_ret
    exact ⟨rfl, HEND.out _ (And.right (by assumption))⟩)

set_option maxHeartbeats 1000000 in
theorem partOf_is (a : Option Addr) (n cap i j : Nat) (hij : i ≤ j) (hj : j ≤ cap) (w : World) :
    Calls Tryz.prog 53 #[.slice a n cap, .int .i64 (i : Int), .int .i64 (j : Int)] w fun en w' => en = .returned (.slice (if j = i then a else a.map (·.add (i * 3))) (j - i) (j - i)) ∧ w' = w := by
  have i0 : (0 : Int) ≤ (i : Int) := by omega
  have i1 : (i : Int) ≤ (j : Int) := by omega
  have i2 : (j : Int) ≤ (cap : Int) := by omega
  go_enter Tryz.func53, Tryz.ntmps53
  go_wp2
  all_goals
    go_ret
    exact ⟨rfl, rfl⟩
/-- A part of entries, from place d on, lies where it lay. -/
theorem EnAt.part {w : World} {a : Option Addr} {g off : Nat} {l : List EntL} (h : EnAt w a g off l) (d : Nat) (hd : d ≤ l.length) : ∃ g' off', EnAt w (if l.length = d then a else a.map (·.add (d * 3))) g' off' (l.drop d) := by
  by_cases he : l.length = d
  · refine ⟨g, off, fun hp => ?_, fun j hj => ?_⟩
    · rw [List.length_drop] at hp; omega
    · rw [List.length_drop] at hj; omega
  · have ha := h.1 (by omega)
    subst ha
    rw [if_neg he]
    exact ⟨g, off + d * 3, by simpa [Addr.add_lit] using EnAt.drop h d⟩
set_option maxHeartbeats 8000000 in
set_option maxRecDepth 100000 in
theorem implFrames_is {a : Option Addr} {g off cap : Nat} (l : LogL) (hok : okL l = true) (hcap : l.ents.length ≤ cap) (from_ : Nat) (hfr : from_ ≤ l.ents.length) (w : World) (hf : EnAt w a g off l.ents) :
    Calls Tryz.prog 23 #[logV l a cap, .int .i64 (from_ : Int)] w fun en w' => en = .returned (.string ⟨(frames (recs l.start.toNat from_ (l.ents.drop from_))).toArray⟩) ∧ Below w.heap.size w w' := by
  obtain ⟨hfit, hris⟩ := Logs.okL_iff.1 hok
  have HME : Hid (∀ e ∈ l.ents, okB e = true) := fun e he => (Logs.rises_mem _ _ hris e he).1
  obtain ⟨f0, f1, g0, g1, hn, hm⟩ := hfit
  obtain ⟨s, hs⟩ := Int.eq_ofNat_of_zero_le f0
  have hs2 : l.start.toNat = s := by rw [hs]; rfl
  rw [hs2]
  obtain ⟨TOT, hTOT⟩ : ∃ TOT, TOT = frames (recs s from_ (l.ents.drop from_)) := ⟨_, rfl⟩
  rw [← hTOT]
  unfold logV
  obtain ⟨W, hW⟩ : ∃ W, W = w.alloc (Obj.cells #[.int .i64 l.start, .int .i64 l.sterm, .slice a l.ents.length cap] 26) := ⟨_, rfl⟩
  have hb : Below w.heap.size w W := by rw [hW]; exact (Below.refl _ _).alloc (Nat.le_refl _) _
  have hla : LogAt W w.heap.size l a cap := by rw [hW]; exact LogAt.new w l a cap 26
  have HB : Hid (Below w.heap.size w W) := hb
  obtain ⟨g', off', hp⟩ := (hf.kept hb).part from_ hfr
  obtain ⟨pa, hpa⟩ : ∃ pa, pa = if l.ents.length = from_ then a else a.map (·.add (from_ * 3)) := ⟨_, rfl⟩
  rw [← hpa] at hp
  have HEN : Hid (∀ W', Below W.heap.size W W' → EnAt W' pa g' off' (l.ents.drop from_)) := fun W' h => hp.kept h
  have HPA : Hid (∀ X, Calls Tryz.prog 53 #[.slice a l.ents.length cap, .int .i64 (from_ : Int), .int .i64 (l.ents.length : Int)] X fun en w' => en = .returned (.slice pa (l.ents.length - from_) (l.ents.length - from_)) ∧ w' = X) := fun X => by rw [hpa]; exact partOf_is a l.ents.length cap from_ l.ents.length hfr hcap X
  obtain ⟨c0, c1, c2⟩ := hla
  rw [hW] at c0 c1 c2
  have HST : Hid (l.start = (s : Int)) := hs
  have HINV : Hid ([] ++ frames (recs s from_ (l.ents.drop from_)) = TOT) := by rw [hTOT]; rfl
  obtain ⟨n, hnn⟩ : ∃ n, n = l.ents.length - from_ := ⟨_, rfl⟩
  have HN : Hid (n = l.ents.length - from_) := hnn
  have HDL : Hid ((l.ents.drop from_).length = n) := by show _ = _; rw [List.length_drop, hnn]
  rw [← hnn] at HPA
  have n1 : n ≤ 120 := by omega
  have z0 : (0 : Int) ≤ (from_ : Int) := by omega
  have z1 : (from_ : Int) ≤ 120 := by omega
  clear hp hpa hb hf hs hs2 hTOT hok hris hnn
  go_enter Tryz.func23, Tryz.ntmps23
  go_wp2_with (go_at_call 53; refine Calls.mono (HPA.out _) ?_; rintro en w2 ⟨rfl, hw2⟩; subst hw2)
  rw [← hW]
  clear hW c0 c1 c2 HPA
  go_loopw [5, 6, 8, 9, 10, 11, 12, 25] (fun v x _ _ _ _ _ i wr => ∃ (k : Nat) (pre : ByteArray), k ≤ n ∧ i = .int .i64 (k : Int) ∧ x = .int .i64 (l.start + (from_ : Int) + (k : Int)) ∧ v = .string pre ∧ pre.size ≤ 141 * k ∧ Hid (pre.data.toList ++ frames (recs s (from_ + k) (l.ents.drop (from_ + k))) = TOT) ∧ Hid (Below W.heap.size W wr))
    (fun _ _ _ _ _ _ _ i _ => n - (intOf i).toNat)
  case atStart => exact ⟨0, ⟨#[]⟩, Nat.zero_le _, rfl, by simp, rfl, by decide, HINV, Below.refl _ _⟩
  case round =>
    clear HINV
    obtain ⟨k, pre, hk, rfl, rfl, rfl, hpl, HI, HBW⟩ := hrel
    by_cases hlt : k < n
    · have hA := HEN.out _ HBW.out
      have hdl := HDL.out
      have ea := hA.1 (by omega)
      subst ea
      obtain ⟨e, he⟩ : ∃ e, e = (l.ents.drop from_)[k]'(by omega) := ⟨_, rfl⟩
      have hfk : from_ + k < l.ents.length := by have := HN.out; omega
      have he2 : e = l.ents[from_ + k] := by rw [he, List.getElem_drop]
      have hoe : okB e = true := by rw [he2]; exact HME.out _ (List.getElem_mem _)
      obtain ⟨d0, d1, d2⟩ := hA.2 k (by omega)
      rw [← he] at d0 d1 d2
      have hsm := text_small (i := s + 1 + (from_ + k)) (e := e) (by have := HST.out; omega) hoe
      have HT : Hid (∀ X, Calls Tryz.prog 54 #[.int .i64 ((s + 1 + (from_ + k) : Nat) : Int), .agg #[.int .i64 e.term, .int .i64 e.kind, .string e.data]] X fun en w' => en = .returned (.tuple #[.string (textS (s + 1 + (from_ + k)) e), .bool true]) ∧ Below X.heap.size X w') := fun X => implEntText_yes (s + 1 + (from_ + k)) e ⟨hoe, by omega, by have := HST.out; omega⟩ X
      have HNX : Hid (frames (recs s (from_ + k) (l.ents.drop (from_ + k))) = (frameB (textS (s + 1 + (from_ + k)) e)).data.toList ++ frames (recs s (from_ + (k + 1)) (l.ents.drop (from_ + (k + 1))))) := by
        show _ = _
        have := Logs.recs_drop l.ents s 0 (from_ + k) hfk
        simp only [Nat.zero_add] at this
        rw [this, Logs.frames_cons, frameB_list, he2]
        rfl
      obtain ⟨T, hT⟩ : ∃ T, T = textS (s + 1 + (from_ + k)) e := ⟨_, rfl⟩
      rw [← hT] at HT HNX hsm
      have HF : Hid (∀ X, Calls Tryz.prog 51 #[.string T] X fun en w' => en = .returned (.tuple #[.string (frameB T), .bool true]) ∧ Below X.heap.size X w') := fun X => implFrame_yes T hsm.1 (by omega) X
      have hfs := frame_small hsm.2
      obtain ⟨F, hF⟩ : ∃ F, F = frameB T := ⟨_, rfl⟩
      rw [← hF] at HF HNX hfs
      have hix : ((s + 1 + (from_ + k) : Nat) : Int) = l.start + (from_ : Int) + (k : Int) + 1 := by have := HST.out; omega
      rw [hix] at HT
      have hk0 : (0 : Int) ≤ (k : Int) := by omega
      have hk1 : (k : Int) < (n : Int) := by omega
      have hk2 : (k : Int) ≤ 120 := by omega
      have u1 : ¬ 9223372036854775807 < pre.size + F.size := by omega
      have HPS : Hid (pre.size + F.size ≤ 141 * (k + 1)) := by show _ ≤ _; omega
      have HBE : Hid (Below W.heap.size W (wr.alloc (Obj.cells #[.int .i64 e.term, .int .i64 e.kind, .string e.data] 51))) := HBW.out.alloc HBW.out.size _
      clear hA he he2 hT hF hsm hoe hix hdl hpl hfs
      go_wp2_with fail
      refine Calls.mono (HT.out _) ?_
      rintro en w5 ⟨rfl, hb5⟩
      have HB5 : Hid (Below W.heap.size W w5) := HBE.out.trans (hb5.mono HBE.out.size)
      clear hb5 HT d0 d1 d2 HBE
      go_wp2_with fail
      refine Calls.mono (HF.out _) ?_
      rintro en w6 ⟨rfl, hb6⟩
      have HB6 : Hid (Below W.heap.size W w6) := HB5.out.trans (hb6.mono HB5.out.size)
      have HI6 : Hid ((pre ++ F).data.toList ++ frames (recs s (from_ + (k + 1)) (l.ents.drop (from_ + (k + 1)))) = TOT) := by
        show _ = _
        rw [ByteArray.data_append, Array.toList_append, List.append_assoc, ← HNX.out]
        exact HI.out
      clear hb6 HF HB5 HI HNX
      go_wp2
      go_roundw
      case rel => exact ⟨k + 1, pre ++ F, by omega, by go_num, by congr 1; push_cast; omega, rfl, by simpa using HPS.out, HI6, HB6⟩
      case measure => simp [intOf]; omega
    · have hk1 : ¬ (k : Int) < (n : Int) := by omega
      have HE : Hid (pre = ⟨TOT.toArray⟩) := by
        show _ = _
        have h1 := HI.out
        have h2 := HN.out
        rw [List.drop_of_length_le (by omega)] at h1
        apply Batches.by_inj
        simp only [Batches.by_]
        simpa [recs, frames] using h1
      clear hlt
      go_wp2
      go_ret
      exact ⟨by rw [HE.out]; rfl, HB.out.trans (HBW.out.mono HB.out.size)⟩
set_option maxHeartbeats 2000000 in
set_option maxRecDepth 100000 in
theorem implFile_is {a : Option Addr} {g off cap : Nat} (l : LogL) (hlen : l.ents.length ≤ 1048576) (hcap : l.ents.length ≤ cap) (hd : ∀ e ∈ l.ents, e.data.size ≤ 1048576) (w : World) (hf : EnAt w a g off l.ents) :
    Calls Tryz.prog 6 #[logV l a cap] w fun en w' => en = .returned (fileTuple l) ∧ Below w.heap.size w w' := by
  obtain ⟨W, hW⟩ : ∃ W, W = w.alloc (Obj.cells #[.int .i64 l.start, .int .i64 l.sterm, .slice a l.ents.length cap] 26) := ⟨_, rfl⟩
  have hb : Below w.heap.size w W := by rw [hW]; exact (Below.refl _ _).alloc (Nat.le_refl _) _
  have hla : LogAt W w.heap.size l a cap := by rw [hW]; exact LogAt.new w l a cap 26
  have HB : Hid (Below w.heap.size w W) := hb
  have HEN : Hid (∀ W', Below W.heap.size W W' → EnAt W' a g off l.ents) := fun W' h => (hf.kept hb).kept h
  obtain ⟨q, hqq⟩ : ∃ q, q = w.heap.size := ⟨_, rfl⟩
  have HLA : Hid (∀ W', Below W.heap.size W W' → W'.cell? ⟨q, 0, none⟩ = some (.int .i64 l.start) ∧ W'.cell? ⟨q, 1, none⟩ = some (.int .i64 l.sterm) ∧ W'.cell? ⟨q, 2, none⟩ = some (.slice a l.ents.length cap)) := fun W' h => by rw [hqq]; exact hla.kept h
  obtain ⟨O, hO⟩ : ∃ O, O = okL l := ⟨_, rfl⟩
  have HOK : Hid (∀ X, EnAt X a g off l.ents → Calls Tryz.prog 21 #[logV l a cap] X fun en w' => en = .returned (.bool O) ∧ Below X.heap.size X w') := fun X h => by rw [hO]; exact implLogOk_is l hlen hd X h
  obtain ⟨U, hU⟩ : ∃ U, U = fileTuple l := ⟨_, rfl⟩
  rw [← hU]
  have HU : Hid (U = if O = true ∧ (file l).length ≤ 20000 then .tuple #[.string ⟨(file l).toArray⟩, .bool true] else .tuple #[.string ⟨#[]⟩, .bool false]) := by show _ = _; rw [hU, hO]; rfl
  clear hU
  have HHE : Hid (O = true → ∀ X, Calls Tryz.prog 22 #[logV l a cap] X fun en w' => en = .returned (.string (headS l)) ∧ Below X.heap.size X w') := fun h X => implHead_is l (Logs.okL_iff.1 (by rw [← hO]; exact h)).1 X
  have HFR : Hid (O = true → ∀ X, EnAt X a g off l.ents → Calls Tryz.prog 23 #[logV l a cap, .int .i64 0] X fun en w' => en = .returned (.string ⟨(frames (recs l.start.toNat 0 (l.ents.drop 0))).toArray⟩) ∧ Below X.heap.size X w') := fun h X hx => implFrames_is l (by rw [← hO]; exact h) hcap 0 (Nat.zero_le _) X hx
  have HLE : Hid (O = true → (frames (recs l.start.toNat 0 (l.ents.drop 0))).length ≤ 141 * 120 ∧ (headS l).size ≤ 141) := fun h => by
    have hk : okL l = true := by rw [← hO]; exact h
    exact ⟨file_len l hk, frame_small (by have := startS_size l (Logs.okL_iff.1 hk).1; omega)⟩
  unfold logV at HOK HHE HFR ⊢
  clear hla hb hf hO hd
  cases O with
  | false =>
    have hU2 : U = .tuple #[.string ⟨#[]⟩, .bool false] := by rw [HU.out, if_neg (by simp)]
    subst hU2
    clear HU
    go_enter Tryz.func6, Tryz.ntmps6
    go_wp2_with fail
    rw [← hW]
    clear hW hqq
    refine Calls.mono (HOK.out _ (HEN.out _ (Below.refl _ _))) ?_
    rintro en w1 ⟨rfl, hb1⟩
    have HB1 : Hid (Below w.heap.size w w1) := HB.out.trans (hb1.mono HB.out.size)
    clear hb1
    go_wp2
    go_ret2
    exact ⟨rfl, HB1.out⟩
  | true =>
    obtain ⟨h1, h2⟩ := HLE.out rfl
    have HH1 : Hid (∀ X, Calls Tryz.prog 22 #[.agg #[.int .i64 l.start, .int .i64 l.sterm, .slice a l.ents.length cap]] X fun en w' => en = .returned (.string (headS l)) ∧ Below X.heap.size X w') := HHE.out rfl
    have HH2 : Hid (∀ X, EnAt X a g off l.ents → Calls Tryz.prog 23 #[.agg #[.int .i64 l.start, .int .i64 l.sterm, .slice a l.ents.length cap], .int .i64 0] X fun en w' => en = .returned (.string ⟨(frames (recs l.start.toNat 0 (l.ents.drop 0))).toArray⟩) ∧ Below X.heap.size X w') := HFR.out rfl
    have hfb := file_bytes l
    have h3 : (⟨(frames (recs l.start.toNat 0 (l.ents.drop 0))).toArray⟩ : ByteArray).size ≤ 141 * 120 := by show (frames (recs l.start.toNat 0 (l.ents.drop 0))).toArray.size ≤ _; simpa using h1
    obtain ⟨H, hH⟩ : ∃ H, H = headS l := ⟨_, rfl⟩
    obtain ⟨F, hF⟩ : ∃ F : ByteArray, F = ⟨(frames (recs l.start.toNat 0 (l.ents.drop 0))).toArray⟩ := ⟨_, rfl⟩
    rw [← hH] at HH1 hfb h2
    rw [← hF] at HH2 hfb h3
    have hsz : (H ++ F).size = (file l).length := by rw [hfb]; show (file l).toArray.size = _; simp
    have z1 : ¬ 9223372036854775807 < H.size + F.size := by omega
    have HFB : Hid (H ++ F = ⟨(file l).toArray⟩) := hfb
    have HSI : Hid (H.size + F.size = (file l).length) := by show _ = _; rw [← hsz]; simp
    have hbig : (file l).length ≤ 20000 := by have := HSI.out; omega
    have HU2 : Hid (U = .tuple #[.string ⟨(file l).toArray⟩, .bool true]) := by show _ = _; rw [HU.out, if_pos ⟨rfl, hbig⟩]
    have hb' : ¬ (20000 : Int) < (H.size : Int) + (F.size : Int) := by have := HSI.out; omega
    clear HLE HHE HFR hH hF h1 hfb hsz HU hbig
    have HK : Hid (∀ X X' : World, Below W.heap.size W X → Below X.heap.size X X' → Below W.heap.size W X') := fun X X' a b => a.trans (b.mono a.size)
    have HEND : Hid (∀ X, Below W.heap.size W X → Below w.heap.size w X) := fun X a => HB.out.trans (a.mono HB.out.size)
    go_enter Tryz.func6, Tryz.ntmps6
    go_wp2_with fail
    rw [← hW, ← hqq]
    clear hW hqq
    refine Calls.mono (HOK.out _ (HEN.out _ (Below.refl _ _))) ?_
    rintro en w1 ⟨rfl, hb1⟩
    have BD : Below W.heap.size W w1.drew := hb1.drew
    clear hb1 HOK
    go_wp2_with fail
    go_region_held (fun w' => (w'.cell? ⟨q, 0, none⟩ = some (.int .i64 l.start) ∧ w'.cell? ⟨q, 1, none⟩ = some (.int .i64 l.sterm) ∧ w'.cell? ⟨q, 2, none⟩ = some (.slice a l.ents.length cap)) ∧ Below W.heap.size W w')
      (first | assumption | exact ⟨HLA.out _ (by assumption), by assumption⟩ | fail)
      (first | (go_at_call 22; refine Calls.mono (HH1.out _) ?_; rintro en w5 ⟨rfl, hb5⟩; have hq5 := HK.out _ _ (And.right (by assumption)) hb5; clear hb5) | (go_at_call 23; refine Calls.mono (HH2.out _ (HEN.out _ (And.right (by assumption)))) ?_; rintro en w5 ⟨rfl, hb5⟩; have hq5 := HK.out _ _ (And.right (by assumption)) hb5; clear hb5) | fail)
    go_wp2
    go_ret2
    exact ⟨by rw [HU2.out, ← HFB.out]; rfl, HEND.out _ (And.right (by assumption))⟩

end Go.Proofs.YtahpoemmlpbgdaaGreat
