/- The specification's l12Frames and LogFile, walked. -/
import Derived.Test.YtahpoemmlpbgdaaGreatSpecStart
import Derived.Laws.AppendOwnNone
namespace Go.Proofs.YtahpoemmlpbgdaaGreat
open Go.RowKit
open Ents (okB text textS)
open Logs (okL rises Fits inB startT recs frames file)
set_option linter.unusedVariables false
set_option linter.unusedSimpArgs false

theorem bytes_of (w : World) (T : ByteArray) : ∃ (C : Nat) (W : World), (convert 9 22 (.string T)).run Tryz.prog w = .ok (.slice (some ⟨w.heap.size, 0, none⟩) T.size C) W ∧
    (∀ j (hj : j < T.size), W.cell? ⟨w.heap.size, j, none⟩ = some (.int .u8 (T[j].toNat : Int))) ∧ Below w.heap.size w W := by
  refine ⟨_, _, run_bytes_of_string w 9 22 5 T Tryz.underlying9 Tryz.underlying22 Tryz.underlying5, fun j hj => ?_, ?_⟩
  · unfold World.cell?
    rw [show w.heap.size = w.drew.heap.size from rfl, heap_alloc_new]
    exact bytesRow_at T _ j hj
  · exact ((Below.refl _ _).drew).alloc (Nat.le_refl _) _
theorem text_small {i : Nat} {e : EntL} (hi : i ≤ 100000) (he : okB e = true) : 1 ≤ (textS i e).size ∧ (textS i e).size ≤ 132 := by
  obtain ⟨⟨t0, t1⟩, hk⟩ := Ents.okB_iff.1 he
  have hd := (Ents.kind_in hk).2
  have h1 := Mans.var_five i (by omega)
  have h2 := Mans.var_five e.term.toNat (by omega)
  have h3 : (Batches.by_ e.data).length = e.data.size := rfl
  show 1 ≤ (text i e).toArray.size ∧ (text i e).toArray.size ≤ 132
  simp only [text, List.size_toArray, List.length_cons, List.length_append]
  omega
theorem frame_small {T : ByteArray} (h : T.size ≤ 132) : (frameB T).size ≤ 141 := by
  have h1 := Mans.var_five T.size (by omega)
  have hl := congrArg List.length (frameB_list T)
  have h3 : (frameB T).data.toList.length = (frameB T).size := rfl
  have h4 : T.data.toList.length = T.size := rfl
  rw [h3] at hl
  rw [hl]
  simp only [Words.frame, List.length_append, h4]
  have : (Sums.four (Sums.sumOf T.data.toList)).length = 4 := rfl
  omega
theorem cellsB_get (l : List UInt8) (j : Nat) (u : Value) (h : (cellsB l)[j]? = some u) : ∃ hj : j < l.length, u = .int .u8 (l[j].toNat : Int) := by
  unfold cellsB at h
  rw [List.getElem?_map] at h
  cases hl : l[j]? with
  | none => rw [hl] at h; cases h
  | some b =>
    rw [hl] at h
    obtain ⟨hj, hb⟩ := List.getElem?_eq_some_iff.1 hl
    exact ⟨hj, by rw [hb]; exact (Option.some.inj h).symm⟩
set_option maxHeartbeats 8000000 in
set_option maxRecDepth 100000 in
theorem specFrames_is {a : Option Addr} {g off cap : Nat} (l : LogL) (hok : okL l = true) (from_ : Nat) (w : World) (hf : EnAt w a g off l.ents) :
    Calls Tryz.prog 32 #[logV l a cap, .int .i64 (from_ : Int)] w fun en w' => en = .returned (.string ⟨(frames (recs l.start.toNat from_ (l.ents.drop from_))).toArray⟩) ∧ Below w.heap.size w w' := by
  obtain ⟨i0, hi, hz0, hz1, hz2⟩ := info_parts Tryz.info5
  obtain ⟨hfit, hris⟩ := Logs.okL_iff.1 hok
  have HME : Hid (∀ e ∈ l.ents, okB e = true) := fun e he => (Logs.rises_mem _ _ hris e he).1
  obtain ⟨f0, f1, g0, g1, hn, hm⟩ := hfit
  obtain ⟨s, hs⟩ := Int.eq_ofNat_of_zero_le f0
  have hs2 : l.start.toNat = s := by rw [hs]; rfl
  rw [hs2]
  obtain ⟨TOT, hTOT⟩ : ∃ TOT, TOT = frames (recs s from_ (l.ents.drop from_)) := ⟨_, rfl⟩
  rw [← hTOT]
  unfold logV
  obtain ⟨W, hW⟩ : ∃ W, W = w.alloc (Obj.cells #[.int .i64 l.start, .int .i64 l.sterm, .slice a l.ents.length cap] 26) := ⟨_, rfl⟩
  have hb : Below w.heap.size w W := by rw [hW]; exact (Below.refl _ _).alloc (Nat.le_refl _) _
  have hla : LogAt W w.heap.size l a cap := by rw [hW]; exact LogAt.new w l a cap 26
  have HB : Hid (Below w.heap.size w W) := hb
  have HEN : Hid (∀ W', Below W.heap.size W W' → EnAt W' a g off l.ents) := fun W' h => (hf.kept hb).kept h
  obtain ⟨q, hqq⟩ : ∃ q, q = w.heap.size := ⟨_, rfl⟩
  have HLA : Hid (∀ W', Below W.heap.size W W' → LogAt W' q l a cap) := fun W' h => by rw [hqq]; exact hla.kept h
  have HST : Hid (l.start = (s : Int)) := hs
  have ho := World.ownsRow_made (base := W.heap.size) (e := 5) (size := 1) W #[] 0 (Nat.le_refl _) (by unfold maxLen; omega) rfl
  have HO : Hid ((W.alloc (Obj.cells #[] 5)).ownsRow W.heap.size 5 1 (.slice (some ⟨W.heap.size, 0, none⟩) 0 0) ([] : List UInt8).length (cellsB [])) := ho
  have HBA : Hid (Below W.heap.size W (W.alloc (Obj.cells #[] 5))) := (Below.refl _ _).alloc (Nat.le_refl _) _
  have hsz : W.heap.size = w.heap.size + 1 := by rw [hW]; simp
  have HINV : Hid ([] ++ frames (recs s from_ (l.ents.drop from_)) = TOT) := by rw [hTOT]; rfl
  have HSZ : Hid (W.heap.size = w.heap.size + 1) := hsz
  clear ho hla hb hf hs hs2 hTOT hsz hok hris
  go_enter Tryz.func32, Tryz.ntmps32
  go_wp2_with fail
  rw [← hW, ← HSZ.out, ← hqq]
  clear hW hqq HSZ
  go_loopw [5, 6] (fun v i wr => ∃ (k : Nat) (pre : List UInt8), from_ ≤ k ∧ (k ≤ l.ents.length ∨ k = from_) ∧ i = .int .i64 (k : Int) ∧ Hid (pre ++ frames (recs s k (l.ents.drop k)) = TOT) ∧ Hid (pre.length ≤ 141 * (k - from_)) ∧ Hid (wr.ownsRow W.heap.size 5 1 v pre.length (cellsB pre)) ∧ Hid (Below W.heap.size W wr))
    (fun _ i _ => l.ents.length - (intOf i).toNat)
  case atStart => exact ⟨from_, [], Nat.le_refl _, Or.inr rfl, rfl, HINV, by show 0 ≤ _; omega, HO, HBA⟩
  case round =>
    clear HO HBA HINV
    obtain ⟨k, pre, hfk, hk, rfl, HI, HPL, HOW, HBW⟩ := hrel
    obtain ⟨va, vc, hv⟩ := own_slice HOW.out
    subst hv
    obtain ⟨c0, c1, c2⟩ := HLA.out _ HBW.out
    by_cases hlt : k < l.ents.length
    · have hA := HEN.out _ HBW.out
      have ea := hA.1 (by omega)
      subst ea
      obtain ⟨e, he⟩ : ∃ e, e = l.ents[k] := ⟨_, rfl⟩
      have hoe : okB e = true := by rw [he]; exact HME.out _ (List.getElem_mem _)
      have HS5 : Hid (∀ W', Below wr.heap.size wr W' → W'.cell? ⟨q, 0, none⟩ = some (.int .i64 l.start) ∧ W'.cell? ⟨q, 2, none⟩ = some (.slice (some ⟨g, off, none⟩) l.ents.length cap) ∧ W'.cell? ⟨g, off + k * 3, none⟩ = some (.int .i64 e.term) ∧ W'.cell? ⟨g, off + k * 3 + 1, none⟩ = some (.int .i64 e.kind) ∧ W'.cell? ⟨g, off + k * 3 + 2, none⟩ = some (.string e.data)) := fun W' h => by
        have hB' := HBW.out.trans (h.mono HBW.out.size)
        obtain ⟨x0, x1, x2⟩ := HLA.out _ hB'
        obtain ⟨y0, y1, y2⟩ := (HEN.out _ hB').2 k hlt
        rw [he]
        exact ⟨x0, x2, y0, y1, y2⟩
      have hsm := text_small (i := s + 1 + k) (e := e) (by have := HST.out; omega) hoe
      have HT : Hid (∀ X, Calls Tryz.prog 69 #[.int .i64 ((s + 1 + k : Nat) : Int), .agg #[.int .i64 e.term, .int .i64 e.kind, .string e.data]] X fun en w' => en = .returned (.tuple #[.string (textS (s + 1 + k) e), .bool true]) ∧ Below X.heap.size X w') := fun X => specEntText_yes (s + 1 + k) e ⟨hoe, by omega, by have := HST.out; omega⟩ X
      have HNX : Hid (frames (recs s k (l.ents.drop k)) = (frameB (textS (s + 1 + k) e)).data.toList ++ frames (recs s (k + 1) (l.ents.drop (k + 1)))) := by
        show _ = _
        have := Logs.recs_drop l.ents s 0 k hlt
        simp only [Nat.zero_add] at this
        rw [this, Logs.frames_cons, frameB_list, he]
        rfl
      obtain ⟨T, hT⟩ : ∃ T, T = textS (s + 1 + k) e := ⟨_, rfl⟩
      rw [← hT] at HT HNX hsm
      have HF : Hid (∀ X, Calls Tryz.prog 70 #[.string T] X fun en w' => en = .returned (.tuple #[.string (frameB T), .bool true]) ∧ Below X.heap.size X w') := fun X => specFrame_yes T hsm.1 (by omega) X
      have hfs := frame_small hsm.2
      obtain ⟨F, hF⟩ : ∃ F, F = frameB T := ⟨_, rfl⟩
      rw [← hF] at HF HNX hfs
      obtain ⟨X1, hX1⟩ : ∃ X1 : Int, X1 = l.start + 1 := ⟨_, rfl⟩
      obtain ⟨X2, hX2⟩ : ∃ X2 : Int, X2 = ((s + 1 + k : Nat) : Int) := ⟨_, rfl⟩
      have w1 : IntKind.i64.wrap (l.start + 1) = X1 := by rw [hX1, IntWalk.i64_in _ (by omega)]
      have w2 : IntKind.i64.wrap (X1 + (k : Int)) = X2 := by
        have hst := HST.out
        rw [hX1, hX2, IntWalk.i64_in _ (by omega)]
        omega
      rw [← hX2] at HT
      have hk0 : (0 : Int) ≤ (k : Int) := by omega
      have hk1 : (k : Int) < (l.ents.length : Int) := by omega
      have BD : Below wr.heap.size wr wr.drew := (Below.refl _ _).drew
      clear hA he hT hF hX1 hX2 c1 hsm hoe
      go_wp2_with fail
      go_region_held (fun w' => w'.cell? ⟨q, 0, none⟩ = some (.int .i64 l.start) ∧ w'.cell? ⟨q, 2, none⟩ = some (.slice (some ⟨g, off, none⟩) l.ents.length cap) ∧ w'.cell? ⟨g, off + k * 3, none⟩ = some (.int .i64 e.term) ∧ w'.cell? ⟨g, off + k * 3 + 1, none⟩ = some (.int .i64 e.kind) ∧ w'.cell? ⟨g, off + k * 3 + 2, none⟩ = some (.string e.data))
        (first | assumption | exact HS5.out _ (by assumption) | fail)
        (first | (go_at_call 69; refine Calls.mono (HT.out _) ?_; rintro en w5 ⟨rfl, hb5⟩; have hq5 : Below wr.heap.size wr w5 := BD.trans (hb5.mono BD.size); clear hb5) | fail)
      have HB5 : Hid (Below wr.heap.size wr w5) := hq5
      clear hq5 c0 c2 w1 w2 HT HS5 BD
      go_wp2_with fail
      refine Calls.mono (HF.out _) ?_
      rintro en w6 ⟨rfl, hb6⟩
      have hb6' : Below wr.heap.size wr w6 := HB5.out.trans (hb6.mono HB5.out.size)
      obtain ⟨C, W7, hcv, hcell, hb7⟩ := bytes_of w6 F
      have hb7' : Below wr.heap.size wr W7 := hb6'.trans (hb7.mono hb6'.size)
      have hown : W7.ownsRow W.heap.size 5 1 (.slice va pre.length vc) pre.length (cellsB pre) := own_kept HOW.out hb7'
      have HB7 : Hid (Below W.heap.size W W7) := HBW.out.trans (hb7'.mono HBW.out.size)
      have HCE : Hid (∀ j u, (cellsB F.data.toList)[j]? = some u → W7.cell? ((⟨w6.heap.size, 0, none⟩ : Addr).add j) = some u) := fun j u hu => by
        obtain ⟨hj, rfl⟩ := cellsB_get _ _ _ hu
        rw [Addr.add_lit, Nat.zero_add]
        exact hcell j hj
      have HLT : Hid (pre.length ≤ 141 * (k - from_) ∧ F.size ≤ 141) := ⟨HPL.out, hfs⟩
      clear hb6 hb6' hb7 hb7' hcell HF HB5
      have HCV : Hid ((convert 9 22 (.string F)).run Tryz.prog w6 = .ok (.slice (some ⟨w6.heap.size, 0, none⟩) F.size C) W7) := hcv
      go_wp2_with (at_builtin; refine wpList_append_own _ rfl _ _ 22 rfl W.heap.size 5 i0 (.int .u8 0) 1 1 Tryz.underlying22 hi hz0 hz1 hz2 rfl (by decide) _ _ _ rfl hown ⟨w6.heap.size, 0, none⟩ F.size C (cellsB F.data.toList) rfl (by rw [cellsB_len, Nat.mul_one]; rfl) HCE.out ?c2 ?c3 ?c4 ?c5 ?_)
      case c2 =>
        intro u hu
        unfold cellsB at hu
        obtain ⟨b, _, rfl⟩ := List.mem_map.1 hu
        rfl
      case c3 => have := HLT.out; unfold maxLen; omega
      case c4 => have := HLT.out; omega
      case c5 => exact HB7.out.size
      intro v' w8 hown' hgrow _
      have HOW8 : Hid (w8.ownsRow W.heap.size 5 1 v' (pre ++ F.data.toList).length (cellsB (pre ++ F.data.toList))) := by
        rw [cellsB_app, List.length_append]
        exact hown'
      have HB8 : Hid (Below W.heap.size W w8) := HB7.out.grown hgrow HB7.out.size (own_below hown)
      have HI8 : Hid ((pre ++ F.data.toList) ++ frames (recs s (k + 1) (l.ents.drop (k + 1))) = TOT) := by
        show _ = _
        rw [List.append_assoc, ← HNX.out]
        exact HI.out
      have HP8 : Hid ((pre ++ F.data.toList).length ≤ 141 * (k + 1 - from_)) := by
        show _ ≤ _
        have h1 := HLT.out
        have h2 : F.data.toList.length = F.size := rfl
        rw [List.length_append]
        omega
      clear hown hown' hgrow hcv
      go_wp2
      go_roundw
      case rel => exact ⟨k + 1, pre ++ F.data.toList, by omega, Or.inl (by omega), by go_num, HI8, HP8, HOW8, HB8⟩
      case measure => simp [intOf]; omega
    · have hk1 : ¬ (k : Int) < (l.ents.length : Int) := by omega
      have hcv := string_own HOW.out
      have HE : Hid (pre = TOT) := by
        show _ = _
        have := HI.out
        rw [List.drop_of_length_le (by omega)] at this
        simpa [recs, frames] using this
      clear hlt
      go_wp2
      go_ret
      exact ⟨by rw [HE.out]; rfl, HB.out.trans (HBW.out.mono HB.out.size)⟩
/-- What LogFile answers. -/
def fileTuple (l : LogL) : Value := if okL l = true ∧ (file l).length ≤ 20000 then .tuple #[.string ⟨(file l).toArray⟩, .bool true] else .tuple #[.string ⟨#[]⟩, .bool false]
theorem file_bytes (l : LogL) : headS l ++ ⟨(frames (recs l.start.toNat 0 (l.ents.drop 0))).toArray⟩ = ⟨(file l).toArray⟩ := by
  apply Batches.by_inj
  simp only [Batches.by_, ByteArray.data_append, Array.toList_append, headS, frameB_list, file, startS, List.drop_zero]
theorem file_len (l : LogL) (hok : okL l = true) : (frames (recs l.start.toNat 0 (l.ents.drop 0))).length ≤ 141 * 120 := by
  obtain ⟨hfit, hris⟩ := Logs.okL_iff.1 hok
  have hme : ∀ e ∈ l.ents, okB e = true := fun e he => (Logs.rises_mem _ _ hris e he).1
  obtain ⟨f0, f1, _, _, hn, hm⟩ := hfit
  have key : ∀ (es : List EntL) (k : Nat), (∀ e ∈ es, okB e = true) → l.start.toNat + k + es.length ≤ 100000 → (frames (recs l.start.toNat k es)).length ≤ 141 * es.length := by
    intro es
    induction es with
    | nil => intro k _ _; simp [recs, frames]
    | cons e r ih =>
      intro k h1 h2
      simp only [List.length_cons] at h2 ⊢
      have h3 := ih (k + 1) (fun x hx => h1 x (List.mem_cons_of_mem _ hx)) (by omega)
      have h4 := frame_small (text_small (i := l.start.toNat + 1 + k) (e := e) (by omega) (h1 e (List.mem_cons_self ..))).2
      have h5 := congrArg List.length (frameB_list (textS (l.start.toNat + 1 + k) e))
      have h6 : (frameB (textS (l.start.toNat + 1 + k) e)).data.toList.length = (frameB (textS (l.start.toNat + 1 + k) e)).size := rfl
      rw [h6] at h5
      simp only [recs, Logs.frames_cons, List.length_append]
      have h7 : (Words.frame (text (l.start.toNat + 1 + k) e)).length = (frameB (textS (l.start.toNat + 1 + k) e)).size := h5.symm
      omega
  rw [List.drop_zero]
  have := key l.ents 0 hme (by omega)
  omega
set_option maxHeartbeats 2000000 in
set_option maxRecDepth 100000 in
theorem specFile_is {a : Option Addr} {g off cap : Nat} (l : LogL) (hlen : l.ents.length ≤ 1048576) (hd : ∀ e ∈ l.ents, e.data.size ≤ 1048576) (w : World) (hf : EnAt w a g off l.ents) :
    Calls Tryz.prog 19 #[logV l a cap] w fun en w' => en = .returned (fileTuple l) ∧ Below w.heap.size w w' := by
  obtain ⟨W, hW⟩ : ∃ W, W = w.alloc (Obj.cells #[.int .i64 l.start, .int .i64 l.sterm, .slice a l.ents.length cap] 26) := ⟨_, rfl⟩
  have hb : Below w.heap.size w W := by rw [hW]; exact (Below.refl _ _).alloc (Nat.le_refl _) _
  have hla : LogAt W w.heap.size l a cap := by rw [hW]; exact LogAt.new w l a cap 26
  have HB : Hid (Below w.heap.size w W) := hb
  have HEN : Hid (∀ W', Below W.heap.size W W' → EnAt W' a g off l.ents) := fun W' h => (hf.kept hb).kept h
  obtain ⟨q, hqq⟩ : ∃ q, q = w.heap.size := ⟨_, rfl⟩
  have HLA : Hid (∀ W', Below W.heap.size W W' → W'.cell? ⟨q, 0, none⟩ = some (.int .i64 l.start) ∧ W'.cell? ⟨q, 1, none⟩ = some (.int .i64 l.sterm) ∧ W'.cell? ⟨q, 2, none⟩ = some (.slice a l.ents.length cap)) := fun W' h => by rw [hqq]; exact hla.kept h
  obtain ⟨O, hO⟩ : ∃ O, O = okL l := ⟨_, rfl⟩
  have HOK : Hid (∀ X, EnAt X a g off l.ents → Calls Tryz.prog 15 #[logV l a cap] X fun en w' => en = .returned (.bool O) ∧ Below X.heap.size X w') := fun X h => by rw [hO]; exact specLogOk_is l hlen hd X h
  obtain ⟨U, hU⟩ : ∃ U, U = fileTuple l := ⟨_, rfl⟩
  rw [← hU]
  have HU : Hid (U = if O = true ∧ (file l).length ≤ 20000 then .tuple #[.string ⟨(file l).toArray⟩, .bool true] else .tuple #[.string ⟨#[]⟩, .bool false]) := by show _ = _; rw [hU, hO]; rfl
  clear hU
  have HHE : Hid (O = true → ∀ X, Calls Tryz.prog 44 #[logV l a cap] X fun en w' => en = .returned (.string (headS l)) ∧ Below X.heap.size X w') := fun h X => specHead_is l (Logs.okL_iff.1 (by rw [← hO]; exact h)).1 X
  have HFR : Hid (O = true → ∀ X, EnAt X a g off l.ents → Calls Tryz.prog 32 #[logV l a cap, .int .i64 0] X fun en w' => en = .returned (.string ⟨(frames (recs l.start.toNat 0 (l.ents.drop 0))).toArray⟩) ∧ Below X.heap.size X w') := fun h X hx => specFrames_is l (by rw [← hO]; exact h) 0 X hx
  have HLE : Hid (O = true → (frames (recs l.start.toNat 0 (l.ents.drop 0))).length ≤ 141 * 120 ∧ (headS l).size ≤ 141) := fun h => by
    have hk : okL l = true := by rw [← hO]; exact h
    exact ⟨file_len l hk, frame_small (by have := startS_size l (Logs.okL_iff.1 hk).1; omega)⟩
  unfold logV at HOK HHE HFR ⊢
  clear hla hb hf hO hd
  cases O with
  | false =>
    have hU2 : U = .tuple #[.string ⟨#[]⟩, .bool false] := by rw [HU.out, if_neg (by simp)]
    subst hU2
    clear HU
    go_enter Tryz.func19, Tryz.ntmps19
    go_wp2_with fail
    rw [← hW]
    clear hW hqq
    refine Calls.mono (HOK.out _ (HEN.out _ (Below.refl _ _))) ?_
    rintro en w1 ⟨rfl, hb1⟩
    have HB1 : Hid (Below w.heap.size w w1) := HB.out.trans (hb1.mono HB.out.size)
    clear hb1
    go_wp2
    go_ret2
    exact ⟨rfl, HB1.out⟩
  | true =>
    obtain ⟨h1, h2⟩ := HLE.out rfl
    have HH1 : Hid (∀ X, Calls Tryz.prog 44 #[.agg #[.int .i64 l.start, .int .i64 l.sterm, .slice a l.ents.length cap]] X fun en w' => en = .returned (.string (headS l)) ∧ Below X.heap.size X w') := HHE.out rfl
    have HH2 : Hid (∀ X, EnAt X a g off l.ents → Calls Tryz.prog 32 #[.agg #[.int .i64 l.start, .int .i64 l.sterm, .slice a l.ents.length cap], .int .i64 0] X fun en w' => en = .returned (.string ⟨(frames (recs l.start.toNat 0 (l.ents.drop 0))).toArray⟩) ∧ Below X.heap.size X w') := HFR.out rfl
    have hfb := file_bytes l
    have h3 : (⟨(frames (recs l.start.toNat 0 (l.ents.drop 0))).toArray⟩ : ByteArray).size ≤ 141 * 120 := by show (frames (recs l.start.toNat 0 (l.ents.drop 0))).toArray.size ≤ _; simpa using h1
    obtain ⟨H, hH⟩ : ∃ H, H = headS l := ⟨_, rfl⟩
    obtain ⟨F, hF⟩ : ∃ F : ByteArray, F = ⟨(frames (recs l.start.toNat 0 (l.ents.drop 0))).toArray⟩ := ⟨_, rfl⟩
    rw [← hH] at HH1 hfb h2
    rw [← hF] at HH2 hfb h3
    have hsz : (H ++ F).size = (file l).length := by rw [hfb]; show (file l).toArray.size = _; simp
    have z1 : ¬ 9223372036854775807 < H.size + F.size := by omega
    have HFB : Hid (H ++ F = ⟨(file l).toArray⟩) := hfb
    have HSI : Hid (H.size + F.size = (file l).length) := by show _ = _; rw [← hsz]; simp
    have hbig : (file l).length ≤ 20000 := by have := HSI.out; omega
    have HU2 : Hid (U = .tuple #[.string ⟨(file l).toArray⟩, .bool true]) := by show _ = _; rw [HU.out, if_pos ⟨rfl, hbig⟩]
    have hb' : ¬ (20000 : Int) < (H.size : Int) + (F.size : Int) := by have := HSI.out; omega
    clear HLE HHE HFR hH hF h1 hfb hsz HU hbig
    have HK : Hid (∀ X X' : World, Below W.heap.size W X → Below X.heap.size X X' → Below W.heap.size W X') := fun X X' a b => a.trans (b.mono a.size)
    have HEND : Hid (∀ X, Below W.heap.size W X → Below w.heap.size w X) := fun X a => HB.out.trans (a.mono HB.out.size)
    go_enter Tryz.func19, Tryz.ntmps19
    go_wp2_with fail
    rw [← hW, ← hqq]
    clear hW hqq
    refine Calls.mono (HOK.out _ (HEN.out _ (Below.refl _ _))) ?_
    rintro en w1 ⟨rfl, hb1⟩
    have BD : Below W.heap.size W w1.drew := hb1.drew
    clear hb1 HOK
    go_wp2_with fail
    go_region_held (fun w' => (w'.cell? ⟨q, 0, none⟩ = some (.int .i64 l.start) ∧ w'.cell? ⟨q, 1, none⟩ = some (.int .i64 l.sterm) ∧ w'.cell? ⟨q, 2, none⟩ = some (.slice a l.ents.length cap)) ∧ Below W.heap.size W w')
      (first | assumption | exact ⟨HLA.out _ (by assumption), by assumption⟩ | fail)
      (first | (go_at_call 44; refine Calls.mono (HH1.out _) ?_; rintro en w5 ⟨rfl, hb5⟩; have hq5 := HK.out _ _ (And.right (by assumption)) hb5; clear hb5) | (go_at_call 32; refine Calls.mono (HH2.out _ (HEN.out _ (And.right (by assumption)))) ?_; rintro en w5 ⟨rfl, hb5⟩; have hq5 := HK.out _ _ (And.right (by assumption)) hb5; clear hb5) | fail)
    go_wp2
    go_ret2
    exact ⟨by rw [HU2.out, ← HFB.out]; rfl, HEND.out _ (And.right (by assumption))⟩
end Go.Proofs.YtahpoemmlpbgdaaGreat
