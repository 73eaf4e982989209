/- Plain facts: what the raw writes from one log to another leave of the log's file, whole or cut; no program is walked here. The specification's l03Room and CutRaws, walked; both CutRaws as one contract. -/
import Derived.Test.YtahpoemmlpbgdaaGreatMathLogs
import Derived.Test.YtahpoemmlpbgdaaGreatCut
namespace Go.Proofs.YtahpoemmlpbgdaaGreat
open Go.RowKit
open Logs (okL recs file)
open Disks (put drop textOf okB lt nameIs putRaw run cutDone whole cutAll room FileIs)
set_option linter.unusedVariables false
set_option linter.unusedSimpArgs false

theorem eq_ll : (nameLog.toList == nameLog.toList) = true := by decide +kernel
theorem eq_nn : (nameNew.toList == nameNew.toList) = true := by decide +kernel
theorem eq_ln : (nameLog.toList == nameNew.toList) = false := by decide +kernel
theorem lt_ll : lt nameLog nameLog = false := by decide +kernel
theorem lt_ln : lt nameLog nameNew = true := by decide +kernel
theorem gt_ll : Disks.gt nameLog nameLog = false := by decide +kernel
theorem gt_ln : Disks.gt nameLog nameNew = false := by decide +kernel
theorem sz_l : nameLog.size = 3 := rfl
theorem sz_n : nameNew.size = 4 := rfl
theorem put_log (F X : ByteArray) : put [(nameLog, F)] (nameLog, X) = [(nameLog, X)] := by simp [put, lt_ll, gt_ll]
theorem put_new (F X : ByteArray) : put [(nameLog, F)] (nameNew, X) = [(nameLog, F), (nameNew, X)] := by simp [put, lt_ln, gt_ln]
theorem drop_new (F X : ByteArray) : drop [(nameLog, F), (nameNew, X)] nameNew = [(nameLog, F)] := by simp [drop, nameIs, eq_ln, eq_nn]
theorem text_log (F : ByteArray) : textOf [(nameLog, F)] nameLog = F := by simp [textOf, nameIs, eq_ll]
theorem text_new (F X : ByteArray) : textOf [(nameLog, F), (nameNew, X)] nameNew = X := by simp [textOf, nameIs, eq_ln, eq_nn]
theorem ok_one {F : ByteArray} (h : F.size ≤ 20000) : okB [(nameLog, F)] = true := by
  simp [okB, Disks.okAtB, Disks.fileOkB, sz_l, h, List.range_succ]
theorem ok_two {F X : ByteArray} (h : F.size ≤ 20000) (h2 : X.size ≤ 20000) : okB [(nameLog, F), (nameNew, X)] = true := by
  simp [okB, Disks.okAtB, Disks.fileOkB, sz_l, sz_n, h, h2, lt_ln, List.range_succ]
theorem raw_add {F X : ByteArray} (h : F.size ≤ 20000) (h2 : F.size + X.size ≤ 20000) : putRaw [(nameLog, F)] ⟨2, nameLog, ⟨#[]⟩, X⟩ = some [(nameLog, F ++ X)] := by
  have e : Disks.rawOut [(nameLog, F)] ⟨2, nameLog, ⟨#[]⟩, X⟩ = [(nameLog, F ++ X)] := by simp [Disks.rawOut, text_log, put_log]
  unfold putRaw
  rw [e, if_pos]
  rw [ok_one (F := F ++ X) (by rw [ByteArray.size_append]; omega)]
  simp [Disks.goodB, ok_one h]
theorem raw_put {F X : ByteArray} (h : F.size ≤ 20000) (h2 : X.size ≤ 20000) : putRaw [(nameLog, F)] ⟨1, nameNew, ⟨#[]⟩, X⟩ = some [(nameLog, F), (nameNew, X)] := by
  have e : Disks.rawOut [(nameLog, F)] ⟨1, nameNew, ⟨#[]⟩, X⟩ = [(nameLog, F), (nameNew, X)] := by simp [Disks.rawOut, put_new]
  unfold putRaw
  rw [e, if_pos]
  rw [ok_two h h2]
  simp [Disks.goodB, ok_one h]
theorem raw_move {F X : ByteArray} (h : F.size ≤ 20000) (h2 : X.size ≤ 20000) : putRaw [(nameLog, F), (nameNew, X)] ⟨3, nameNew, nameLog, ⟨#[]⟩⟩ = some [(nameLog, X)] := by
  have e : Disks.rawOut [(nameLog, F), (nameNew, X)] ⟨3, nameNew, nameLog, ⟨#[]⟩⟩ = [(nameLog, X)] := by
    simp [Disks.rawOut, eq_ln, drop_new, text_new, put_log]
  unfold putRaw
  rw [e, if_pos]
  rw [ok_one h2]
  simp [Disks.goodB, ok_two h h2, nameIs, eq_ln, eq_nn]
theorem at_log1 (F : ByteArray) (h : F.size ≤ 20000) : FileIs [(nameLog, F)] nameLog (some F) :=
  ⟨(Disks.okB_iff _).1 (ok_one h), 0, by simp, ⟨by simp, by simp [nameIs, eq_ll], fun j hj => by omega⟩, rfl⟩
theorem at_log2 (F X : ByteArray) (h : F.size ≤ 20000) (h2 : X.size ≤ 20000) : FileIs [(nameLog, F), (nameNew, X)] nameLog (some F) :=
  ⟨(Disks.okB_iff _).1 (ok_two h h2), 0, by simp, ⟨by simp, by simp [nameIs, eq_ll], fun j hj => by omega⟩, rfl⟩
/-- What is told of a text of bytes. -/
def Tells (T : ByteArray) (x : LogL) : Prop := T.size ≤ 20000 ∧ ∃ e : Nat, RLIs (Words.un (T.size + 1) T.data.toList 0) (Words.stop (T.size + 1) T.data.toList 0) x e true
theorem fileB_size (l : LogL) : (fileB l).size = (file l).length := by show (file l).toArray.size = _; simp
theorem fileB_list (l : LogL) : (fileB l).data.toList = file l := by show (file l).toArray.toList = _; simp
theorem tells_file {l : LogL} (h : okL l = true) : Tells (fileB l) l := by
  refine ⟨by rw [fileB_size]; exact file_small h, (file l).length, ?_⟩
  have := file_back h ((fileB l).size + 1) (by rw [fileB_size]; omega)
  rw [fileB_list]
  exact this
theorem moreB_list (m : LogL) (k : Nat) : (moreB m k).data.toList = Words.frames (recs m.start.toNat k (m.ents.drop k)) := by
  show (Logs.frames (recs m.start.toNat k (m.ents.drop k))).toArray.toList = _
  rw [frames_same]
theorem moreB_size (m : LogL) (k : Nat) : (moreB m k).size = (Words.frames (recs m.start.toNat k (m.ents.drop k))).length := by
  rw [← moreB_list]; exact Array.length_toList.symm
/-- A log that may stand between two others. -/
def Mid (old now x : LogL) : Prop := okL x = true ∧ (x = old ∨ ∃ j, x = ⟨now.start, now.sterm, now.ents.take j⟩)
theorem mid_beh {old now : LogL} (h1 : okL old = true) (h2 : okL now = true) (k j : Nat) : Mid old now (behL old now k j) := by
  refine ⟨behL_ok h1 h2 k j, ?_⟩
  unfold behL
  split
  · exact Or.inl rfl
  · exact Or.inr ⟨_, rfl⟩
theorem tells_more {old now : LogL} {k : Nat} (h1 : okL old = true) (h2 : okL now = true) (hs : old.start = now.start ∧ old.sterm = now.sterm) (hk : SameN old.ents now.ents k) (hb : (fileB old).size + (moreB now k).size ≤ 20000) (pt : Nat) (hp : pt ≤ (moreB now k).size) :
    ∃ x, Mid old now x ∧ Tells (fileB old ++ (moreB now k).extract 0 pt) x ∧ (pt = (moreB now k).size → k < now.ents.length → x = now) := by
  have hex : ((moreB now k).extract 0 pt).data.toList = (moreB now k).data.toList.take pt := by
    rw [ByteArray.data_extract]; simp
  have hl : (fileB old ++ (moreB now k).extract 0 pt).data.toList = file old ++ (Words.frames (recs now.start.toNat k (now.ents.drop k))).take pt := by
    rw [app_list, fileB_list, hex, moreB_list]
  have hz : (fileB old ++ (moreB now k).extract 0 pt).size = (file old ++ (Words.frames (recs now.start.toNat k (now.ents.drop k))).take pt).length := by
    rw [← hl]; exact Array.length_toList.symm
  have hz2 : (file old ++ (Words.frames (recs now.start.toNat k (now.ents.drop k))).take pt).length = (fileB old).size + pt := by
    rw [List.length_append, List.length_take, ← fileB_size, ← moreB_size]; omega
  obtain ⟨j, hj, hr, hfull⟩ := more_back h1 h2 hs hk pt (by rw [← moreB_size]; exact hp) _ rfl ((fileB old ++ (moreB now k).extract 0 pt).size + 1) (by omega)
  refine ⟨behL old now k j, mid_beh h1 h2 k j, ⟨by omega, _, by rw [hl]; exact hr⟩, fun hpt hlt => ?_⟩
  have := hfull (by rw [← moreB_size]; exact hpt)
  unfold behL
  rw [if_neg (by omega), List.take_of_length_le (by omega)]
/-- The raw writes, done: what is left is a disk whose log tells the other log. -/
theorem steps_done {s : ByteArray} {old now : LogL} {k : Nat} {L : List RawL} (hs : s = fileB old) (h1 : okL old = true) (h2 : okL now = true) (hk : SameN old.ents now.ents k)
    (hL : (old = now ∧ L = []) ∨ (old ≠ now ∧ ((Behind s old now k ∧ L = [⟨2, nameLog, ⟨#[]⟩, moreB now k⟩]) ∨ (¬ Behind s old now k ∧ L = [⟨1, nameNew, ⟨#[]⟩, fileB now⟩, ⟨3, nameNew, nameLog, ⟨#[]⟩⟩])))) :
    ∃ d T, run [(nameLog, s)] L = (d, L.length) ∧ FileIs d nameLog (some T) ∧ Tells T now := by
  have hF := (tells_file h1).1
  have hN := (tells_file h2).1
  subst hs
  rcases hL with ⟨rfl, rfl⟩ | ⟨hne, ⟨hb, rfl⟩ | ⟨hb, rfl⟩⟩
  · exact ⟨_, _, rfl, at_log1 _ hF, tells_file h1⟩
  · obtain ⟨hst, hlt, hsz⟩ := hb
    obtain ⟨x, hm, ht, hx⟩ := tells_more h1 h2 hst hk hsz (moreB now k).size (Nat.le_refl _)
    rw [hx rfl hlt, ByteArray.extract_zero_size] at ht
    refine ⟨_, _, ?_, at_log1 _ ht.1, ht⟩
    rw [Disks.run_some (raw_add hF hsz)]
    rfl
  · refine ⟨_, _, ?_, at_log1 _ hN, tells_file h2⟩
    rw [Disks.run_some (raw_put hF hN), Disks.run_some (raw_move hF hN)]
    rfl
/-- The raw writes, cut anywhere: the log's file tells one that may stand between. -/
theorem steps_cut {s : ByteArray} {old now : LogL} {k : Nat} {L : List RawL} (hs : s = fileB old) (h1 : okL old = true) (h2 : okL now = true) (hk : SameN old.ents now.ents k)
    (hL : (old = now ∧ L = []) ∨ (old ≠ now ∧ ((Behind s old now k ∧ L = [⟨2, nameLog, ⟨#[]⟩, moreB now k⟩]) ∨ (¬ Behind s old now k ∧ L = [⟨1, nameNew, ⟨#[]⟩, fileB now⟩, ⟨3, nameNew, nameLog, ⟨#[]⟩⟩]))))
    (wh pt : Nat) (hw : wh ≤ L.length) (hp : pt ≤ room L wh) : ∃ d T x, cutAll [(nameLog, s)] L (wh : Int) (pt : Int) = some d ∧ FileIs d nameLog (some T) ∧ Tells T x ∧ Mid old now x := by
  have hF := (tells_file h1).1
  have hN := (tells_file h2).1
  have hmo : Mid old now old := ⟨h1, Or.inl rfl⟩
  have hmn : Mid old now now := ⟨h2, Or.inr ⟨now.ents.length, by rw [List.take_length]⟩⟩
  subst hs
  have hL60 : L.length ≤ 60 := by rcases hL with ⟨_, rfl⟩ | ⟨_, ⟨_, rfl⟩ | ⟨_, rfl⟩⟩ <;> simp
  have hin : Disks.cutIn [(nameLog, fileB old)] L (wh : Int) (pt : Int) := ⟨(Disks.okB_iff _).1 (ok_one hF), hL60, ⟨by omega, by omega⟩, ⟨by omega, by simpa using hp⟩⟩
  rw [Disks.cutAll_in hin]
  simp only [Int.toNat_natCast]
  rcases hL with ⟨rfl, rfl⟩ | ⟨hne, ⟨hb, rfl⟩ | ⟨hb, rfl⟩⟩
  · have hw0 : wh = 0 := by simpa using hw
    subst hw0
    exact ⟨_, _, old, by simp [cutDone, whole, run], at_log1 _ hF, tells_file h1, hmo⟩
  · obtain ⟨hst, hlt, hsz⟩ := hb
    have hwc : wh = 0 ∨ wh = 1 := by simp at hw; omega
    rcases hwc with rfl | rfl
    · have hroom : room [(⟨2, nameLog, ⟨#[]⟩, moreB now k⟩ : RawL)] 0 = (moreB now k).size := by simp [room, Disks.part]
      rw [hroom] at hp
      by_cases hp0 : 0 < pt
      · obtain ⟨x, hm, ht, _⟩ := tells_more h1 h2 hst hk hsz pt hp
        have hcd : cutDone [(⟨2, nameLog, ⟨#[]⟩, moreB now k⟩ : RawL)] 0 pt = [⟨2, nameLog, ⟨#[]⟩, (moreB now k).extract 0 pt⟩] := by simp [cutDone, hp0, Disks.begin]
        have hxs : ((moreB now k).extract 0 pt).size = pt := by rw [ByteArray.size_extract]; omega
        refine ⟨_, _, x, ?_, at_log1 _ ht.1, ht, hm⟩
        rw [hcd]
        unfold whole
        rw [Disks.run_some (raw_add hF (by omega))]
        rfl
      · have hcd : cutDone [(⟨2, nameLog, ⟨#[]⟩, moreB now k⟩ : RawL)] 0 pt = [] := by simp [cutDone, hp0]
        rw [hcd]
        exact ⟨_, _, old, rfl, at_log1 _ hF, tells_file h1, hmo⟩
    · have hcd : cutDone [(⟨2, nameLog, ⟨#[]⟩, moreB now k⟩ : RawL)] 1 pt = [⟨2, nameLog, ⟨#[]⟩, moreB now k⟩] := by simp [cutDone]
      obtain ⟨x, hm, ht, hx⟩ := tells_more h1 h2 hst hk hsz (moreB now k).size (Nat.le_refl _)
      rw [ByteArray.extract_zero_size] at ht
      refine ⟨_, _, x, ?_, at_log1 _ ht.1, ht, hm⟩
      rw [hcd]
      unfold whole
      rw [Disks.run_some (raw_add hF hsz)]
      rfl
  · have hwc : wh = 0 ∨ wh = 1 ∨ wh = 2 := by simp at hw; omega
    rcases hwc with rfl | rfl | rfl
    · have hroom : room [(⟨1, nameNew, ⟨#[]⟩, fileB now⟩ : RawL), ⟨3, nameNew, nameLog, ⟨#[]⟩⟩] 0 = (fileB now).size := by simp [room, Disks.part]
      rw [hroom] at hp
      by_cases hp0 : 0 < pt
      · have hcd : cutDone [(⟨1, nameNew, ⟨#[]⟩, fileB now⟩ : RawL), ⟨3, nameNew, nameLog, ⟨#[]⟩⟩] 0 pt = [⟨1, nameNew, ⟨#[]⟩, (fileB now).extract 0 pt⟩] := by simp [cutDone, hp0, Disks.begin]
        have hxs : ((fileB now).extract 0 pt).size = pt := by rw [ByteArray.size_extract]; omega
        refine ⟨_, _, old, ?_, at_log2 _ ((fileB now).extract 0 pt) hF (by omega), tells_file h1, hmo⟩
        rw [hcd]
        unfold whole
        rw [Disks.run_some (raw_put hF (by omega))]
        rfl
      · have hcd : cutDone [(⟨1, nameNew, ⟨#[]⟩, fileB now⟩ : RawL), ⟨3, nameNew, nameLog, ⟨#[]⟩⟩] 0 pt = [] := by simp [cutDone, hp0]
        rw [hcd]
        exact ⟨_, _, old, rfl, at_log1 _ hF, tells_file h1, hmo⟩
    · have hroom : room [(⟨1, nameNew, ⟨#[]⟩, fileB now⟩ : RawL), ⟨3, nameNew, nameLog, ⟨#[]⟩⟩] 1 = 0 := by simp [room, Disks.part]
      have hp0 : ¬ 0 < pt := by omega
      have hcd : cutDone [(⟨1, nameNew, ⟨#[]⟩, fileB now⟩ : RawL), ⟨3, nameNew, nameLog, ⟨#[]⟩⟩] 1 pt = [⟨1, nameNew, ⟨#[]⟩, fileB now⟩] := by simp [cutDone, hp0]
      refine ⟨_, _, old, ?_, at_log2 _ (fileB now) hF hN, tells_file h1, hmo⟩
      rw [hcd]
      unfold whole
      rw [Disks.run_some (raw_put hF hN)]
      rfl
    · have hcd : cutDone [(⟨1, nameNew, ⟨#[]⟩, fileB now⟩ : RawL), ⟨3, nameNew, nameLog, ⟨#[]⟩⟩] 2 pt = [⟨1, nameNew, ⟨#[]⟩, fileB now⟩, ⟨3, nameNew, nameLog, ⟨#[]⟩⟩] := by simp [cutDone]
      refine ⟨_, _, now, ?_, at_log1 _ hN, tells_file h2, hmn⟩
      rw [hcd]
      unfold whole
      rw [Disks.run_some (raw_put hF hN), Disks.run_some (raw_move hF hN)]
      rfl
end Go.Proofs.YtahpoemmlpbgdaaGreat
namespace Go.Proofs.YtahpoemmlpbgdaaGreat
open Go.RowKit
set_option linter.unusedVariables false

theorem two_0 (w : World) (x y : Obj) : ((w.alloc x).alloc y).heap[w.heap.size]? = some x := by
  rw [Below.heap_alloc _ _ _ (by simp)]; exact heap_alloc_new w x
theorem two_1 (w : World) (x y : Obj) : ((w.alloc x).alloc y).heap[w.heap.size + 1]? = some y := by
  have := heap_alloc_new (w.alloc x) y
  simpa using this
/-- A disk's variable and a result's: two blocks. -/
structure ResAt (h : Nat) (D : Value) (W : World) : Prop where
  d : W.heap[h]? = some (.cells #[D] 41 (0, 0))
  res : W.heap[h + 1]? = some (.cells #[.slice none 0 0] 41 (0, 0))
theorem ResAt.lt {h : Nat} {D : Value} {W : World} (p : ResAt h D W) : h + 1 < W.heap.size := (Array.getElem?_eq_some_iff.1 p.res).1
theorem ResAt.kept {h : Nat} {D : Value} {W W' : World} (p : ResAt h D W) (hb : Below W.heap.size W W') : ResAt h D W' := by
  have := p.lt
  exact ⟨(hb.block h (by omega)).trans p.d, (hb.block (h + 1) this).trans p.res⟩
theorem ResAt.cr {h : Nat} {D : Value} {W : World} (p : ResAt h D W) : W.cell? ⟨h + 1, 0, none⟩ = some (.slice none 0 0) := cell_of_row _ _ 0 _ _ _ p.res
theorem ResAt.cd {h : Nat} {D : Value} {W : World} (p : ResAt h D W) : W.cell? ⟨h, 0, none⟩ = some D := cell_of_row _ _ 0 _ _ _ p.d
theorem ResAt.fr {h : Nat} {D : Value} {W : World} (p : ResAt h D W) : W.frozen? ⟨h + 1, 0, none⟩ = false := frozen_of_row _ _ _ _ _ p.res
theorem res_start (w : World) (D : Value) : ∃ W1, W1 = (w.alloc (Obj.cells #[D] 41)).alloc (Obj.cells #[Value.slice none 0 0] 41) ∧ ResAt w.heap.size D W1 ∧ Below w.heap.size w W1 :=
  ⟨_, rfl, ⟨two_0 w _ _, two_1 w _ _⟩, ((Below.refl _ _).alloc (Nat.le_refl _) _).alloc (by simp) _⟩

set_option maxHeartbeats 1000000 in
set_option maxRecDepth 100000 in
theorem l03Room_is {a : Option Addr} {g off cap : Nat} (rs : List Disks.RawL) (hlen : rs.length ≤ 1048576) (hsz : ∀ r ∈ rs, smallRaw 1048576 r) (wh : Nat) (hw : wh ≤ rs.length) (w : World) (hf : RawsAt w a g off rs) :
    Calls Tryz.prog 74 #[.slice a rs.length cap, .int .i64 (wh : Int)] w fun e w' => e = .returned (.int .i64 (Disks.room rs wh : Int)) ∧ w = w' := by
  have HF : Hid (RawsAt w a g off rs) := hf
  have HS : Hid (∀ r ∈ rs, smallRaw 1048576 r) := hsz
  clear hf hsz
  by_cases h0 : wh < rs.length
  · obtain ⟨c0, c1, c2, c3⟩ := HF.out.2 wh h0
    have ea := HF.out.1 (by omega)
    subst ea
    have hs := (HS.out rs[wh] (List.getElem_mem _)).2.2
    obtain ⟨K, hK⟩ : ∃ K, K = rs[wh].kind := ⟨_, rfl⟩
    obtain ⟨X, hX⟩ : ∃ X, X = rs[wh].text := ⟨_, rfl⟩
    have HR : Hid (Disks.room rs wh = if 1 ≤ K ∧ K ≤ 2 then X.size else 0) := by show _ = _; rw [Disks.room_at h0, hK, hX]; rfl
    rw [← hK] at c0
    rw [← hX] at c3 hs
    clear hK hX
    have hw0 : (0 : Int) ≤ (wh : Int) := by omega
    have hw1 : (wh : Int) < (rs.length : Int) := by omega
    have hb : decide ((rs.length : Int) ≤ (wh : Int)) = false := decide_eq_false (by omega)
    have hbn : decide (rs.length ≤ wh) = false := decide_eq_false (by omega)
    by_cases k1 : 2 < K
    · have hk1 : decide (2 < K) = true := decide_eq_true k1
      have HZ : Hid (Disks.room rs wh = 0) := by show _ = _; rw [HR.out, if_neg (by omega)]
      go_enter Tryz.func74, Tryz.ntmps74
      go_wp2
      go_ret
      exact ⟨by rw [HZ.out]; rfl, rfl⟩
    · have hk1 : decide (2 < K) = false := decide_eq_false k1
      by_cases k2 : K < 1
      · have hk2 : decide (K < 1) = true := decide_eq_true k2
        have HZ : Hid (Disks.room rs wh = 0) := by show _ = _; rw [HR.out, if_neg (by omega)]
        go_enter Tryz.func74, Tryz.ntmps74
        go_wp2
        go_ret
        exact ⟨by rw [HZ.out]; rfl, rfl⟩
      · have hk2 : decide (K < 1) = false := decide_eq_false k2
        have HZ : Hid (Disks.room rs wh = X.size) := by show _ = _; rw [HR.out, if_pos (by omega)]
        go_enter Tryz.func74, Tryz.ntmps74
        go_wp2
        go_ret
        exact ⟨by rw [HZ.out]; rfl, rfl⟩
  · have hb : decide ((rs.length : Int) ≤ (wh : Int)) = true := decide_eq_true (by omega)
    have hbn : decide (rs.length ≤ wh) = true := decide_eq_true (by omega)
    have HZ : Hid (Disks.room rs wh = 0) := by show _ = _; unfold Disks.room; rw [List.getElem?_eq_none (by omega)]
    go_enter Tryz.func74, Tryz.ntmps74
    go_wp2
    go_ret
    exact ⟨by rw [HZ.out]; rfl, rfl⟩
end Go.Proofs.YtahpoemmlpbgdaaGreat
