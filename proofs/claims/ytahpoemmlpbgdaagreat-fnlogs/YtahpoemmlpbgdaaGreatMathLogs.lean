/- Plain facts of files of logs: a log comes back from its file; frames put behind take the place of others; cut anywhere, what is told is a beginning. No program is walked here. -/
import Derived.Test.YtahpoemmlpbgdaaGreatMarkA
import Derived.Test.YtahpoemmlpbgdaaGreatImplSteps2
namespace Go.Proofs.YtahpoemmlpbgdaaGreat
open Logs (okL Fits recs startT file rises)
open Ents (okB)
open Batches (by_)
set_option linter.unusedVariables false

theorem frames_same : ∀ ts : List (List UInt8), Logs.frames ts = Words.frames ts
  | [] => rfl
  | t :: ts => by rw [Logs.frames_cons, Words.frames, frames_same ts]
theorem by_tx (p : List UInt8) : by_ (tx p) = p := by simp [by_, tx]
theorem head_start {t : ByteArray} {i j : Nat} (h : Begins t i j) : (by_ t).head? = some 83 := by rw [h.1]; rfl
/-- An entry's record is no start, and tells its entry. -/
theorem st_ent (i : Nat) (e : EntL) : StIs (tx (Ents.text i e)) 0 0 false :=
  Or.inr ⟨fun i' j' h => by have h1 := head_start h; rw [by_tx] at h1; simp [Ents.text] at h1, rfl, rfl, rfl⟩
theorem re_ent {i : Nat} {e : EntL} (ho : okB e = true) (h1 : 1 ≤ i) (h2 : i ≤ 100000) : REIs (tx (Ents.text i e)) i e true :=
  Or.inl ⟨⟨by_tx _, ho, by omega, by omega⟩, rfl⟩
theorem reads_ents {s : Nat} {st : Int} {rest : List (List UInt8)} {r : Option LogL} : ∀ (es : List EntL) (k : Nat) (pre : List EntL), k ≤ pre.length → (∀ e ∈ es, okB e = true) → s + k + es.length ≤ 100000 →
    Reads12 rest false ⟨(s : Int), st, if es = [] then pre else pre.take k ++ es⟩ r → Reads12 (recs s k es ++ rest) false ⟨(s : Int), st, pre⟩ r
  | [], k, pre, _, _, _, h => by simpa [recs] using h
  | e :: es, k, pre, hk, ho, hl, h => by
    simp only [recs, List.cons_append]
    simp only [List.length_cons] at hl
    refine ⟨0, 0, false, s + 1 + k, e, true, st_ent _ _, re_ent (ho e List.mem_cons_self) (by omega) (by omega), Or.inr (Or.inl ⟨rfl, ⟨rfl, rfl, ?_, ?_⟩, ?_⟩)⟩
    · show (s : Int) < ((s + 1 + k : Nat) : Int); omega
    · show ((s + 1 + k : Nat) : Int) ≤ (s : Int) + (pre.length : Int) + 1; omega
    · have e1 : put12 ⟨(s : Int), st, pre⟩ (s + 1 + k) e = ⟨(s : Int), st, pre.take k ++ [e]⟩ := by
        unfold put12
        have e2 : (((s + 1 + k : Nat) : Int) - (s : Int) - 1).toNat = k := by omega
        simp only [e2]
      rw [e1]
      refine reads_ents es (k + 1) (pre.take k ++ [e]) (by rw [List.length_append, List.length_take]; simp; omega) (fun x hx => ho x (List.mem_cons_of_mem _ hx)) (by omega) ?_
      have e3 : (if es = [] then pre.take k ++ [e] else (pre.take k ++ [e]).take (k + 1) ++ es) = pre.take k ++ e :: es := by
        have hl2 : (pre.take k ++ [e]).length = k + 1 := by rw [List.length_append, List.length_take]; simp; omega
        rw [List.take_of_length_le (l := pre.take k ++ [e]) (by omega)]
        by_cases hn : es = []
        · subst hn; rw [if_pos rfl]
        · rw [if_neg hn, List.append_assoc]; rfl
      rw [e3]
      simpa using h
/-- The records of a file: a start, the entries, and entries behind them from a place on. -/
def recsOf (l : LogL) (k : Nat) (es : List EntL) : List (List UInt8) := startT l :: (recs l.start.toNat 0 l.ents ++ recs l.start.toNat k es)
theorem reads_all {l : LogL} {k : Nat} {es : List EntL} (h : okL l = true) (hk : k ≤ l.ents.length) (ho : ∀ e ∈ es, okB e = true) (hl : l.start + (k : Int) + (es.length : Int) ≤ 100000) :
    Reads12 (recsOf l k es) true ⟨0, 0, []⟩ (some ⟨l.start, l.sterm, if es = [] then l.ents else l.ents.take k ++ es⟩) := by
  obtain ⟨⟨s0, s1, t0, t1, n, m⟩, hr⟩ := Logs.okL_iff.1 h
  obtain ⟨n0, e0, Q0, h0⟩ := re_ex (tx (startT l))
  have hs : ((l.start.toNat : Nat) : Int) = l.start := Int.toNat_of_nonneg s0
  have ht : ((l.sterm.toNat : Nat) : Int) = l.sterm := Int.toNat_of_nonneg t0
  refine ⟨l.start.toNat, l.sterm.toNat, true, n0, e0, Q0, Or.inl ⟨⟨by rw [by_tx]; rfl, by omega, by omega⟩, rfl⟩, h0, Or.inl ⟨rfl, ?_⟩⟩
  rw [ht]
  refine reads_ents l.ents 0 [] (Nat.le_refl _) (fun e he => (Logs.rises_mem _ _ hr e he).1) (by omega) ?_
  have e1 : (if l.ents = [] then ([] : List EntL) else ([] : List EntL).take 0 ++ l.ents) = l.ents := by
    by_cases hn : l.ents = []
    · rw [if_pos hn, hn]
    · rw [if_neg hn]; simp
  rw [e1]
  have h2 := reads_ents (s := l.start.toNat) (st := l.sterm) (rest := []) (r := some ⟨l.start, l.sterm, if es = [] then l.ents else l.ents.take k ++ es⟩) es k l.ents hk ho (by omega) (by rw [hs]; rfl)
  simpa using h2
/-- Records that a frame can hold. -/
theorem rec_small {i : Nat} {e : EntL} (hi : i ≤ 100000) (he : okB e = true) : Words.okRec (Ents.text i e) := by
  have h := text_small hi he
  have e1 : (Ents.textS i e).size = (Ents.text i e).length := by show (Ents.text i e).toArray.size = _; simp
  unfold Words.okRec
  omega
theorem recs_ok {s : Nat} : ∀ (es : List EntL) (k : Nat), (∀ e ∈ es, okB e = true) → s + k + es.length ≤ 100000 → ∀ t ∈ recs s k es, Words.okRec t
  | [], k, _, _, t, ht => by simp [recs] at ht
  | e :: es, k, ho, hl, t, ht => by
    simp only [List.length_cons] at hl
    simp only [recs, List.mem_cons] at ht
    rcases ht with rfl | ht
    · exact rec_small (by omega) (ho e List.mem_cons_self)
    · exact recs_ok es (k + 1) (fun x hx => ho x (List.mem_cons_of_mem _ hx)) (by omega) t ht
theorem start_ok {l : LogL} (h : okL l = true) : Words.okRec (startT l) := by
  have h1 := startS_size l (Logs.okL_iff.1 h).1
  have e1 : (startS l).size = (startT l).length := by show (startT l).toArray.size = _; simp
  unfold Words.okRec
  omega
theorem all_ok {l : LogL} {k : Nat} {es : List EntL} (h : okL l = true) (hk : k ≤ l.ents.length) (ho : ∀ e ∈ es, okB e = true) (hl : l.start + (k : Int) + (es.length : Int) ≤ 100000) : ∀ t ∈ recsOf l k es, Words.okRec t := by
  obtain ⟨⟨s0, s1, t0, t1, n, m⟩, hr⟩ := Logs.okL_iff.1 h
  intro t ht
  rcases List.mem_cons.1 ht with rfl | ht
  · exact start_ok h
  · rcases List.mem_append.1 ht with ht | ht
    · exact recs_ok l.ents 0 (fun e he => (Logs.rises_mem _ _ hr e he).1) (by omega) t ht
    · exact recs_ok es k ho (by omega) t ht
theorem recs_len (s : Nat) : ∀ (es : List EntL) (k : Nat), (recs s k es).length = es.length
  | [], k => rfl
  | e :: es, k => by simp [recs, recs_len s es (k + 1)]
theorem recs_take (s : Nat) : ∀ (es : List EntL) (k m : Nat), (recs s k es).take m = recs s k (es.take m)
  | [], k, m => by simp [recs]
  | e :: es, k, 0 => by simp [recs]
  | e :: es, k, m + 1 => by simp [recs, recs_take s es (k + 1) m]
theorem file_frames (l : LogL) : file l = Words.frames (startT l :: recs l.start.toNat 0 l.ents) := by
  unfold file
  rw [frames_same]; rfl
theorem words_frames_app : ∀ (a b : List (List UInt8)), Words.frames (a ++ b) = Words.frames a ++ Words.frames b
  | [], b => rfl
  | x :: a, b => by simp [Words.frames, words_frames_app a b]
theorem frames_all (l : LogL) (k : Nat) (es : List EntL) : Words.frames (recsOf l k es) = file l ++ Words.frames (recs l.start.toNat k es) := by
  rw [file_frames, ← words_frames_app]; rfl
theorem frames_mono (ts : List (List UInt8)) {i j : Nat} (h : i ≤ j) : (Words.frames (ts.take i)).length ≤ (Words.frames (ts.take j)).length := by
  have e : ts.take i = (ts.take j).take i := by rw [List.take_take, Nat.min_eq_left h]
  rw [e]; exact Words.frames_take _ _
/-- The records that are told of a log's file with a beginning of more frames behind it. -/
theorem un_cut {l : LogL} {k : Nat} {es : List EntL} (h : okL l = true) (hk : k ≤ l.ents.length) (ho : ∀ e ∈ es, okB e = true) (hl : l.start + (k : Int) + (es.length : Int) ≤ 100000) (pt : Nat) (hp : pt ≤ (Words.frames (recs l.start.toNat k es)).length) (F : List UInt8) (hF : F = file l ++ (Words.frames (recs l.start.toNat k es)).take pt) (f : Nat) (hf : F.length < f) :
    ∃ m, m ≤ es.length ∧ Words.un f F 0 = recsOf l k (es.take m) ∧ (pt = (Words.frames (recs l.start.toNat k es)).length → m = es.length ∧ Words.stop f F 0 = F.length) := by
  have hlen := congrArg List.length (frames_all l k es)
  rw [List.length_append] at hlen
  have hFl : F.length = (file l).length + pt := by rw [hF, List.length_append, List.length_take]; omega
  have hFt : F = (Words.frames (recsOf l k es)).take ((file l).length + pt) := by
    rw [frames_all, List.take_append, List.take_of_length_le (by omega), hF]
    congr 2
    omega
  obtain ⟨m, h1, h2, h3, h4, h5⟩ := Words.cut_frames (recsOf l k es) [] ((file l).length + pt) f (all_ok h hk ho hl) (by omega) (by omega)
  simp only [List.nil_append, List.length_nil, Nat.zero_add] at h2 h3
  rw [← hFt] at h2 h3
  have hrl : (recsOf l k es).length = l.ents.length + 1 + es.length := by simp [recsOf, recs_len]; omega
  have hbeg : (recsOf l k es).take (l.ents.length + 1) = startT l :: recs l.start.toNat 0 l.ents := by
    unfold recsOf
    rw [List.take_succ_cons, List.take_left' (recs_len _ _ _)]
  have hfl : (Words.frames ((recsOf l k es).take (l.ents.length + 1))).length = (file l).length := by rw [hbeg, ← file_frames]
  have hm : l.ents.length + 1 ≤ m := by
    rcases Nat.lt_or_ge m (l.ents.length + 1) with hlt | hge
    · rcases h5 with h5 | h5
      · omega
      · have := frames_mono (recsOf l k es) (show m + 1 ≤ l.ents.length + 1 by omega)
        omega
    · exact hge
  have htk : (recsOf l k es).take m = recsOf l k (es.take (m - (l.ents.length + 1))) := by
    obtain ⟨m', rfl⟩ : ∃ m', m = l.ents.length + 1 + m' := ⟨m - (l.ents.length + 1), by omega⟩
    have e1 : l.ents.length + 1 + m' - (l.ents.length + 1) = m' := by omega
    rw [e1]
    unfold recsOf
    have e2 : l.ents.length + 1 + m' = (l.ents.length + m') + 1 := by omega
    rw [e2, List.take_succ_cons, List.take_append, List.take_of_length_le (by rw [recs_len]; omega), recs_len]
    have e3 : l.ents.length + m' - l.ents.length = m' := by omega
    rw [e3, recs_take]
  refine ⟨m - (l.ents.length + 1), by omega, by rw [h2, htk], fun hpt => ?_⟩
  have hmm : m = (recsOf l k es).length := by
    rcases h5 with h5 | h5
    · exact h5
    · have := Words.frames_take (recsOf l k es) (m + 1)
      omega
  refine ⟨by omega, ?_⟩
  rw [h3, hmm, List.take_length]
  omega
/-- What the log is behind a beginning of the frames that make it another one. -/
def behL (old now : LogL) (at_ j : Nat) : LogL := if j = 0 then old else ⟨now.start, now.sterm, now.ents.take (at_ + j)⟩
theorem rises_take2 : ∀ (es : List EntL) (k : Nat) (s : Int), rises s es = true → rises s (es.take k) = true
  | [], k, s, _ => by simp [rises]
  | x :: r, 0, s, _ => by simp [rises]
  | x :: r, k + 1, s, h => by
    simp only [rises, List.take_succ_cons, Bool.and_eq_true, decide_eq_true_eq] at h ⊢
    exact ⟨h.1, rises_take2 r k _ h.2⟩
theorem behL_ok {old now : LogL} (h1 : okL old = true) (h2 : okL now = true) (at_ j : Nat) : okL (behL old now at_ j) = true := by
  unfold behL
  split
  · exact h1
  · obtain ⟨⟨s0, s1, t0, t1, n, m⟩, hr⟩ := Logs.okL_iff.1 h2
    rw [Logs.okL_iff]
    have hl : (now.ents.take (at_ + j)).length ≤ now.ents.length := by rw [List.length_take]; omega
    exact ⟨⟨s0, s1, t0, t1, by show (now.ents.take (at_ + j)).length ≤ 120; omega, by show now.start + ((now.ents.take (at_ + j)).length : Int) ≤ 100000; omega⟩, rises_take2 _ _ _ hr⟩
theorem sameN_take {l m : List EntL} {k : Nat} (h : SameN l m k) : l.take k = m.take k := by
  obtain ⟨h1, h2, h3, _⟩ := h
  apply List.ext_getElem
  · rw [List.length_take, List.length_take]; omega
  · intro i hi1 hi2
    rw [List.getElem_take, List.getElem_take]
    rw [List.length_take] at hi1 hi2
    exact h3 i (by omega) (by omega) (by omega)
theorem split_take (m : List EntL) (k j : Nat) : m.take k ++ (m.drop k).take j = m.take (k + j) := (List.take_add).symm
/-- A log comes back from its file. -/
theorem file_back {l : LogL} (h : okL l = true) (f : Nat) (hf : (file l).length < f) : RLIs (Words.un f (file l) 0) (Words.stop f (file l) 0) l (file l).length true := by
  have hfit := (Logs.okL_iff.1 h).1
  obtain ⟨m, h1, h2, h3⟩ := un_cut (l := l) (k := 0) (es := []) h (Nat.zero_le _) (fun e he => (List.not_mem_nil he).elim) (by have := hfit.s1; simp; omega) 0 (Nat.zero_le _) (file l) (by simp) f hf
  obtain ⟨_, h4⟩ := h3 rfl
  have hr := reads_all (l := l) (k := 0) (es := ([] : List EntL).take m) h (Nat.zero_le _) (fun e he => by simp at he) (by have := hfit.s1; simp; omega)
  rw [← h2] at hr
  refine ⟨_, hr, Or.inl ⟨_, rfl, ?_, ?_, ?_, h4.symm, rfl⟩⟩
  · rw [h2]; simp [recsOf]
  · simpa using h
  · simp
/-- What is told of a log's file with a beginning of the frames behind it that make it another one. -/
theorem more_back {old now : LogL} {k : Nat} (h1 : okL old = true) (h2 : okL now = true) (hs : old.start = now.start ∧ old.sterm = now.sterm) (hk : SameN old.ents now.ents k) (pt : Nat) (hp : pt ≤ (Words.frames (recs now.start.toNat k (now.ents.drop k))).length) (F : List UInt8) (hF : F = file old ++ (Words.frames (recs now.start.toNat k (now.ents.drop k))).take pt) (f : Nat) (hf : F.length < f) :
    ∃ j, j ≤ now.ents.length - k ∧ RLIs (Words.un f F 0) (Words.stop f F 0) (behL old now k j) (Words.stop f F 0) true ∧ (pt = (Words.frames (recs now.start.toNat k (now.ents.drop k))).length → j = now.ents.length - k) := by
  obtain ⟨⟨s0, s1, t0, t1, n, m0⟩, hr2⟩ := Logs.okL_iff.1 h2
  obtain ⟨k1, k2, _, _⟩ := id hk
  have ho : ∀ e ∈ now.ents.drop k, okB e = true := fun e he => (Logs.rises_mem _ _ hr2 e (List.mem_of_mem_drop he)).1
  have hdl : (now.ents.drop k).length = now.ents.length - k := List.length_drop ..
  have hl : old.start + (k : Int) + ((now.ents.drop k).length : Int) ≤ 100000 := by rw [hs.1, hdl]; omega
  rw [← hs.1] at hp hF
  obtain ⟨m, e1, e2, e3⟩ := un_cut (l := old) (k := k) (es := now.ents.drop k) h1 k1 ho hl pt hp F hF f hf
  have ho2 : ∀ e ∈ (now.ents.drop k).take m, okB e = true := fun e he => ho e (List.mem_of_mem_take he)
  have hr := reads_all (l := old) (k := k) (es := (now.ents.drop k).take m) h1 k1 ho2 (by rw [List.length_take]; omega)
  have hx : (⟨old.start, old.sterm, if (now.ents.drop k).take m = [] then old.ents else old.ents.take k ++ (now.ents.drop k).take m⟩ : LogL) = behL old now k m := by
    unfold behL
    by_cases hm : m = 0
    · subst hm; simp
    · rw [if_neg hm]
      by_cases hn : (now.ents.drop k).take m = []
      · have hz : now.ents.length - k = 0 := by
          have := congrArg List.length hn
          rw [List.length_take, hdl] at this
          simp at this
          omega
        omega
      · rw [if_neg hn, sameN_take hk, split_take, hs.1, hs.2]
  rw [hx, ← e2] at hr
  refine ⟨m, by omega, ⟨_, hr, Or.inl ⟨_, rfl, ?_, behL_ok h1 h2 k m, rfl, rfl, rfl⟩⟩, fun hpt => ?_⟩
  · rw [e2]; simp [recsOf]
  · rw [← hs.1] at hpt
    have := (e3 hpt).1
    omega
end Go.Proofs.YtahpoemmlpbgdaaGreat
