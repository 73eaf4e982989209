/- Plain facts: records come back from their frames; of frames that are cut anywhere just the whole ones do; no program is named here. -/
import Derived.Test.YtahpoemmlpbgdaaDoorMathB
namespace Go.Proofs.YtahpoemmlpbgdaaDoor.Words

theorem var_cut : ∀ (f n k acc j : Nat), j < (var n).length → rdF f ((var n).take j) k acc = none
  | 0, _, _, _, _, _ => rfl
  | f + 1, n, k, acc, 0, _ => by simp [rdF]
  | f + 1, n, k, acc, j + 1, h => by
    by_cases hn : n ≤ 127
    · rw [var_small n hn] at h; simp at h
    · rw [var_big n (by omega)] at h ⊢
      have e : (UInt8.ofNat (n % 128 + 128)).toNat = n % 128 + 128 := ofNat_toNat _ (by omega)
      rw [List.take_succ_cons, rdF, e, if_neg (by omega)]
      exact var_cut f (n / 128) (k + 1) _ j (by simpa using h)
theorem rd_cut (n j : Nat) (p : List UInt8) (h : j < (var n).length) : rd (p ++ (var n).take j) p.length = none := by
  unfold rd
  rw [List.drop_left, var_cut 5 n 0 0 j h]; rfl
theorem frame_len (t : List UInt8) : (frame t).length = (var t.length).length + 4 + t.length := by
  simp [frame, Sums.four_len]; omega
theorem frame_split (t r : List UInt8) : frame t ++ r = var t.length ++ (Sums.four (Sums.sumOf t) ++ (t ++ r)) := by simp [frame]
def okRec (t : List UInt8) : Prop := 1 ≤ t.length ∧ t.length ≤ 9000
theorem fr_back {t : List UInt8} (h : okRec t) (p r : List UInt8) : fr (p ++ (frame t ++ r)) p.length = some (t, p.length + (frame t).length) := by
  have hr := rd_back t.length (by have := h.2; omega) p (Sums.four (Sums.sumOf t) ++ (t ++ r))
  rw [← frame_split] at hr
  have hf : fit (p ++ (frame t ++ r)) p.length = some (t.length, p.length + (var t.length).length) := by
    unfold fit
    rw [hr]
    exact if_pos ⟨h.1, h.2, by rw [List.length_append, List.length_append, frame_len]; omega⟩
  have e1 : (p ++ (frame t ++ r)).drop (p.length + (var t.length).length) = Sums.four (Sums.sumOf t) ++ (t ++ r) := by
    rw [frame_split, ← List.append_assoc, List.drop_left' (by simp)]
  have e2 : (p ++ (frame t ++ r)).drop (p.length + (var t.length).length + 4) = t ++ r := by
    rw [← List.drop_drop, e1, List.drop_left' (Sums.four_len _)]
  have e3 : ((p ++ (frame t ++ r)).drop (p.length + (var t.length).length + 4)).take t.length = t := by
    rw [e2, List.take_left]
  have hw := fr_whole hf (by rw [e1, e3, List.take_left' (Sums.four_len _)])
  rw [hw, e3, frame_len]
  congr 2
  omega
theorem fr_cut (t : List UInt8) (ht : t.length ≤ 9000) (p : List UInt8) (j : Nat) (hj : j < (frame t).length) : fr (p ++ (frame t).take j) p.length = none := by
  rw [frame_len] at hj
  by_cases h : j < (var t.length).length
  · have e : (frame t).take j = (var t.length).take j := by
      have := frame_split t []
      rw [List.append_nil] at this
      rw [this, List.take_append_of_le_length (by omega)]
    apply fr_none
    unfold fit
    rw [e, rd_cut _ _ _ h]
  · have e : (frame t).take j = var t.length ++ (Sums.four (Sums.sumOf t) ++ (t ++ [])).take (j - (var t.length).length) := by
      have := frame_split t []
      rw [List.append_nil] at this
      rw [this, List.take_append, List.take_of_length_le (by omega)]
    apply fr_none
    unfold fit
    rw [e, rd_back _ (by omega)]
    refine if_neg fun hc => ?_
    have := hc.2.2
    rw [List.length_append, List.length_append, List.length_take, List.length_append, List.length_append, Sums.four_len] at this
    simp at this
    omega
/-- Frames one behind the other. -/
def frames : List (List UInt8) → List UInt8
  | [] => []
  | t :: ts => frame t ++ frames ts
theorem frames_snoc : ∀ (ts : List (List UInt8)) (t : List UInt8), frames (ts ++ [t]) = frames ts ++ frame t
  | [], t => by simp [frames]
  | s :: ts, t => by simp [frames, frames_snoc ts t]
theorem frames_take : ∀ (ts : List (List UInt8)) (j : Nat), (frames (ts.take j)).length ≤ (frames ts).length
  | [], j => by simp
  | t :: ts, 0 => by simp [frames]
  | t :: ts, j + 1 => by
    have := frames_take ts j
    simp only [List.take_succ_cons, frames, List.length_append]
    omega
theorem fr_end (p : List UInt8) : fr p p.length = none := by
  cases h : fr p p.length with
  | none => rfl
  | some q =>
    obtain ⟨r, e⟩ := q
    have := fr_some h
    omega
/-- Frames that are cut at k: just the whole ones come back. -/
theorem cut_frames : ∀ (ts : List (List UInt8)) (p : List UInt8) (k f : Nat), (∀ t ∈ ts, okRec t) → k ≤ (frames ts).length → k < f →
    ∃ m, m ≤ ts.length ∧ un f (p ++ (frames ts).take k) p.length = ts.take m ∧ stop f (p ++ (frames ts).take k) p.length = p.length + (frames (ts.take m)).length ∧
      (frames (ts.take m)).length ≤ k ∧ (m = ts.length ∨ k < (frames (ts.take (m + 1))).length)
  | [], p, k, f, _, hk, _ => by
    have e : p ++ (frames []).take k = p := by simp [frames]
    rw [e]
    have U := un_end f (fr_end p)
    exact ⟨0, Nat.le_refl _, by rw [U.1]; rfl, by rw [U.2]; rfl, by simp [frames], Or.inl rfl⟩
  | t :: ts, p, k, f, h, hk, hf => by
    have ht := h t List.mem_cons_self
    by_cases hj : k < (frame t).length
    · have e : (frames (t :: ts)).take k = (frame t).take k := by rw [frames, List.take_append_of_le_length (by omega)]
      rw [e]
      have U := un_end f (fr_cut t ht.2 p k hj)
      exact ⟨0, Nat.zero_le _, by rw [U.1]; rfl, by rw [U.2]; rfl, by simp [frames], Or.inr (by simp [frames]; exact hj)⟩
    · obtain ⟨f', rfl⟩ : ∃ f', f = f' + 1 := ⟨f - 1, by omega⟩
      have hpos : 1 ≤ (frame t).length := by rw [frame_len]; omega
      have e : (frames (t :: ts)).take k = frame t ++ (frames ts).take (k - (frame t).length) := by rw [frames, List.take_append, List.take_of_length_le (by omega)]
      rw [e]
      have U := un_more f' (fr_back ht p ((frames ts).take (k - (frame t).length)))
      have e2 : p ++ (frame t ++ (frames ts).take (k - (frame t).length)) = (p ++ frame t) ++ (frames ts).take (k - (frame t).length) := by simp
      have hl : p.length + (frame t).length = (p ++ frame t).length := by simp
      rw [frames, List.length_append] at hk
      obtain ⟨m, h1, h2, h3, h4, h5⟩ := cut_frames ts (p ++ frame t) (k - (frame t).length) f' (fun x hx => h x (List.mem_cons_of_mem _ hx)) (by omega) (by omega)
      refine ⟨m + 1, by simp; omega, ?_, ?_, ?_, ?_⟩
      · rw [U.1, hl, e2, h2, List.take_succ_cons]
      · rw [U.2, hl, e2, h3, List.take_succ_cons, frames, List.length_append, List.length_append]; omega
      · rw [List.take_succ_cons, frames, List.length_append]; omega
      · rcases h5 with h5 | h5
        · exact Or.inl (by simp [h5])
        · right
          rw [List.take_succ_cons, frames, List.length_append]; omega
end Go.Proofs.YtahpoemmlpbgdaaDoor.Words
