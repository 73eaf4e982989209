/- Plain facts of votes: a vote's record tells its numbers; the records of a file of votes, with or without a torn byte behind; no program is walked here. -/
import Derived.Test.YtahpoemmlpbgdaaDoorMathCut
import Derived.Test.YtahpoemmlpbgdaaDoorReadVotes
namespace Go.Proofs.YtahpoemmlpbgdaaDoor
open Batches (by_ rd_at)
namespace Words
/-- The records of whole frames, where nothing whole stands behind them. -/
theorem un_list : ∀ (ts : List (List UInt8)) (p tl : List UInt8) (f : Nat), (∀ t ∈ ts, okRec t) → ts.length < f → fr (p ++ frames ts ++ tl) (p ++ frames ts).length = none → un f (p ++ (frames ts ++ tl)) p.length = ts
  | [], p, tl, f, _, hf, h => by
    have e : p ++ (frames [] ++ tl) = p ++ frames [] ++ tl := by simp
    have e2 : p.length = (p ++ frames []).length := by simp [frames]
    rw [e, e2]
    exact (un_end f h).1
  | t :: ts, p, tl, f, h, hf, hn => by
    obtain ⟨f', rfl⟩ : ∃ f', f = f' + 1 := ⟨f - 1, by omega⟩
    have e : p ++ (frames (t :: ts) ++ tl) = p ++ (frame t ++ (frames ts ++ tl)) := by simp [frames]
    have U := un_more f' (fr_back (h t List.mem_cons_self) p (frames ts ++ tl))
    rw [e, U.1]
    have e2 : p ++ (frame t ++ (frames ts ++ tl)) = (p ++ frame t) ++ (frames ts ++ tl) := by simp
    have e3 : p.length + (frame t).length = (p ++ frame t).length := by simp
    rw [e2, e3, un_list ts (p ++ frame t) tl f' (fun x hx => h x (List.mem_cons_of_mem _ hx)) (by simp at hf; omega) (by simpa [frames] using hn)]
theorem fr_five (p : List UInt8) : fr (p ++ [5]) p.length = none := by
  have h := fr_cut [0, 0, 0, 0, 0] (by simp) p 1 (by rw [frame_len]; simp)
  have e : (frame [0, 0, 0, 0, 0]).take 1 = [5] := by
    have e1 := frame_split [0, 0, 0, 0, 0] []
    rw [List.append_nil] at e1
    rw [e1, show ([0, 0, 0, 0, 0] : List UInt8).length = 5 from rfl, var_small 5 (by omega)]
    rfl
  rw [e] at h
  exact h
end Words
/-- A vote's record. -/
def recL (t n : Int) : List UInt8 := Words.var t.toNat ++ Words.var n.toNat
theorem voteRec_list (t n : Int) : (voteRec t n).data.toList = recL t n := ((varS_is t).app (varS_is n))
theorem tx_rec (t n : Int) : tx (recL t n) = voteRec t n := by
  have h := voteRec_list t n
  rw [← h]
  exact (Is.eq (S := voteRec t n) (l := (voteRec t n).data.toList) rfl).symm
theorem rec_ok {t n : Int} (h : voteB t n = true) : Words.okRec (recL t n) := by
  have hz := voteRec_size h
  have e : (recL t n).length = (voteRec t n).size := by rw [← voteRec_list]; exact Array.length_toList
  unfold Words.okRec
  omega
theorem bal_vote {t n : Int} (h : voteB t n = true) : balT (tx (recL t n)) = t ∧ balN (tx (recL t n)) = n := by
  obtain ⟨⟨t0, t1⟩, n0, n1⟩ := voteB_iff.1 h
  have e1 : by_ (tx (recL t n)) = [] ++ (Words.var t.toNat ++ (Words.var n.toNat ++ [])) := by simp [by_, tx, recL]
  have e2 : by_ (tx (recL t n)) = Words.var t.toNat ++ (Words.var n.toNat ++ []) := by simp [by_, tx, recL]
  have r1 := rd_at (by omega) e1
  have r2 := rd_at (by omega) e2
  have hg : GetsV (tx (recL t n)) t.toNat n.toNat _ _ := ⟨by simpa using r1, r2⟩
  obtain ⟨g1, g2⟩ := bal_gets hg
  have hz : (Words.var t.toNat ++ Words.var n.toNat).length = (tx (recL t n)).size := by simp [tx, recL, ByteArray.size]
  rw [if_pos hz] at g1 g2
  have q1 : ((t.toNat : Nat) : Int) = t := Int.toNat_of_nonneg t0
  have q2 : ((n.toNat : Nat) : Int) = n := Int.toNat_of_nonneg n0
  rw [g1, g2, q1, q2]
  simp [btT, btN, h]
/-- What the two frames of votes tell. -/
theorem goV_two {t n : Int} (h : voteB t n = true) : goV [recL 1 1, recL t n] 0 0 0 = (t, n, (frameB (voteRec 1 1)).size + (frameB (voteRec t n)).size) := by
  obtain ⟨a1, a2⟩ := bal_vote (t := 1) (n := 1) (by decide)
  obtain ⟨b1, b2⟩ := bal_vote h
  have ht := (voteB_iff.1 h).1
  simp only [goV, a1, a2, b1, b2]
  rw [if_neg (by decide), if_neg (by omega), tx_rec, tx_rec]
  simp
theorem goV_one : goV [recL 1 1] 0 0 0 = (1, 1, (frameB (voteRec 1 1)).size) := by
  obtain ⟨a1, a2⟩ := bal_vote (t := 1) (n := 1) (by decide)
  simp only [goV, a1, a2]
  rw [if_neg (by decide), tx_rec]
  simp
theorem file_two (t n : Int) (tl : List UInt8) : (frameB (voteRec 1 1) ++ frameB (voteRec t n) ++ (⟨tl.toArray⟩ : ByteArray)).data.toList = [] ++ (Words.frames [recL 1 1, recL t n] ++ tl) := by
  rw [app_list, app_list, frameB_list, frameB_list, voteRec_list, voteRec_list]
  simp [Words.frames]
theorem file_one (tl : List UInt8) : (frameB (voteRec 1 1) ++ (⟨tl.toArray⟩ : ByteArray)).data.toList = [] ++ (Words.frames [recL 1 1] ++ tl) := by
  rw [app_list, frameB_list, voteRec_list]
  simp [Words.frames]
theorem un_file (s : ByteArray) (ts : List (List UInt8)) (tl : List UInt8) (h : s.data.toList = [] ++ (Words.frames ts ++ tl)) (hr : ∀ t ∈ ts, Words.okRec t) (hl : ts.length < s.size + 1) (ht : tl = [] ∨ tl = [5]) : Words.un (s.size + 1) s.data.toList 0 = ts := by
  rw [h]
  refine Words.un_list ts [] tl (s.size + 1) hr hl ?_
  rcases ht with rfl | rfl
  · rw [List.append_nil]; exact Words.fr_end _
  · exact Words.fr_five _
end Go.Proofs.YtahpoemmlpbgdaaDoor
