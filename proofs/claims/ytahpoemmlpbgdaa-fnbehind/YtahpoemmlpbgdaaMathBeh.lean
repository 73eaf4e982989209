/- Plain facts of a drawn log that begins behind one of its entries; no program is walked here. -/
import Derived.Test.YtahpoemmlpbgdaaDrawLogs
namespace Go.Proofs.Ytahpoemmlpbgdaa
open Go.RowKit
open Logs (okL Fits lastT)
set_option linter.unusedVariables false

/-- A drawn log. -/
def LogIs (l : LogL) : Prop := (0 ≤ l.start ∧ l.start ≤ 6) ∧ (0 ≤ l.sterm ∧ l.sterm ≤ 100) ∧ l.ents.length ≤ 7 ∧ Drawn l.sterm 100 l.ents
theorem lastI_small {l : LogL} (h0 : 0 ≤ l.start) (h1 : l.start ≤ 1000) (h2 : l.ents.length ≤ 1000) : lastI l = l.start + (l.ents.length : Int) := by unfold lastI wrap64; omega
theorem okL_drawn {l : LogL} {T : Int} (h0 : 0 ≤ l.start) (h1 : l.start ≤ 1000) (s0 : 0 ≤ l.sterm) (s1 : l.sterm ≤ 100000) (hn : l.ents.length ≤ 100) (hd : Drawn l.sterm T l.ents) : okL l = true := by
  rw [Logs.okL_iff]
  exact ⟨⟨h0, by omega, s0, s1, by omega, by omega⟩, hd.ri⟩
/-- The term at the place behind kk entries. -/
def termAt (l : LogL) (kk : Nat) : Int := if kk = 0 then l.sterm else ((l.ents[kk - 1]?).map (·.term)).getD (-1)
theorem termI_at {l : LogL} (h0 : 0 ≤ l.start) (h1 : l.start ≤ 1000) (h2 : l.ents.length ≤ 1000) {kk : Nat} (hk : kk ≤ l.ents.length) : termI l (l.start + (kk : Int)) = termAt l kk := by
  unfold termI termAt
  rw [lastI_small h0 h1 h2]
  by_cases h : kk = 0
  · subst h; simp
  · rw [if_neg (by omega), if_neg (by omega), if_neg h]
    have e : (l.start + (kk : Int) - l.start - 1).toNat = kk - 1 := by omega
    rw [e]
theorem behindL_at {l : LogL} (h : LogIs l) {kk : Nat} (hk : kk ≤ l.ents.length) (T : Int) (hT : T = termAt l kk) : behindL l (l.start + (kk : Int)) T = l.ents.drop kk := by
  obtain ⟨⟨a0, a1⟩, ⟨b0, b1⟩, hn, hd⟩ := h
  unfold behindL
  rw [if_pos ⟨okL_drawn a0 (by omega) b0 (by omega) (by omega) hd, ⟨by omega, by rw [lastI_small a0 (by omega) (by omega)]; omega⟩, by rw [termI_at a0 (by omega) (by omega) hk, hT]⟩]
  have e : (l.start + (kk : Int) - l.start).toNat = kk := by omega
  rw [e]
theorem behindL_off {l : LogL} (h : LogIs l) {kk : Nat} (hk : kk ≤ l.ents.length) (T : Int) (hT : T = termAt l kk) : behindL l (l.start + (kk : Int)) (T + 1) = [] := by
  obtain ⟨⟨a0, a1⟩, ⟨b0, b1⟩, hn, hd⟩ := h
  unfold behindL
  rw [if_neg]
  rintro ⟨_, _, h3⟩
  rw [termI_at a0 (by omega) (by omega) hk, hT] at h3
  omega
theorem termAt_in {l : LogL} (h : LogIs l) {kk : Nat} (hk : kk ≤ l.ents.length) : (0 ≤ termAt l kk ∧ termAt l kk ≤ 100) ∧ Drawn (termAt l kk) 100 (l.ents.drop kk) := by
  have hb := behindL_at h hk _ rfl
  obtain ⟨⟨a0, a1⟩, ⟨b0, b1⟩, hn, hd⟩ := h
  have hbd := behind_drawn (st := l.start) (kk := kk) hd b0 ⟨a0, a1⟩ hk (by omega)
  have e : (⟨l.start, l.sterm, l.ents⟩ : LogL) = l := rfl
  rw [e, termI_at a0 (by omega) (by omega) hk, hb] at hbd
  exact ⟨hbd.1, hbd.2.1⟩
/-- The log behind. -/
def behB (l : LogL) (kk : Nat) : LogL := ⟨l.start + (kk : Int), termAt l kk, l.ents.drop kk⟩
theorem behB_ok {l : LogL} (h : LogIs l) {kk : Nat} (hk : kk ≤ l.ents.length) : okL (behB l kk) = true := by
  obtain ⟨⟨t0, t1⟩, td⟩ := termAt_in h hk
  obtain ⟨⟨a0, a1⟩, ⟨b0, b1⟩, hn, hd⟩ := h
  exact okL_drawn (by show 0 ≤ l.start + (kk : Int); omega) (by show l.start + (kk : Int) ≤ 1000; omega) t0 (by show termAt l kk ≤ _; omega) (by show (l.ents.drop kk).length ≤ _; rw [List.length_drop]; omega) td
theorem behB_last {l : LogL} (h : LogIs l) {kk : Nat} (hk : kk ≤ l.ents.length) : (if (behB l kk).ents.length = 0 then (behB l kk).start else lastI (behB l kk)) = (if l.ents.length = 0 then l.start else lastI l) := by
  obtain ⟨⟨a0, a1⟩, ⟨b0, b1⟩, hn, hd⟩ := h
  have hlen : (behB l kk).ents.length = l.ents.length - kk := List.length_drop ..
  have hs : (behB l kk).start = l.start + (kk : Int) := rfl
  rw [lastI_small (l := l) a0 (by omega) (by omega), lastI_small (l := behB l kk) (by omega) (by omega) (by omega), hlen, hs]
  split <;> split <;> omega
theorem behB_lastT {l : LogL} (h : LogIs l) {kk : Nat} (hk : kk ≤ l.ents.length) : lastT (behB l kk) = lastT l := by
  have hlen : (behB l kk).ents.length = l.ents.length - kk := List.length_drop ..
  by_cases hn : l.ents.length = kk
  · rw [Logs.lastT_nil (by omega)]
    show termAt l kk = _
    unfold termAt
    by_cases h0 : kk = 0
    · rw [if_pos h0, Logs.lastT_nil (by omega)]
    · rw [if_neg h0]
      obtain ⟨n, rfl⟩ : ∃ n, kk = n + 1 := ⟨kk - 1, by omega⟩
      rw [Logs.lastT_some hn (by omega), Nat.add_sub_cancel, List.getElem?_eq_getElem (by omega)]
      rfl
  · obtain ⟨n, hn1⟩ : ∃ n, l.ents.length = n + 1 := ⟨l.ents.length - 1, by omega⟩
    rw [Logs.lastT_some (l := behB l kk) (n := n - kk) (by omega) (by omega), Logs.lastT_some hn1 (by omega)]
    show ((l.ents.drop kk)[n - kk]'(by rw [List.length_drop]; omega)).term = _
    rw [List.getElem_drop]
    have e : kk + (n - kk) = n := by omega
    simp only [e]
theorem behB_term {l : LogL} (h : LogIs l) {kk j : Nat} (hk : kk ≤ j) (hj : j ≤ l.ents.length) : termI (behB l kk) (l.start + (j : Int)) = termI l (l.start + (j : Int)) := by
  obtain ⟨⟨a0, a1⟩, ⟨b0, b1⟩, hn, hd⟩ := h
  have hlen : (behB l kk).ents.length = l.ents.length - kk := List.length_drop ..
  have e1 : l.start + (j : Int) = (behB l kk).start + ((j - kk : Nat) : Int) := by show _ = l.start + (kk : Int) + ((j - kk : Nat) : Int); omega
  rw [termI_at a0 (by omega) (by omega) hj, e1, termI_at (l := behB l kk) (by show 0 ≤ l.start + (kk : Int); omega) (by show l.start + (kk : Int) ≤ 1000; omega) (by omega) (by omega)]
  unfold termAt
  by_cases h1 : j = kk
  · subst h1
    rw [if_pos (by omega)]
    rfl
  · rw [if_neg (by omega), if_neg (by omega)]
    show (((l.ents.drop kk)[j - kk - 1]?).map (·.term)).getD (-1) = _
    rw [List.getElem?_drop]
    have e : kk + (j - kk - 1) = j - 1 := by omega
    rw [e]
end Go.Proofs.Ytahpoemmlpbgdaa
