/- Plain facts on logs; no program is named here. -/
import Derived.Test.YtdpbmaedpdbppaaMathEnt2
import Derived.Test.YtdpbmaedpdbppaaMathFrame
namespace Go.Proofs.Ytdpbmaedpdbppaa
set_option linter.unusedVariables false
/-- A log. -/
structure LogL where
  start : Int
  sterm : Int
  ents : List EntL
namespace Logs
open Ents (okB)
open Batches (by_)
/-- Right entries whose terms never fall, from t on. -/
def rises : Int → List EntL → Bool
  | _, [] => true
  | t, e :: r => (okB e && decide (t ≤ e.term)) && rises e.term r
theorem rises_step {t : Int} {l : List EntL} {k : Nat} {R : Bool} (hk : k < l.length) (h : rises t (l.drop k) = R) (h1 : okB l[k] = true) (h2 : t ≤ l[k].term) : rises l[k].term (l.drop (k + 1)) = R := by
  rw [List.drop_eq_getElem_cons hk] at h
  simpa [rises, h1, h2] using h
theorem rises_bad {t : Int} {l : List EntL} {k : Nat} {R : Bool} (hk : k < l.length) (h : rises t (l.drop k) = R) (h1 : okB l[k] = false ∨ ¬ t ≤ l[k].term) : R = false := by
  rw [List.drop_eq_getElem_cons hk] at h
  rw [← h]
  rcases h1 with h1 | h1
  · simp [rises, h1]
  · simp [rises, h1]
theorem rises_end {t : Int} {l : List EntL} {k : Nat} {R : Bool} (hk : l.length ≤ k) (h : rises t (l.drop k) = R) : R = true := by
  rw [List.drop_of_length_le hk] at h
  exact h.symm
def inB (lo hi x : Int) : Bool := decide (lo ≤ x) && decide (x ≤ hi)
/-- A right log. -/
def okL (l : LogL) : Bool := (inB 0 100000 l.start && inB 0 100000 l.sterm) && (decide (l.ents.length ≤ 120) && decide (l.start + (l.ents.length : Int) ≤ 100000)) && rises l.sterm l.ents
structure Fits (l : LogL) : Prop where
  s0 : 0 ≤ l.start
  s1 : l.start ≤ 100000
  t0 : 0 ≤ l.sterm
  t1 : l.sterm ≤ 100000
  n : l.ents.length ≤ 120
  m : l.start + (l.ents.length : Int) ≤ 100000
theorem okL_iff {l : LogL} : okL l = true ↔ Fits l ∧ rises l.sterm l.ents = true := by
  unfold okL inB
  simp only [Bool.and_eq_true, decide_eq_true_eq]
  constructor
  · rintro ⟨⟨⟨⟨a, b⟩, c, d⟩, e, f⟩, g⟩
    exact ⟨⟨a, b, c, d, e, f⟩, g⟩
  · rintro ⟨⟨a, b, c, d, e, f⟩, g⟩
    exact ⟨⟨⟨⟨a, b⟩, c, d⟩, e, f⟩, g⟩
theorem rises_mem : ∀ (l : List EntL) (t : Int), rises t l = true → ∀ e ∈ l, okB e = true ∧ t ≤ e.term
  | [], _, _, e, he => (List.not_mem_nil he).elim
  | x :: r, t, h, e, he => by
    simp only [rises, Bool.and_eq_true, decide_eq_true_eq] at h
    rcases List.mem_cons.1 he with rfl | he
    · exact h.1
    · have := rises_mem r _ h.2 e he
      exact ⟨this.1, by omega⟩
theorem rises_drop : ∀ (l : List EntL) (k : Nat) (t : Int), rises t l = true → ∀ u, (∀ h : k < l.length, u ≤ l[k].term) → rises u (l.drop k) = true
  | [], k, t, _, u, _ => by simp [rises]
  | x :: r, 0, t, h, u, hu => by
    have h0 := hu (by simp)
    simp only [List.getElem_cons_zero] at h0
    simp only [rises, Bool.and_eq_true, decide_eq_true_eq] at h
    simp [rises, h.1.1, h.2, h0]
  | x :: r, k + 1, t, h, u, hu => by
    simp only [rises, Bool.and_eq_true, decide_eq_true_eq] at h
    simp only [List.drop_succ_cons]
    refine rises_drop r k x.term h.2 u (fun hk => ?_)
    have := hu (by simpa using hk)
    simpa using this
/-- The term of the last entry. -/
def lastT (l : LogL) : Int := (l.ents.getLast?.map (·.term)).getD l.sterm
theorem lastT_nil {l : LogL} (h : l.ents.length = 0) : lastT l = l.sterm := by
  have : l.ents = [] := List.length_eq_zero_iff.1 h
  simp [lastT, this]
theorem lastT_some {l : LogL} {n : Nat} (h : l.ents.length = n + 1) (hn : n < l.ents.length) : lastT l = l.ents[n].term := by
  unfold lastT
  rw [List.getLast?_eq_getElem?, h, Nat.add_sub_cancel, List.getElem?_eq_getElem hn]
  rfl
/-- The record of a start; the text of entries from place k on; the file. -/
def startT (l : LogL) : List UInt8 := 83 :: (Words.var l.start.toNat ++ Words.var l.sterm.toNat)
def recs (s : Nat) : Nat → List EntL → List (List UInt8)
  | _, [] => []
  | k, e :: r => Ents.text (s + 1 + k) e :: recs s (k + 1) r
def frames (l : List (List UInt8)) : List UInt8 := l.flatMap Words.frame
def file (l : LogL) : List UInt8 := Words.frame (startT l) ++ frames (recs l.start.toNat 0 l.ents)
theorem recs_drop : ∀ (l : List EntL) (s j k : Nat) (hk : k < l.length), recs s (j + k) (l.drop k) = Ents.text (s + 1 + (j + k)) l[k] :: recs s (j + (k + 1)) (l.drop (k + 1))
  | l, s, j, k, hk => by
    rw [List.drop_eq_getElem_cons hk]
    rfl
theorem frames_cons (x : List UInt8) (r : List (List UInt8)) : frames (x :: r) = Words.frame x ++ frames r := by simp [frames]
theorem frames_app (x y : List (List UInt8)) : frames (x ++ y) = frames x ++ frames y := by simp [frames]
end Logs
end Go.Proofs.Ytdpbmaedpdbppaa
