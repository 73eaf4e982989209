/- Lists of commands in memory, 6 cells each; measured, copied, held against each other, marked. Made by program. -/
import Derived.Test.YtddmogggdckneaaKit
import Derived.Test.YtddmogggdckneaaSpecBehind
import Derived.Test.YtddmogggdckneaaMathRp
import Derived.Laws.AppendOwnNone
import Derived.Deep.RegionHeld3
import Derived.Deep.DeepCutAuto
namespace Go.Proofs.Ytddmogggdckneaa
open Go.RowKit
set_option linter.unusedVariables false
set_option linter.unusedSimpArgs false

def cmV (r : CmL) : Value := .agg #[.int .i64 r.op, .int .i64 r.session, .int .i64 r.seq, .string r.key, .string r.old, .string r.value]
/-- A slice at a whose elements are these. -/
def CmAt (w : World) (a : Option Addr) (g off : Nat) (l : List CmL) : Prop :=
  (0 < l.length → a = some ⟨g, off, none⟩) ∧ ∀ j (hj : j < l.length), w.cell? ⟨g, off + j * 6, none⟩ = some (.int .i64 l[j].op) ∧ w.cell? ⟨g, off + j * 6 + 1, none⟩ = some (.int .i64 l[j].session) ∧ w.cell? ⟨g, off + j * 6 + 2, none⟩ = some (.int .i64 l[j].seq) ∧ w.cell? ⟨g, off + j * 6 + 3, none⟩ = some (.string l[j].key) ∧ w.cell? ⟨g, off + j * 6 + 4, none⟩ = some (.string l[j].old) ∧ w.cell? ⟨g, off + j * 6 + 5, none⟩ = some (.string l[j].value)
theorem CmAt.lt {w : World} {a : Option Addr} {g off : Nat} {l : List CmL} (h : CmAt w a g off l) (hl : 0 < l.length) : g < w.heap.size := World.block_lt_of_cell? w _ (h.2 0 hl).1
theorem CmAt.kept {w w' : World} {a : Option Addr} {g off : Nat} {l : List CmL} (h : CmAt w a g off l) (hb : Below w.heap.size w w') : CmAt w' a g off l := by
  refine ⟨h.1, fun j hj => ?_⟩
  have hg := h.lt (by omega)
  rw [hb.cell (p := ⟨g, off + j * 6, none⟩) hg, hb.cell (p := ⟨g, off + j * 6 + 1, none⟩) hg, hb.cell (p := ⟨g, off + j * 6 + 2, none⟩) hg, hb.cell (p := ⟨g, off + j * 6 + 3, none⟩) hg, hb.cell (p := ⟨g, off + j * 6 + 4, none⟩) hg, hb.cell (p := ⟨g, off + j * 6 + 5, none⟩) hg]
  exact h.2 j hj
def cellsCm (l : List CmL) : List Value := l.flatMap fun r => [.int .i64 r.op, .int .i64 r.session, .int .i64 r.seq, .string r.key, .string r.old, .string r.value]
theorem cellsCm_len : ∀ l : List CmL, (cellsCm l).length = l.length * 6
  | [] => rfl
  | r :: l => by have := cellsCm_len l; simp only [cellsCm, List.flatMap_cons, List.length_append, List.length_cons, List.length_nil] at *; omega
theorem cellsCm_app (l m : List CmL) : cellsCm (l ++ m) = cellsCm l ++ cellsCm m := by simp [cellsCm]
theorem cellsCm_at : ∀ (l : List CmL) (j : Nat) (hj : j < l.length), (cellsCm l)[j * 6]? = some (.int .i64 l[j].op) ∧ (cellsCm l)[j * 6 + 1]? = some (.int .i64 l[j].session) ∧ (cellsCm l)[j * 6 + 2]? = some (.int .i64 l[j].seq) ∧ (cellsCm l)[j * 6 + 3]? = some (.string l[j].key) ∧ (cellsCm l)[j * 6 + 4]? = some (.string l[j].old) ∧ (cellsCm l)[j * 6 + 5]? = some (.string l[j].value)
  | r :: l, 0, _ => ⟨rfl, rfl, rfl, rfl, rfl, rfl⟩
  | r :: l, j + 1, hj => by
    have := cellsCm_at l j (by simpa using hj)
    simpa [cellsCm, Nat.add_mul, Nat.add_assoc] using this
theorem cellsCm_set : ∀ (l : List CmL) (j : Nat) (r : CmL), cellsCm (l.set j r) = ((((((cellsCm l).set (j * 6) (.int .i64 r.op)).set (j * 6 + 1) (.int .i64 r.session)).set (j * 6 + 2) (.int .i64 r.seq)).set (j * 6 + 3) (.string r.key)).set (j * 6 + 4) (.string r.old)).set (j * 6 + 5) (.string r.value)
  | [], j, r => by simp [cellsCm]
  | x :: l, 0, r => by simp [cellsCm]
  | x :: l, j + 1, r => by
    have := cellsCm_set l j r
    simp only [cellsCm, List.set_cons_succ, List.flatMap_cons, List.cons_append, List.nil_append, Nat.add_mul] at *
    rw [this]
theorem cellsCm_own {w : World} {base : Nat} {e : TypeId} {g n cap : Nat} {l : List CmL} (hn : l.length = n) (h : w.ownsRow base e 6 (.slice (some ⟨g, 0, none⟩) n cap) n (cellsCm l)) : CmAt w (some ⟨g, 0, none⟩) g 0 l := by
  refine ⟨fun _ => rfl, fun j hj => ?_⟩
  rw [Nat.zero_add, h.cellAt (j * 6) (by omega), h.cellAt (j * 6 + 1) (by omega), h.cellAt (j * 6 + 2) (by omega), h.cellAt (j * 6 + 3) (by omega), h.cellAt (j * 6 + 4) (by omega), h.cellAt (j * 6 + 5) (by omega)]
  exact cellsCm_at l j hj
theorem cellsCm_slice {w : World} {base : Nat} {v : Value} {l : List CmL} (h : w.ownsRow base 85 6 v l.length (cellsCm l)) : ∃ a g cap, v = .slice a l.length cap ∧ CmAt w a g 0 l := by
  rcases h.2 with ⟨h1, h2⟩ | ⟨g, cap, cur, h1, _⟩
  · exact ⟨none, 0, 0, by rw [h1, h2], fun q => by omega, fun j hj => by omega⟩
  · subst h1; exact ⟨_, g, cap, rfl, cellsCm_own rfl h⟩
theorem madeCm (n : Nat) : (madeCells #[Value.int .i64 0, Value.int .i64 0, Value.int .i64 0, Value.string ByteArray.empty, Value.string ByteArray.empty, Value.string ByteArray.empty] (n * 6)).toList = cellsCm (List.replicate n ⟨0, 0, 0, ByteArray.empty, ByteArray.empty, ByteArray.empty⟩) := by
  induction n with
  | zero => simp [madeCells, cellsCm]
  | succ n ih =>
    rw [List.replicate_succ', cellsCm_app, ← ih, show (n + 1) * 6 = n * 6 + 6 by omega]
    simp only [madeCells, Array.toList_map, Array.toList_range, List.range_add, List.map_append, List.map_map, Function.comp_def]
    congr 1
    simp [List.range_succ, cellsCm]
def totCm1 (r : CmL) : Nat := r.key.size + r.old.size + r.value.size
def totCm : List CmL → Nat
  | [] => 0
  | r :: l => totCm1 r + 1 + totCm l
theorem totCm_app : ∀ (l m : List CmL), totCm (l ++ m) = totCm l + totCm m
  | [], m => by simp [totCm]
  | r :: l, m => by simp only [List.cons_append, totCm, totCm_app l m]; omega
theorem totCm_len : ∀ l : List CmL, l.length ≤ totCm l
  | [] => by simp [totCm]
  | r :: l => by have := totCm_len l; simp only [List.length_cons, totCm]; omega
theorem totCm_mem : ∀ {l : List CmL} {r : CmL}, r ∈ l → totCm1 r + 1 ≤ totCm l
  | x :: l, r, h => by
    rcases List.mem_cons.1 h with rfl | h
    · simp only [totCm]; omega
    · have := totCm_mem h; simp only [totCm]; omega
theorem totCm_take {l : List CmL} {j : Nat} (hj : j < l.length) : totCm (l.take (j + 1)) = totCm (l.take j) + (totCm1 l[j] + 1) := by
  rw [List.take_succ_eq_append_getElem hj, totCm_app]; simp [totCm]
def smallCm (B : Nat) (r : CmL) : Prop := r.key.size ≤ B ∧ r.old.size ≤ B ∧ r.value.size ≤ B
theorem totCm_small {l : List CmL} {B : Nat} (h : totCm l ≤ B) : l.length ≤ B ∧ ∀ r ∈ l, smallCm B r :=
  ⟨Nat.le_trans (totCm_len l) h, fun r hr => by have := totCm_mem hr; unfold totCm1 at this; exact ⟨by omega, by omega, by omega⟩⟩
set_option maxHeartbeats 2000000 in
set_option maxRecDepth 100000 in
theorem szCm1_is (r : CmL) (hr : smallCm maxLen r) (left : Nat) (hl : left ≤ 1048576) (w : World) :
    Calls Try.prog 74 #[cmV r, .int .i64 (left : Int)] w fun e w' => ∃ x : Int, e = .returned (.int .i64 x) ∧ Left left (totCm1 r) x ∧ Below w.heap.size w w' := by
  obtain ⟨F0, F1, F2, F3, F4, F5⟩ := r
  unfold smallCm maxLen at hr
  simp only at hr
  unfold cmV totCm1
  go_enter Try.func74, Try.ntmps74
  go_wp2
  · go_ret
    exact ⟨_, rfl, Or.inr ⟨by omega, rfl⟩, (Below.refl _ _).alloc (Nat.le_refl _) _⟩
  · go_ret
    exact ⟨_, rfl, Or.inr ⟨by omega, rfl⟩, (Below.refl _ _).alloc (Nat.le_refl _) _⟩
  · go_ret
    exact ⟨_, rfl, Or.inr ⟨by omega, rfl⟩, (Below.refl _ _).alloc (Nat.le_refl _) _⟩
  · go_ret
    exact ⟨_, rfl, Or.inl ⟨by omega, by omega⟩, (Below.refl _ _).alloc (Nat.le_refl _) _⟩
set_option maxHeartbeats 2000000 in
set_option maxRecDepth 100000 in
theorem toCm1_is (r : CmL) (w : World) : Calls Try.prog 75 #[cmV r] w fun e w' => e = .returned (cmV r) ∧ Below w.heap.size w w' := by
  obtain ⟨F0, F1, F2, F3, F4, F5⟩ := r
  unfold cmV
  go_enter Try.func75, Try.ntmps75
  go_wp2
  refine bodyPost_ret (v := .agg #[.int .i64 F0, .int .i64 F1, .int .i64 F2, .string F3, .string F4, .string F5]) (by simp [results, Try.results75, go_sem]) rfl ⟨rfl, ?_⟩
  exact (((Below.refl _ _).alloc (Nat.le_refl _) _).alloc (by simp) _).alloc (by simp; omega) _
theorem Try.info85 : (Try.prog.info? 85).map (fun i => (i.zero, i.size, i.bytes)) = some (some (.agg #[.int .i64 0, .int .i64 0, .int .i64 0, .string ByteArray.empty, .string ByteArray.empty, .string ByteArray.empty]), 6, 72) := by kernel_rfl
set_option maxHeartbeats 2000000 in
set_option maxRecDepth 100000 in
theorem eqCm1_same (r : CmL) (w : World) : Calls Try.prog 78 #[cmV r, cmV r] w fun e w' => e = .returned (.bool true) ∧ Below w.heap.size w w' := by
  obtain ⟨F0, F1, F2, F3, F4, F5⟩ := r
  unfold cmV
  go_enter Try.func78, Try.ntmps78
  go_wp2
  go_ret
  exact ⟨rfl, ((Below.refl _ _).alloc (Nat.le_refl _) _).alloc (by simp) _⟩
theorem CmAt.cellsAll {w : World} {a : Option Addr} {g off : Nat} {l : List CmL} (h : CmAt w a g off l) : ∀ j u, (cellsCm l)[j]? = some u → w.cell? ((⟨g, off, none⟩ : Addr).add j) = some u := by
  intro j u hu
  rw [Addr.add_lit]
  have hj : j < l.length * 6 := by rw [← cellsCm_len]; exact (List.getElem?_eq_some_iff.1 hu).1
  obtain ⟨k, i, hi, rfl⟩ : ∃ k i, i < 6 ∧ j = k * 6 + i := ⟨j / 6, j % 6, by omega, by omega⟩
  have h1 := cellsCm_at l k (by omega)
  have h2 := h.2 k (by omega)
  have h3 : i = 0 ∨ i = 1 ∨ i = 2 ∨ i = 3 ∨ i = 4 ∨ i = 5 := by omega
  rcases h3 with rfl | rfl | rfl | rfl | rfl | rfl
  · rw [show k * 6 + 0 = k * 6 from by omega, h1.1] at hu
    rw [← Option.some.inj hu]
    simpa [Nat.add_assoc] using h2.1
  · rw [h1.2.1] at hu
    rw [← Option.some.inj hu]
    simpa [Nat.add_assoc] using h2.2.1
  · rw [h1.2.2.1] at hu
    rw [← Option.some.inj hu]
    simpa [Nat.add_assoc] using h2.2.2.1
  · rw [h1.2.2.2.1] at hu
    rw [← Option.some.inj hu]
    simpa [Nat.add_assoc] using h2.2.2.2.1
  · rw [h1.2.2.2.2.1] at hu
    rw [← Option.some.inj hu]
    simpa [Nat.add_assoc] using h2.2.2.2.2.1
  · rw [h1.2.2.2.2.2] at hu
    rw [← Option.some.inj hu]
    simpa [Nat.add_assoc] using h2.2.2.2.2.2
theorem cellsCm_one {l : List CmL} : ∀ u ∈ cellsCm l, u.oneCell' = true := by
  intro u hu
  unfold cellsCm at hu
  obtain ⟨r, _, hr⟩ := List.mem_flatMap.1 hu
  simp only [List.mem_cons, List.not_mem_nil, or_false] at hr
  rcases hr with rfl | rfl | rfl | rfl | rfl | rfl <;> rfl
/-- Marked ones: from k on, 6 numbers each. -/
def markCm1 (m : Nat) : CmL := ⟨((m : Nat) : Int), ((m + 1 : Nat) : Int), ((m + 2 : Nat) : Int), mk (m + 3), mk (m + 4), mk (m + 5)⟩
def marksCm (k n : Nat) : List CmL := (List.range n).map fun i => markCm1 (k + 6 * i)
theorem marksCm_len (k n : Nat) : (marksCm k n).length = n := by simp [marksCm]
theorem marksCm_at (k n j : Nat) (hj : j < (marksCm k n).length) : (marksCm k n)[j] = markCm1 (k + 6 * j) := by simp [marksCm]
end Go.Proofs.Ytddmogggdckneaa
