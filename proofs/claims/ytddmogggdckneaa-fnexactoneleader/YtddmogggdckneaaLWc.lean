/- Lists of watchers in memory, 2 cells each; measured, copied, held against each other, marked. Made by program. -/
import Derived.Test.YtddmogggdckneaaKit
import Derived.Test.YtddmogggdckneaaSpecBehind
import Derived.Test.YtddmogggdckneaaMathLd
import Derived.Laws.AppendOwnNone
import Derived.Deep.RegionHeld3
import Derived.Deep.DeepCutAuto
namespace Go.Proofs.Ytddmogggdckneaa
open Go.RowKit
set_option linter.unusedVariables false
set_option linter.unusedSimpArgs false

def wcV (r : WcL) : Value := .agg #[.int .i64 r.thing, .int .i64 r.saw]
/-- A slice at a whose elements are these. -/
def WcAt (w : World) (a : Option Addr) (g off : Nat) (l : List WcL) : Prop :=
  (0 < l.length → a = some ⟨g, off, none⟩) ∧ ∀ j (hj : j < l.length), w.cell? ⟨g, off + j * 2, none⟩ = some (.int .i64 l[j].thing) ∧ w.cell? ⟨g, off + j * 2 + 1, none⟩ = some (.int .i64 l[j].saw)
theorem WcAt.lt {w : World} {a : Option Addr} {g off : Nat} {l : List WcL} (h : WcAt w a g off l) (hl : 0 < l.length) : g < w.heap.size := World.block_lt_of_cell? w _ (h.2 0 hl).1
theorem WcAt.kept {w w' : World} {a : Option Addr} {g off : Nat} {l : List WcL} (h : WcAt w a g off l) (hb : Below w.heap.size w w') : WcAt w' a g off l := by
  refine ⟨h.1, fun j hj => ?_⟩
  have hg := h.lt (by omega)
  rw [hb.cell (p := ⟨g, off + j * 2, none⟩) hg, hb.cell (p := ⟨g, off + j * 2 + 1, none⟩) hg]
  exact h.2 j hj
def cellsWc (l : List WcL) : List Value := l.flatMap fun r => [.int .i64 r.thing, .int .i64 r.saw]
theorem cellsWc_len : ∀ l : List WcL, (cellsWc l).length = l.length * 2
  | [] => rfl
  | r :: l => by have := cellsWc_len l; simp only [cellsWc, List.flatMap_cons, List.length_append, List.length_cons, List.length_nil] at *; omega
theorem cellsWc_app (l m : List WcL) : cellsWc (l ++ m) = cellsWc l ++ cellsWc m := by simp [cellsWc]
theorem cellsWc_at : ∀ (l : List WcL) (j : Nat) (hj : j < l.length), (cellsWc l)[j * 2]? = some (.int .i64 l[j].thing) ∧ (cellsWc l)[j * 2 + 1]? = some (.int .i64 l[j].saw)
  | r :: l, 0, _ => ⟨rfl, rfl⟩
  | r :: l, j + 1, hj => by
    have := cellsWc_at l j (by simpa using hj)
    simpa [cellsWc, Nat.add_mul, Nat.add_assoc] using this
theorem cellsWc_set : ∀ (l : List WcL) (j : Nat) (r : WcL), cellsWc (l.set j r) = ((cellsWc l).set (j * 2) (.int .i64 r.thing)).set (j * 2 + 1) (.int .i64 r.saw)
  | [], j, r => by simp [cellsWc]
  | x :: l, 0, r => by simp [cellsWc]
  | x :: l, j + 1, r => by
    have := cellsWc_set l j r
    simp only [cellsWc, List.set_cons_succ, List.flatMap_cons, List.cons_append, List.nil_append, Nat.add_mul] at *
    rw [this]
theorem cellsWc_own {w : World} {base : Nat} {e : TypeId} {g n cap : Nat} {l : List WcL} (hn : l.length = n) (h : w.ownsRow base e 2 (.slice (some ⟨g, 0, none⟩) n cap) n (cellsWc l)) : WcAt w (some ⟨g, 0, none⟩) g 0 l := by
  refine ⟨fun _ => rfl, fun j hj => ?_⟩
  rw [Nat.zero_add, h.cellAt (j * 2) (by omega), h.cellAt (j * 2 + 1) (by omega)]
  exact cellsWc_at l j hj
theorem cellsWc_slice {w : World} {base : Nat} {v : Value} {l : List WcL} (h : w.ownsRow base 137 2 v l.length (cellsWc l)) : ∃ a g cap, v = .slice a l.length cap ∧ WcAt w a g 0 l := by
  rcases h.2 with ⟨h1, h2⟩ | ⟨g, cap, cur, h1, _⟩
  · exact ⟨none, 0, 0, by rw [h1, h2], fun q => by omega, fun j hj => by omega⟩
  · subst h1; exact ⟨_, g, cap, rfl, cellsWc_own rfl h⟩
theorem madeWc (n : Nat) : (madeCells #[Value.int .i64 0, Value.int .i64 0] (n * 2)).toList = cellsWc (List.replicate n ⟨0, 0⟩) := by
  induction n with
  | zero => simp [madeCells, cellsWc]
  | succ n ih =>
    rw [List.replicate_succ', cellsWc_app, ← ih, show (n + 1) * 2 = n * 2 + 2 by omega]
    simp only [madeCells, Array.toList_map, Array.toList_range, List.range_add, List.map_append, List.map_map, Function.comp_def]
    congr 1
    simp [List.range_succ, cellsWc]
def totWc1 (r : WcL) : Nat := 0
def totWc : List WcL → Nat
  | [] => 0
  | r :: l => totWc1 r + 1 + totWc l
theorem totWc_app : ∀ (l m : List WcL), totWc (l ++ m) = totWc l + totWc m
  | [], m => by simp [totWc]
  | r :: l, m => by simp only [List.cons_append, totWc, totWc_app l m]; omega
theorem totWc_len : ∀ l : List WcL, l.length ≤ totWc l
  | [] => by simp [totWc]
  | r :: l => by have := totWc_len l; simp only [List.length_cons, totWc]; omega
theorem totWc_mem : ∀ {l : List WcL} {r : WcL}, r ∈ l → totWc1 r + 1 ≤ totWc l
  | x :: l, r, h => by
    rcases List.mem_cons.1 h with rfl | h
    · simp only [totWc]; omega
    · have := totWc_mem h; simp only [totWc]; omega
theorem totWc_take {l : List WcL} {j : Nat} (hj : j < l.length) : totWc (l.take (j + 1)) = totWc (l.take j) + (totWc1 l[j] + 1) := by
  rw [List.take_succ_eq_append_getElem hj, totWc_app]; simp [totWc]
def smallWc (B : Nat) (r : WcL) : Prop := True
theorem totWc_small {l : List WcL} {B : Nat} (h : totWc l ≤ B) : l.length ≤ B ∧ ∀ r ∈ l, smallWc B r :=
  ⟨Nat.le_trans (totWc_len l) h, fun r hr => by have := totWc_mem hr; unfold totWc1 at this; exact trivial⟩
theorem Try.info137 : (Try.prog.info? 137).map (fun i => (i.zero, i.size, i.bytes)) = some (some (.agg #[.int .i64 0, .int .i64 0]), 2, 16) := by kernel_rfl
theorem WcAt.cellsAll {w : World} {a : Option Addr} {g off : Nat} {l : List WcL} (h : WcAt w a g off l) : ∀ j u, (cellsWc l)[j]? = some u → w.cell? ((⟨g, off, none⟩ : Addr).add j) = some u := by
  intro j u hu
  rw [Addr.add_lit]
  have hj : j < l.length * 2 := by rw [← cellsWc_len]; exact (List.getElem?_eq_some_iff.1 hu).1
  obtain ⟨k, i, hi, rfl⟩ : ∃ k i, i < 2 ∧ j = k * 2 + i := ⟨j / 2, j % 2, by omega, by omega⟩
  have h1 := cellsWc_at l k (by omega)
  have h2 := h.2 k (by omega)
  have h3 : i = 0 ∨ i = 1 := by omega
  rcases h3 with rfl | rfl
  · rw [show k * 2 + 0 = k * 2 from by omega, h1.1] at hu
    rw [← Option.some.inj hu]
    simpa [Nat.add_assoc] using h2.1
  · rw [h1.2] at hu
    rw [← Option.some.inj hu]
    simpa [Nat.add_assoc] using h2.2
theorem cellsWc_one {l : List WcL} : ∀ u ∈ cellsWc l, u.oneCell' = true := by
  intro u hu
  unfold cellsWc at hu
  obtain ⟨r, _, hr⟩ := List.mem_flatMap.1 hu
  simp only [List.mem_cons, List.not_mem_nil, or_false] at hr
  rcases hr with rfl | rfl <;> rfl
/-- 'append(x, y...)' onto a row of the call's own. -/
theorem wpList_appendWc {w : World} {ops : Array Oper} {rest : List Oper} {o : Oper} {act : Act} {Q : Exit → Act → World → Prop} (hgd : o.guard = none) (s x : Operand)
    (ho : o.op = .call { callee := .builtin .append, args := #[s, x], argTypes := #[107, 107] }) (base : Nat) (v : Value) (n : Nat) (xs : List Value) (hs : act.eval s = v) (hown : w.ownsRow base 137 2 v n xs)
    (a : Option Addr) (g off cap : Nat) (l : List WcL) (hx : act.eval x = .slice a l.length cap) (hf : WcAt w a g off l) (hnil : a = none → cap = 0) (h63 : n + l.length ≤ 2097152) (hbase : base ≤ w.heap.size)
    (h : ∀ v' w', w'.ownsRow base 137 2 v' (n + l.length) (xs ++ cellsWc l) → w.grownBy w' v.ownBlock → wpList Try.prog ops Q rest (act.put o.dst v') w') : wpList Try.prog ops Q (o :: rest) act w := by
  obtain ⟨i0, hi, hz0, hz1, hz2⟩ := info_parts Try.info137
  cases a with
  | none =>
    have hl : l = [] := by
      cases l with
      | nil => rfl
      | cons f r => have := hf.1 (by simp); cases this
    subst hl
    rw [hnil rfl] at hx
    refine wpList_append_own_none hgd s x 107 ho base 137 i0 2 Try.underlying107 hi v n xs hs hown hx ?_
    refine h v w ?_ (World.grownBy.refl _ _)
    simpa [cellsWc] using hown
  | some ad =>
    have had : 0 < l.length → ad = ⟨g, off, none⟩ := fun hp => Option.some.inj (hf.1 hp)
    refine wpList_append_own w hgd s x 107 ho base 137 i0 (.agg #[.int .i64 0, .int .i64 0]) 2 16 Try.underlying107 hi hz0 hz1 hz2 rfl (by decide) v n xs hs hown ad l.length cap (cellsWc l) hx (cellsWc_len l) ?_ cellsWc_one (by unfold maxLen; omega) (by omega) hbase ?_
    · intro j u hu
      have hp : 0 < l.length := by
        have := (List.getElem?_eq_some_iff.1 hu).1
        rw [cellsWc_len] at this
        omega
      rw [had hp]
      exact hf.cellsAll j u hu
    · intro v' w' h1 h2 _
      exact h v' w' h1 h2
/-- Marked ones: from k on, 2 numbers each. -/
def markWc1 (m : Nat) : WcL := ⟨((m : Nat) : Int), ((m + 1 : Nat) : Int)⟩
def marksWc (k n : Nat) : List WcL := (List.range n).map fun i => markWc1 (k + 2 * i)
theorem marksWc_len (k n : Nat) : (marksWc k n).length = n := by simp [marksWc]
theorem marksWc_at (k n j : Nat) (hj : j < (marksWc k n).length) : (marksWc k n)[j] = markWc1 (k + 2 * j) := by simp [marksWc]
end Go.Proofs.Ytddmogggdckneaa
