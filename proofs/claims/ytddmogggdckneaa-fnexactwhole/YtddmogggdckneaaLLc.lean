/- Lists of leaders in memory, 5 cells each; measured, copied, held against each other, marked. Made by program. -/
import Derived.Test.YtddmogggdckneaaKit
import Derived.Test.YtddmogggdckneaaLogArg
import Derived.Test.YtddmogggdckneaaMathLd
import Derived.Laws.AppendOwnNone
import Derived.Deep.RegionHeld3
import Derived.Deep.DeepCutAuto
namespace Go.Proofs.Ytddmogggdckneaa
open Go.RowKit
set_option linter.unusedVariables false
set_option linter.unusedSimpArgs false

def lcV (r : LcL) : Value := .agg #[.int .i64 r.node, .int .i64 r.term, .int .i64 r.start, .int .i64 r.sterm, .slice r.ents.1 r.ents.2.1 r.ents.2.2]
/-- A slice at a whose elements are these. -/
def LcAt (w : World) (a : Option Addr) (g off : Nat) (l : List LcL) : Prop :=
  (0 < l.length → a = some ⟨g, off, none⟩) ∧ ∀ j (hj : j < l.length), w.cell? ⟨g, off + j * 5, none⟩ = some (.int .i64 l[j].node) ∧ w.cell? ⟨g, off + j * 5 + 1, none⟩ = some (.int .i64 l[j].term) ∧ w.cell? ⟨g, off + j * 5 + 2, none⟩ = some (.int .i64 l[j].start) ∧ w.cell? ⟨g, off + j * 5 + 3, none⟩ = some (.int .i64 l[j].sterm) ∧ w.cell? ⟨g, off + j * 5 + 4, none⟩ = some (.slice l[j].ents.1 l[j].ents.2.1 l[j].ents.2.2)
theorem LcAt.lt {w : World} {a : Option Addr} {g off : Nat} {l : List LcL} (h : LcAt w a g off l) (hl : 0 < l.length) : g < w.heap.size := World.block_lt_of_cell? w _ (h.2 0 hl).1
theorem LcAt.kept {w w' : World} {a : Option Addr} {g off : Nat} {l : List LcL} (h : LcAt w a g off l) (hb : Below w.heap.size w w') : LcAt w' a g off l := by
  refine ⟨h.1, fun j hj => ?_⟩
  have hg := h.lt (by omega)
  rw [hb.cell (p := ⟨g, off + j * 5, none⟩) hg, hb.cell (p := ⟨g, off + j * 5 + 1, none⟩) hg, hb.cell (p := ⟨g, off + j * 5 + 2, none⟩) hg, hb.cell (p := ⟨g, off + j * 5 + 3, none⟩) hg, hb.cell (p := ⟨g, off + j * 5 + 4, none⟩) hg]
  exact h.2 j hj
def cellsLc (l : List LcL) : List Value := l.flatMap fun r => [.int .i64 r.node, .int .i64 r.term, .int .i64 r.start, .int .i64 r.sterm, .slice r.ents.1 r.ents.2.1 r.ents.2.2]
theorem cellsLc_len : ∀ l : List LcL, (cellsLc l).length = l.length * 5
  | [] => rfl
  | r :: l => by have := cellsLc_len l; simp only [cellsLc, List.flatMap_cons, List.length_append, List.length_cons, List.length_nil] at *; omega
theorem cellsLc_app (l m : List LcL) : cellsLc (l ++ m) = cellsLc l ++ cellsLc m := by simp [cellsLc]
theorem cellsLc_at : ∀ (l : List LcL) (j : Nat) (hj : j < l.length), (cellsLc l)[j * 5]? = some (.int .i64 l[j].node) ∧ (cellsLc l)[j * 5 + 1]? = some (.int .i64 l[j].term) ∧ (cellsLc l)[j * 5 + 2]? = some (.int .i64 l[j].start) ∧ (cellsLc l)[j * 5 + 3]? = some (.int .i64 l[j].sterm) ∧ (cellsLc l)[j * 5 + 4]? = some (.slice l[j].ents.1 l[j].ents.2.1 l[j].ents.2.2)
  | r :: l, 0, _ => ⟨rfl, rfl, rfl, rfl, rfl⟩
  | r :: l, j + 1, hj => by
    have := cellsLc_at l j (by simpa using hj)
    simpa [cellsLc, Nat.add_mul, Nat.add_assoc] using this
theorem cellsLc_set : ∀ (l : List LcL) (j : Nat) (r : LcL), cellsLc (l.set j r) = (((((cellsLc l).set (j * 5) (.int .i64 r.node)).set (j * 5 + 1) (.int .i64 r.term)).set (j * 5 + 2) (.int .i64 r.start)).set (j * 5 + 3) (.int .i64 r.sterm)).set (j * 5 + 4) (.slice r.ents.1 r.ents.2.1 r.ents.2.2)
  | [], j, r => by simp [cellsLc]
  | x :: l, 0, r => by simp [cellsLc]
  | x :: l, j + 1, r => by
    have := cellsLc_set l j r
    simp only [cellsLc, List.set_cons_succ, List.flatMap_cons, List.cons_append, List.nil_append, Nat.add_mul] at *
    rw [this]
theorem cellsLc_own {w : World} {base : Nat} {e : TypeId} {g n cap : Nat} {l : List LcL} (hn : l.length = n) (h : w.ownsRow base e 5 (.slice (some ⟨g, 0, none⟩) n cap) n (cellsLc l)) : LcAt w (some ⟨g, 0, none⟩) g 0 l := by
  refine ⟨fun _ => rfl, fun j hj => ?_⟩
  rw [Nat.zero_add, h.cellAt (j * 5) (by omega), h.cellAt (j * 5 + 1) (by omega), h.cellAt (j * 5 + 2) (by omega), h.cellAt (j * 5 + 3) (by omega), h.cellAt (j * 5 + 4) (by omega)]
  exact cellsLc_at l j hj
theorem cellsLc_slice {w : World} {base : Nat} {v : Value} {l : List LcL} (h : w.ownsRow base 104 5 v l.length (cellsLc l)) : ∃ a g cap, v = .slice a l.length cap ∧ LcAt w a g 0 l := by
  rcases h.2 with ⟨h1, h2⟩ | ⟨g, cap, cur, h1, _⟩
  · exact ⟨none, 0, 0, by rw [h1, h2], fun q => by omega, fun j hj => by omega⟩
  · subst h1; exact ⟨_, g, cap, rfl, cellsLc_own rfl h⟩
theorem madeLc (n : Nat) : (madeCells #[Value.int .i64 0, Value.int .i64 0, Value.int .i64 0, Value.int .i64 0, Value.slice none 0 0] (n * 5)).toList = cellsLc (List.replicate n ⟨0, 0, 0, 0, (none, 0, 0)⟩) := by
  induction n with
  | zero => simp [madeCells, cellsLc]
  | succ n ih =>
    rw [List.replicate_succ', cellsLc_app, ← ih, show (n + 1) * 5 = n * 5 + 5 by omega]
    simp only [madeCells, Array.toList_map, Array.toList_range, List.range_add, List.map_append, List.map_map, Function.comp_def]
    congr 1
    simp [List.range_succ, cellsLc]
def totLc1 (r : LcL) : Nat := 0
def totLc : List LcL → Nat
  | [] => 0
  | r :: l => totLc1 r + 1 + totLc l
theorem totLc_app : ∀ (l m : List LcL), totLc (l ++ m) = totLc l + totLc m
  | [], m => by simp [totLc]
  | r :: l, m => by simp only [List.cons_append, totLc, totLc_app l m]; omega
theorem totLc_len : ∀ l : List LcL, l.length ≤ totLc l
  | [] => by simp [totLc]
  | r :: l => by have := totLc_len l; simp only [List.length_cons, totLc]; omega
theorem totLc_mem : ∀ {l : List LcL} {r : LcL}, r ∈ l → totLc1 r + 1 ≤ totLc l
  | x :: l, r, h => by
    rcases List.mem_cons.1 h with rfl | h
    · simp only [totLc]; omega
    · have := totLc_mem h; simp only [totLc]; omega
theorem totLc_take {l : List LcL} {j : Nat} (hj : j < l.length) : totLc (l.take (j + 1)) = totLc (l.take j) + (totLc1 l[j] + 1) := by
  rw [List.take_succ_eq_append_getElem hj, totLc_app]; simp [totLc]
def smallLc (B : Nat) (r : LcL) : Prop := True
theorem totLc_small {l : List LcL} {B : Nat} (h : totLc l ≤ B) : l.length ≤ B ∧ ∀ r ∈ l, smallLc B r :=
  ⟨Nat.le_trans (totLc_len l) h, fun r hr => by have := totLc_mem hr; unfold totLc1 at this; exact trivial⟩
theorem Try.info104 : (Try.prog.info? 104).map (fun i => (i.zero, i.size, i.bytes)) = some (some (.agg #[.int .i64 0, .int .i64 0, .int .i64 0, .int .i64 0, .slice none 0 0]), 5, 56) := by kernel_rfl
theorem LcAt.cellsAll {w : World} {a : Option Addr} {g off : Nat} {l : List LcL} (h : LcAt w a g off l) : ∀ j u, (cellsLc l)[j]? = some u → w.cell? ((⟨g, off, none⟩ : Addr).add j) = some u := by
  intro j u hu
  rw [Addr.add_lit]
  have hj : j < l.length * 5 := by rw [← cellsLc_len]; exact (List.getElem?_eq_some_iff.1 hu).1
  obtain ⟨k, i, hi, rfl⟩ : ∃ k i, i < 5 ∧ j = k * 5 + i := ⟨j / 5, j % 5, by omega, by omega⟩
  have h1 := cellsLc_at l k (by omega)
  have h2 := h.2 k (by omega)
  have h3 : i = 0 ∨ i = 1 ∨ i = 2 ∨ i = 3 ∨ i = 4 := by omega
  rcases h3 with rfl | rfl | rfl | rfl | rfl
  · rw [show k * 5 + 0 = k * 5 from by omega, h1.1] at hu
    rw [← Option.some.inj hu]
    simpa [Nat.add_assoc] using h2.1
  · rw [h1.2.1] at hu
    rw [← Option.some.inj hu]
    simpa [Nat.add_assoc] using h2.2.1
  · rw [h1.2.2.1] at hu
    rw [← Option.some.inj hu]
    simpa [Nat.add_assoc] using h2.2.2.1
  · rw [h1.2.2.2.1] at hu
    rw [← Option.some.inj hu]
    simpa [Nat.add_assoc] using h2.2.2.2.1
  · rw [h1.2.2.2.2] at hu
    rw [← Option.some.inj hu]
    simpa [Nat.add_assoc] using h2.2.2.2.2
theorem cellsLc_one {l : List LcL} : ∀ u ∈ cellsLc l, u.oneCell' = true := by
  intro u hu
  unfold cellsLc at hu
  obtain ⟨r, _, hr⟩ := List.mem_flatMap.1 hu
  simp only [List.mem_cons, List.not_mem_nil, or_false] at hr
  rcases hr with rfl | rfl | rfl | rfl | rfl <;> rfl
/-- 'append(x, y...)' onto a row of the call's own. -/
theorem wpList_appendLc {w : World} {ops : Array Oper} {rest : List Oper} {o : Oper} {act : Act} {Q : Exit → Act → World → Prop} (hgd : o.guard = none) (s x : Operand)
    (ho : o.op = .call { callee := .builtin .append, args := #[s, x], argTypes := #[54, 54] }) (base : Nat) (v : Value) (n : Nat) (xs : List Value) (hs : act.eval s = v) (hown : w.ownsRow base 104 5 v n xs)
    (a : Option Addr) (g off cap : Nat) (l : List LcL) (hx : act.eval x = .slice a l.length cap) (hf : LcAt w a g off l) (hnil : a = none → cap = 0) (h63 : n + l.length ≤ 2097152) (hbase : base ≤ w.heap.size)
    (h : ∀ v' w', w'.ownsRow base 104 5 v' (n + l.length) (xs ++ cellsLc l) → w.grownBy w' v.ownBlock → wpList Try.prog ops Q rest (act.put o.dst v') w') : wpList Try.prog ops Q (o :: rest) act w := by
  obtain ⟨i0, hi, hz0, hz1, hz2⟩ := info_parts Try.info104
  cases a with
  | none =>
    have hl : l = [] := by
      cases l with
      | nil => rfl
      | cons f r => have := hf.1 (by simp); cases this
    subst hl
    rw [hnil rfl] at hx
    refine wpList_append_own_none hgd s x 54 ho base 104 i0 5 Try.underlying54 hi v n xs hs hown hx ?_
    refine h v w ?_ (World.grownBy.refl _ _)
    simpa [cellsLc] using hown
  | some ad =>
    have had : 0 < l.length → ad = ⟨g, off, none⟩ := fun hp => Option.some.inj (hf.1 hp)
    refine wpList_append_own w hgd s x 54 ho base 104 i0 (.agg #[.int .i64 0, .int .i64 0, .int .i64 0, .int .i64 0, .slice none 0 0]) 5 56 Try.underlying54 hi hz0 hz1 hz2 rfl (by decide) v n xs hs hown ad l.length cap (cellsLc l) hx (cellsLc_len l) ?_ cellsLc_one (by unfold maxLen; omega) (by omega) hbase ?_
    · intro j u hu
      have hp : 0 < l.length := by
        have := (List.getElem?_eq_some_iff.1 hu).1
        rw [cellsLc_len] at this
        omega
      rw [had hp]
      exact hf.cellsAll j u hu
    · intro v' w' h1 h2 _
      exact h v' w' h1 h2
end Go.Proofs.Ytddmogggdckneaa
