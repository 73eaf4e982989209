/- Lists of watchers in memory, 3 cells each; measured, copied, held against each other, marked. Made by program. -/
import Derived.Test.YtddmogggdckneaaKit
import Derived.Test.YtddmogggdckneaaSpecBehind
import Derived.Test.YtddmogggdckneaaMathRp
import Derived.Laws.AppendOwnNone
import Derived.Deep.RegionHeld3
import Derived.Deep.DeepCutAuto
namespace Go.Proofs.Ytddmogggdckneaa
open Go.RowKit
set_option linter.unusedVariables false
set_option linter.unusedSimpArgs false

def wbV (r : WbL) : Value := .agg #[.int .i64 r.session, .int .i64 r.seq, .string r.text]
/-- A slice at a whose elements are these. -/
def WbAt (w : World) (a : Option Addr) (g off : Nat) (l : List WbL) : Prop :=
  (0 < l.length → a = some ⟨g, off, none⟩) ∧ ∀ j (hj : j < l.length), w.cell? ⟨g, off + j * 3, none⟩ = some (.int .i64 l[j].session) ∧ w.cell? ⟨g, off + j * 3 + 1, none⟩ = some (.int .i64 l[j].seq) ∧ w.cell? ⟨g, off + j * 3 + 2, none⟩ = some (.string l[j].text)
theorem WbAt.lt {w : World} {a : Option Addr} {g off : Nat} {l : List WbL} (h : WbAt w a g off l) (hl : 0 < l.length) : g < w.heap.size := World.block_lt_of_cell? w _ (h.2 0 hl).1
theorem WbAt.kept {w w' : World} {a : Option Addr} {g off : Nat} {l : List WbL} (h : WbAt w a g off l) (hb : Below w.heap.size w w') : WbAt w' a g off l := by
  refine ⟨h.1, fun j hj => ?_⟩
  have hg := h.lt (by omega)
  rw [hb.cell (p := ⟨g, off + j * 3, none⟩) hg, hb.cell (p := ⟨g, off + j * 3 + 1, none⟩) hg, hb.cell (p := ⟨g, off + j * 3 + 2, none⟩) hg]
  exact h.2 j hj
def cellsWb (l : List WbL) : List Value := l.flatMap fun r => [.int .i64 r.session, .int .i64 r.seq, .string r.text]
theorem cellsWb_len : ∀ l : List WbL, (cellsWb l).length = l.length * 3
  | [] => rfl
  | r :: l => by have := cellsWb_len l; simp only [cellsWb, List.flatMap_cons, List.length_append, List.length_cons, List.length_nil] at *; omega
theorem cellsWb_app (l m : List WbL) : cellsWb (l ++ m) = cellsWb l ++ cellsWb m := by simp [cellsWb]
theorem cellsWb_at : ∀ (l : List WbL) (j : Nat) (hj : j < l.length), (cellsWb l)[j * 3]? = some (.int .i64 l[j].session) ∧ (cellsWb l)[j * 3 + 1]? = some (.int .i64 l[j].seq) ∧ (cellsWb l)[j * 3 + 2]? = some (.string l[j].text)
  | r :: l, 0, _ => ⟨rfl, rfl, rfl⟩
  | r :: l, j + 1, hj => by
    have := cellsWb_at l j (by simpa using hj)
    simpa [cellsWb, Nat.add_mul, Nat.add_assoc] using this
theorem cellsWb_set : ∀ (l : List WbL) (j : Nat) (r : WbL), cellsWb (l.set j r) = (((cellsWb l).set (j * 3) (.int .i64 r.session)).set (j * 3 + 1) (.int .i64 r.seq)).set (j * 3 + 2) (.string r.text)
  | [], j, r => by simp [cellsWb]
  | x :: l, 0, r => by simp [cellsWb]
  | x :: l, j + 1, r => by
    have := cellsWb_set l j r
    simp only [cellsWb, List.set_cons_succ, List.flatMap_cons, List.cons_append, List.nil_append, Nat.add_mul] at *
    rw [this]
theorem cellsWb_own {w : World} {base : Nat} {e : TypeId} {g n cap : Nat} {l : List WbL} (hn : l.length = n) (h : w.ownsRow base e 3 (.slice (some ⟨g, 0, none⟩) n cap) n (cellsWb l)) : WbAt w (some ⟨g, 0, none⟩) g 0 l := by
  refine ⟨fun _ => rfl, fun j hj => ?_⟩
  rw [Nat.zero_add, h.cellAt (j * 3) (by omega), h.cellAt (j * 3 + 1) (by omega), h.cellAt (j * 3 + 2) (by omega)]
  exact cellsWb_at l j hj
theorem cellsWb_slice {w : World} {base : Nat} {v : Value} {l : List WbL} (h : w.ownsRow base 132 3 v l.length (cellsWb l)) : ∃ a g cap, v = .slice a l.length cap ∧ WbAt w a g 0 l := by
  rcases h.2 with ⟨h1, h2⟩ | ⟨g, cap, cur, h1, _⟩
  · exact ⟨none, 0, 0, by rw [h1, h2], fun q => by omega, fun j hj => by omega⟩
  · subst h1; exact ⟨_, g, cap, rfl, cellsWb_own rfl h⟩
theorem madeWb (n : Nat) : (madeCells #[Value.int .i64 0, Value.int .i64 0, Value.string ByteArray.empty] (n * 3)).toList = cellsWb (List.replicate n ⟨0, 0, ByteArray.empty⟩) := by
  induction n with
  | zero => simp [madeCells, cellsWb]
  | succ n ih =>
    rw [List.replicate_succ', cellsWb_app, ← ih, show (n + 1) * 3 = n * 3 + 3 by omega]
    simp only [madeCells, Array.toList_map, Array.toList_range, List.range_add, List.map_append, List.map_map, Function.comp_def]
    congr 1
    simp [List.range_succ, cellsWb]
def totWb1 (r : WbL) : Nat := r.text.size
def totWb : List WbL → Nat
  | [] => 0
  | r :: l => totWb1 r + 1 + totWb l
theorem totWb_app : ∀ (l m : List WbL), totWb (l ++ m) = totWb l + totWb m
  | [], m => by simp [totWb]
  | r :: l, m => by simp only [List.cons_append, totWb, totWb_app l m]; omega
theorem totWb_len : ∀ l : List WbL, l.length ≤ totWb l
  | [] => by simp [totWb]
  | r :: l => by have := totWb_len l; simp only [List.length_cons, totWb]; omega
theorem totWb_mem : ∀ {l : List WbL} {r : WbL}, r ∈ l → totWb1 r + 1 ≤ totWb l
  | x :: l, r, h => by
    rcases List.mem_cons.1 h with rfl | h
    · simp only [totWb]; omega
    · have := totWb_mem h; simp only [totWb]; omega
theorem totWb_take {l : List WbL} {j : Nat} (hj : j < l.length) : totWb (l.take (j + 1)) = totWb (l.take j) + (totWb1 l[j] + 1) := by
  rw [List.take_succ_eq_append_getElem hj, totWb_app]; simp [totWb]
def smallWb (B : Nat) (r : WbL) : Prop := r.text.size ≤ B
theorem totWb_small {l : List WbL} {B : Nat} (h : totWb l ≤ B) : l.length ≤ B ∧ ∀ r ∈ l, smallWb B r :=
  ⟨Nat.le_trans (totWb_len l) h, fun r hr => by have := totWb_mem hr; unfold totWb1 at this; show _ ≤ _; omega⟩
theorem Try.info132 : (Try.prog.info? 132).map (fun i => (i.zero, i.size, i.bytes)) = some (some (.agg #[.int .i64 0, .int .i64 0, .string ByteArray.empty]), 3, 32) := by kernel_rfl
theorem WbAt.cellsAll {w : World} {a : Option Addr} {g off : Nat} {l : List WbL} (h : WbAt w a g off l) : ∀ j u, (cellsWb l)[j]? = some u → w.cell? ((⟨g, off, none⟩ : Addr).add j) = some u := by
  intro j u hu
  rw [Addr.add_lit]
  have hj : j < l.length * 3 := by rw [← cellsWb_len]; exact (List.getElem?_eq_some_iff.1 hu).1
  obtain ⟨k, i, hi, rfl⟩ : ∃ k i, i < 3 ∧ j = k * 3 + i := ⟨j / 3, j % 3, by omega, by omega⟩
  have h1 := cellsWb_at l k (by omega)
  have h2 := h.2 k (by omega)
  have h3 : i = 0 ∨ i = 1 ∨ i = 2 := by omega
  rcases h3 with rfl | rfl | rfl
  · rw [show k * 3 + 0 = k * 3 from by omega, h1.1] at hu
    rw [← Option.some.inj hu]
    simpa [Nat.add_assoc] using h2.1
  · rw [h1.2.1] at hu
    rw [← Option.some.inj hu]
    simpa [Nat.add_assoc] using h2.2.1
  · rw [h1.2.2] at hu
    rw [← Option.some.inj hu]
    simpa [Nat.add_assoc] using h2.2.2
theorem cellsWb_one {l : List WbL} : ∀ u ∈ cellsWb l, u.oneCell' = true := by
  intro u hu
  unfold cellsWb at hu
  obtain ⟨r, _, hr⟩ := List.mem_flatMap.1 hu
  simp only [List.mem_cons, List.not_mem_nil, or_false] at hr
  rcases hr with rfl | rfl | rfl <;> rfl
/-- 'append(x, y...)' onto a row of the call's own. -/
theorem wpList_appendWb {w : World} {ops : Array Oper} {rest : List Oper} {o : Oper} {act : Act} {Q : Exit → Act → World → Prop} (hgd : o.guard = none) (s x : Operand)
    (ho : o.op = .call { callee := .builtin .append, args := #[s, x], argTypes := #[94, 94] }) (base : Nat) (v : Value) (n : Nat) (xs : List Value) (hs : act.eval s = v) (hown : w.ownsRow base 132 3 v n xs)
    (a : Option Addr) (g off cap : Nat) (l : List WbL) (hx : act.eval x = .slice a l.length cap) (hf : WbAt w a g off l) (hnil : a = none → cap = 0) (h63 : n + l.length ≤ 2097152) (hbase : base ≤ w.heap.size)
    (h : ∀ v' w', w'.ownsRow base 132 3 v' (n + l.length) (xs ++ cellsWb l) → w.grownBy w' v.ownBlock → wpList Try.prog ops Q rest (act.put o.dst v') w') : wpList Try.prog ops Q (o :: rest) act w := by
  obtain ⟨i0, hi, hz0, hz1, hz2⟩ := info_parts Try.info132
  cases a with
  | none =>
    have hl : l = [] := by
      cases l with
      | nil => rfl
      | cons f r => have := hf.1 (by simp); cases this
    subst hl
    rw [hnil rfl] at hx
    refine wpList_append_own_none hgd s x 94 ho base 132 i0 3 Try.underlying94 hi v n xs hs hown hx ?_
    refine h v w ?_ (World.grownBy.refl _ _)
    simpa [cellsWb] using hown
  | some ad =>
    have had : 0 < l.length → ad = ⟨g, off, none⟩ := fun hp => Option.some.inj (hf.1 hp)
    refine wpList_append_own w hgd s x 94 ho base 132 i0 (.agg #[.int .i64 0, .int .i64 0, .string ByteArray.empty]) 3 32 Try.underlying94 hi hz0 hz1 hz2 rfl (by decide) v n xs hs hown ad l.length cap (cellsWb l) hx (cellsWb_len l) ?_ cellsWb_one (by unfold maxLen; omega) (by omega) hbase ?_
    · intro j u hu
      have hp : 0 < l.length := by
        have := (List.getElem?_eq_some_iff.1 hu).1
        rw [cellsWb_len] at this
        omega
      rw [had hp]
      exact hf.cellsAll j u hu
    · intro v' w' h1 h2 _
      exact h v' w' h1 h2
/-- Marked ones: from k on, 3 numbers each. -/
def markWb1 (m : Nat) : WbL := ⟨((m : Nat) : Int), ((m + 1 : Nat) : Int), mk (m + 2)⟩
def marksWb (k n : Nat) : List WbL := (List.range n).map fun i => markWb1 (k + 3 * i)
theorem marksWb_len (k n : Nat) : (marksWb k n).length = n := by simp [marksWb]
theorem marksWb_at (k n j : Nat) (hj : j < (marksWb k n).length) : (marksWb k n)[j] = markWb1 (k + 3 * j) := by simp [marksWb]
end Go.Proofs.Ytddmogggdckneaa
