/- Lists of watchers in memory, 4 cells each; measured, copied, held against each other, marked. Made by program. -/
import Derived.Test.YtddmogggdckneaaKit
import Derived.Test.YtddmogggdckneaaSpecBehind
import Derived.Test.YtddmogggdckneaaMathAp
import Derived.Laws.AppendOwnNone
import Derived.Deep.RegionHeld3
import Derived.Deep.DeepCutAuto
namespace Go.Proofs.Ytddmogggdckneaa
open Go.RowKit
set_option linter.unusedVariables false
set_option linter.unusedSimpArgs false

def waV (r : WaL) : Value := .agg #[.int .i64 r.thing, .int .i64 r.eterm, .int .i64 r.ekind, .string r.edata]
/-- A slice at a whose elements are these. -/
def WaAt (w : World) (a : Option Addr) (g off : Nat) (l : List WaL) : Prop :=
  (0 < l.length → a = some ⟨g, off, none⟩) ∧ ∀ j (hj : j < l.length), w.cell? ⟨g, off + j * 4, none⟩ = some (.int .i64 l[j].thing) ∧ w.cell? ⟨g, off + j * 4 + 1, none⟩ = some (.int .i64 l[j].eterm) ∧ w.cell? ⟨g, off + j * 4 + 2, none⟩ = some (.int .i64 l[j].ekind) ∧ w.cell? ⟨g, off + j * 4 + 3, none⟩ = some (.string l[j].edata)
theorem WaAt.lt {w : World} {a : Option Addr} {g off : Nat} {l : List WaL} (h : WaAt w a g off l) (hl : 0 < l.length) : g < w.heap.size := World.block_lt_of_cell? w _ (h.2 0 hl).1
theorem WaAt.kept {w w' : World} {a : Option Addr} {g off : Nat} {l : List WaL} (h : WaAt w a g off l) (hb : Below w.heap.size w w') : WaAt w' a g off l := by
  refine ⟨h.1, fun j hj => ?_⟩
  have hg := h.lt (by omega)
  rw [hb.cell (p := ⟨g, off + j * 4, none⟩) hg, hb.cell (p := ⟨g, off + j * 4 + 1, none⟩) hg, hb.cell (p := ⟨g, off + j * 4 + 2, none⟩) hg, hb.cell (p := ⟨g, off + j * 4 + 3, none⟩) hg]
  exact h.2 j hj
def cellsWa (l : List WaL) : List Value := l.flatMap fun r => [.int .i64 r.thing, .int .i64 r.eterm, .int .i64 r.ekind, .string r.edata]
theorem cellsWa_len : ∀ l : List WaL, (cellsWa l).length = l.length * 4
  | [] => rfl
  | r :: l => by have := cellsWa_len l; simp only [cellsWa, List.flatMap_cons, List.length_append, List.length_cons, List.length_nil] at *; omega
theorem cellsWa_app (l m : List WaL) : cellsWa (l ++ m) = cellsWa l ++ cellsWa m := by simp [cellsWa]
theorem cellsWa_at : ∀ (l : List WaL) (j : Nat) (hj : j < l.length), (cellsWa l)[j * 4]? = some (.int .i64 l[j].thing) ∧ (cellsWa l)[j * 4 + 1]? = some (.int .i64 l[j].eterm) ∧ (cellsWa l)[j * 4 + 2]? = some (.int .i64 l[j].ekind) ∧ (cellsWa l)[j * 4 + 3]? = some (.string l[j].edata)
  | r :: l, 0, _ => ⟨rfl, rfl, rfl, rfl⟩
  | r :: l, j + 1, hj => by
    have := cellsWa_at l j (by simpa using hj)
    simpa [cellsWa, Nat.add_mul, Nat.add_assoc] using this
theorem cellsWa_set : ∀ (l : List WaL) (j : Nat) (r : WaL), cellsWa (l.set j r) = ((((cellsWa l).set (j * 4) (.int .i64 r.thing)).set (j * 4 + 1) (.int .i64 r.eterm)).set (j * 4 + 2) (.int .i64 r.ekind)).set (j * 4 + 3) (.string r.edata)
  | [], j, r => by simp [cellsWa]
  | x :: l, 0, r => by simp [cellsWa]
  | x :: l, j + 1, r => by
    have := cellsWa_set l j r
    simp only [cellsWa, List.set_cons_succ, List.flatMap_cons, List.cons_append, List.nil_append, Nat.add_mul] at *
    rw [this]
theorem cellsWa_own {w : World} {base : Nat} {e : TypeId} {g n cap : Nat} {l : List WaL} (hn : l.length = n) (h : w.ownsRow base e 4 (.slice (some ⟨g, 0, none⟩) n cap) n (cellsWa l)) : WaAt w (some ⟨g, 0, none⟩) g 0 l := by
  refine ⟨fun _ => rfl, fun j hj => ?_⟩
  rw [Nat.zero_add, h.cellAt (j * 4) (by omega), h.cellAt (j * 4 + 1) (by omega), h.cellAt (j * 4 + 2) (by omega), h.cellAt (j * 4 + 3) (by omega)]
  exact cellsWa_at l j hj
theorem cellsWa_slice {w : World} {base : Nat} {v : Value} {l : List WaL} (h : w.ownsRow base 126 4 v l.length (cellsWa l)) : ∃ a g cap, v = .slice a l.length cap ∧ WaAt w a g 0 l := by
  rcases h.2 with ⟨h1, h2⟩ | ⟨g, cap, cur, h1, _⟩
  · exact ⟨none, 0, 0, by rw [h1, h2], fun q => by omega, fun j hj => by omega⟩
  · subst h1; exact ⟨_, g, cap, rfl, cellsWa_own rfl h⟩
theorem madeWa (n : Nat) : (madeCells #[Value.int .i64 0, Value.int .i64 0, Value.int .i64 0, Value.string ByteArray.empty] (n * 4)).toList = cellsWa (List.replicate n ⟨0, 0, 0, ByteArray.empty⟩) := by
  induction n with
  | zero => simp [madeCells, cellsWa]
  | succ n ih =>
    rw [List.replicate_succ', cellsWa_app, ← ih, show (n + 1) * 4 = n * 4 + 4 by omega]
    simp only [madeCells, Array.toList_map, Array.toList_range, List.range_add, List.map_append, List.map_map, Function.comp_def]
    congr 1
    simp [List.range_succ, cellsWa]
def totWa1 (r : WaL) : Nat := r.edata.size
def totWa : List WaL → Nat
  | [] => 0
  | r :: l => totWa1 r + 1 + totWa l
theorem totWa_app : ∀ (l m : List WaL), totWa (l ++ m) = totWa l + totWa m
  | [], m => by simp [totWa]
  | r :: l, m => by simp only [List.cons_append, totWa, totWa_app l m]; omega
theorem totWa_len : ∀ l : List WaL, l.length ≤ totWa l
  | [] => by simp [totWa]
  | r :: l => by have := totWa_len l; simp only [List.length_cons, totWa]; omega
theorem totWa_mem : ∀ {l : List WaL} {r : WaL}, r ∈ l → totWa1 r + 1 ≤ totWa l
  | x :: l, r, h => by
    rcases List.mem_cons.1 h with rfl | h
    · simp only [totWa]; omega
    · have := totWa_mem h; simp only [totWa]; omega
theorem totWa_take {l : List WaL} {j : Nat} (hj : j < l.length) : totWa (l.take (j + 1)) = totWa (l.take j) + (totWa1 l[j] + 1) := by
  rw [List.take_succ_eq_append_getElem hj, totWa_app]; simp [totWa]
def smallWa (B : Nat) (r : WaL) : Prop := r.edata.size ≤ B
theorem totWa_small {l : List WaL} {B : Nat} (h : totWa l ≤ B) : l.length ≤ B ∧ ∀ r ∈ l, smallWa B r :=
  ⟨Nat.le_trans (totWa_len l) h, fun r hr => by have := totWa_mem hr; unfold totWa1 at this; show _ ≤ _; omega⟩
theorem Try.info126 : (Try.prog.info? 126).map (fun i => (i.zero, i.size, i.bytes)) = some (some (.agg #[.int .i64 0, .int .i64 0, .int .i64 0, .string ByteArray.empty]), 4, 40) := by kernel_rfl
theorem WaAt.cellsAll {w : World} {a : Option Addr} {g off : Nat} {l : List WaL} (h : WaAt w a g off l) : ∀ j u, (cellsWa l)[j]? = some u → w.cell? ((⟨g, off, none⟩ : Addr).add j) = some u := by
  intro j u hu
  rw [Addr.add_lit]
  have hj : j < l.length * 4 := by rw [← cellsWa_len]; exact (List.getElem?_eq_some_iff.1 hu).1
  obtain ⟨k, i, hi, rfl⟩ : ∃ k i, i < 4 ∧ j = k * 4 + i := ⟨j / 4, j % 4, by omega, by omega⟩
  have h1 := cellsWa_at l k (by omega)
  have h2 := h.2 k (by omega)
  have h3 : i = 0 ∨ i = 1 ∨ i = 2 ∨ i = 3 := by omega
  rcases h3 with rfl | rfl | rfl | rfl
  · rw [show k * 4 + 0 = k * 4 from by omega, h1.1] at hu
    rw [← Option.some.inj hu]
    simpa [Nat.add_assoc] using h2.1
  · rw [h1.2.1] at hu
    rw [← Option.some.inj hu]
    simpa [Nat.add_assoc] using h2.2.1
  · rw [h1.2.2.1] at hu
    rw [← Option.some.inj hu]
    simpa [Nat.add_assoc] using h2.2.2.1
  · rw [h1.2.2.2] at hu
    rw [← Option.some.inj hu]
    simpa [Nat.add_assoc] using h2.2.2.2
theorem cellsWa_one {l : List WaL} : ∀ u ∈ cellsWa l, u.oneCell' = true := by
  intro u hu
  unfold cellsWa at hu
  obtain ⟨r, _, hr⟩ := List.mem_flatMap.1 hu
  simp only [List.mem_cons, List.not_mem_nil, or_false] at hr
  rcases hr with rfl | rfl | rfl | rfl <;> rfl
/-- 'append(x, y...)' onto a row of the call's own. -/
theorem wpList_appendWa {w : World} {ops : Array Oper} {rest : List Oper} {o : Oper} {act : Act} {Q : Exit → Act → World → Prop} (hgd : o.guard = none) (s x : Operand)
    (ho : o.op = .call { callee := .builtin .append, args := #[s, x], argTypes := #[76, 76] }) (base : Nat) (v : Value) (n : Nat) (xs : List Value) (hs : act.eval s = v) (hown : w.ownsRow base 126 4 v n xs)
    (a : Option Addr) (g off cap : Nat) (l : List WaL) (hx : act.eval x = .slice a l.length cap) (hf : WaAt w a g off l) (hnil : a = none → cap = 0) (h63 : n + l.length ≤ 2097152) (hbase : base ≤ w.heap.size)
    (h : ∀ v' w', w'.ownsRow base 126 4 v' (n + l.length) (xs ++ cellsWa l) → w.grownBy w' v.ownBlock → wpList Try.prog ops Q rest (act.put o.dst v') w') : wpList Try.prog ops Q (o :: rest) act w := by
  obtain ⟨i0, hi, hz0, hz1, hz2⟩ := info_parts Try.info126
  cases a with
  | none =>
    have hl : l = [] := by
      cases l with
      | nil => rfl
      | cons f r => have := hf.1 (by simp); cases this
    subst hl
    rw [hnil rfl] at hx
    refine wpList_append_own_none hgd s x 76 ho base 126 i0 4 Try.underlying76 hi v n xs hs hown hx ?_
    refine h v w ?_ (World.grownBy.refl _ _)
    simpa [cellsWa] using hown
  | some ad =>
    have had : 0 < l.length → ad = ⟨g, off, none⟩ := fun hp => Option.some.inj (hf.1 hp)
    refine wpList_append_own w hgd s x 76 ho base 126 i0 (.agg #[.int .i64 0, .int .i64 0, .int .i64 0, .string ByteArray.empty]) 4 40 Try.underlying76 hi hz0 hz1 hz2 rfl (by decide) v n xs hs hown ad l.length cap (cellsWa l) hx (cellsWa_len l) ?_ cellsWa_one (by unfold maxLen; omega) (by omega) hbase ?_
    · intro j u hu
      have hp : 0 < l.length := by
        have := (List.getElem?_eq_some_iff.1 hu).1
        rw [cellsWa_len] at this
        omega
      rw [had hp]
      exact hf.cellsAll j u hu
    · intro v' w' h1 h2 _
      exact h v' w' h1 h2
/-- Marked ones: from k on, 4 numbers each. -/
def markWa1 (m : Nat) : WaL := ⟨((m : Nat) : Int), ((m + 1 : Nat) : Int), ((m + 2 : Nat) : Int), mk (m + 3)⟩
def marksWa (k n : Nat) : List WaL := (List.range n).map fun i => markWa1 (k + 4 * i)
theorem marksWa_len (k n : Nat) : (marksWa k n).length = n := by simp [marksWa]
theorem marksWa_at (k n j : Nat) (hj : j < (marksWa k n).length) : (marksWa k n)[j] = markWa1 (k + 4 * j) := by simp [marksWa]
end Go.Proofs.Ytddmogggdckneaa
