/- Lists of changes in memory, 3 cells each; measured, copied, held against each other, marked. Made by program. -/
import Derived.Test.YtinhgonmdnbdiaaKit
import Derived.Test.YtinhgonmdnbdiaaMarkText
import Derived.Test.YtinhgonmdnbdiaaMathBatch
import Derived.Laws.AppendOwnNone
import Derived.Deep.RegionHeld3
import Derived.Deep.DeepCutAuto
namespace Go.Proofs.Ytinhgonmdnbdiaa
open Go.RowKit
set_option linter.unusedVariables false
set_option linter.unusedSimpArgs false

def changeV (r : ChangeL) : Value := .agg #[.string r.key, .string r.value, .bool r.gone]
/-- A slice at a whose elements are these. -/
def ChangeAt (w : World) (a : Option Addr) (g off : Nat) (l : List ChangeL) : Prop :=
  (0 < l.length → a = some ⟨g, off, none⟩) ∧ ∀ j (hj : j < l.length), w.cell? ⟨g, off + j * 3, none⟩ = some (.string l[j].key) ∧ w.cell? ⟨g, off + j * 3 + 1, none⟩ = some (.string l[j].value) ∧ w.cell? ⟨g, off + j * 3 + 2, none⟩ = some (.bool l[j].gone)
theorem ChangeAt.lt {w : World} {a : Option Addr} {g off : Nat} {l : List ChangeL} (h : ChangeAt w a g off l) (hl : 0 < l.length) : g < w.heap.size := World.block_lt_of_cell? w _ (h.2 0 hl).1
theorem ChangeAt.kept {w w' : World} {a : Option Addr} {g off : Nat} {l : List ChangeL} (h : ChangeAt w a g off l) (hb : Below w.heap.size w w') : ChangeAt w' a g off l := by
  refine ⟨h.1, fun j hj => ?_⟩
  have hg := h.lt (by omega)
  rw [hb.cell (p := ⟨g, off + j * 3, none⟩) hg, hb.cell (p := ⟨g, off + j * 3 + 1, none⟩) hg, hb.cell (p := ⟨g, off + j * 3 + 2, none⟩) hg]
  exact h.2 j hj
def cellsChange (l : List ChangeL) : List Value := l.flatMap fun r => [.string r.key, .string r.value, .bool r.gone]
theorem cellsChange_len : ∀ l : List ChangeL, (cellsChange l).length = l.length * 3
  | [] => rfl
  | r :: l => by have := cellsChange_len l; simp only [cellsChange, List.flatMap_cons, List.length_append, List.length_cons, List.length_nil] at *; omega
theorem cellsChange_app (l m : List ChangeL) : cellsChange (l ++ m) = cellsChange l ++ cellsChange m := by simp [cellsChange]
theorem cellsChange_at : ∀ (l : List ChangeL) (j : Nat) (hj : j < l.length), (cellsChange l)[j * 3]? = some (.string l[j].key) ∧ (cellsChange l)[j * 3 + 1]? = some (.string l[j].value) ∧ (cellsChange l)[j * 3 + 2]? = some (.bool l[j].gone)
  | r :: l, 0, _ => ⟨rfl, rfl, rfl⟩
  | r :: l, j + 1, hj => by
    have := cellsChange_at l j (by simpa using hj)
    simpa [cellsChange, Nat.add_mul, Nat.add_assoc] using this
theorem cellsChange_set : ∀ (l : List ChangeL) (j : Nat) (r : ChangeL), cellsChange (l.set j r) = (((cellsChange l).set (j * 3) (.string r.key)).set (j * 3 + 1) (.string r.value)).set (j * 3 + 2) (.bool r.gone)
  | [], j, r => by simp [cellsChange]
  | x :: l, 0, r => by simp [cellsChange]
  | x :: l, j + 1, r => by
    have := cellsChange_set l j r
    simp only [cellsChange, List.set_cons_succ, List.flatMap_cons, List.cons_append, List.nil_append, Nat.add_mul] at *
    rw [this]
theorem cellsChange_own {w : World} {base : Nat} {e : TypeId} {g n cap : Nat} {l : List ChangeL} (hn : l.length = n) (h : w.ownsRow base e 3 (.slice (some ⟨g, 0, none⟩) n cap) n (cellsChange l)) : ChangeAt w (some ⟨g, 0, none⟩) g 0 l := by
  refine ⟨fun _ => rfl, fun j hj => ?_⟩
  rw [Nat.zero_add, h.cellAt (j * 3) (by omega), h.cellAt (j * 3 + 1) (by omega), h.cellAt (j * 3 + 2) (by omega)]
  exact cellsChange_at l j hj
theorem cellsChange_slice {w : World} {base : Nat} {v : Value} {l : List ChangeL} (h : w.ownsRow base 53 3 v l.length (cellsChange l)) : ∃ a g cap, v = .slice a l.length cap ∧ ChangeAt w a g 0 l := by
  rcases h.2 with ⟨h1, h2⟩ | ⟨g, cap, cur, h1, _⟩
  · exact ⟨none, 0, 0, by rw [h1, h2], fun q => by omega, fun j hj => by omega⟩
  · subst h1; exact ⟨_, g, cap, rfl, cellsChange_own rfl h⟩
theorem madeChange (n : Nat) : (madeCells #[Value.string ByteArray.empty, Value.string ByteArray.empty, Value.bool false] (n * 3)).toList = cellsChange (List.replicate n ⟨ByteArray.empty, ByteArray.empty, false⟩) := by
  induction n with
  | zero => simp [madeCells, cellsChange]
  | succ n ih =>
    rw [List.replicate_succ', cellsChange_app, ← ih, show (n + 1) * 3 = n * 3 + 3 by omega]
    simp only [madeCells, Array.toList_map, Array.toList_range, List.range_add, List.map_append, List.map_map, Function.comp_def]
    congr 1
    simp [List.range_succ, cellsChange]
def totChange1 (r : ChangeL) : Nat := r.key.size + r.value.size
def totChange : List ChangeL → Nat
  | [] => 0
  | r :: l => totChange1 r + 1 + totChange l
theorem totChange_app : ∀ (l m : List ChangeL), totChange (l ++ m) = totChange l + totChange m
  | [], m => by simp [totChange]
  | r :: l, m => by simp only [List.cons_append, totChange, totChange_app l m]; omega
theorem totChange_len : ∀ l : List ChangeL, l.length ≤ totChange l
  | [] => by simp [totChange]
  | r :: l => by have := totChange_len l; simp only [List.length_cons, totChange]; omega
theorem totChange_mem : ∀ {l : List ChangeL} {r : ChangeL}, r ∈ l → totChange1 r + 1 ≤ totChange l
  | x :: l, r, h => by
    rcases List.mem_cons.1 h with rfl | h
    · simp only [totChange]; omega
    · have := totChange_mem h; simp only [totChange]; omega
theorem totChange_take {l : List ChangeL} {j : Nat} (hj : j < l.length) : totChange (l.take (j + 1)) = totChange (l.take j) + (totChange1 l[j] + 1) := by
  rw [List.take_succ_eq_append_getElem hj, totChange_app]; simp [totChange]
def smallChange (B : Nat) (r : ChangeL) : Prop := r.key.size ≤ B ∧ r.value.size ≤ B
theorem totChange_small {l : List ChangeL} {B : Nat} (h : totChange l ≤ B) : l.length ≤ B ∧ ∀ r ∈ l, smallChange B r :=
  ⟨Nat.le_trans (totChange_len l) h, fun r hr => by have := totChange_mem hr; unfold totChange1 at this; exact ⟨by omega, by omega⟩⟩
theorem Try.info53 : (Try.prog.info? 53).map (fun i => (i.zero, i.size, i.bytes)) = some (some (.agg #[.string ByteArray.empty, .string ByteArray.empty, .bool false]), 3, 40) := by kernel_rfl
theorem ChangeAt.cellsAll {w : World} {a : Option Addr} {g off : Nat} {l : List ChangeL} (h : ChangeAt w a g off l) : ∀ j u, (cellsChange l)[j]? = some u → w.cell? ((⟨g, off, none⟩ : Addr).add j) = some u := by
  intro j u hu
  rw [Addr.add_lit]
  have hj : j < l.length * 3 := by rw [← cellsChange_len]; exact (List.getElem?_eq_some_iff.1 hu).1
  obtain ⟨k, i, hi, rfl⟩ : ∃ k i, i < 3 ∧ j = k * 3 + i := ⟨j / 3, j % 3, by omega, by omega⟩
  have h1 := cellsChange_at l k (by omega)
  have h2 := h.2 k (by omega)
  have h3 : i = 0 ∨ i = 1 ∨ i = 2 := by omega
  rcases h3 with rfl | rfl | rfl
  · rw [show k * 3 + 0 = k * 3 from by omega, h1.1] at hu
    rw [← Option.some.inj hu]
    simpa [Nat.add_assoc] using h2.1
  · rw [h1.2.1] at hu
    rw [← Option.some.inj hu]
    simpa [Nat.add_assoc] using h2.2.1
  · rw [h1.2.2] at hu
    rw [← Option.some.inj hu]
    simpa [Nat.add_assoc] using h2.2.2
theorem cellsChange_one {l : List ChangeL} : ∀ u ∈ cellsChange l, u.oneCell' = true := by
  intro u hu
  unfold cellsChange at hu
  obtain ⟨r, _, hr⟩ := List.mem_flatMap.1 hu
  simp only [List.mem_cons, List.not_mem_nil, or_false] at hr
  rcases hr with rfl | rfl | rfl <;> rfl
/-- 'append(x, y...)' onto a row of the call's own. -/
theorem wpList_appendChange {w : World} {ops : Array Oper} {rest : List Oper} {o : Oper} {act : Act} {Q : Exit → Act → World → Prop} (hgd : o.guard = none) (s x : Operand)
    (ho : o.op = .call { callee := .builtin .append, args := #[s, x], argTypes := #[45, 45] }) (base : Nat) (v : Value) (n : Nat) (xs : List Value) (hs : act.eval s = v) (hown : w.ownsRow base 53 3 v n xs)
    (a : Option Addr) (g off cap : Nat) (l : List ChangeL) (hx : act.eval x = .slice a l.length cap) (hf : ChangeAt w a g off l) (hnil : a = none → cap = 0) (h63 : n + l.length ≤ 2097152) (hbase : base ≤ w.heap.size)
    (h : ∀ v' w', w'.ownsRow base 53 3 v' (n + l.length) (xs ++ cellsChange l) → w.grownBy w' v.ownBlock → wpList Try.prog ops Q rest (act.put o.dst v') w') : wpList Try.prog ops Q (o :: rest) act w := by
  obtain ⟨i0, hi, hz0, hz1, hz2⟩ := info_parts Try.info53
  cases a with
  | none =>
    have hl : l = [] := by
      cases l with
      | nil => rfl
      | cons f r => have := hf.1 (by simp); cases this
    subst hl
    rw [hnil rfl] at hx
    refine wpList_append_own_none hgd s x 45 ho base 53 i0 3 Try.underlying45 hi v n xs hs hown hx ?_
    refine h v w ?_ (World.grownBy.refl _ _)
    simpa [cellsChange] using hown
  | some ad =>
    have had : 0 < l.length → ad = ⟨g, off, none⟩ := fun hp => Option.some.inj (hf.1 hp)
    refine wpList_append_own w hgd s x 45 ho base 53 i0 (.agg #[.string ByteArray.empty, .string ByteArray.empty, .bool false]) 3 40 Try.underlying45 hi hz0 hz1 hz2 rfl (by decide) v n xs hs hown ad l.length cap (cellsChange l) hx (cellsChange_len l) ?_ cellsChange_one (by unfold maxLen; omega) (by omega) hbase ?_
    · intro j u hu
      have hp : 0 < l.length := by
        have := (List.getElem?_eq_some_iff.1 hu).1
        rw [cellsChange_len] at this
        omega
      rw [had hp]
      exact hf.cellsAll j u hu
    · intro v' w' h1 h2 _
      exact h v' w' h1 h2
/-- Marked ones: from k on, 3 numbers each. -/
def markChange1 (m : Nat) : ChangeL := ⟨mk (m), mk (m + 1), (m + 2) % 3 == 0⟩
def marksChange (k n : Nat) : List ChangeL := (List.range n).map fun i => markChange1 (k + 3 * i)
theorem marksChange_len (k n : Nat) : (marksChange k n).length = n := by simp [marksChange]
theorem marksChange_at (k n j : Nat) (hj : j < (marksChange k n).length) : (marksChange k n)[j] = markChange1 (k + 3 * j) := by simp [marksChange]
theorem own_cell_ex {w : World} {B : Nat} {e : TypeId} {z g n cap : Nat} {xs : List Value} (h : w.ownsRow B e z (.slice (some ⟨g, 0, none⟩) n cap) n xs) {q : Nat} (hq : q < n * z) (hx : xs.length = n * z) : ∃ u, w.cell? ⟨g, q, none⟩ = some u := by
  rw [h.cellAt q hq]
  exact ⟨_, List.getElem?_eq_getElem (by omega)⟩
theorem markText_at (M i : Nat) (x : Int) (hx : x = ((M + i : Nat) : Int)) (h0 : 0 < M) (hk : M + i ≤ 1000000000) (w : World) :
    Calls Try.prog 33 #[.int .i64 x] w fun e w' => e = .returned (.string (mk (M + i))) ∧ Below w.heap.size w w' := by
  rw [hx]; exact markText_is (M + i) (by omega) hk w
end Go.Proofs.Ytinhgonmdnbdiaa
