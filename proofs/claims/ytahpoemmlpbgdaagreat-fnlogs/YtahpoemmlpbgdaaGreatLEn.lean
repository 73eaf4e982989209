/- Lists of entries in memory, 3 cells each; measured, copied, held against each other, marked. Made by program. -/
import Derived.Test.YtahpoemmlpbgdaaGreatMarkA
import Derived.Test.YtahpoemmlpbgdaaGreatConfA
import Derived.Laws.AppendOwnNone
import Derived.Deep.RegionHeld3
import Derived.Deep.DeepCutAuto
namespace Go.Proofs.YtahpoemmlpbgdaaGreat
open Go.RowKit
set_option linter.unusedVariables false
set_option linter.unusedSimpArgs false

/-- A slice at a whose elements are these. -/
def EnAt (w : World) (a : Option Addr) (g off : Nat) (l : List EntL) : Prop :=
  (0 < l.length → a = some ⟨g, off, none⟩) ∧ ∀ j (hj : j < l.length), w.cell? ⟨g, off + j * 3, none⟩ = some (.int .i64 l[j].term) ∧ w.cell? ⟨g, off + j * 3 + 1, none⟩ = some (.int .i64 l[j].kind) ∧ w.cell? ⟨g, off + j * 3 + 2, none⟩ = some (.string l[j].data)
theorem EnAt.lt {w : World} {a : Option Addr} {g off : Nat} {l : List EntL} (h : EnAt w a g off l) (hl : 0 < l.length) : g < w.heap.size := World.block_lt_of_cell? w _ (h.2 0 hl).1
theorem EnAt.kept {w w' : World} {a : Option Addr} {g off : Nat} {l : List EntL} (h : EnAt w a g off l) (hb : Below w.heap.size w w') : EnAt w' a g off l := by
  refine ⟨h.1, fun j hj => ?_⟩
  have hg := h.lt (by omega)
  rw [hb.cell (p := ⟨g, off + j * 3, none⟩) hg, hb.cell (p := ⟨g, off + j * 3 + 1, none⟩) hg, hb.cell (p := ⟨g, off + j * 3 + 2, none⟩) hg]
  exact h.2 j hj
def cellsEn (l : List EntL) : List Value := l.flatMap fun r => [.int .i64 r.term, .int .i64 r.kind, .string r.data]
theorem cellsEn_len : ∀ l : List EntL, (cellsEn l).length = l.length * 3
  | [] => rfl
  | r :: l => by have := cellsEn_len l; simp only [cellsEn, List.flatMap_cons, List.length_append, List.length_cons, List.length_nil] at *; omega
theorem cellsEn_app (l m : List EntL) : cellsEn (l ++ m) = cellsEn l ++ cellsEn m := by simp [cellsEn]
theorem cellsEn_at : ∀ (l : List EntL) (j : Nat) (hj : j < l.length), (cellsEn l)[j * 3]? = some (.int .i64 l[j].term) ∧ (cellsEn l)[j * 3 + 1]? = some (.int .i64 l[j].kind) ∧ (cellsEn l)[j * 3 + 2]? = some (.string l[j].data)
  | r :: l, 0, _ => ⟨rfl, rfl, rfl⟩
  | r :: l, j + 1, hj => by
    have := cellsEn_at l j (by simpa using hj)
    simpa [cellsEn, Nat.add_mul, Nat.add_assoc] using this
theorem cellsEn_own {w : World} {base : Nat} {e : TypeId} {g n cap : Nat} {l : List EntL} (hn : l.length = n) (h : w.ownsRow base e 3 (.slice (some ⟨g, 0, none⟩) n cap) n (cellsEn l)) : EnAt w (some ⟨g, 0, none⟩) g 0 l := by
  refine ⟨fun _ => rfl, fun j hj => ?_⟩
  rw [Nat.zero_add, h.cellAt (j * 3) (by omega), h.cellAt (j * 3 + 1) (by omega), h.cellAt (j * 3 + 2) (by omega)]
  exact cellsEn_at l j hj
theorem cellsEn_slice {w : World} {base : Nat} {v : Value} {l : List EntL} (h : w.ownsRow base 51 3 v l.length (cellsEn l)) : ∃ a g cap, v = .slice a l.length cap ∧ EnAt w a g 0 l := by
  rcases h.2 with ⟨h1, h2⟩ | ⟨g, cap, cur, h1, _⟩
  · exact ⟨none, 0, 0, by rw [h1, h2], fun q => by omega, fun j hj => by omega⟩
  · subst h1; exact ⟨_, g, cap, rfl, cellsEn_own rfl h⟩
theorem Tryz.info51 : (Tryz.prog.info? 51).map (fun i => (i.zero, i.size, i.bytes)) = some (some (.agg #[.int .i64 0, .int .i64 0, .string ByteArray.empty]), 3, 32) := by kernel_rfl
theorem EnAt.cellsAll {w : World} {a : Option Addr} {g off : Nat} {l : List EntL} (h : EnAt w a g off l) : ∀ j u, (cellsEn l)[j]? = some u → w.cell? ((⟨g, off, none⟩ : Addr).add j) = some u := by
  intro j u hu
  rw [Addr.add_lit]
  have hj : j < l.length * 3 := by rw [← cellsEn_len]; exact (List.getElem?_eq_some_iff.1 hu).1
  obtain ⟨k, i, hi, rfl⟩ : ∃ k i, i < 3 ∧ j = k * 3 + i := ⟨j / 3, j % 3, by omega, by omega⟩
  have h1 := cellsEn_at l k (by omega)
  have h2 := h.2 k (by omega)
  have h3 : i = 0 ∨ i = 1 ∨ i = 2 := by omega
  rcases h3 with rfl | rfl | rfl
  · rw [show k * 3 + 0 = k * 3 from by omega, h1.1] at hu
    rw [← Option.some.inj hu]
    simpa [Nat.add_assoc] using h2.1
  · rw [h1.2.1] at hu
    rw [← Option.some.inj hu]
    simpa [Nat.add_assoc] using h2.2.1
  · rw [h1.2.2] at hu
    rw [← Option.some.inj hu]
    simpa [Nat.add_assoc] using h2.2.2
theorem cellsEn_one {l : List EntL} : ∀ u ∈ cellsEn l, u.oneCell' = true := by
  intro u hu
  unfold cellsEn at hu
  obtain ⟨r, _, hr⟩ := List.mem_flatMap.1 hu
  simp only [List.mem_cons, List.not_mem_nil, or_false] at hr
  rcases hr with rfl | rfl | rfl <;> rfl
/-- 'append(x, y...)' onto a row of the call's own. -/
theorem wpList_appendEn {w : World} {ops : Array Oper} {rest : List Oper} {o : Oper} {act : Act} {Q : Exit → Act → World → Prop} (hgd : o.guard = none) (s x : Operand)
    (ho : o.op = .call { callee := .builtin .append, args := #[s, x], argTypes := #[24, 24] }) (base : Nat) (v : Value) (n : Nat) (xs : List Value) (hs : act.eval s = v) (hown : w.ownsRow base 51 3 v n xs)
    (a : Option Addr) (g off cap : Nat) (l : List EntL) (hx : act.eval x = .slice a l.length cap) (hf : EnAt w a g off l) (hnil : a = none → cap = 0) (h63 : n + l.length ≤ 2097152) (hbase : base ≤ w.heap.size)
    (h : ∀ v' w', w'.ownsRow base 51 3 v' (n + l.length) (xs ++ cellsEn l) → w.grownBy w' v.ownBlock → wpList Tryz.prog ops Q rest (act.put o.dst v') w') : wpList Tryz.prog ops Q (o :: rest) act w := by
  obtain ⟨i0, hi, hz0, hz1, hz2⟩ := info_parts Tryz.info51
  cases a with
  | none =>
    have hl : l = [] := by
      cases l with
      | nil => rfl
      | cons f r => have := hf.1 (by simp); cases this
    subst hl
    rw [hnil rfl] at hx
    refine wpList_append_own_none hgd s x 24 ho base 51 i0 3 Tryz.underlying24 hi v n xs hs hown hx ?_
    refine h v w ?_ (World.grownBy.refl _ _)
    simpa [cellsEn] using hown
  | some ad =>
    have had : 0 < l.length → ad = ⟨g, off, none⟩ := fun hp => Option.some.inj (hf.1 hp)
    refine wpList_append_own w hgd s x 24 ho base 51 i0 (.agg #[.int .i64 0, .int .i64 0, .string ByteArray.empty]) 3 32 Tryz.underlying24 hi hz0 hz1 hz2 rfl (by decide) v n xs hs hown ad l.length cap (cellsEn l) hx (cellsEn_len l) ?_ cellsEn_one (by unfold maxLen; omega) (by omega) hbase ?_
    · intro j u hu
      have hp : 0 < l.length := by
        have := (List.getElem?_eq_some_iff.1 hu).1
        rw [cellsEn_len] at this
        omega
      rw [had hp]
      exact hf.cellsAll j u hu
    · intro v' w' h1 h2 _
      exact h v' w' h1 h2
end Go.Proofs.YtahpoemmlpbgdaaGreat
