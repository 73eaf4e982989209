/- Lists of pairs in memory, 2 cells each; measured, copied, held against each other, marked. Made by program. -/
import Derived.Test.YtpedpdgkbmpfjaaDoorSpecOk
import Derived.Test.YtpedpdgkbmpfjaaDoorMathMap
import Derived.Laws.AppendOwnNone
import Derived.Deep.RegionHeld3
import Derived.Deep.DeepCutAuto
namespace Go.Proofs.YtpedpdgkbmpfjaaDoor
open Go.RowKit
set_option linter.unusedVariables false
set_option linter.unusedSimpArgs false

def pairV (r : PairL) : Value := .agg #[.string r.key, .string r.value]
/-- A slice at a whose elements are these. -/
def PairAt (w : World) (a : Option Addr) (g off : Nat) (l : List PairL) : Prop :=
  (0 < l.length → a = some ⟨g, off, none⟩) ∧ ∀ j (hj : j < l.length), w.cell? ⟨g, off + j * 2, none⟩ = some (.string l[j].key) ∧ w.cell? ⟨g, off + j * 2 + 1, none⟩ = some (.string l[j].value)
theorem PairAt.lt {w : World} {a : Option Addr} {g off : Nat} {l : List PairL} (h : PairAt w a g off l) (hl : 0 < l.length) : g < w.heap.size := World.block_lt_of_cell? w _ (h.2 0 hl).1
theorem PairAt.kept {w w' : World} {a : Option Addr} {g off : Nat} {l : List PairL} (h : PairAt w a g off l) (hb : Below w.heap.size w w') : PairAt w' a g off l := by
  refine ⟨h.1, fun j hj => ?_⟩
  have hg := h.lt (by omega)
  rw [hb.cell (p := ⟨g, off + j * 2, none⟩) hg, hb.cell (p := ⟨g, off + j * 2 + 1, none⟩) hg]
  exact h.2 j hj
def cellsPair (l : List PairL) : List Value := l.flatMap fun r => [.string r.key, .string r.value]
theorem cellsPair_len : ∀ l : List PairL, (cellsPair l).length = l.length * 2
  | [] => rfl
  | r :: l => by have := cellsPair_len l; simp only [cellsPair, List.flatMap_cons, List.length_append, List.length_cons, List.length_nil] at *; omega
theorem cellsPair_app (l m : List PairL) : cellsPair (l ++ m) = cellsPair l ++ cellsPair m := by simp [cellsPair]
theorem cellsPair_at : ∀ (l : List PairL) (j : Nat) (hj : j < l.length), (cellsPair l)[j * 2]? = some (.string l[j].key) ∧ (cellsPair l)[j * 2 + 1]? = some (.string l[j].value)
  | r :: l, 0, _ => ⟨rfl, rfl⟩
  | r :: l, j + 1, hj => by
    have := cellsPair_at l j (by simpa using hj)
    simpa [cellsPair, Nat.add_mul, Nat.add_assoc] using this
theorem cellsPair_own {w : World} {base : Nat} {e : TypeId} {g n cap : Nat} {l : List PairL} (hn : l.length = n) (h : w.ownsRow base e 2 (.slice (some ⟨g, 0, none⟩) n cap) n (cellsPair l)) : PairAt w (some ⟨g, 0, none⟩) g 0 l := by
  refine ⟨fun _ => rfl, fun j hj => ?_⟩
  rw [Nat.zero_add, h.cellAt (j * 2) (by omega), h.cellAt (j * 2 + 1) (by omega)]
  exact cellsPair_at l j hj
theorem cellsPair_slice {w : World} {base : Nat} {v : Value} {l : List PairL} (h : w.ownsRow base 48 2 v l.length (cellsPair l)) : ∃ a g cap, v = .slice a l.length cap ∧ PairAt w a g 0 l := by
  rcases h.2 with ⟨h1, h2⟩ | ⟨g, cap, cur, h1, _⟩
  · exact ⟨none, 0, 0, by rw [h1, h2], fun q => by omega, fun j hj => by omega⟩
  · subst h1; exact ⟨_, g, cap, rfl, cellsPair_own rfl h⟩
def smallPair (B : Nat) (r : PairL) : Prop := r.key.size ≤ B ∧ r.value.size ≤ B
theorem Tryd.info48 : (Tryd.prog.info? 48).map (fun i => (i.zero, i.size, i.bytes)) = some (some (.agg #[.string ByteArray.empty, .string ByteArray.empty]), 2, 32) := by kernel_rfl
theorem PairAt.cellsAll {w : World} {a : Option Addr} {g off : Nat} {l : List PairL} (h : PairAt w a g off l) : ∀ j u, (cellsPair l)[j]? = some u → w.cell? ((⟨g, off, none⟩ : Addr).add j) = some u := by
  intro j u hu
  rw [Addr.add_lit]
  have hj : j < l.length * 2 := by rw [← cellsPair_len]; exact (List.getElem?_eq_some_iff.1 hu).1
  obtain ⟨k, i, hi, rfl⟩ : ∃ k i, i < 2 ∧ j = k * 2 + i := ⟨j / 2, j % 2, by omega, by omega⟩
  have h1 := cellsPair_at l k (by omega)
  have h2 := h.2 k (by omega)
  have h3 : i = 0 ∨ i = 1 := by omega
  rcases h3 with rfl | rfl
  · rw [show k * 2 + 0 = k * 2 from by omega, h1.1] at hu
    rw [← Option.some.inj hu]
    simpa [Nat.add_assoc] using h2.1
  · rw [h1.2] at hu
    rw [← Option.some.inj hu]
    simpa [Nat.add_assoc] using h2.2
theorem cellsPair_one {l : List PairL} : ∀ u ∈ cellsPair l, u.oneCell' = true := by
  intro u hu
  unfold cellsPair at hu
  obtain ⟨r, _, hr⟩ := List.mem_flatMap.1 hu
  simp only [List.mem_cons, List.not_mem_nil, or_false] at hr
  rcases hr with rfl | rfl <;> rfl
/-- 'append(x, y...)' onto a row of the call's own. -/
theorem wpList_appendPair {w : World} {ops : Array Oper} {rest : List Oper} {o : Oper} {act : Act} {Q : Exit → Act → World → Prop} (hgd : o.guard = none) (s x : Operand)
    (ho : o.op = .call { callee := .builtin .append, args := #[s, x], argTypes := #[27, 27] }) (base : Nat) (v : Value) (n : Nat) (xs : List Value) (hs : act.eval s = v) (hown : w.ownsRow base 48 2 v n xs)
    (a : Option Addr) (g off cap : Nat) (l : List PairL) (hx : act.eval x = .slice a l.length cap) (hf : PairAt w a g off l) (hnil : a = none → cap = 0) (h63 : n + l.length ≤ 2097152) (hbase : base ≤ w.heap.size)
    (h : ∀ v' w', w'.ownsRow base 48 2 v' (n + l.length) (xs ++ cellsPair l) → w.grownBy w' v.ownBlock → wpList Tryd.prog ops Q rest (act.put o.dst v') w') : wpList Tryd.prog ops Q (o :: rest) act w := by
  obtain ⟨i0, hi, hz0, hz1, hz2⟩ := info_parts Tryd.info48
  cases a with
  | none =>
    have hl : l = [] := by
      cases l with
      | nil => rfl
      | cons f r => have := hf.1 (by simp); cases this
    subst hl
    rw [hnil rfl] at hx
    refine wpList_append_own_none hgd s x 27 ho base 48 i0 2 Tryd.underlying27 hi v n xs hs hown hx ?_
    refine h v w ?_ (World.grownBy.refl _ _)
    simpa [cellsPair] using hown
  | some ad =>
    have had : 0 < l.length → ad = ⟨g, off, none⟩ := fun hp => Option.some.inj (hf.1 hp)
    refine wpList_append_own w hgd s x 27 ho base 48 i0 (.agg #[.string ByteArray.empty, .string ByteArray.empty]) 2 32 Tryd.underlying27 hi hz0 hz1 hz2 rfl (by decide) v n xs hs hown ad l.length cap (cellsPair l) hx (cellsPair_len l) ?_ cellsPair_one (by unfold maxLen; omega) (by omega) hbase ?_
    · intro j u hu
      have hp : 0 < l.length := by
        have := (List.getElem?_eq_some_iff.1 hu).1
        rw [cellsPair_len] at this
        omega
      rw [had hp]
      exact hf.cellsAll j u hu
    · intro v' w' h1 h2 _
      exact h v' w' h1 h2
end Go.Proofs.YtpedpdgkbmpfjaaDoor
