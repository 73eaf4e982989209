/- Lists of sessions in memory, 4 cells each; measured, copied, held against each other, marked. Made by program. -/
import Derived.Test.YtpedpdgkbmpfjaaDoorMathCmd
import Derived.Test.YtpedpdgkbmpfjaaDoorImplSes
import Derived.Laws.AppendOwnNone
import Derived.Deep.RegionHeld3
import Derived.Deep.DeepCutAuto
namespace Go.Proofs.YtpedpdgkbmpfjaaDoor
open Go.RowKit
set_option linter.unusedVariables false
set_option linter.unusedSimpArgs false

/-- A slice at a whose elements are these. -/
def SesAt (w : World) (a : Option Addr) (g off : Nat) (l : List Ses) : Prop :=
  (0 < l.length → a = some ⟨g, off, none⟩) ∧ ∀ j (hj : j < l.length), w.cell? ⟨g, off + j * 4, none⟩ = some (.int .i64 l[j].id) ∧ w.cell? ⟨g, off + j * 4 + 1, none⟩ = some (.int .i64 l[j].seq) ∧ w.cell? ⟨g, off + j * 4 + 2, none⟩ = some (.int .i64 l[j].at_) ∧ w.cell? ⟨g, off + j * 4 + 3, none⟩ = some (.string l[j].rep)
theorem SesAt.lt {w : World} {a : Option Addr} {g off : Nat} {l : List Ses} (h : SesAt w a g off l) (hl : 0 < l.length) : g < w.heap.size := World.block_lt_of_cell? w _ (h.2 0 hl).1
theorem SesAt.kept {w w' : World} {a : Option Addr} {g off : Nat} {l : List Ses} (h : SesAt w a g off l) (hb : Below w.heap.size w w') : SesAt w' a g off l := by
  refine ⟨h.1, fun j hj => ?_⟩
  have hg := h.lt (by omega)
  rw [hb.cell (p := ⟨g, off + j * 4, none⟩) hg, hb.cell (p := ⟨g, off + j * 4 + 1, none⟩) hg, hb.cell (p := ⟨g, off + j * 4 + 2, none⟩) hg, hb.cell (p := ⟨g, off + j * 4 + 3, none⟩) hg]
  exact h.2 j hj
def cellsSes (l : List Ses) : List Value := l.flatMap fun r => [.int .i64 r.id, .int .i64 r.seq, .int .i64 r.at_, .string r.rep]
theorem cellsSes_len : ∀ l : List Ses, (cellsSes l).length = l.length * 4
  | [] => rfl
  | r :: l => by have := cellsSes_len l; simp only [cellsSes, List.flatMap_cons, List.length_append, List.length_cons, List.length_nil] at *; omega
theorem cellsSes_app (l m : List Ses) : cellsSes (l ++ m) = cellsSes l ++ cellsSes m := by simp [cellsSes]
theorem cellsSes_at : ∀ (l : List Ses) (j : Nat) (hj : j < l.length), (cellsSes l)[j * 4]? = some (.int .i64 l[j].id) ∧ (cellsSes l)[j * 4 + 1]? = some (.int .i64 l[j].seq) ∧ (cellsSes l)[j * 4 + 2]? = some (.int .i64 l[j].at_) ∧ (cellsSes l)[j * 4 + 3]? = some (.string l[j].rep)
  | r :: l, 0, _ => ⟨rfl, rfl, rfl, rfl⟩
  | r :: l, j + 1, hj => by
    have := cellsSes_at l j (by simpa using hj)
    simpa [cellsSes, Nat.add_mul, Nat.add_assoc] using this
theorem cellsSes_own {w : World} {base : Nat} {e : TypeId} {g n cap : Nat} {l : List Ses} (hn : l.length = n) (h : w.ownsRow base e 4 (.slice (some ⟨g, 0, none⟩) n cap) n (cellsSes l)) : SesAt w (some ⟨g, 0, none⟩) g 0 l := by
  refine ⟨fun _ => rfl, fun j hj => ?_⟩
  rw [Nat.zero_add, h.cellAt (j * 4) (by omega), h.cellAt (j * 4 + 1) (by omega), h.cellAt (j * 4 + 2) (by omega), h.cellAt (j * 4 + 3) (by omega)]
  exact cellsSes_at l j hj
theorem cellsSes_slice {w : World} {base : Nat} {v : Value} {l : List Ses} (h : w.ownsRow base 92 4 v l.length (cellsSes l)) : ∃ a g cap, v = .slice a l.length cap ∧ SesAt w a g 0 l := by
  rcases h.2 with ⟨h1, h2⟩ | ⟨g, cap, cur, h1, _⟩
  · exact ⟨none, 0, 0, by rw [h1, h2], fun q => by omega, fun j hj => by omega⟩
  · subst h1; exact ⟨_, g, cap, rfl, cellsSes_own rfl h⟩
theorem Tryd.info92 : (Tryd.prog.info? 92).map (fun i => (i.zero, i.size, i.bytes)) = some (some (.agg #[.int .i64 0, .int .i64 0, .int .i64 0, .string ByteArray.empty]), 4, 40) := by kernel_rfl
theorem SesAt.cellsAll {w : World} {a : Option Addr} {g off : Nat} {l : List Ses} (h : SesAt w a g off l) : ∀ j u, (cellsSes l)[j]? = some u → w.cell? ((⟨g, off, none⟩ : Addr).add j) = some u := by
  intro j u hu
  rw [Addr.add_lit]
  have hj : j < l.length * 4 := by rw [← cellsSes_len]; exact (List.getElem?_eq_some_iff.1 hu).1
  obtain ⟨k, i, hi, rfl⟩ : ∃ k i, i < 4 ∧ j = k * 4 + i := ⟨j / 4, j % 4, by omega, by omega⟩
  have h1 := cellsSes_at l k (by omega)
  have h2 := h.2 k (by omega)
  have h3 : i = 0 ∨ i = 1 ∨ i = 2 ∨ i = 3 := by omega
  rcases h3 with rfl | rfl | rfl | rfl
  · rw [show k * 4 + 0 = k * 4 from by omega, h1.1] at hu
    rw [← Option.some.inj hu]
    simpa [Nat.add_assoc] using h2.1
  · rw [h1.2.1] at hu
    rw [← Option.some.inj hu]
    simpa [Nat.add_assoc] using h2.2.1
  · rw [h1.2.2.1] at hu
    rw [← Option.some.inj hu]
    simpa [Nat.add_assoc] using h2.2.2.1
  · rw [h1.2.2.2] at hu
    rw [← Option.some.inj hu]
    simpa [Nat.add_assoc] using h2.2.2.2
theorem cellsSes_one {l : List Ses} : ∀ u ∈ cellsSes l, u.oneCell' = true := by
  intro u hu
  unfold cellsSes at hu
  obtain ⟨r, _, hr⟩ := List.mem_flatMap.1 hu
  simp only [List.mem_cons, List.not_mem_nil, or_false] at hr
  rcases hr with rfl | rfl | rfl | rfl <;> rfl
/-- 'append(x, y...)' onto a row of the call's own. -/
theorem wpList_appendSes {w : World} {ops : Array Oper} {rest : List Oper} {o : Oper} {act : Act} {Q : Exit → Act → World → Prop} (hgd : o.guard = none) (s x : Operand)
    (ho : o.op = .call { callee := .builtin .append, args := #[s, x], argTypes := #[66, 66] }) (base : Nat) (v : Value) (n : Nat) (xs : List Value) (hs : act.eval s = v) (hown : w.ownsRow base 92 4 v n xs)
    (a : Option Addr) (g off cap : Nat) (l : List Ses) (hx : act.eval x = .slice a l.length cap) (hf : SesAt w a g off l) (hnil : a = none → cap = 0) (h63 : n + l.length ≤ 2097152) (hbase : base ≤ w.heap.size)
    (h : ∀ v' w', w'.ownsRow base 92 4 v' (n + l.length) (xs ++ cellsSes l) → w.grownBy w' v.ownBlock → wpList Tryd.prog ops Q rest (act.put o.dst v') w') : wpList Tryd.prog ops Q (o :: rest) act w := by
  obtain ⟨i0, hi, hz0, hz1, hz2⟩ := info_parts Tryd.info92
  cases a with
  | none =>
    have hl : l = [] := by
      cases l with
      | nil => rfl
      | cons f r => have := hf.1 (by simp); cases this
    subst hl
    rw [hnil rfl] at hx
    refine wpList_append_own_none hgd s x 66 ho base 92 i0 4 Tryd.underlying66 hi v n xs hs hown hx ?_
    refine h v w ?_ (World.grownBy.refl _ _)
    simpa [cellsSes] using hown
  | some ad =>
    have had : 0 < l.length → ad = ⟨g, off, none⟩ := fun hp => Option.some.inj (hf.1 hp)
    refine wpList_append_own w hgd s x 66 ho base 92 i0 (.agg #[.int .i64 0, .int .i64 0, .int .i64 0, .string ByteArray.empty]) 4 40 Tryd.underlying66 hi hz0 hz1 hz2 rfl (by decide) v n xs hs hown ad l.length cap (cellsSes l) hx (cellsSes_len l) ?_ cellsSes_one (by unfold maxLen; omega) (by omega) hbase ?_
    · intro j u hu
      have hp : 0 < l.length := by
        have := (List.getElem?_eq_some_iff.1 hu).1
        rw [cellsSes_len] at this
        omega
      rw [had hp]
      exact hf.cellsAll j u hu
    · intro v' w' h1 h2 _
      exact h v' w' h1 h2
end Go.Proofs.YtpedpdgkbmpfjaaDoor
