/- The specification's l15Lived, walked: a state that drawn commands leave. Lists of commands in memory, 6 cells each; measured, copied, held against each other, marked. Made by program. -/
import Derived.Test.YtpedpdgkbmpfjaaDoorSpecDrawn
import Derived.Test.YtpedpdgkbmpfjaaDoorSpecAct
import Derived.Test.YtpedpdgkbmpfjaaDoorMathCmd
import Derived.Test.YtpedpdgkbmpfjaaDoorSpecCmd
import Derived.Laws.AppendOwnNone
import Derived.Deep.RegionHeld3
import Derived.Deep.DeepCutAuto
namespace Go.Proofs.YtpedpdgkbmpfjaaDoor
open Go.RowKit
open Cmds (okC)
open Acts (sess)
set_option linter.unusedVariables false
set_option linter.unusedSimpArgs false

/-- A state of k commands, as a Go value in a world. -/
structure StateV (k : Nat) (w : World) (v : Value) (m : List PairL) : Prop where
  good : Acts.Good k m
  at_ : ∃ a g off cap, v = .slice a m.length cap ∧ PairAt w a g off m ∧ (a = none → cap = 0) ∧ R48 w g m.length
structure LivS (B g len cap b off : Nat) (a : Option Addr) (z : Nat → Int) (w0 : World) (k : Nat) (v : Value) (w : World) : Prop where
  st : ∃ m, StateV k w v m
  cur : Cur B w g a len cap b off z
  gr : w0.grownBy w (some g)
theorem StateV.nil {w : World} {v : Value} {B : Nat} (h : v = .slice (some ⟨B, 0, none⟩) 0 0) : StateV 0 w v [] := ⟨Acts.Good.nil, _, B, 0, 0, h, ⟨fun q => absurd q (by simp), fun j hj => absurd hj (by simp)⟩, (fun e => by cases e), fun q => absurd q (by simp)⟩
end Go.Proofs.YtpedpdgkbmpfjaaDoor
namespace Go.Proofs.YtpedpdgkbmpfjaaDoor
open Go.RowKit
set_option linter.unusedVariables false
set_option linter.unusedSimpArgs false

/-- A slice at a whose elements are these. -/
def CmAt (w : World) (a : Option Addr) (g off : Nat) (l : List CmdL) : Prop :=
  (0 < l.length → a = some ⟨g, off, none⟩) ∧ ∀ j (hj : j < l.length), w.cell? ⟨g, off + j * 6, none⟩ = some (.int .i64 l[j].op) ∧ w.cell? ⟨g, off + j * 6 + 1, none⟩ = some (.int .i64 l[j].ses) ∧ w.cell? ⟨g, off + j * 6 + 2, none⟩ = some (.int .i64 l[j].seq) ∧ w.cell? ⟨g, off + j * 6 + 3, none⟩ = some (.string l[j].key) ∧ w.cell? ⟨g, off + j * 6 + 4, none⟩ = some (.string l[j].val) ∧ w.cell? ⟨g, off + j * 6 + 5, none⟩ = some (.string l[j].old)
theorem CmAt.lt {w : World} {a : Option Addr} {g off : Nat} {l : List CmdL} (h : CmAt w a g off l) (hl : 0 < l.length) : g < w.heap.size := World.block_lt_of_cell? w _ (h.2 0 hl).1
theorem CmAt.kept {w w' : World} {a : Option Addr} {g off : Nat} {l : List CmdL} (h : CmAt w a g off l) (hb : Below w.heap.size w w') : CmAt w' a g off l := by
  refine ⟨h.1, fun j hj => ?_⟩
  have hg := h.lt (by omega)
  rw [hb.cell (p := ⟨g, off + j * 6, none⟩) hg, hb.cell (p := ⟨g, off + j * 6 + 1, none⟩) hg, hb.cell (p := ⟨g, off + j * 6 + 2, none⟩) hg, hb.cell (p := ⟨g, off + j * 6 + 3, none⟩) hg, hb.cell (p := ⟨g, off + j * 6 + 4, none⟩) hg, hb.cell (p := ⟨g, off + j * 6 + 5, none⟩) hg]
  exact h.2 j hj
def cellsCm (l : List CmdL) : List Value := l.flatMap fun r => [.int .i64 r.op, .int .i64 r.ses, .int .i64 r.seq, .string r.key, .string r.val, .string r.old]
theorem cellsCm_len : ∀ l : List CmdL, (cellsCm l).length = l.length * 6
  | [] => rfl
  | r :: l => by have := cellsCm_len l; simp only [cellsCm, List.flatMap_cons, List.length_append, List.length_cons, List.length_nil] at *; omega
theorem cellsCm_app (l m : List CmdL) : cellsCm (l ++ m) = cellsCm l ++ cellsCm m := by simp [cellsCm]
theorem cellsCm_at : ∀ (l : List CmdL) (j : Nat) (hj : j < l.length), (cellsCm l)[j * 6]? = some (.int .i64 l[j].op) ∧ (cellsCm l)[j * 6 + 1]? = some (.int .i64 l[j].ses) ∧ (cellsCm l)[j * 6 + 2]? = some (.int .i64 l[j].seq) ∧ (cellsCm l)[j * 6 + 3]? = some (.string l[j].key) ∧ (cellsCm l)[j * 6 + 4]? = some (.string l[j].val) ∧ (cellsCm l)[j * 6 + 5]? = some (.string l[j].old)
  | r :: l, 0, _ => ⟨rfl, rfl, rfl, rfl, rfl, rfl⟩
  | r :: l, j + 1, hj => by
    have := cellsCm_at l j (by simpa using hj)
    simpa [cellsCm, Nat.add_mul, Nat.add_assoc] using this
theorem cellsCm_own {w : World} {base : Nat} {e : TypeId} {g n cap : Nat} {l : List CmdL} (hn : l.length = n) (h : w.ownsRow base e 6 (.slice (some ⟨g, 0, none⟩) n cap) n (cellsCm l)) : CmAt w (some ⟨g, 0, none⟩) g 0 l := by
  refine ⟨fun _ => rfl, fun j hj => ?_⟩
  rw [Nat.zero_add, h.cellAt (j * 6) (by omega), h.cellAt (j * 6 + 1) (by omega), h.cellAt (j * 6 + 2) (by omega), h.cellAt (j * 6 + 3) (by omega), h.cellAt (j * 6 + 4) (by omega), h.cellAt (j * 6 + 5) (by omega)]
  exact cellsCm_at l j hj
theorem cellsCm_slice {w : World} {base : Nat} {v : Value} {l : List CmdL} (h : w.ownsRow base 31 6 v l.length (cellsCm l)) : ∃ a g cap, v = .slice a l.length cap ∧ CmAt w a g 0 l := by
  rcases h.2 with ⟨h1, h2⟩ | ⟨g, cap, cur, h1, _⟩
  · exact ⟨none, 0, 0, by rw [h1, h2], fun q => by omega, fun j hj => by omega⟩
  · subst h1; exact ⟨_, g, cap, rfl, cellsCm_own rfl h⟩
theorem Tryd.info31 : (Tryd.prog.info? 31).map (fun i => (i.zero, i.size, i.bytes)) = some (some (.agg #[.int .i64 0, .int .i64 0, .int .i64 0, .string ByteArray.empty, .string ByteArray.empty, .string ByteArray.empty]), 6, 72) := by kernel_rfl
theorem CmAt.cellsAll {w : World} {a : Option Addr} {g off : Nat} {l : List CmdL} (h : CmAt w a g off l) : ∀ j u, (cellsCm l)[j]? = some u → w.cell? ((⟨g, off, none⟩ : Addr).add j) = some u := by
  intro j u hu
  rw [Addr.add_lit]
  have hj : j < l.length * 6 := by rw [← cellsCm_len]; exact (List.getElem?_eq_some_iff.1 hu).1
  obtain ⟨k, i, hi, rfl⟩ : ∃ k i, i < 6 ∧ j = k * 6 + i := ⟨j / 6, j % 6, by omega, by omega⟩
  have h1 := cellsCm_at l k (by omega)
  have h2 := h.2 k (by omega)
  have h3 : i = 0 ∨ i = 1 ∨ i = 2 ∨ i = 3 ∨ i = 4 ∨ i = 5 := by omega
  rcases h3 with rfl | rfl | rfl | rfl | rfl | rfl
  · rw [show k * 6 + 0 = k * 6 from by omega, h1.1] at hu
    rw [← Option.some.inj hu]
    simpa [Nat.add_assoc] using h2.1
  · rw [h1.2.1] at hu
    rw [← Option.some.inj hu]
    simpa [Nat.add_assoc] using h2.2.1
  · rw [h1.2.2.1] at hu
    rw [← Option.some.inj hu]
    simpa [Nat.add_assoc] using h2.2.2.1
  · rw [h1.2.2.2.1] at hu
    rw [← Option.some.inj hu]
    simpa [Nat.add_assoc] using h2.2.2.2.1
  · rw [h1.2.2.2.2.1] at hu
    rw [← Option.some.inj hu]
    simpa [Nat.add_assoc] using h2.2.2.2.2.1
  · rw [h1.2.2.2.2.2] at hu
    rw [← Option.some.inj hu]
    simpa [Nat.add_assoc] using h2.2.2.2.2.2
theorem cellsCm_one {l : List CmdL} : ∀ u ∈ cellsCm l, u.oneCell' = true := by
  intro u hu
  unfold cellsCm at hu
  obtain ⟨r, _, hr⟩ := List.mem_flatMap.1 hu
  simp only [List.mem_cons, List.not_mem_nil, or_false] at hr
  rcases hr with rfl | rfl | rfl | rfl | rfl | rfl <;> rfl
/-- 'append(x, y...)' onto a row of the call's own. -/
theorem wpList_appendCm {w : World} {ops : Array Oper} {rest : List Oper} {o : Oper} {act : Act} {Q : Exit → Act → World → Prop} (hgd : o.guard = none) (s x : Operand)
    (ho : o.op = .call { callee := .builtin .append, args := #[s, x], argTypes := #[42, 42] }) (base : Nat) (v : Value) (n : Nat) (xs : List Value) (hs : act.eval s = v) (hown : w.ownsRow base 31 6 v n xs)
    (a : Option Addr) (g off cap : Nat) (l : List CmdL) (hx : act.eval x = .slice a l.length cap) (hf : CmAt w a g off l) (hnil : a = none → cap = 0) (h63 : n + l.length ≤ 2097152) (hbase : base ≤ w.heap.size)
    (h : ∀ v' w', w'.ownsRow base 31 6 v' (n + l.length) (xs ++ cellsCm l) → w.grownBy w' v.ownBlock → wpList Tryd.prog ops Q rest (act.put o.dst v') w') : wpList Tryd.prog ops Q (o :: rest) act w := by
  obtain ⟨i0, hi, hz0, hz1, hz2⟩ := info_parts Tryd.info31
  cases a with
  | none =>
    have hl : l = [] := by
      cases l with
      | nil => rfl
      | cons f r => have := hf.1 (by simp); cases this
    subst hl
    rw [hnil rfl] at hx
    refine wpList_append_own_none hgd s x 42 ho base 31 i0 6 Tryd.underlying42 hi v n xs hs hown hx ?_
    refine h v w ?_ (World.grownBy.refl _ _)
    simpa [cellsCm] using hown
  | some ad =>
    have had : 0 < l.length → ad = ⟨g, off, none⟩ := fun hp => Option.some.inj (hf.1 hp)
    refine wpList_append_own w hgd s x 42 ho base 31 i0 (.agg #[.int .i64 0, .int .i64 0, .int .i64 0, .string ByteArray.empty, .string ByteArray.empty, .string ByteArray.empty]) 6 72 Tryd.underlying42 hi hz0 hz1 hz2 rfl (by decide) v n xs hs hown ad l.length cap (cellsCm l) hx (cellsCm_len l) ?_ cellsCm_one (by unfold maxLen; omega) (by omega) hbase ?_
    · intro j u hu
      have hp : 0 < l.length := by
        have := (List.getElem?_eq_some_iff.1 hu).1
        rw [cellsCm_len] at this
        omega
      rw [had hp]
      exact hf.cellsAll j u hu
    · intro v' w' h1 h2 _
      exact h v' w' h1 h2
end Go.Proofs.YtpedpdgkbmpfjaaDoor
