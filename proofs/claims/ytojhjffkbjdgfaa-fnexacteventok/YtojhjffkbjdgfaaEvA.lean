/- An event and its cells; EventOk of both sides, walked. Made by program. -/
import Derived.Test.YtojhjffkbjdgfaaImplCmd
import Derived.Test.YtojhjffkbjdgfaaCmdW
namespace Go.Proofs.Ytojhjffkbjdgfaa
open Go.RowKit
open Cmds (okC)
set_option linter.unusedVariables false
set_option linter.unusedSimpArgs false

structure EvL where
  kind : Int
  node : Int
  at_ : Int
  lim : Int
  cmd : CmdL
  conf : List Int
  cut : Bool
  whole : Int
  part : Int

def evV (e : EvL) (a : Option Addr) (cc : Nat) : Value := .agg #[.int .i64 e.kind, .int .i64 e.node, .int .i64 e.at_, .int .i64 e.lim, .int .i64 e.cmd.op, .int .i64 e.cmd.ses, .int .i64 e.cmd.seq, .string e.cmd.key, .string e.cmd.val, .string e.cmd.old, .slice a e.conf.length cc, .bool e.cut, .int .i64 e.whole, .int .i64 e.part]
def evC (e : EvL) (a : Option Addr) (cc : Nat) : Array Value := #[.int .i64 e.kind, .int .i64 e.node, .int .i64 e.at_, .int .i64 e.lim, .int .i64 e.cmd.op, .int .i64 e.cmd.ses, .int .i64 e.cmd.seq, .string e.cmd.key, .string e.cmd.val, .string e.cmd.old, .slice a e.conf.length cc, .bool e.cut, .int .i64 e.whole, .int .i64 e.part]
/-- The cells of an event that lies at g. -/
structure EvAt (W : World) (g : Nat) (e : EvL) (a : Option Addr) (cc : Nat) : Prop where
  c0 : W.cell? ⟨g, 0, none⟩ = some (.int .i64 e.kind)
  c1 : W.cell? ⟨g, 1, none⟩ = some (.int .i64 e.node)
  c2 : W.cell? ⟨g, 2, none⟩ = some (.int .i64 e.at_)
  c3 : W.cell? ⟨g, 3, none⟩ = some (.int .i64 e.lim)
  c4 : W.cell? ⟨g, 4, none⟩ = some (.int .i64 e.cmd.op)
  c5 : W.cell? ⟨g, 5, none⟩ = some (.int .i64 e.cmd.ses)
  c6 : W.cell? ⟨g, 6, none⟩ = some (.int .i64 e.cmd.seq)
  c7 : W.cell? ⟨g, 7, none⟩ = some (.string e.cmd.key)
  c8 : W.cell? ⟨g, 8, none⟩ = some (.string e.cmd.val)
  c9 : W.cell? ⟨g, 9, none⟩ = some (.string e.cmd.old)
  c10 : W.cell? ⟨g, 10, none⟩ = some (.slice a e.conf.length cc)
  c11 : W.cell? ⟨g, 11, none⟩ = some (.bool e.cut)
  c12 : W.cell? ⟨g, 12, none⟩ = some (.int .i64 e.whole)
  c13 : W.cell? ⟨g, 13, none⟩ = some (.int .i64 e.part)
theorem EvAt.new (w : World) (e : EvL) (a : Option Addr) (cc : Nat) (t : TypeId) : EvAt (w.alloc (Obj.cells #[.int .i64 e.kind, .int .i64 e.node, .int .i64 e.at_, .int .i64 e.lim, .int .i64 e.cmd.op, .int .i64 e.cmd.ses, .int .i64 e.cmd.seq, .string e.cmd.key, .string e.cmd.val, .string e.cmd.old, .slice a e.conf.length cc, .bool e.cut, .int .i64 e.whole, .int .i64 e.part] t)) w.heap.size e a cc := by
  have p0 := heap_alloc_new w (Obj.cells #[.int .i64 e.kind, .int .i64 e.node, .int .i64 e.at_, .int .i64 e.lim, .int .i64 e.cmd.op, .int .i64 e.cmd.ses, .int .i64 e.cmd.seq, .string e.cmd.key, .string e.cmd.val, .string e.cmd.old, .slice a e.conf.length cc, .bool e.cut, .int .i64 e.whole, .int .i64 e.part] t)
  exact ⟨cell_of_row _ _ 0 _ _ _ p0, cell_of_row _ _ 1 _ _ _ p0, cell_of_row _ _ 2 _ _ _ p0, cell_of_row _ _ 3 _ _ _ p0, cell_of_row _ _ 4 _ _ _ p0, cell_of_row _ _ 5 _ _ _ p0, cell_of_row _ _ 6 _ _ _ p0, cell_of_row _ _ 7 _ _ _ p0, cell_of_row _ _ 8 _ _ _ p0, cell_of_row _ _ 9 _ _ _ p0, cell_of_row _ _ 10 _ _ _ p0, cell_of_row _ _ 11 _ _ _ p0, cell_of_row _ _ 12 _ _ _ p0, cell_of_row _ _ 13 _ _ _ p0⟩
theorem EvAt.lt {W : World} {g : Nat} {e : EvL} {a : Option Addr} {cc : Nat} (h : EvAt W g e a cc) : g < W.heap.size := World.block_lt_of_cell? W _ h.c0
theorem EvAt.kept {W W' : World} {g : Nat} {e : EvL} {a : Option Addr} {cc : Nat} (h : EvAt W g e a cc) (hb : Below W.heap.size W W') : EvAt W' g e a cc :=
  ⟨(hb.cell (p := ⟨g, 0, none⟩) h.lt).trans h.c0, (hb.cell (p := ⟨g, 1, none⟩) h.lt).trans h.c1, (hb.cell (p := ⟨g, 2, none⟩) h.lt).trans h.c2, (hb.cell (p := ⟨g, 3, none⟩) h.lt).trans h.c3, (hb.cell (p := ⟨g, 4, none⟩) h.lt).trans h.c4, (hb.cell (p := ⟨g, 5, none⟩) h.lt).trans h.c5, (hb.cell (p := ⟨g, 6, none⟩) h.lt).trans h.c6, (hb.cell (p := ⟨g, 7, none⟩) h.lt).trans h.c7, (hb.cell (p := ⟨g, 8, none⟩) h.lt).trans h.c8, (hb.cell (p := ⟨g, 9, none⟩) h.lt).trans h.c9, (hb.cell (p := ⟨g, 10, none⟩) h.lt).trans h.c10, (hb.cell (p := ⟨g, 11, none⟩) h.lt).trans h.c11, (hb.cell (p := ⟨g, 12, none⟩) h.lt).trans h.c12, (hb.cell (p := ⟨g, 13, none⟩) h.lt).trans h.c13⟩

/-- The greatest of a list, from a beginning. -/
def mx : Int → List Int → Int
  | m, [] => m
  | m, x :: l => mx (max m x) l
theorem mx_asc : ∀ (l : List Int) (m hi : Int), Mans.asc (m + 1) hi l = true → mx m l = l.getLastD m
  | [], _, _, _ => rfl
  | x :: l, m, hi, h => by
    simp only [Mans.asc, Bool.and_eq_true, decide_eq_true_eq] at h
    have e : max m x = x := by omega
    rw [mx, e, mx_asc l x hi h.2]
    cases l <;> rfl
def lastI (l : List Int) : Int := l.getLastD 0
theorem mx_conf {x : Int} {l : List Int} (h : Mans.confOk (x :: l) = true) : mx x l = lastI (x :: l) := by
  have := (Mans.confOk_iff.1 h).2
  simp only [Mans.asc, Bool.and_eq_true, decide_eq_true_eq] at this
  rw [mx_asc l x 4 this.2]
  unfold lastI
  cases l <;> rfl
def confIn (n : Int) (l : List Int) : Bool := Mans.confOk l && decide (lastI l ≤ n)
def kindB (n : Int) (e : EvL) : Bool :=
  if e.kind = 1 ∨ e.kind = 9 then (decide (1 ≤ e.lim) && decide (e.lim ≤ 20)) else if e.kind = 5 then okC e.cmd else if e.kind = 6 then confIn n e.conf else true
def evB (n : Int) (e : EvL) : Bool :=
  ((((decide (1 ≤ n) && decide (n ≤ 4)) && (decide (1 ≤ e.kind) && decide (e.kind ≤ 9))) && (decide (1 ≤ e.node) && decide (e.node ≤ n))) && decide (0 ≤ e.at_)) && kindB n e
theorem evB_no {n : Int} {e : EvL} (h : ¬ ((1 ≤ n ∧ n ≤ 4) ∧ (1 ≤ e.kind ∧ e.kind ≤ 9) ∧ (1 ≤ e.node ∧ e.node ≤ n) ∧ 0 ≤ e.at_)) : evB n e = false := by
  cases q : evB n e with
  | false => rfl
  | true =>
    unfold evB at q
    simp only [Bool.and_eq_true, decide_eq_true_eq] at q
    exact absurd ⟨q.1.1.1.1, q.1.1.1.2, q.1.1.2, q.1.2⟩ h
theorem evB_yes {n : Int} {e : EvL} (h1 : 1 ≤ n ∧ n ≤ 4) (h2 : 1 ≤ e.kind ∧ e.kind ≤ 9) (h3 : 1 ≤ e.node ∧ e.node ≤ n) (h4 : 0 ≤ e.at_) : evB n e = kindB n e := by
  unfold evB
  simp [h1, h2, h3, h4]
end Go.Proofs.Ytojhjffkbjdgfaa
