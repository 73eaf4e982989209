/- What a log's file tells, record by record; an entry put behind a list of entries. What the readers of a log hold while they read. -/
import Derived.Test.YtahpoemmlpbgdaaGreatSpecStart
import Derived.Test.YtahpoemmlpbgdaaGreatUnA
import Derived.ArgAppend
namespace Go.Proofs.YtahpoemmlpbgdaaGreat
section
open Go.RowKit
open Logs (okL)
set_option linter.unusedVariables false
set_option linter.unusedSimpArgs false

/-- A text of bytes. -/
def tx (p : List UInt8) : ByteArray := ⟨p.toArray⟩
/-- An entry that a log takes. -/
def Takes (f Q : Bool) (l : LogL) (n : Nat) : Prop := f = false ∧ Q = true ∧ l.start < (n : Int) ∧ (n : Int) ≤ l.start + (l.ents.length : Int) + 1
def put12 (l : LogL) (n : Nat) (e : EntL) : LogL := ⟨l.start, l.sterm, l.ents.take ((n : Int) - l.start - 1).toNat ++ [e]⟩
/-- Records read one behind another. -/
def Reads12 : List (List UInt8) → Bool → LogL → Option LogL → Prop
  | [], _, l, r => r = some l
  | p :: ps, f, l, r => ∃ i j R n e Q, StIs (tx p) i j R ∧ REIs (tx p) n e Q ∧ ((R = true ∧ Reads12 ps false ⟨(i : Int), (j : Int), []⟩ r) ∨ (R = false ∧ Takes f Q l n ∧ Reads12 ps false (put12 l n e) r) ∨ (R = false ∧ ¬ Takes f Q l n ∧ r = none))
theorem re_small {t : ByteArray} {n : Nat} {e : EntL} {Q : Bool} (h : REIs t n e Q) (hs : t.size ≤ 1048576) : e.data.size ≤ 1048576 := by
  rcases h with ⟨h, _⟩ | ⟨_, _, h, _⟩
  · obtain ⟨j, k, a, b, g, he⟩ := Ents.text_gets h.1 h.2
    rw [he]
    have := Ents.rest_size t (b + 1)
    simp only [Ents.ent]
    omega
  · rw [h]; show (#[] : Array UInt8).size ≤ _; simp
theorem un_small : ∀ (f : Nat) (l : List UInt8) (a : Nat), ∀ p ∈ Words.un f l a, p.length ≤ 9000
  | 0, l, a, p, hp => by simp [Words.un] at hp
  | f + 1, l, a, p, hp => by
    cases hfr : Words.fr l a with
    | none => rw [(Words.un_end (f + 1) hfr).1] at hp; simp at hp
    | some x =>
      obtain ⟨r, e⟩ := x
      rw [(Words.un_more f hfr).1] at hp
      rcases List.mem_cons.1 hp with rfl | hp
      · cases hfit : Words.fit l a with
        | none => rw [Words.fr_none hfit] at hfr; cases hfr
        | some y =>
          obtain ⟨n, b⟩ := y
          have hb := (Words.fit_some hfit).2.2.1
          by_cases hs : (l.drop b).take 4 = Sums.four (Sums.sumOf ((l.drop (b + 4)).take n))
          · rw [Words.fr_whole hfit hs] at hfr
            simp only [Option.some.injEq, Prod.mk.injEq] at hfr
            rw [← hfr.1, List.length_take]
            omega
          · rw [Words.fr_torn hfit hs] at hfr; cases hfr
      · exact un_small f l e p hp

/-- What ReadLog answers, told of the records and the place behind them. -/
def RLIs (ps : List (List UInt8)) (z : Nat) (l : LogL) (e : Nat) (R : Bool) : Prop := ∃ r, Reads12 ps true ⟨0, 0, []⟩ r ∧ ((∃ m, r = some m ∧ ps ≠ [] ∧ okL m = true ∧ l = m ∧ e = z ∧ R = true) ∨ ((∀ m, r = some m → ps ≠ [] → okL m = false) ∧ l = ⟨0, 0, []⟩ ∧ e = 0 ∧ R = false))
def RLPost (w : World) (l : LogL) (e : Nat) (R : Bool) (en : Ending) (w' : World) : Prop := ∃ a cap, en = .returned (.tuple #[logV l a cap, .int .i64 (e : Int), .bool R]) ∧ w'.ownsRow w.heap.size 51 3 (.slice a l.ents.length cap) l.ents.length (cellsEn l.ents) ∧ Below w.heap.size w w'

/-- A list of entries that is the call's own, or that has no spare room. -/
def EntL2 (w : World) (base : Nat) (ao : Option Addr) (n cap : Nat) (l : List EntL) : Prop := l.length = n ∧ (w.ownsRow base 51 3 (.slice ao n cap) n (cellsEn l) ∨ (cap = n ∧ (ao = none → n = 0) ∧ ∃ g off, EnAt w ao g off l))
theorem run_app1 {w : World} {base : Nat} {ao : Option Addr} {n cap B : Nat} {l : List EntL} {e : EntL} (ty : TypeId) (h : EntL2 w base ao n cap l) (hb : base ≤ w.heap.size) (hn : n ≤ 1048576) (hB : w.heap[B]? = some (.cells #[.int .i64 e.term, .int .i64 e.kind, .string e.data] 51 (0, 0))) :
    ∃ v' w', (Builtin.append_ #[24, 24] ty #[.slice ao n cap, .slice (some ⟨B, 0, none⟩) 1 1]).run Tryz.prog w = .ok v' w' ∧ w'.ownsRow base 51 3 v' (n + 1) (cellsEn (l ++ [e])) ∧ w.grownBy w' (Value.slice ao n cap).ownBlock := by
  obtain ⟨i0, hi, hz0, hz1, hz2⟩ := info_parts Tryz.info51
  obtain ⟨hl, h⟩ := h
  have hnl : (cellsEn [e]).length = 1 * 3 := cellsEn_len [e]
  have hnc : ∀ j u, (cellsEn [e])[j]? = some u → w.cell? ((⟨B, 0, none⟩ : Addr).add j) = some u := World.news_of_block (cs := #[.int .i64 e.term, .int .i64 e.kind, .string e.data]) hB
  rw [cellsEn_app]
  rcases h with h | ⟨rfl, hnone, g, off, hA⟩
  · obtain ⟨v', w', hr, h2, h3, _⟩ := run_append_own (P := Tryz.prog) w base 24 ty 51 i0 (.agg #[.int .i64 0, .int .i64 0, .string ByteArray.empty]) 3 32 Tryz.underlying24 hi hz0 hz1 hz2 rfl (by decide) _ n (cellsEn l) h ⟨B, 0, none⟩ 1 1 (cellsEn [e]) hnl hnc cellsEn_one (by unfold maxLen; omega) (by omega) hb
    exact ⟨v', w', hr, h2, h3⟩
  · cases ao with
    | none =>
      have h0 := hnone rfl
      subst h0
      have hle : l = [] := List.length_eq_zero_iff.1 hl
      subst hle
      obtain ⟨v', w', hr, h2, h3, _⟩ := run_append_own (P := Tryz.prog) w base 24 ty 51 i0 (.agg #[.int .i64 0, .int .i64 0, .string ByteArray.empty]) 3 32 Tryz.underlying24 hi hz0 hz1 hz2 rfl (by decide) _ 0 [] (World.ownsRow_nil w _ 51 3) ⟨B, 0, none⟩ 1 1 (cellsEn [e]) hnl hnc cellsEn_one (by unfold maxLen; omega) (by omega) hb
      exact ⟨v', w', hr, h2, h3⟩
    | some b =>
      obtain ⟨v', w', hr, h2, h3⟩ := run_append_arg_grows (P := Tryz.prog) w 24 ty 51 i0 (.agg #[.int .i64 0, .int .i64 0, .string ByteArray.empty]) 3 32 Tryz.underlying24 hi hz0 hz1 hz2 rfl (by decide) b cap cap (cellsEn l) (by rw [cellsEn_len, hl]) (fun j u hu => by
        have hp : 0 < l.length := by
          have := (List.getElem?_eq_some_iff.1 hu).1
          rw [cellsEn_len] at this
          omega
        have hb2 : b = ⟨g, off, none⟩ := Option.some.inj (hA.1 hp)
        rw [hb2]
        exact hA.cellsAll j u hu) ⟨B, 0, none⟩ 1 1 (cellsEn [e]) hnl hnc (by omega) (by unfold maxLen; omega) (by omega)
      exact ⟨v', w', hr, own_mono h2 hb, ⟨h3.os, h3.tape, h3.output, h3.size, fun k hk _ => h3.block k hk (by simp)⟩⟩
/-- At a step of a region that draws its order. -/
theorem step_app1 {w : World} {ops : Array Oper} {o : Oper} {act : Act} {K : Act → World → Prop} {Q : Exit → Act → World → Prop} {E : Prop} (hgd : o.guard = none) (s x : Operand)
    (ho : o.op = .call { callee := .builtin .append, args := #[s, x], argTypes := #[24, 24] }) (base : Nat) (ao : Option Addr) (n cap B : Nat) (l : List EntL) (e : EntL) (hs : act.eval s = .slice ao n cap) (hx : act.eval x = .slice (some ⟨B, 0, none⟩) 1 1)
    (h : EntL2 w base ao n cap l) (hb : base ≤ w.heap.size) (hn : n ≤ 1048576) (hB : w.heap[B]? = some (.cells #[.int .i64 e.term, .int .i64 e.kind, .string e.data] 51 (0, 0)))
    (hk : ∀ a' cap' w', w'.ownsRow base 51 3 (.slice a' (n + 1) cap') (n + 1) (cellsEn (l ++ [e])) → w.grownBy w' (Value.slice ao n cap).ownBlock → K (act.put o.dst (.slice a' (n + 1) cap')) w') : if Region.wanted o (yielded ops act.tmps) = true then Oper.wp Tryz.prog o act w K Q else E := by
  have hw : Region.wanted o (yielded ops act.tmps) = true := by simp [Region.wanted, hgd]
  rw [if_pos hw]
  obtain ⟨v', w', hr, h2, h3⟩ := run_app1 (e := e) o.type h hb hn hB
  obtain ⟨a', cap', rfl⟩ := own_slice h2
  unfold Oper.wp
  simp [execOp, ho, resolve, invoke, builtin, hs, hx, hr, Result.andThen]
  exact hk _ _ _ h2 h3
/-- The call of a Go function of three arguments as one step of such a region. -/
theorem step_call3 {P : Program} {ops : Array Oper} {o : Oper} {a : Act} {w : World} {K : Act → World → Prop} {Q : Exit → Act → World → Prop} {E : Prop} (hgd : o.guard = none) (f : Nat) (x y z : Operand) (t1 t2 t3 : TypeId)
    (ho : o.op = .call { callee := .value (.func f), args := #[x, y, z], argTypes := #[t1, t2, t3] }) (v1 v2 v3 : Value) (hx : a.eval x = v1) (hy : a.eval y = v2) (hz : a.eval z = v3) (u : Value) (R : World → Prop) (hcf : ∀ w, (callFunc f #[v1, v2, v3]).run P w = .ok (.enter f #[v1, v2, v3]) w)
    (hc : Calls P f #[v1, v2, v3] w fun e w' => e = .returned u ∧ R w') (h : ∀ w', R w' → K (a.put o.dst u) w') : if Region.wanted o (yielded ops a.tmps) = true then Oper.wp P o a w K Q else E := by
  have hw : Region.wanted o (yielded ops a.tmps) = true := by simp [Region.wanted, hgd]
  rw [if_pos hw]
  unfold Oper.wp
  have hf : a.eval (.func f) = .func (.func f) #[] #[] := rfl
  simp [execOp, ho, resolve, invoke, hf, hx, hy, hz, hcf, Deferred.ofValue, Oper.upon]
  refine hc.mono ?_
  rintro e w' ⟨rfl, hr⟩
  exact h w' hr
end
section
open Go.RowKit
set_option linter.unusedVariables false
set_option linter.unusedSimpArgs false

structure RS (w : World) (lb : Nat) (lv : Value) (ps : List (List UInt8)) (m : LogL) (a : Option Addr) (cap : Nat) (wr : World) : Prop where
  zero : wr.heap[w.heap.size]? = some (.cells #[.int .i64 0, .int .i64 0, .slice none 0 0] 26 (0, 0))
  log : wr.heap[lb]? = some (.cells #[.int .i64 m.start, .int .i64 m.sterm, .slice a m.ents.length cap] 26 (0, 0))
  own : wr.ownsRow w.heap.size 51 3 (.slice a m.ents.length cap) m.ents.length (cellsEn m.ents)
  lst : wr.ownsRow w.heap.size 9 1 lv ps.length (cellsS ps)
  bel : Below w.heap.size w wr
theorem RS.same {w : World} {lb : Nat} {lv : Value} {ps : List (List UInt8)} {m : LogL} {a : Option Addr} {cap : Nat} {wr w' : World} (h : RS w lb lv ps m a cap wr) (hb : Below wr.heap.size wr w') : RS w lb lv ps m a cap w' :=
  ⟨(hb.block _ (Array.getElem?_eq_some_iff.1 h.zero).1).trans h.zero, (hb.block _ (Array.getElem?_eq_some_iff.1 h.log).1).trans h.log, own_kept h.own hb, own_kept h.lst hb, h.bel.trans (hb.mono h.bel.size)⟩
end
end Go.Proofs.YtahpoemmlpbgdaaGreat
