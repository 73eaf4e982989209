/- What is drawn of logs is right: l12Next. -/
import Derived.Test.YtahpoemmlpbgdaaGreatDrawLog
import Derived.Test.YtahpoemmlpbgdaaGreatSpecRL
import Derived.Test.YtahpoemmlpbgdaaGreatSpecBehind0
namespace Go.Proofs.YtahpoemmlpbgdaaGreat
open Go.RowKit
set_option linter.unusedVariables false
set_option linter.unusedSimpArgs false

namespace Logs
theorem rises_last : ∀ (es : List EntL) (s : Int), rises s es = true → s ≤ (es.getLast?.map (·.term)).getD s ∧ ∀ e ∈ es, e.term ≤ (es.getLast?.map (·.term)).getD s
  | [], s, _ => ⟨Int.le_refl _, fun e h => (List.not_mem_nil h).elim⟩
  | x :: r, s, h => by
    simp only [rises, Bool.and_eq_true, decide_eq_true_eq] at h
    have ih := rises_last r x.term h.2
    have hq : ((x :: r).getLast?.map (·.term)).getD s = (r.getLast?.map (·.term)).getD x.term := by
      cases r with
      | nil => rfl
      | cons y r =>
        obtain ⟨q, hq⟩ : ∃ q, (y :: r).getLast? = some q := ⟨_, List.getLast?_eq_some_getLast (by simp)⟩
        rw [List.getLast?_cons_cons, hq]; rfl
    rw [hq]
    refine ⟨by have := ih.1; omega, fun e he => ?_⟩
    rcases List.mem_cons.1 he with rfl | he
    · exact ih.1
    · exact ih.2 e he
theorem rises_take : ∀ (es : List EntL) (k : Nat) (s : Int), rises s es = true → rises s (es.take k) = true
  | [], k, s, _ => by simp [rises]
  | x :: r, 0, s, _ => by simp [rises]
  | x :: r, k + 1, s, h => by
    simp only [rises, List.take_succ_cons, Bool.and_eq_true, decide_eq_true_eq] at h ⊢
    exact ⟨h.1, rises_take r k _ h.2⟩
end Logs
theorem Drawn.last {st s T : Int} {es : List EntL} (h : Drawn s T es) : Drawn s (Logs.lastT ⟨st, s, es⟩) es ∧ Logs.lastT ⟨st, s, es⟩ ≤ T := by
  have h1 := Logs.rises_last es s h.ri
  refine ⟨⟨h.ri, h1.2, h.da, h1.1⟩, ?_⟩
  show (es.getLast?.map (·.term)).getD s ≤ T
  cases hq : es.getLast? with
  | none => exact h.lo
  | some e => exact h.te e (List.mem_of_getLast? hq)
theorem Drawn.take {s T : Int} {es : List EntL} (h : Drawn s T es) (k : Nat) : Drawn s T (es.take k) :=
  ⟨Logs.rises_take es k s h.ri, fun e he => h.te e (List.mem_of_mem_take he), fun e he => h.da e (List.mem_of_mem_take he), h.lo⟩
theorem lastT_snoc {st s : Int} {es : List EntL} {d : EntL} : Logs.lastT ⟨st, s, es ++ [d]⟩ = d.term := by
  simp [Logs.lastT]
theorem step_storeA {w : World} {ops : Array Oper} {o : Oper} {act : Act} {K : Act → World → Prop} {Q : Exit → Act → World → Prop} {E : Prop} (hgd : o.guard = none) (x y : Operand) (ho : o.op = .store 26 x y) (g : Nat) (A C : Array Value) (hx : act.eval x = .pointer (some ⟨g, 0, none⟩)) (hy : act.eval y = .agg A) (hg : w.heap[g]? = some (.cells C 26 (0, 0))) (hs : A.size = 3) (hc : C.size = 3) (h1 : ∀ v ∈ A.toList, v.oneCell' = true)
    (h : K (act.put o.dst undef) (w.setRow g A)) : if Region.wanted o (yielded ops act.tmps) = true then Oper.wp Tryz.prog o act w K Q else E := by
  have hw : Region.wanted o (yielded ops act.tmps) = true := by simp [Region.wanted, hgd]
  rw [if_pos hw]
  have hrun := run_store_agg (P := Tryz.prog) Tryz.sizeOf26 hg hs hc h1
  unfold Oper.wp
  simp [execOp, ho, hx, hy, hrun, Result.andThen]
  exact h
theorem step_call3R {P : Program} {ops : Array Oper} {o : Oper} {a : Act} {w : World} {K : Act → World → Prop} {Q : Exit → Act → World → Prop} {E : Prop} (hgd : o.guard = none) (f : Nat) (x y z : Operand) (t1 t2 t3 : TypeId)
    (ho : o.op = .call { callee := .value (.func f), args := #[x, y, z], argTypes := #[t1, t2, t3] }) (v1 v2 v3 : Value) (hx : a.eval x = v1) (hy : a.eval y = v2) (hz : a.eval z = v3) (R : Value → World → Prop) (hcf : ∀ w, (callFunc f #[v1, v2, v3]).run P w = .ok (.enter f #[v1, v2, v3]) w)
    (hc : Calls P f #[v1, v2, v3] w fun e w' => ∃ u, e = .returned u ∧ R u w') (h : ∀ u w', R u w' → K (a.put o.dst u) w') : if Region.wanted o (yielded ops a.tmps) = true then Oper.wp P o a w K Q else E := by
  have hw : Region.wanted o (yielded ops a.tmps) = true := by simp [Region.wanted, hgd]
  rw [if_pos hw]
  unfold Oper.wp
  have hf : a.eval (.func f) = .func (.func f) #[] #[] := rfl
  simp [execOp, ho, resolve, invoke, hf, hx, hy, hz, hcf, Deferred.ofValue, Oper.upon]
  refine hc.mono ?_
  rintro e w' ⟨u, rfl, hr⟩
  exact h u w' hr
theorem LS.over {B g len cap b off : Nat} {a : Option Addr} {z : Nat → Int} {w W : World} {xb : Nat} {st sT st' sT' : Int} {es es' : List EntL} {v v' : Value} (h : LS B g len cap b off a z w xb st sT es v W) (hown : W.ownsRow w.heap.size 51 3 v' es'.length (cellsEn es')) : LS B g len cap b off a z w xb st' sT' es' v' (W.setRow xb #[.int .i64 st', .int .i64 sT', v']) :=
  have hl := h.lt
  have hu := h.up
  ⟨h.cur.kept (grown_setRow W xb _) (fun r e => Or.inl (by have := h.cur.low; cases e; omega)) (setRow_other W xb g _ (by omega)), row_size h.x, own_row hown xb _ (own_not hown h.x (by decide)), row_far h.zz (by omega) _, h.gr.andThen (grown_setRow W xb _) (fun r e => Or.inl (by cases e; omega)), hl, hu⟩
theorem Logs.rises_at : ∀ (es : List EntL) (k : Nat) (s : Int) (hk : k < es.length), Logs.rises s es = true → Logs.rises es[k].term (es.drop (k + 1)) = true
  | x :: r, 0, s, _, h => by
    simp only [Logs.rises, Bool.and_eq_true, decide_eq_true_eq] at h
    simpa using h.2
  | x :: r, k + 1, s, hk, h => by
    simp only [Logs.rises, Bool.and_eq_true, decide_eq_true_eq] at h
    have := Logs.rises_at r k x.term (by simpa using hk) h.2
    simpa using this
theorem behind_drawn {st s T : Int} {es : List EntL} {kk : Nat} (h : Drawn s T es) (hs : 0 ≤ s) (hst : 0 ≤ st ∧ st ≤ 6) (hk : kk ≤ es.length) (hl : es.length ≤ 10) :
    (0 ≤ termI ⟨st, s, es⟩ (st + (kk : Int)) ∧ termI ⟨st, s, es⟩ (st + (kk : Int)) ≤ T) ∧ Drawn (termI ⟨st, s, es⟩ (st + (kk : Int))) T (behindL ⟨st, s, es⟩ (st + (kk : Int)) (termI ⟨st, s, es⟩ (st + (kk : Int)))) ∧ (behindL ⟨st, s, es⟩ (st + (kk : Int)) (termI ⟨st, s, es⟩ (st + (kk : Int)))).length ≤ es.length := by
  have hlast : lastI ⟨st, s, es⟩ = st + (es.length : Int) := by unfold lastI wrap64; simp only; omega
  obtain ⟨u, hu, hu0, hu1, hr⟩ : ∃ u, termI ⟨st, s, es⟩ (st + (kk : Int)) = u ∧ 0 ≤ u ∧ u ≤ T ∧ Logs.rises u (es.drop kk) = true := by
    cases kk with
    | zero => exact ⟨s, by simp [termI], hs, h.lo, by simpa using h.ri⟩
    | succ n =>
      have hn : n < es.length := by omega
      refine ⟨es[n].term, ?_, ?_, h.te _ (List.getElem_mem hn), Logs.rises_at es n s hn h.ri⟩
      · unfold termI
        rw [if_neg (by show ¬ st + ((n + 1 : Nat) : Int) = st; omega), if_neg (by rw [hlast]; show ¬ (st + ((n + 1 : Nat) : Int) < st ∨ st + (es.length : Int) < st + ((n + 1 : Nat) : Int)); omega)]
        have e1 : (st + ((n + 1 : Nat) : Int) - st - 1).toNat = n := by omega
        simp only [e1, List.getElem?_eq_getElem hn]
        rfl
      · have := (Logs.rises_mem es s h.ri _ (List.getElem_mem hn)).2
        omega
  rw [hu]
  have hd : (st + (kk : Int) - st).toNat = kk := by omega
  refine ⟨⟨hu0, hu1⟩, ?_, ?_⟩
  · unfold behindL
    split
    · simp only [hd]
      exact ⟨hr, fun e he => h.te e (List.mem_of_mem_drop he), fun e he => h.da e (List.mem_of_mem_drop he), hu1⟩
    · exact (Drawn.nil u).up hu1
  · unfold behindL
    split
    · simp only [hd, List.length_drop]; omega
    · simp
theorem wrap_small {x : Int} (h0 : -9223372036854775808 ≤ x) (h1 : x ≤ 9223372036854775807) : IntKind.i64.wrap x = x := IntWalk.i64_in _ ⟨h0, h1⟩
theorem resultN {w : World} {g : Nat} {A C : Array Value} (hg : w.heap[g]? = some (.cells C 26 (0, 0))) (hs : A.size = 3) {tmps : Array Value} (ht : tmps.getD 4 undef = .pointer (some ⟨g, 0, none⟩)) : (results Tryz.f20 tmps).run Tryz.prog (w.setRow g A) = .ok (.agg A) (w.setRow g A) := by
  have h := run_loadVar_agg (P := Tryz.prog) Tryz.isAgg26 Tryz.sizeOf26 (row_size (A := A) hg) hs
  have ht' : tmps[4]?.getD undef = .pointer (some ⟨g, 0, none⟩) := by simpa using ht
  simp [results, Tryz.results20, ht', asAddr, h]
/-- What l12Next holds ahead of the copy: the cursor, the log that came, the result. -/
structure NS (B g len cap b off : Nat) (a : Option Addr) (z : Nat → Int) (WB : World) (bx : Nat) (C : Array Value) (W : World) : Prop where
  cur : Cur B W g a len cap b off z
  x : W.heap[bx]? = some (.cells C 26 (0, 0))
  zz : W.heap[bx + 1]? = some (.cells #[.int .i64 0, .int .i64 0, .slice none 0 0] 26 (0, 0))
  gr : WB.grownBy W (some g)
  lt : g < bx
  sz : WB.heap.size = bx + 1
section
variable {B g len cap b off : Nat} {a : Option Addr} {z : Nat → Int} {WB W W' : World} {bx : Nat} {C : Array Value}
theorem NS.call (h : NS B g len cap b off a z WB bx C W) (hc : Cur B W' g a len cap b off z) (hg : W.grownBy W' (some g)) : NS B g len cap b off a z WB bx C W' :=
  have hl := h.lt
  ⟨hc, grown_keep h.x hg (by omega), grown_keep h.zz hg (by omega), h.gr.trans hg, hl, h.sz⟩
theorem NS.same (h : NS B g len cap b off a z WB bx C W) (hb : Below W.heap.size W W') : NS B g len cap b off a z WB bx C W' := h.call (h.cur.same hb) (own_below' hb)
/-- The copy laid: a row of the call's own in a variable of its own. -/
theorem NS.out (h : NS B g len cap b off a z WB bx C W) (hb : Below W.heap.size W W') {xb : Nat} {D : Array Value} {st sT : Int} {es : List EntL} {v : Value} (hx : W'.heap[xb]? = some (.cells D 26 (0, 0))) (hxb : W.heap.size ≤ xb) (hown : W'.ownsRow W.heap.size 51 3 v es.length (cellsEn es)) :
    LS B g len cap b off a z WB xb st sT es v (W'.setRow xb #[.int .i64 st, .int .i64 sT, v]) := by
  have hs := h.sz
  have hl := h.lt
  have hW := (Array.getElem?_eq_some_iff.1 h.zz).1
  have h' := h.same hb
  refine ⟨h'.cur.kept (grown_setRow W' xb _) (fun r e => Or.inl (by have := h'.cur.low; cases e; omega)) (setRow_other W' xb g _ (by omega)), row_size hx, ?_, ?_, h'.gr.andThen (grown_setRow W' xb _) (fun r e => Or.inl (by cases e; omega)), by omega, by omega⟩
  · exact own_mono (own_row hown xb _ (own_not hown hx (by decide))) (by omega)
  · rw [hs]; exact row_far h'.zz (by omega) _
end
set_option maxHeartbeats 8000000 in
set_option maxRecDepth 100000 in
theorem nextR_any {B g len cap b off Bo : Nat} {a : Option Addr} {z : Nat → Int} (l : LogL) (va : Option Addr) (vc : Nat) (w : World) (hc : Cur B w g a len cap b off z)
    (hst : 0 ≤ l.start ∧ l.start ≤ 6) (hsT : 0 ≤ l.sterm ∧ l.sterm ≤ 100) (hn : l.ents.length ≤ 7) (hdr : Drawn l.sterm 100 l.ents) (hown : w.ownsRow Bo 51 3 (.slice va l.ents.length vc) l.ents.length (cellsEn l.ents)) :
    Calls Tryz.prog 20 #[.pointer (some ⟨g, 0, none⟩), .agg #[.int .i64 l.start, .int .i64 l.sterm, .slice va l.ents.length vc]] w (LogPostR B g len cap b off a z w 20 10 110) := by
  have hlt := hc.lt
  obtain ⟨TL, hTL⟩ : ∃ T, T = Logs.lastT l := ⟨_, rfl⟩
  obtain ⟨hdl, hdt⟩ := hdr.last (st := l.start)
  rw [show (⟨l.start, l.sterm, l.ents⟩ : LogL) = l from rfl, ← hTL] at hdl hdt
  have ht0 : 0 ≤ TL := Int.le_trans hsT.1 hdl.lo
  obtain ⟨gl, hEN⟩ : ∃ gl, EnAt w va gl 0 l.ents := by
    obtain ⟨a3, g3, c3, e3, h3⟩ := cellsEn_slice hown
    simp only [Value.slice.injEq] at e3
    obtain ⟨rfl, _, rfl⟩ := e3
    exact ⟨g3, h3⟩
  have HNG : Hid ((Value.slice va l.ents.length vc).ownBlock ≠ some g) := by
    obtain ⟨cs, hcs⟩ := hc.blk
    exact own_not hown hcs (by decide)
  obtain ⟨bx, hbx⟩ : ∃ bx, bx = w.heap.size := ⟨_, rfl⟩
  obtain ⟨WB, hWB⟩ : ∃ WB, WB = w.alloc (Obj.cells #[.int .i64 l.start, .int .i64 l.sterm, .slice va l.ents.length vc] 26) := ⟨_, rfl⟩
  have hsz : WB.heap.size = w.heap.size + 1 := by rw [hWB]; simp
  have HCB : Hid (Cur B WB g a len cap b off z) := by rw [hWB]; exact hc.alloc _
  have HGB : Hid (w.grownBy WB (some g)) := by rw [hWB]; exact grown_alloc _ _
  have HXB : Hid (WB.heap[bx]? = some (.cells #[.int .i64 l.start, .int .i64 l.sterm, .slice va l.ents.length vc] 26 (0, 0))) := by show _ = _; rw [hWB, hbx]; exact heap_alloc_new w _
  have HEB : Hid (EnAt WB va gl 0 l.ents) := by rw [hWB]; exact hEN.kept ((Below.refl _ _).alloc (Nat.le_refl _) _)
  obtain ⟨W1, hW1⟩ : ∃ W1, W1 = WB.alloc (Obj.cells #[.int .i64 0, .int .i64 0, .slice none 0 0] 26) := ⟨_, rfl⟩
  have HC1 : Hid (Cur B W1 g a len cap b off z) := by rw [hW1]; exact HCB.out.alloc _
  have HG1 : Hid (WB.grownBy W1 (some g)) := by rw [hW1]; exact grown_alloc _ _
  have HZ1 : Hid (W1.heap[WB.heap.size]? = some (.cells #[.int .i64 0, .int .i64 0, .slice none 0 0] 26 (0, 0))) := by show _ = _; rw [hW1]; exact heap_alloc_new WB _
  have hb1 : Below WB.heap.size WB W1 := by rw [hW1]; exact (Below.refl _ _).alloc (Nat.le_refl _) _
  have hl1 : W1.heap[bx]? = some (.cells #[.int .i64 l.start, .int .i64 l.sterm, .slice va l.ents.length vc] 26 (0, 0)) := (hb1.block bx (by omega)).trans HXB.out
  have HX1 : Hid (W1.heap[bx]? = some (.cells #[.int .i64 l.start, .int .i64 l.sterm, .slice va l.ents.length vc] 26 (0, 0))) := hl1
  have HQ1 : Hid (Calls Tryz.prog 45 #[.agg #[.int .i64 l.start, .int .i64 l.sterm, .slice va l.ents.length vc]] W1 fun en w' => en = .returned (.tuple #[.int .i64 (if l.ents.length = 0 then l.start else lastI l), .int .i64 TL]) ∧ Below W1.heap.size W1 w') := by rw [hTL]; exact specLast_is (cap := vc) l (by omega) W1 (HEB.out.kept hb1)
  obtain ⟨LX, hLX⟩ : ∃ LX, LX = (if l.ents.length = 0 then l.start else lastI l) := ⟨_, rfl⟩
  rw [← hLX] at HQ1
  have HN1 : Hid (NS B g len cap b off a z WB bx #[.int .i64 l.start, .int .i64 l.sterm, .slice va l.ents.length vc] W1) := ⟨HC1.out, hl1, by have := HZ1.out; rw [hsz, ← hbx] at this; exact this, HG1.out, by omega, by omega⟩
  have HOWN : Hid (w.ownsRow Bo 51 3 (.slice va l.ents.length vc) l.ents.length (cellsEn l.ents)) := hown
  have HDL : Hid (Drawn l.sterm TL l.ents) := hdl
  have HS : Hid ((0 ≤ l.start ∧ l.start ≤ 6) ∧ (0 ≤ l.sterm ∧ l.sterm ≤ 100)) := ⟨hst, hsT⟩
  have HSZ : Hid (WB.heap.size = w.heap.size + 1 ∧ bx = w.heap.size) := ⟨hsz, hbx⟩
  clear hc hdr hown hdl hTL hLX hEN hst hsT hl1 HCB HG1 HC1 HZ1 HX1
  go_enter Tryz.func20, Tryz.ntmps20
  go_wp2_with fail
  rw [← hWB, ← hW1, ← hbx]
  refine Calls.mono HQ1.out ?_
  rintro e w2 ⟨rfl, hb2⟩
  have HN2 : Hid (NS B g len cap b off a z WB bx #[.int .i64 l.start, .int .i64 l.sterm, .slice va l.ents.length vc] w2) := HN1.out.same hb2
  have HE2 : Hid (EnAt w2 va gl 0 l.ents) := (HEB.out.kept hb1).kept hb2
  have x2 := cell_of_row _ _ 2 _ _ _ HN2.out.x
  simp at x2
  have HBW : Hid (w.heap.size ≤ bx) := by show _ ≤ _; omega
  clear HQ1 hW1 hb1 hb2 HN1 HEB HXB hWB hsz
  clear hbx
  go_wp2_with fail
  refine (once_any 2 (by omega) _ HN2.out.cur).mono ?_
  rintro e w3 ⟨y, rfl, hc3, hg3⟩
  have HN3 : Hid (NS B g len cap b off a z WB bx #[.int .i64 l.start, .int .i64 l.sterm, .slice va l.ents.length vc] w3) := HN2.out.call hc3 hg3
  clear hc3 hg3 HN2 x2
  go_upto_if 19 with fail
  go_cut [7] (fun kv wx => ∃ kk : Nat, kk ≤ l.ents.length ∧ kv = .int .i64 (kk : Int) ∧ NS B g len cap b off a z WB bx #[.int .i64 l.start, .int .i64 l.sterm, .slice va l.ents.length vc] wx)
  case first =>
    cases hy : (y == 0) with
    | true =>
      go_wp2_with fail
      refine (below_any ((l.ents.length : Int) + 1) (by omega) _ HN3.out.cur).mono ?_
      rintro e w4 ⟨x, rfl, hx, hc4, hg4⟩
      obtain ⟨hx0, _, hx2⟩ := hx
      have hx3 := hx2 (by omega)
      obtain ⟨kk, rfl⟩ := Int.eq_ofNat_of_zero_le hx0
      have HN4 : Hid (NS B g len cap b off a z WB bx #[.int .i64 l.start, .int .i64 l.sterm, .slice va l.ents.length vc] w4) := HN3.out.call hc4 hg4
      clear hc4 hg4 HN3 hx2
      go_wp2_with fail
      go_meet
      case rel => exact ⟨kk, by omega, rfl, HN4.out⟩
    | false =>
      go_wp2_with fail
      go_meet
      case rel => exact ⟨l.ents.length, Nat.le_refl _, rfl, HN3.out⟩
  case rest =>
    obtain ⟨k, hk, rfl, hN⟩ := hcut
    have HN : Hid (NS B g len cap b off a z WB bx #[.int .i64 l.start, .int .i64 l.sterm, .slice va l.ents.length vc] wc) := hN
    clear hN
    go_upto_region 5 with fail
    go_cut [8] (fun pv wx => ∃ (xb : Nat) (v : Value), pv = .pointer (some ⟨xb, 0, none⟩) ∧ LS B g len cap b off a z WB xb l.start l.sterm (l.ents.take k) v wx)
    case first =>
      have HOC : Hid (wc.ownsRow Bo 51 3 (.slice va l.ents.length vc) l.ents.length (cellsEn l.ents)) := HOWN.out.kept (HGB.out.trans HN.out.gr) (Or.inr HNG.out)
      obtain ⟨pa, hpa⟩ : ∃ pa : Option Addr, pa = if vc = 0 then va else va.map (·.add (0 * 3)) := ⟨_, rfl⟩
      have hcap : k ≤ vc := by
        rcases HOC.out.2 with ⟨h1, h2⟩ | ⟨g, c, cur, h1, _, _, h2, _⟩
        · omega
        · simp at h1; omega
      obtain ⟨gE, HEN8⟩ : ∃ gE, Hid (EnAt wc pa gE 0 (l.ents.take k)) := by
        obtain ⟨a3, g3, c3, e3, h3⟩ := cellsEn_slice HOC.out
        simp only [Value.slice.injEq] at e3
        obtain ⟨rfl, _, rfl⟩ := e3
        refine ⟨g3, fun hp => ?_, fun j hj => ?_⟩
        · have hk0 : 0 < k := by rw [List.length_take] at hp; omega
          rw [hpa, if_neg (by omega), h3.1 (by omega)]
          simp [Addr.add_lit]
        · have hj2 : j < l.ents.length := by rw [List.length_take] at hj; omega
          rw [List.getElem_take]
          exact h3.2 j hj2
      have HNIL : Hid (pa = none → vc = 0) := fun h => by
        rcases HOC.out.2 with ⟨h1, h2⟩ | ⟨g, c, cur, h1, _, _, h2, _⟩
        · simp at h1; exact h1.2.2
        · simp at h1
          rw [hpa, h1.1] at h
          split at h
          · rename_i h0; exact h0
          · cases h
      have hsl : ∀ X : World, (Instr.slice 24 (.slice va l.ents.length vc) none (some (.int .i64 (k : Int))) none).run Tryz.prog X = .ok (.slice pa k vc) X := fun X => by
        have h0 := run_slice_h (P := Tryz.prog) X 24 va l.ents.length vc Tryz.underlying24 .i64 (k : Int) (by omega) (by omega)
        rw [h0, hpa]
        simp [go_sem, sliced]
      clear hpa
      have HTL : Hid ((l.ents.take k).length = k) := by show _ = _; rw [List.length_take]; omega
      have HKE : Hid (k ≤ 1048576) := by show _ ≤ _; omega
      have c0 := cell_of_row _ _ 0 _ _ _ HN.out.x
      have c1 := cell_of_row _ _ 1 _ _ _ HN.out.x
      have c2 := cell_of_row _ _ 2 _ _ _ HN.out.x
      simp at c0 c1 c2
      have HEB : Hid (∀ Y, Below wc.heap.size wc Y → Y.cell? ⟨bx, 0, none⟩ = some (.int .i64 l.start) ∧ Y.cell? ⟨bx, 1, none⟩ = some (.int .i64 l.sterm) ∧ Y.cell? ⟨bx, 2, none⟩ = some (.slice va l.ents.length vc)) := fun Y h => ⟨(h.cell (p := ⟨bx, 0, none⟩) (World.block_lt_of_cell? _ _ c0)).trans c0, (h.cell (p := ⟨bx, 1, none⟩) (World.block_lt_of_cell? _ _ c1)).trans c1, (h.cell (p := ⟨bx, 2, none⟩) (World.block_lt_of_cell? _ _ c2)).trans c2⟩
      clear c0 c1 c2
      obtain ⟨wd, hwd⟩ : ∃ wd, wd = wc := ⟨_, rfl⟩
      have bA : Below wc.heap.size wc (wc.alloc (Obj.cells #[] 51)) := ((Below.refl _ _).alloc (Nat.le_refl _) _)
      have BA : Hid (Below wc.heap.size wc (wc.alloc (Obj.cells #[] 51)).drew) := bA.drew
      have bN : Below wc.heap.size wc (wc.alloc (Obj.cells #[.int .i64 0, .int .i64 0, .slice none 0 0] 26)) := ((Below.refl _ _).alloc (Nat.le_refl _) _)
      have BN : Hid (Below wc.heap.size wc (wc.alloc (Obj.cells #[.int .i64 0, .int .i64 0, .slice none 0 0] 26)).drew) := bN.drew
      have bAN : Below wc.heap.size wc ((wc.alloc (Obj.cells #[] 51)).alloc (Obj.cells #[.int .i64 0, .int .i64 0, .slice none 0 0] 26)) := (((Below.refl _ _).alloc (Nat.le_refl _) _).alloc (by simp) _)
      have BAN : Hid (Below wc.heap.size wc ((wc.alloc (Obj.cells #[] 51)).alloc (Obj.cells #[.int .i64 0, .int .i64 0, .slice none 0 0] 26)).drew) := bAN.drew
      have bNA : Below wc.heap.size wc ((wc.alloc (Obj.cells #[.int .i64 0, .int .i64 0, .slice none 0 0] 26)).alloc (Obj.cells #[] 51)) := (((Below.refl _ _).alloc (Nat.le_refl _) _).alloc (by simp) _)
      have BNA : Hid (Below wc.heap.size wc ((wc.alloc (Obj.cells #[.int .i64 0, .int .i64 0, .slice none 0 0] 26)).alloc (Obj.cells #[] 51)).drew) := bNA.drew
      have ho1 := World.ownsRow_made (base := wc.heap.size) (e := 51) (size := 3) wc #[] 0 (Nat.le_refl _) (by unfold maxLen; omega) rfl
      have ho3 := World.ownsRow_made (base := wc.heap.size) (e := 51) (size := 3) (wc.alloc (Obj.cells #[.int .i64 0, .int .i64 0, .slice none 0 0] 26)) #[] 0 (by simp) (by unfold maxLen; omega) rfl
      have hs3 : (wc.alloc (Obj.cells #[.int .i64 0, .int .i64 0, .slice none 0 0] 26)).heap.size = wc.heap.size + 1 := by simp
      rw [hs3] at ho3
      have O1 : Hid ((wc.alloc (Obj.cells #[] 51)).drew.ownsRow wc.heap.size 51 3 (.slice (some ⟨wc.heap.size, 0, none⟩) 0 0) 0 []) := ho1.drew
      have O2 : Hid (((wc.alloc (Obj.cells #[] 51)).alloc (Obj.cells #[.int .i64 0, .int .i64 0, .slice none 0 0] 26)).drew.ownsRow wc.heap.size 51 3 (.slice (some ⟨wc.heap.size, 0, none⟩) 0 0) 0 []) := (ho1.alloc _).drew
      have O3 : Hid (((wc.alloc (Obj.cells #[.int .i64 0, .int .i64 0, .slice none 0 0] 26)).alloc (Obj.cells #[] 51)).drew.ownsRow wc.heap.size 51 3 (.slice (some ⟨wc.heap.size + 1, 0, none⟩) 0 0) 0 []) := ho3.drew
      have hn2 := heap_alloc_new (wc.alloc (Obj.cells #[] 51)) (Obj.cells #[.int .i64 0, .int .i64 0, .slice none 0 0] 26)
      have hs2 : (wc.alloc (Obj.cells #[] 51)).heap.size = wc.heap.size + 1 := by simp
      rw [hs2] at hn2
      have N2 : Hid (((wc.alloc (Obj.cells #[] 51)).alloc (Obj.cells #[.int .i64 0, .int .i64 0, .slice none 0 0] 26)).drew.heap[wc.heap.size + 1]? = some (.cells #[.int .i64 0, .int .i64 0, .slice none 0 0] 26 (0, 0))) := hn2
      have N3 : Hid (((wc.alloc (Obj.cells #[.int .i64 0, .int .i64 0, .slice none 0 0] 26)).alloc (Obj.cells #[] 51)).drew.heap[wc.heap.size]? = some (.cells #[.int .i64 0, .int .i64 0, .slice none 0 0] 26 (0, 0))) := by show _ = _; exact (Below.heap_alloc _ _ _ (by simp)).trans (heap_alloc_new wc _)
      have EA : Hid (EnAt (wc.alloc (Obj.cells #[] 51)).drew pa gE 0 (l.ents.take k)) := HEN8.out.kept bA.drew
      have SA : Hid (wc.heap.size ≤ (wc.alloc (Obj.cells #[] 51)).drew.heap.size) := BA.out.size
      have EAN : Hid (EnAt ((wc.alloc (Obj.cells #[] 51)).alloc (Obj.cells #[.int .i64 0, .int .i64 0, .slice none 0 0] 26)).drew pa gE 0 (l.ents.take k)) := HEN8.out.kept bAN.drew
      have SAN : Hid (wc.heap.size ≤ ((wc.alloc (Obj.cells #[] 51)).alloc (Obj.cells #[.int .i64 0, .int .i64 0, .slice none 0 0] 26)).drew.heap.size) := BAN.out.size
      have ENA : Hid (EnAt ((wc.alloc (Obj.cells #[.int .i64 0, .int .i64 0, .slice none 0 0] 26)).alloc (Obj.cells #[] 51)).drew pa gE 0 (l.ents.take k)) := HEN8.out.kept bNA.drew
      have SNA : Hid (wc.heap.size ≤ ((wc.alloc (Obj.cells #[.int .i64 0, .int .i64 0, .slice none 0 0] 26)).alloc (Obj.cells #[] 51)).drew.heap.size) := BNA.out.size
      clear ho1 ho3 hs3 hs2 hn2 bA bN bAN bNA hwd wd
      go_wp2_with fail
      have hS0 : Below wc.heap.size wc wc.drew := (Below.refl _ _).drew
      refine wp_region_last (S := fun X => Below wc.heap.size wc X) (by kernel_rfl) (by kernel_rfl) hS0 (fun _ => ?_)
      simp only [List.dropLast, List.length_cons, List.length_nil, Nat.zero_add, Nat.reduceAdd, Nat.add_one_sub_one, Nat.reduceSub]
      refine wpAnyH_take (i := 0) (v := .pointer (some ⟨bx, 0, none⟩)) rfl (by kernel_rfl) (by kernel_rfl) (by kernel_rfl) (fun _ _ _ h => h) (Or.inl ⟨by rfl, fun X hX => by go_simp⟩) hS0 ?_
      try simp only [Act.put, List.setIfInBounds_toArray, List.set_cons_zero, List.set_cons_succ, List.getElem_toArray, List.getElem_cons_zero, List.getElem_cons_succ]
      refine wpAnyH_take (i := 1) (v := .int .i64 l.start) rfl (by kernel_rfl) (by kernel_rfl) (by kernel_rfl) (fun _ _ _ h => h) (Or.inl ⟨by rfl, fun X hX => by obtain ⟨z0, z1, z2⟩ := HEB.out X hX; go_simp⟩) hS0 ?_
      try simp only [Act.put, List.setIfInBounds_toArray, List.set_cons_zero, List.set_cons_succ, List.getElem_toArray, List.getElem_cons_zero, List.getElem_cons_succ]
      refine wpAnyH_take (i := 2) (v := .pointer (some ⟨bx, 1, none⟩)) rfl (by kernel_rfl) (by kernel_rfl) (by kernel_rfl) (fun _ _ _ h => h) (Or.inl ⟨by rfl, fun X hX => by go_simp⟩) hS0 ?_
      try simp only [Act.put, List.setIfInBounds_toArray, List.set_cons_zero, List.set_cons_succ, List.getElem_toArray, List.getElem_cons_zero, List.getElem_cons_succ]
      refine wpAnyH_take (i := 3) (v := .int .i64 l.sterm) rfl (by kernel_rfl) (by kernel_rfl) (by kernel_rfl) (fun _ _ _ h => h) (Or.inl ⟨by rfl, fun X hX => by obtain ⟨z0, z1, z2⟩ := HEB.out X hX; go_simp⟩) hS0 ?_
      try simp only [Act.put, List.setIfInBounds_toArray, List.set_cons_zero, List.set_cons_succ, List.getElem_toArray, List.getElem_cons_zero, List.getElem_cons_succ]
      refine wpAnyH_take (i := 5) (v := .pointer (some ⟨bx, 2, none⟩)) rfl (by kernel_rfl) (by kernel_rfl) (by kernel_rfl) (fun _ _ _ h => h) (Or.inl ⟨by rfl, fun X hX => by go_simp⟩) hS0 ?_
      try simp only [Act.put, List.setIfInBounds_toArray, List.set_cons_zero, List.set_cons_succ, List.getElem_toArray, List.getElem_cons_zero, List.getElem_cons_succ]
      refine wpAnyH_take (i := 6) (v := .slice va l.ents.length vc) rfl (by kernel_rfl) (by kernel_rfl) (by kernel_rfl) (fun _ _ _ h => h) (Or.inl ⟨by rfl, fun X hX => by obtain ⟨z0, z1, z2⟩ := HEB.out X hX; go_simp⟩) hS0 ?_
      try simp only [Act.put, List.setIfInBounds_toArray, List.set_cons_zero, List.set_cons_succ, List.getElem_toArray, List.getElem_cons_zero, List.getElem_cons_succ]
      refine wpAnyH_take (i := 7) (v := .int .i64 (k : Int)) rfl (by kernel_rfl) (by kernel_rfl) (by kernel_rfl) (fun _ _ _ h => h) (Or.inl ⟨by rfl, fun X hX => by go_simp⟩) hS0 ?_
      try simp only [Act.put, List.setIfInBounds_toArray, List.set_cons_zero, List.set_cons_succ, List.getElem_toArray, List.getElem_cons_zero, List.getElem_cons_succ]
      refine wpAnyH_take (i := 8) (v := .slice pa k vc) rfl (by kernel_rfl) (by kernel_rfl) (by kernel_rfl) (fun _ _ _ h => h) (Or.inl ⟨by rfl, fun X hX => by go_simp⟩) hS0 ?_
      try simp only [Act.put, List.setIfInBounds_toArray, List.set_cons_zero, List.set_cons_succ, List.getElem_toArray, List.getElem_cons_zero, List.getElem_cons_succ]
      refine wpAnyH_ready (rs := [4, 11]) (by kernel_rfl) (by simp) ?_
      refine AllReadyH.cons rfl (fun K hK => ?_) ?_
      · go_simp
        refine hK.out _ _ BA.out (fun _ => ?_)
        clear hK K
        try simp only [Act.put, List.setIfInBounds_toArray, List.set_cons_zero, List.set_cons_succ, List.getElem_toArray, List.getElem_cons_zero, List.getElem_cons_succ]
        refine wpAnyH_ready (rs := [9, 11]) (by kernel_rfl) (by simp) ?_
        refine AllReadyH.cons rfl (fun K hK => ?_) ?_
        · refine step_app0 (by with_unfolding_all rfl) _ _ (by with_unfolding_all rfl) wc.heap.size (wc.heap.size) (by with_unfolding_all rfl) O1.out pa gE 0 k vc (l.ents.take k) HTL.out (by with_unfolding_all rfl) EA.out HNIL.out HKE.out SA.out ?_
          intro a9 cap9 w9 hown9 hg9
          have HB9 : Hid (Below wc.heap.size wc w9) := BA.out.grown hg9 SA.out (fun q hq => by cases hq; omega)
          have HO9 : Hid (w9.ownsRow wc.heap.size 51 3 (.slice a9 k cap9) (l.ents.take k).length (cellsEn (l.ents.take k))) := by rw [HTL.out]; exact hown9
          have HX : Hid ((w9.alloc (Obj.cells #[.int .i64 0, .int .i64 0, .slice none 0 0] 26)).heap[w9.heap.size]? = some (.cells #[.int .i64 0, .int .i64 0, .slice none 0 0] 26 (0, 0))) := heap_alloc_new w9 _
          have HBX : Hid (Below wc.heap.size wc (w9.alloc (Obj.cells #[.int .i64 0, .int .i64 0, .slice none 0 0] 26))) := HB9.out.alloc HB9.out.size _
          have HOX : Hid ((w9.alloc (Obj.cells #[.int .i64 0, .int .i64 0, .slice none 0 0] 26)).ownsRow wc.heap.size 51 3 (.slice a9 k cap9) (l.ents.take k).length (cellsEn (l.ents.take k))) := HO9.out.alloc _
          clear hown9 hg9
          refine hK.out _ _ HB9.out (fun _ => ?_)
          clear hK K
          try simp only [Act.put, List.setIfInBounds_toArray, List.set_cons_zero, List.set_cons_succ, List.getElem_toArray, List.getElem_cons_zero, List.getElem_cons_succ]
          refine wpAnyH_take (i := 10) (v := .agg #[.int .i64 l.start, .int .i64 l.sterm, .slice a9 k cap9]) rfl (by kernel_rfl) (by kernel_rfl) (by kernel_rfl) (fun _ _ _ h => h) (Or.inl ⟨by rfl, fun X hX => by go_simp⟩) HB9.out ?_
          try simp only [Act.put, List.setIfInBounds_toArray, List.set_cons_zero, List.set_cons_succ, List.getElem_toArray, List.getElem_cons_zero, List.getElem_cons_succ]
          refine wpAnyH_ready (rs := [11]) (by kernel_rfl) (by simp) ?_
          refine AllReadyH.cons rfl (fun K hK => ?_) AllReadyH.nil
          go_simp
          refine hK.out _ _ HBX.out (fun _ => ?_)
          clear hK K
          try simp only [Act.put, List.setIfInBounds_toArray, List.set_cons_zero, List.set_cons_succ, List.getElem_toArray, List.getElem_cons_zero, List.getElem_cons_succ]
          refine wpAnyH_done (by kernel_rfl) ?_ _
          dsimp only [NX]
          refine wpOp_step rfl (fun K hK => ?_)
          refine step_storeA (by with_unfolding_all rfl) _ _ (by with_unfolding_all rfl) (w9.heap.size) #[.int .i64 l.start, .int .i64 l.sterm, .slice a9 k cap9] #[.int .i64 0, .int .i64 0, .slice none 0 0] (by with_unfolding_all rfl) (by with_unfolding_all rfl) HX.out rfl rfl (log_one _ _ _ _ _) (hK _ _ ?_)
          clear hK K
          go_wp2_with fail
          go_meet
          case rel => exact ⟨w9.heap.size, .slice a9 k cap9, rfl, HN.out.out HBX.out HX.out (by exact HB9.out.size) HOX.out⟩
        refine AllReadyH.cons rfl (fun K hK => ?_) AllReadyH.nil
        go_simp
        refine hK.out _ _ BAN.out (fun _ => ?_)
        clear hK K
        try simp only [Act.put, List.setIfInBounds_toArray, List.set_cons_zero, List.set_cons_succ, List.getElem_toArray, List.getElem_cons_zero, List.getElem_cons_succ]
        refine wpAnyH_ready (rs := [9]) (by kernel_rfl) (by simp) ?_
        refine AllReadyH.cons rfl (fun K hK => ?_) AllReadyH.nil
        refine step_app0 (by with_unfolding_all rfl) _ _ (by with_unfolding_all rfl) wc.heap.size (wc.heap.size) (by with_unfolding_all rfl) O2.out pa gE 0 k vc (l.ents.take k) HTL.out (by with_unfolding_all rfl) EAN.out HNIL.out HKE.out SAN.out ?_
        intro a9 cap9 w9 hown9 hg9
        have HB9 : Hid (Below wc.heap.size wc w9) := BAN.out.grown hg9 SAN.out (fun q hq => by cases hq; omega)
        have HO9 : Hid (w9.ownsRow wc.heap.size 51 3 (.slice a9 k cap9) (l.ents.take k).length (cellsEn (l.ents.take k))) := by rw [HTL.out]; exact hown9
        have HX : Hid (w9.heap[wc.heap.size + 1]? = some (.cells #[.int .i64 0, .int .i64 0, .slice none 0 0] 26 (0, 0))) := grown_keep' N2.out hg9 (by simp)
        have HBX : Hid (Below wc.heap.size wc w9) := HB9.out
        have HOX : Hid (w9.ownsRow wc.heap.size 51 3 (.slice a9 k cap9) (l.ents.take k).length (cellsEn (l.ents.take k))) := HO9.out
        clear hown9 hg9
        refine hK.out _ _ HB9.out (fun _ => ?_)
        clear hK K
        try simp only [Act.put, List.setIfInBounds_toArray, List.set_cons_zero, List.set_cons_succ, List.getElem_toArray, List.getElem_cons_zero, List.getElem_cons_succ]
        refine wpAnyH_take (i := 10) (v := .agg #[.int .i64 l.start, .int .i64 l.sterm, .slice a9 k cap9]) rfl (by kernel_rfl) (by kernel_rfl) (by kernel_rfl) (fun _ _ _ h => h) (Or.inl ⟨by rfl, fun X hX => by go_simp⟩) HB9.out ?_
        try simp only [Act.put, List.setIfInBounds_toArray, List.set_cons_zero, List.set_cons_succ, List.getElem_toArray, List.getElem_cons_zero, List.getElem_cons_succ]
        refine wpAnyH_done (by kernel_rfl) ?_ _
        dsimp only [NX]
        refine wpOp_step rfl (fun K hK => ?_)
        refine step_storeA (by with_unfolding_all rfl) _ _ (by with_unfolding_all rfl) (wc.heap.size + 1) #[.int .i64 l.start, .int .i64 l.sterm, .slice a9 k cap9] #[.int .i64 0, .int .i64 0, .slice none 0 0] (by with_unfolding_all rfl) (by with_unfolding_all rfl) HX.out rfl rfl (log_one _ _ _ _ _) (hK _ _ ?_)
        clear hK K
        go_wp2_with fail
        go_meet
        case rel => exact ⟨wc.heap.size + 1, .slice a9 k cap9, rfl, HN.out.out HBX.out HX.out (by omega) HOX.out⟩
      refine AllReadyH.cons rfl (fun K hK => ?_) AllReadyH.nil
      go_simp
      refine hK.out _ _ BN.out (fun _ => ?_)
      clear hK K
      try simp only [Act.put, List.setIfInBounds_toArray, List.set_cons_zero, List.set_cons_succ, List.getElem_toArray, List.getElem_cons_zero, List.getElem_cons_succ]
      refine wpAnyH_ready (rs := [4]) (by kernel_rfl) (by simp) ?_
      refine AllReadyH.cons rfl (fun K hK => ?_) AllReadyH.nil
      go_simp
      refine hK.out _ _ BNA.out (fun _ => ?_)
      clear hK K
      try simp only [Act.put, List.setIfInBounds_toArray, List.set_cons_zero, List.set_cons_succ, List.getElem_toArray, List.getElem_cons_zero, List.getElem_cons_succ]
      refine wpAnyH_ready (rs := [9]) (by kernel_rfl) (by simp) ?_
      refine AllReadyH.cons rfl (fun K hK => ?_) AllReadyH.nil
      refine step_app0 (by with_unfolding_all rfl) _ _ (by with_unfolding_all rfl) wc.heap.size (wc.heap.size + 1) (by with_unfolding_all rfl) O3.out pa gE 0 k vc (l.ents.take k) HTL.out (by with_unfolding_all rfl) ENA.out HNIL.out HKE.out SNA.out ?_
      intro a9 cap9 w9 hown9 hg9
      have HB9 : Hid (Below wc.heap.size wc w9) := BNA.out.grown hg9 SNA.out (fun q hq => by cases hq; omega)
      have HO9 : Hid (w9.ownsRow wc.heap.size 51 3 (.slice a9 k cap9) (l.ents.take k).length (cellsEn (l.ents.take k))) := by rw [HTL.out]; exact hown9
      have HX : Hid (w9.heap[wc.heap.size]? = some (.cells #[.int .i64 0, .int .i64 0, .slice none 0 0] 26 (0, 0))) := grown_keep' N3.out hg9 (by simp)
      have HBX : Hid (Below wc.heap.size wc w9) := HB9.out
      have HOX : Hid (w9.ownsRow wc.heap.size 51 3 (.slice a9 k cap9) (l.ents.take k).length (cellsEn (l.ents.take k))) := HO9.out
      clear hown9 hg9
      refine hK.out _ _ HB9.out (fun _ => ?_)
      clear hK K
      try simp only [Act.put, List.setIfInBounds_toArray, List.set_cons_zero, List.set_cons_succ, List.getElem_toArray, List.getElem_cons_zero, List.getElem_cons_succ]
      refine wpAnyH_take (i := 10) (v := .agg #[.int .i64 l.start, .int .i64 l.sterm, .slice a9 k cap9]) rfl (by kernel_rfl) (by kernel_rfl) (by kernel_rfl) (fun _ _ _ h => h) (Or.inl ⟨by rfl, fun X hX => by go_simp⟩) HB9.out ?_
      try simp only [Act.put, List.setIfInBounds_toArray, List.set_cons_zero, List.set_cons_succ, List.getElem_toArray, List.getElem_cons_zero, List.getElem_cons_succ]
      refine wpAnyH_done (by kernel_rfl) ?_ _
      dsimp only [NX]
      refine wpOp_step rfl (fun K hK => ?_)
      refine step_storeA (by with_unfolding_all rfl) _ _ (by with_unfolding_all rfl) (wc.heap.size) #[.int .i64 l.start, .int .i64 l.sterm, .slice a9 k cap9] #[.int .i64 0, .int .i64 0, .slice none 0 0] (by with_unfolding_all rfl) (by with_unfolding_all rfl) HX.out rfl rfl (log_one _ _ _ _ _) (hK _ _ ?_)
      clear hK K
      go_wp2_with fail
      go_meet
      case rel => exact ⟨wc.heap.size, .slice a9 k cap9, rfl, HN.out.out HBX.out HX.out (by exact Nat.le_refl _) HOX.out⟩
    case rest =>
      obtain ⟨xb, v, rfl, hls⟩ := hcut
      have HL0 : Hid (LS B g len cap b off a z WB xb l.start l.sterm (l.ents.take k) v wc) := hls
      have HD0 : Hid (Drawn l.sterm TL (l.ents.take k)) := HDL.out.take k
      have HLK : Hid ((l.ents.take k).length ≤ 7) := by show _ ≤ _; rw [List.length_take]; omega
      clear hls HN HOWN HNG HDL hk
      go_wp2_with fail
      go_loopw [6, 9] (fun t i wr => ∃ (j : Nat) (es : List EntL) (v : Value) (T : Int), j ≤ 3 ∧ i = .int .i64 ((j : Nat) : Int) ∧ t = .int .i64 T ∧ (0 ≤ T ∧ T ≤ 100 + (j : Int)) ∧ es.length ≤ 7 + j ∧ Hid (Drawn l.sterm T es) ∧ LS B g len cap b off a z WB xb l.start l.sterm es v wr) (fun _ i _ => 4 - (intOf i).toNat)
      case atStart => exact ⟨0, l.ents.take k, v, TL, by omega, rfl, rfl, ⟨ht0, by omega⟩, HLK.out, HD0, HL0.out⟩
      case round =>
        obtain ⟨j, es, v, T, hj, rfl, rfl, hT, hes, HD, hls⟩ := hrel
        have HL : Hid (LS B g len cap b off a z WB xb l.start l.sterm es v wr) := hls
        clear hls HL0 HD0 HLK
        go_wp2_with fail
        refine (below_any 4 (by omega) _ HL.out.cur).mono ?_
        rintro e w4 ⟨n, rfl, hn4, hc4, hg4⟩
        obtain ⟨n0, _, n1⟩ := hn4
        have n2 := n1 (by omega)
        have HL4 : Hid (LS B g len cap b off a z WB xb l.start l.sterm es v w4) := HL.out.call hc4 hg4
        clear hc4 hg4 n1 HL
        by_cases hjn : (j : Int) < n
        · go_wp2_with fail
          have hS0 : w4.drew.cell? ⟨xb, 2, none⟩ = some v := HL4.out.drew.cell
          refine wp_region_last (S := fun X => X.cell? ⟨xb, 2, none⟩ = some v) (by kernel_rfl) (by kernel_rfl) hS0 (fun _ => ?_)
          simp only [List.dropLast, List.length_cons, List.length_nil, Nat.zero_add, Nat.reduceAdd, Nat.add_one_sub_one, Nat.reduceSub]
          refine wpAnyH_take (i := 0) (v := .pointer (some ⟨xb, 2, none⟩)) rfl (by kernel_rfl) (by kernel_rfl) (by kernel_rfl) (fun _ _ _ h => h) (Or.inl ⟨by rfl, fun X hX => by go_simp⟩) hS0 ?_
          try simp only [Act.put, List.setIfInBounds_toArray, List.set_cons_zero, List.set_cons_succ, List.getElem_toArray, List.getElem_cons_zero, List.getElem_cons_succ]
          refine wpAnyH_take (i := 1) (v := v) rfl (by kernel_rfl) (by kernel_rfl) (by kernel_rfl) (fun _ _ _ h => h) (Or.inl ⟨by rfl, fun X hX => by go_simp⟩) hS0 ?_
          try simp only [Act.put, List.setIfInBounds_toArray, List.set_cons_zero, List.set_cons_succ, List.getElem_toArray, List.getElem_cons_zero, List.getElem_cons_succ]
          refine wpAnyH_take (i := 2) (v := .pointer (some ⟨g, 0, none⟩)) rfl (by kernel_rfl) (by kernel_rfl) (by kernel_rfl) (fun _ _ _ h => h) (Or.inl ⟨by rfl, fun X hX => by go_simp⟩) hS0 ?_
          try simp only [Act.put, List.setIfInBounds_toArray, List.set_cons_zero, List.set_cons_succ, List.getElem_toArray, List.getElem_cons_zero, List.getElem_cons_succ]
          refine wpAnyH_take (i := 3) (v := .int .i64 T) rfl (by kernel_rfl) (by kernel_rfl) (by kernel_rfl) (fun _ _ _ h => h) (Or.inl ⟨by rfl, fun X hX => by go_simp⟩) hS0 ?_
          try simp only [Act.put, List.setIfInBounds_toArray, List.set_cons_zero, List.set_cons_succ, List.getElem_toArray, List.getElem_cons_zero, List.getElem_cons_succ]
          refine wpAnyH_take (i := 4) (v := .pointer (some ⟨g, 0, none⟩)) rfl (by kernel_rfl) (by kernel_rfl) (by kernel_rfl) (fun _ _ _ h => h) (Or.inl ⟨by rfl, fun X hX => by go_simp⟩) hS0 ?_
          try simp only [Act.put, List.setIfInBounds_toArray, List.set_cons_zero, List.set_cons_succ, List.getElem_toArray, List.getElem_cons_zero, List.getElem_cons_succ]
          refine wpAnyH_ready (rs := [5]) (by kernel_rfl) (by simp) ?_
          refine AllReadyH.cons rfl (fun K hK => ?_) AllReadyH.nil
          refine step_call2 (by with_unfolding_all rfl) 37 _ _ 54 3 (by with_unfolding_all rfl) (.pointer (some ⟨g, 0, none⟩)) (.int .i64 2) (by with_unfolding_all rfl) (by with_unfolding_all rfl) (fun u w' => ∃ m : Int, u = .int .i64 m ∧ (0 ≤ m ∧ m < 2) ∧ Cur B w' g a len cap b off z ∧ w4.drew.grownBy w' (some g)) (fun w => by kernel_rfl) ((below_any 2 (by omega) _ HL4.out.drew.cur).mono (fun e w' ⟨m, q1, q2, q3⟩ => ⟨_, q1, m, rfl, ⟨q2.1, q2.2.2 (by omega)⟩, q3⟩)) ?_
          rintro u w6 ⟨m, rfl, hm, hc6, hg6⟩
          have HL6 : Hid (LS B g len cap b off a z WB xb l.start l.sterm es v w6) := HL4.out.drew.call hc6 hg6
          have HD6 : Hid (Drawn l.sterm (T + m) es) := HD.out.up (by omega)
          clear hc6 hg6 HL4
          refine hK.out _ _ HL6.out.cell (fun _ => ?_)
          clear hK K
          try simp only [Act.put, List.setIfInBounds_toArray, List.set_cons_zero, List.set_cons_succ, List.getElem_toArray, List.getElem_cons_zero, List.getElem_cons_succ]
          refine wpAnyH_take (i := 6) (v := .int .i64 (T + m)) rfl (by kernel_rfl) (by kernel_rfl) (by kernel_rfl) (fun _ _ _ h => h) (Or.inl ⟨by rfl, fun X hX => by go_simp; exact wrap_small (by omega) (by omega)⟩) HL6.out.cell ?_
          try simp only [Act.put, List.setIfInBounds_toArray, List.set_cons_zero, List.set_cons_succ, List.getElem_toArray, List.getElem_cons_zero, List.getElem_cons_succ]
          refine wpAnyH_ready (rs := [7]) (by kernel_rfl) (by simp) ?_
          refine AllReadyH.cons rfl (fun K hK => ?_) AllReadyH.nil
          refine step_call2 (by with_unfolding_all rfl) 43 _ _ 54 3 (by with_unfolding_all rfl) (.pointer (some ⟨g, 0, none⟩)) (.int .i64 (T + m)) (by with_unfolding_all rfl) (by with_unfolding_all rfl) (fun u w' => ∃ d : EntL, u = entV d ∧ d.term = T + m ∧ Ents.okB d = true ∧ d.data.size ≤ 120 ∧ Cur B w' g a len cap b off z ∧ w6.grownBy w' (some g)) (fun w => by kernel_rfl) ((rightR_any (T + m) (by omega) (by omega) _ HL6.out.cur).mono (fun e w' ⟨d, q1, q2⟩ => ⟨_, q1, d, rfl, q2⟩)) ?_
          rintro u w7 ⟨d, rfl, hd1, hd2, hd3, hc7, hg7⟩
          have HL7 : Hid (LS B g len cap b off a z WB xb l.start l.sterm es v w7) := HL6.out.call hc7 hg7
          have HDN : Hid (Drawn l.sterm (T + m) (es ++ [d])) := HD6.out.snoc hd1 hd2 hd3
          have HDT : Hid (d.term = T + m) := hd1
          clear hd1 hd2 hd3 hc7 hg7 HL6 HD6
          unfold entV
          refine hK.out _ _ HL7.out.cell (fun _ => ?_)
          clear hK K
          try simp only [Act.put, List.setIfInBounds_toArray, List.set_cons_zero, List.set_cons_succ, List.getElem_toArray, List.getElem_cons_zero, List.getElem_cons_succ]
          refine wpAnyH_ready (rs := [8]) (by kernel_rfl) (by simp) ?_
          refine AllReadyH.cons rfl (fun K hK => ?_) AllReadyH.nil
          go_simp
          refine hK.out _ _ (HL7.out.alloc _).cell (fun _ => ?_)
          clear hK K
          try simp only [Act.put, List.setIfInBounds_toArray, List.set_cons_zero, List.set_cons_succ, List.getElem_toArray, List.getElem_cons_zero, List.getElem_cons_succ]
          have HN7 : Hid ((w7.alloc (Obj.cells #[.int .i64 d.term, .int .i64 d.kind, .string d.data] 51)).heap[w7.heap.size]? = some (.cells #[.int .i64 d.term, .int .i64 d.kind, .string d.data] 51 (0, 0))) := heap_alloc_new w7 _
          have HL8 : Hid (LS B g len cap b off a z WB xb l.start l.sterm es v (w7.alloc (Obj.cells #[.int .i64 d.term, .int .i64 d.kind, .string d.data] 51))) := HL7.out.alloc _
          clear HL7
          refine wpAnyH_ready (rs := [9]) (by kernel_rfl) (by simp) ?_
          refine AllReadyH.cons rfl (fun K hK => ?_) AllReadyH.nil
          refine step_appV (by with_unfolding_all rfl) _ _ (by with_unfolding_all rfl) WB.heap.size v w7.heap.size es d (by with_unfolding_all rfl) (by with_unfolding_all rfl) HL8.out.own HL8.out.gr.size (by omega) HN7.out ?_
          intro v9 w9 hown9 hg9
          obtain ⟨N, hN⟩ : ∃ N, N = (es ++ [d]).length := ⟨_, rfl⟩
          rw [← hN] at hown9
          obtain ⟨a9, c9, rfl⟩ := own_slice hown9
          have hx9 := HL8.out.grows hg9
          have z2 := cell_of_row _ _ 2 _ _ _ hx9.2.1
          have zf := frozen_of_row _ _ 2 _ _ hx9.2.1
          simp at z2
          have HL9 : Hid (LS B g len cap b off a z WB xb l.start l.sterm (es ++ [d]) (.slice a9 N c9) (w9.setCell ⟨xb, 2, none⟩ (.slice a9 N c9))) := HL8.out.put hg9 (by rw [← hN]; exact hown9)
          have HNN : Hid (N = es.length + 1) := by show _ = _; rw [hN, List.length_append]; rfl
          have HNE : Hid (N = (es ++ [d]).length) := hN
          clear hN hown9 hg9 HL8 HN7 hx9
          refine hK.out _ _ z2 (fun _ => ?_)
          clear hK K
          try simp only [Act.put, List.setIfInBounds_toArray, List.set_cons_zero, List.set_cons_succ, List.getElem_toArray, List.getElem_cons_zero, List.getElem_cons_succ]
          refine wpAnyH_take (i := 10) (v := .pointer (some ⟨xb, 2, none⟩)) rfl (by kernel_rfl) (by kernel_rfl) (by kernel_rfl) (fun _ _ _ h => h) (Or.inl ⟨by rfl, fun X hX => by go_simp⟩) z2 ?_
          try simp only [Act.put, List.setIfInBounds_toArray, List.set_cons_zero, List.set_cons_succ, List.getElem_toArray, List.getElem_cons_zero, List.getElem_cons_succ]
          refine wpAnyH_done (by kernel_rfl) ?_ _
          dsimp only [NX]
          refine wpOp_step rfl (fun K hK => ?_)
          go_simp
          refine hK _ _ ?_
          clear hK K z2 zf
          obtain ⟨W9, hW9⟩ : ∃ W9, W9 = w9.setCell ⟨xb, 2, none⟩ (.slice a9 N c9) := ⟨_, rfl⟩
          rw [← hW9] at HL9 ⊢
          clear hW9
          obtain ⟨LY, HQ9⟩ : ∃ LY : Int, Hid (Calls Tryz.prog 45 #[.agg #[.int .i64 l.start, .int .i64 l.sterm, .slice a9 N c9]] W9 fun en w' => en = .returned (.tuple #[.int .i64 LY, .int .i64 (T + m)]) ∧ Below W9.heap.size W9 w') := by
            have ho := HL9.out.own
            obtain ⟨a3, g3, c3, e3, h3⟩ := cellsEn_slice ho
            simp only [Value.slice.injEq] at e3
            obtain ⟨rfl, e4, rfl⟩ := e3
            have h4 := specLast_is (cap := c9) ⟨l.start, l.sterm, es ++ [d]⟩ (by show (es ++ [d]).length ≤ _; rw [← HNE.out, HNN.out]; omega) W9 h3
            rw [lastT_snoc, HDT.out] at h4
            unfold logV at h4
            rw [HNE.out]
            exact ⟨_, h4⟩
          go_wp2_with (first | (refine wpList_loadA Tryz.isAgg26 Tryz.sizeOf26 rfl _ rfl xb #[.int .i64 l.start, .int .i64 l.sterm, .slice a9 N c9] 26 rfl HL9.out.x rfl ?_) | fail)
          refine Calls.mono HQ9.out ?_
          rintro e w10 ⟨rfl, hb10⟩
          have HL10 : Hid (LS B g len cap b off a z WB xb l.start l.sterm (es ++ [d]) (.slice a9 N c9) w10) := HL9.out.call (HL9.out.cur.same hb10) (own_below' hb10)
          clear hb10 HQ9 HL9
          go_wp2_with fail
          go_roundw
          case rel => exact ⟨j + 1, es ++ [d], _, T + m, by omega, by go_num, rfl, ⟨by omega, by omega⟩, by rw [← HNE.out, HNN.out]; omega, HDN, HL10.out⟩
          case measure => simp [intOf]; omega
        · go_wp2_with fail
          refine (once_any 4 (by omega) _ HL4.out.cur).mono ?_
          rintro e w5 ⟨y, rfl, hc5, hg5⟩
          have HL5 : Hid (LS B g len cap b off a z WB xb l.start l.sterm es v w5) := HL4.out.call hc5 hg5
          clear hc5 hg5 HL4
          cases hy : (y == 0) with
          | false =>
            have hz5 := HL5.out.zz
            have hd5 := HL5.out.done #[.int .i64 l.start, .int .i64 l.sterm, v]
            rw [HSZ.out.1, ← HSZ.out.2] at hz5 hd5
            have HZ5 : Hid (w5.heap[bx + 1]? = some (.cells #[.int .i64 0, .int .i64 0, .slice none 0 0] 26 (0, 0))) := hz5
            obtain ⟨s1, s2, s3⟩ := hd5
            have HE5 : Hid (LogPostR B g len cap b off a z w 20 10 110 (.returned (.agg #[.int .i64 l.start, .int .i64 l.sterm, v])) (w5.setRow (bx + 1) #[.int .i64 l.start, .int .i64 l.sterm, v])) := by
              obtain ⟨⟨e1, e2⟩, e3, e4⟩ := HS.out
              refine ⟨⟨l.start, l.sterm, es⟩, v, rfl, ⟨e1, by show l.start ≤ 20; omega⟩, ⟨e3, by show l.sterm ≤ 110; omega⟩, by show es.length ≤ 10; omega, HD.out.up (by omega), own_mono s3 (by have := HSZ.out.2; omega), s1, HGB.out.trans s2⟩
            clear hz5 s1 s2 s3
            go_wp2_with (first | (refine wpList_loadA Tryz.isAgg26 Tryz.sizeOf26 rfl _ rfl xb #[.int .i64 l.start, .int .i64 l.sterm, v] 26 rfl HL5.out.x rfl ?_) | (refine wpList_storeA Tryz.sizeOf26 rfl _ _ rfl (bx + 1) #[.int .i64 l.start, .int .i64 l.sterm, v] #[.int .i64 0, .int .i64 0, .slice none 0 0] 26 rfl rfl HZ5.out rfl rfl (log_one' HL5.out.own _ _) ?_) | fail)
            exact bodyPost_ret (resultN HZ5.out rfl rfl) rfl HE5.out
          | true =>
            obtain ⟨a5, c5, hv5⟩ := own_slice HL5.out.own
            subst hv5
            have c2 := HL5.out.cell
            go_wp2_with fail
            refine (below_any ((es.length : Int) + 1) (by omega) _ HL5.out.cur).mono ?_
            rintro e w6 ⟨x, rfl, hx, hc6, hg6⟩
            obtain ⟨hx0, _, hx2⟩ := hx
            have hx3 := hx2 (by omega)
            obtain ⟨kk, rfl⟩ := Int.eq_ofNat_of_zero_le hx0
            have HL6 : Hid (LS B g len cap b off a z WB xb l.start l.sterm es (.slice a5 es.length c5) w6) := HL5.out.call hc6 hg6
            clear hc6 hg6 HL5 hx2 c2
            obtain ⟨TI, hTI⟩ : ∃ TI, TI = termI ⟨l.start, l.sterm, es⟩ (l.start + (kk : Int)) := ⟨_, rfl⟩
            obtain ⟨r, hr⟩ : ∃ r, r = behindL ⟨l.start, l.sterm, es⟩ (l.start + (kk : Int)) TI := ⟨_, rfl⟩
            obtain ⟨⟨e1, e2⟩, e3, e4⟩ := HS.out
            have hbd := behind_drawn (kk := kk) HD.out e3 ⟨e1, e2⟩ (by omega) (by omega)
            rw [← hTI] at hbd
            rw [← hr] at hbd
            have HBD : Hid ((0 ≤ TI ∧ TI ≤ T) ∧ Drawn TI T r ∧ r.length ≤ es.length) := hbd
            obtain ⟨g5, hen⟩ : ∃ g5, EnAt w6 a5 g5 0 es := by
              obtain ⟨a3, g3, c3, q3, h3⟩ := cellsEn_slice HL6.out.own
              simp only [Value.slice.injEq] at q3
              obtain ⟨rfl, _, rfl⟩ := q3
              exact ⟨g3, h3⟩
            have HEN6 : Hid (∀ X, Below w6.heap.size w6 X → EnAt X a5 g5 0 es) := fun X h => hen.kept h
            have HC24 : Hid (∀ X, Below w6.heap.size w6 X → Calls Tryz.prog 47 #[.agg #[.int .i64 l.start, .int .i64 l.sterm, .slice a5 es.length c5], .int .i64 (l.start + (kk : Int))] X fun en w' => en = .returned (.int .i64 TI) ∧ Below X.heap.size X w') := fun X h => by
              rw [hTI]
              exact specTerm_is (cap := c5) ⟨l.start, l.sterm, es⟩ (by show es.length ≤ _; omega) ⟨by show _ ≤ l.start; omega, by show l.start ≤ _; omega⟩ (l.start + (kk : Int)) ⟨by omega, by omega⟩ X (HEN6.out X h)
            have HC36 : Hid (∀ X, Below w6.heap.size w6 X → Calls Tryz.prog 46 #[.agg #[.int .i64 l.start, .int .i64 l.sterm, .slice a5 es.length c5], .int .i64 (l.start + (kk : Int)), .int .i64 TI] X (BehindPost X (l.start + (kk : Int)) TI r)) := fun X h => by
              rw [hr]
              rcases HL6.out.own.2 with ⟨h1, h2⟩ | ⟨g0, c, cur, h1, _, _, h2, _⟩
              · have hn0 : es.length = 0 := h2
                obtain rfl : es = [] := List.length_eq_zero_iff.1 hn0
                simp at h1
                obtain ⟨rfl, rfl⟩ := h1
                exact specBehind_nil (g := 0) (off := 0) (cap := 0) ⟨l.start, l.sterm, []⟩ (by simp) (Nat.le_refl _) rfl (by simp) (l.start + (kk : Int)) TI ⟨by omega, by omega⟩ X ⟨fun h => by simp at h, fun j hj => by simp at hj⟩
              · simp only [Value.slice.injEq] at h1
                obtain ⟨rfl, _, rfl⟩ := h1
                have hen2 := HEN6.out X h
                have hf2 : EnAt X (some ⟨g0, 0, none⟩) g0 0 es := by
                  refine ⟨fun _ => rfl, fun j hj => ?_⟩
                  have := hen2.1 (by omega)
                  simp at this
                  have hh := hen2.2 j hj
                  rw [← this] at hh
                  exact hh
                exact specBehind_is (cap := c5) ⟨l.start, l.sterm, es⟩ (by show es.length ≤ _; omega) (by show es.length ≤ c5; omega) (fun e he => by have := HD.out.da e he; omega) (l.start + (kk : Int)) TI ⟨by omega, by omega⟩ X hf2
            clear hen hTI hr hbd e1 e2 e3 e4
            have HE1 : Hid ((0 ≤ l.start ∧ l.start ≤ 6) ∧ kk ≤ es.length) := ⟨HS.out.1, by omega⟩
            have hst0 : 0 ≤ l.start ∧ l.start ≤ 6 := HS.out.1
            go_wp2_with fail
            have hS0 : w6.drew.heap[xb]? = some (.cells #[.int .i64 l.start, .int .i64 l.sterm, .slice a5 es.length c5] 26 (0, 0)) := HL6.out.drew.x
            refine wp_region_last (S := fun X => X.heap[xb]? = some (.cells #[.int .i64 l.start, .int .i64 l.sterm, .slice a5 es.length c5] 26 (0, 0))) (by kernel_rfl) (by kernel_rfl) hS0 (fun _ => ?_)
            simp only [List.dropLast, List.length_cons, List.length_nil, Nat.zero_add, Nat.reduceAdd, Nat.add_one_sub_one, Nat.reduceSub]
            refine wpAnyH_take (i := 0) (v := .agg #[.int .i64 l.start, .int .i64 l.sterm, .slice a5 es.length c5]) rfl (by kernel_rfl) (by kernel_rfl) (by kernel_rfl) (fun _ _ _ h => h) (Or.inl ⟨by rfl, fun X hX => by have z0 := cell_of_row _ _ 0 _ _ _ hX; have z1 := cell_of_row _ _ 1 _ _ _ hX; have z2 := cell_of_row _ _ 2 _ _ _ hX; simp at z0 z1 z2; go_simp⟩) hS0 ?_
            try simp only [Act.put, List.setIfInBounds_toArray, List.set_cons_zero, List.set_cons_succ, List.getElem_toArray, List.getElem_cons_zero, List.getElem_cons_succ]
            refine wpAnyH_take (i := 1) (v := .pointer (some ⟨xb, 0, none⟩)) rfl (by kernel_rfl) (by kernel_rfl) (by kernel_rfl) (fun _ _ _ h => h) (Or.inl ⟨by rfl, fun X hX => by go_simp⟩) hS0 ?_
            try simp only [Act.put, List.setIfInBounds_toArray, List.set_cons_zero, List.set_cons_succ, List.getElem_toArray, List.getElem_cons_zero, List.getElem_cons_succ]
            refine wpAnyH_take (i := 2) (v := .int .i64 l.start) rfl (by kernel_rfl) (by kernel_rfl) (by kernel_rfl) (fun _ _ _ h => h) (Or.inl ⟨by rfl, fun X hX => by have z0 := cell_of_row _ _ 0 _ _ _ hX; simp at z0; go_simp⟩) hS0 ?_
            try simp only [Act.put, List.setIfInBounds_toArray, List.set_cons_zero, List.set_cons_succ, List.getElem_toArray, List.getElem_cons_zero, List.getElem_cons_succ]
            refine wpAnyH_take (i := 3) (v := .int .i64 (kk : Int)) rfl (by kernel_rfl) (by kernel_rfl) (by kernel_rfl) (fun _ _ _ h => h) (Or.inl ⟨by rfl, fun X hX => by go_simp⟩) hS0 ?_
            try simp only [Act.put, List.setIfInBounds_toArray, List.set_cons_zero, List.set_cons_succ, List.getElem_toArray, List.getElem_cons_zero, List.getElem_cons_succ]
            refine wpAnyH_take (i := 4) (v := .int .i64 (l.start + (kk : Int))) rfl (by kernel_rfl) (by kernel_rfl) (by kernel_rfl) (fun _ _ _ h => h) (Or.inl ⟨by rfl, fun X hX => by go_simp; exact wrap_small (by omega) (by omega)⟩) hS0 ?_
            try simp only [Act.put, List.setIfInBounds_toArray, List.set_cons_zero, List.set_cons_succ, List.getElem_toArray, List.getElem_cons_zero, List.getElem_cons_succ]
            refine wpAnyH_take (i := 5) (v := .agg #[.int .i64 l.start, .int .i64 l.sterm, .slice a5 es.length c5]) rfl (by kernel_rfl) (by kernel_rfl) (by kernel_rfl) (fun _ _ _ h => h) (Or.inl ⟨by rfl, fun X hX => by have z0 := cell_of_row _ _ 0 _ _ _ hX; have z1 := cell_of_row _ _ 1 _ _ _ hX; have z2 := cell_of_row _ _ 2 _ _ _ hX; simp at z0 z1 z2; go_simp⟩) hS0 ?_
            try simp only [Act.put, List.setIfInBounds_toArray, List.set_cons_zero, List.set_cons_succ, List.getElem_toArray, List.getElem_cons_zero, List.getElem_cons_succ]
            refine wpAnyH_take (i := 6) (v := .pointer (some ⟨xb, 0, none⟩)) rfl (by kernel_rfl) (by kernel_rfl) (by kernel_rfl) (fun _ _ _ h => h) (Or.inl ⟨by rfl, fun X hX => by go_simp⟩) hS0 ?_
            try simp only [Act.put, List.setIfInBounds_toArray, List.set_cons_zero, List.set_cons_succ, List.getElem_toArray, List.getElem_cons_zero, List.getElem_cons_succ]
            refine wpAnyH_take (i := 7) (v := .int .i64 l.start) rfl (by kernel_rfl) (by kernel_rfl) (by kernel_rfl) (fun _ _ _ h => h) (Or.inl ⟨by rfl, fun X hX => by have z0 := cell_of_row _ _ 0 _ _ _ hX; simp at z0; go_simp⟩) hS0 ?_
            try simp only [Act.put, List.setIfInBounds_toArray, List.set_cons_zero, List.set_cons_succ, List.getElem_toArray, List.getElem_cons_zero, List.getElem_cons_succ]
            refine wpAnyH_take (i := 8) (v := .int .i64 (kk : Int)) rfl (by kernel_rfl) (by kernel_rfl) (by kernel_rfl) (fun _ _ _ h => h) (Or.inl ⟨by rfl, fun X hX => by go_simp⟩) hS0 ?_
            try simp only [Act.put, List.setIfInBounds_toArray, List.set_cons_zero, List.set_cons_succ, List.getElem_toArray, List.getElem_cons_zero, List.getElem_cons_succ]
            refine wpAnyH_take (i := 9) (v := .int .i64 (l.start + (kk : Int))) rfl (by kernel_rfl) (by kernel_rfl) (by kernel_rfl) (fun _ _ _ h => h) (Or.inl ⟨by rfl, fun X hX => by go_simp; exact wrap_small (by omega) (by omega)⟩) hS0 ?_
            try simp only [Act.put, List.setIfInBounds_toArray, List.set_cons_zero, List.set_cons_succ, List.getElem_toArray, List.getElem_cons_zero, List.getElem_cons_succ]
            refine wpAnyH_ready (rs := [10]) (by kernel_rfl) (by simp) ?_
            refine AllReadyH.cons rfl (fun K hK => ?_) AllReadyH.nil
            refine step_call2 (by with_unfolding_all rfl) 47 _ _ 26 3 (by with_unfolding_all rfl) (.agg #[.int .i64 l.start, .int .i64 l.sterm, .slice a5 es.length c5]) (.int .i64 (l.start + (kk : Int))) (by with_unfolding_all rfl) (by with_unfolding_all rfl) (fun u w' => u = .int .i64 TI ∧ Below w6.drew.heap.size w6.drew w') (fun w => by kernel_rfl) ((HC24.out _ (Below.refl _ _).drew).mono (fun e w' ⟨q1, q2⟩ => ⟨_, q1, rfl, q2⟩)) ?_
            rintro u w7 ⟨rfl, hb7⟩
            have HB7 : Hid (Below w6.heap.size w6 w7) := (Below.refl _ _).drew.trans hb7
            have HL7 : Hid (LS B g len cap b off a z WB xb l.start l.sterm es (.slice a5 es.length c5) w7) := HL6.out.call (HL6.out.cur.same HB7.out) (own_below' HB7.out)
            clear hb7
            refine hK.out _ _ HL7.out.x (fun _ => ?_)
            clear hK K
            try simp only [Act.put, List.setIfInBounds_toArray, List.set_cons_zero, List.set_cons_succ, List.getElem_toArray, List.getElem_cons_zero, List.getElem_cons_succ]
            refine wpAnyH_ready (rs := [11]) (by kernel_rfl) (by simp) ?_
            refine AllReadyH.cons rfl (fun K hK => ?_) AllReadyH.nil
            refine step_call3R (by with_unfolding_all rfl) 46 _ _ _ 26 3 3 (by with_unfolding_all rfl) (.agg #[.int .i64 l.start, .int .i64 l.sterm, .slice a5 es.length c5]) (.int .i64 (l.start + (kk : Int))) (.int .i64 TI) (by with_unfolding_all rfl) (by with_unfolding_all rfl) (by with_unfolding_all rfl) (fun u w' => ∃ v', u = .agg #[.int .i64 (l.start + (kk : Int)), .int .i64 TI, v'] ∧ w'.ownsRow w7.heap.size 51 3 v' r.length (cellsEn r) ∧ Below w7.heap.size w7 w') (fun w => by kernel_rfl) ((HC36.out _ HB7.out).mono (fun e w' ⟨v', q1, q2⟩ => ⟨_, q1, v', rfl, q2⟩)) ?_
            rintro u w8 ⟨v8, rfl, hown8, hb8⟩
            have HL8 : Hid (LS B g len cap b off a z WB xb l.start l.sterm es (.slice a5 es.length c5) w8) := HL7.out.call (HL7.out.cur.same hb8) (own_below' hb8)
            have HLB : Hid (LS B g len cap b off a z WB xb (l.start + (kk : Int)) TI r v8 (w8.setRow xb #[.int .i64 (l.start + (kk : Int)), .int .i64 TI, v8])) := LS.over HL8.out (own_mono hown8 HL7.out.gr.size)
            have HO8 : Hid (w8.ownsRow w7.heap.size 51 3 v8 r.length (cellsEn r)) := hown8
            clear hown8 hb8 HL6 HL7 HB7 HC24 HC36
            refine hK.out _ _ HL8.out.x (fun _ => ?_)
            clear hK K
            try simp only [Act.put, List.setIfInBounds_toArray, List.set_cons_zero, List.set_cons_succ, List.getElem_toArray, List.getElem_cons_zero, List.getElem_cons_succ]
            refine wpAnyH_done (by kernel_rfl) ?_ _
            dsimp only [NX]
            refine wpOp_step rfl (fun K hK => ?_)
            refine step_storeA (by with_unfolding_all rfl) _ _ (by with_unfolding_all rfl) xb #[.int .i64 (l.start + (kk : Int)), .int .i64 TI, v8] #[.int .i64 l.start, .int .i64 l.sterm, .slice a5 es.length c5] (by with_unfolding_all rfl) (by with_unfolding_all rfl) HL8.out.x rfl rfl (log_one' HO8.out _ _) (hK _ _ ?_)
            clear hK K HL8 HO8
            obtain ⟨W8, hW8⟩ : ∃ W8, W8 = w8.setRow xb #[.int .i64 (l.start + (kk : Int)), .int .i64 TI, v8] := ⟨_, rfl⟩
            rw [← hW8] at HLB ⊢
            clear hW8
            obtain ⟨ST, hST⟩ : ∃ ST, ST = l.start + (kk : Int) := ⟨_, rfl⟩
            rw [← hST] at HLB
            have HST : Hid (0 ≤ ST ∧ ST ≤ 20) := ⟨by omega, by omega⟩
            clear hST
            have hz5 := HLB.out.zz
            have hd5 := HLB.out.done #[.int .i64 ST, .int .i64 TI, v8]
            rw [HSZ.out.1, ← HSZ.out.2] at hz5 hd5
            have HZ5 : Hid (W8.heap[bx + 1]? = some (.cells #[.int .i64 0, .int .i64 0, .slice none 0 0] 26 (0, 0))) := hz5
            obtain ⟨s1, s2, s3⟩ := hd5
            have HE5 : Hid (LogPostR B g len cap b off a z w 20 10 110 (.returned (.agg #[.int .i64 ST, .int .i64 TI, v8])) (W8.setRow (bx + 1) #[.int .i64 ST, .int .i64 TI, v8])) := by
              obtain ⟨⟨t1, t2⟩, t3, t4⟩ := HBD.out
              refine ⟨⟨ST, TI, r⟩, v8, rfl, HST.out, ⟨t1, by show TI ≤ 110; omega⟩, by show r.length ≤ 10; omega, t3.up (by omega), own_mono s3 (by have := HSZ.out.2; omega), s1, HGB.out.trans s2⟩
            clear hz5 s1 s2 s3
            go_wp2_with (first | (refine wpList_loadA Tryz.isAgg26 Tryz.sizeOf26 rfl _ rfl xb #[.int .i64 ST, .int .i64 TI, v8] 26 rfl HLB.out.x rfl ?_) | (refine wpList_storeA Tryz.sizeOf26 rfl _ _ rfl (bx + 1) #[.int .i64 ST, .int .i64 TI, v8] #[.int .i64 0, .int .i64 0, .slice none 0 0] 26 rfl rfl HZ5.out rfl rfl (log_one' HLB.out.own _ _) ?_) | fail)
            exact bodyPost_ret (resultN HZ5.out rfl rfl) rfl HE5.out

end Go.Proofs.YtahpoemmlpbgdaaGreat
