/- A drawn text, walked. What is held while a message is drawn. -/
import Derived.Test.YtimacmijinblmaaGreatDrawCmd
import Derived.Test.YtimacmijinblmaaGreatDrawEnt
import Derived.Test.YtimacmijinblmaaGreatRdMsg
namespace Go.Proofs.YtimacmijinblmaaGreat
open Go.RowKit
set_option linter.unusedVariables false
set_option linter.unusedSimpArgs false

set_option maxHeartbeats 1000000 in
set_option maxRecDepth 100000 in
theorem text_any {B g len cap b off : Nat} {a : Option Addr} {z : Nat → Int} (n : Nat) (hn : n ≤ 5000) (w : World) (hc : Cur B w g a len cap b off z) :
    Calls Tryz.prog 96 #[.pointer (some ⟨g, 0, none⟩), .int .i64 (n : Int)] w fun e w' => ∃ S : ByteArray, e = .returned (.string S) ∧ S.size = n ∧ Cur B w' g a len cap b off z ∧ w.grownBy w' (some g) := by
  obtain ⟨i0, hi, hz0, hz1, hz2⟩ := info_parts Tryz.info5
  have HC : Hid (Cur B w g a len cap b off z) := hc
  have hgB := hc.1
  have hgz := hc.lt
  clear hc
  go_enter Tryz.func96, Tryz.ntmps96
  go_wp2
  go_loopw [5, 6] (fun v i wr => ∃ (k : Nat) (pre : List UInt8), k ≤ n ∧ i = .int .i64 (k : Int) ∧ pre.length = k ∧ wr.ownsRow w.heap.size 5 1 v pre.length (cellsB pre) ∧ Cur B wr g a len cap b off z ∧ w.grownBy wr (some g))
    (fun _ i _ => n - (intOf i).toNat)
  case atStart =>
    have hg0 := World.grownBy_alloc w (.cells #[] 5) (some g)
    refine ⟨0, [], by omega, rfl, rfl, World.ownsRow_made w #[] 0 (Nat.le_refl _) (by unfold maxLen; omega) rfl, ?_, hg0⟩
    obtain ⟨hB, hb, hlen, hcode, i, h, hi2, hblk⟩ := HC.out
    exact Cur.step hB hb hlen hcode hg0 hi2 (by rw [Below.heap_alloc _ _ _ hgz]; exact hblk)
  case round =>
    obtain ⟨k, pre, hk, rfl, hlen, hown, hcur, hgr⟩ := hrel
    have HL : Hid (_ = _) := hlen
    have hpl : pre.length ≤ 5000 := by omega
    clear hlen
    by_cases hlt : k < n
    · have hki : (k : Int) < (n : Int) := by omega
      go_wp2_with fail
      refine (byte_any wr hcur).mono ?_
      rintro e w1 ⟨x, rfl, hx0, hx1, hc1, hg1⟩
      have hne : ∀ r, u5.ownBlock = some r → r ≠ g := fun r hr e => by have := (hown.lt r hr).1; omega
      have hown1 := hown.kept hg1 (by
        cases e : u5.ownBlock with
        | none => exact Or.inl rfl
        | some r => exact Or.inr (fun e2 => hne r e (Option.some.inj e2)))
      have hgr1 := hgr.trans hg1
      have hbz := hgr1.size
      obtain ⟨c, hcx⟩ := byte_of x hx0 (by omega)
      have HC1 : Hid (Cur B w1 g a len cap b off z) := hc1
      have HNE : Hid (∀ r, u5.ownBlock = some r → r ≠ g) := hne
      have HB0 : Hid (B ≤ g) := hgB
      have hgz1 := hc1.lt
      clear hc1 hne hown hg1 hgr hcur
      go_wp2_with (at_builtin; refine wpList_append_own _ rfl _ _ 31 rfl w.heap.size 5 i0 (.int .u8 0) 1 1 Tryz.underlying31 hi hz0 hz1 hz2 rfl (by decide) _ _ _ rfl (hown1.alloc _) ⟨w1.heap.size, 0, none⟩ 1 1 [.int .u8 (c.toNat : Int)] rfl rfl ?c1 ?c2 ?c3 ?c4 ?c5 ?_)
      case c1 =>
        intro j u hj
        match j, hj with
        | 0, hj => simp at hj; subst hj; simp [Addr.add, hcx.out]
      case c2 => intro u hu; simp at hu; subst hu; rfl
      case c3 => unfold maxLen; omega
      case c4 => omega
      case c5 => simp; omega
      intro v' w2 hown2 hgrow _
      go_wp2
      go_roundw
      case rel =>
        have hga := World.grownBy_alloc w1 (.cells #[.int .u8 x] 5) (some g)
        have hrow : ∀ r, u5.ownBlock = some r → w.heap.size ≤ r := fun r hr => (hown1.lt r hr).1
        refine ⟨k + 1, pre ++ [c], by omega, by go_num, by rw [List.length_append, HL.out]; rfl, own_snoc hown2, ?_, (hgr1.trans hga).andThen hgrow (fun j hj => Or.inl (hrow j hj))⟩
        have hcA : Cur B (w1.alloc (.cells #[.int .u8 x] 5)) g a len cap b off z := HC1.out.kept hga (fun r e => by cases e; exact Or.inr rfl) (by rw [Below.heap_alloc _ _ _ hgz1])
        refine hcA.kept hgrow (fun r hr => Or.inl (by have := hrow r hr; omega)) (hgrow.block g (by simp; omega) (fun e => HNE.out g e.symm rfl))
      case measure => simp [intOf]; omega
    · have hki : ¬ (k : Int) < (n : Int) := by omega
      have hcv := string_own hown
      go_wp2
      go_ret
      exact ⟨_, rfl, by rw [show (⟨pre.toArray⟩ : ByteArray).size = pre.length from by simp [ByteArray.size], HL.out]; omega, hcur, hgr⟩
end Go.Proofs.YtimacmijinblmaaGreat
namespace Go.Proofs.YtimacmijinblmaaGreat
open Go.RowKit
set_option linter.unusedVariables false
set_option linter.unusedSimpArgs false
structure NS (B g len cap b off : Nat) (a : Option Addr) (z : Nat → Int) (w : World) (mb : Nat) (m : MsgL) (v8 v9 : Value) (X : World) : Prop where
  cur : Cur B X g a len cap b off z
  res : X.heap[w.heap.size]? = some (.cells zeroC 25 (0, 0))
  msg : X.heap[mb]? = some (.cells (cellsM m v8 v9) 25 (0, 0))
  low : g < w.heap.size ∧ w.heap.size < mb
  ent : X.ownsRow w.heap.size 44 3 v8 m.ents.length (cellsEn m.ents)
  cnf : X.ownsRow w.heap.size 3 1 v9 m.conf.length (cellsI m.conf)
  gr : w.grownBy X (some g)
/-- What is small of a message. -/
structure Small (N : Nat) (m : MsgL) : Prop where
  len : m.ents.length ≤ N
  ents : ∀ e ∈ m.ents, e.data.size ≤ 30000
  conf : m.conf.length ≤ 10
  data : m.data.size ≤ 30000
  dst : -9223372036854775808 ≤ m.dst ∧ m.dst ≤ 9223372036854775807
section
variable {B g len cap b off : Nat} {a : Option Addr} {z : Nat → Int} {w : World} {mb : Nat} {m : MsgL} {v8 v9 : Value} {X : World}
theorem NS.gt (h : NS B g len cap b off a z w mb m v8 v9 X) : ∃ cs, X.heap[g]? = some (.cells cs 97 (0, 0)) := h.cur.blk
theorem NS.ne8 (h : NS B g len cap b off a z w mb m v8 v9 X) : v8.ownBlock ≠ some g := by
  obtain ⟨cs, hc⟩ := h.gt
  exact own_not h.ent hc (by decide)
theorem NS.ne9 (h : NS B g len cap b off a z w mb m v8 v9 X) : v9.ownBlock ≠ some g := by
  obtain ⟨cs, hc⟩ := h.gt
  exact own_not h.cnf hc (by decide)
theorem NS.call (h : NS B g len cap b off a z w mb m v8 v9 X) {X' : World} (hc : Cur B X' g a len cap b off z) (hg : X.grownBy X' (some g)) : NS B g len cap b off a z w mb m v8 v9 X' :=
  ⟨hc, grown_keep h.res hg (by have := h.low; omega), grown_keep h.msg hg (by have := h.low; omega), h.low, h.ent.kept hg (Or.inr h.ne8), h.cnf.kept hg (Or.inr h.ne9), h.gr.trans hg⟩
theorem NS.same (h : NS B g len cap b off a z w mb m v8 v9 X) {X' : World} (hb : Below X.heap.size X X') : NS B g len cap b off a z w mb m v8 v9 X' := h.call (h.cur.same hb) (own_below' hb)
theorem NS.drew (h : NS B g len cap b off a z w mb m v8 v9 X) : NS B g len cap b off a z w mb m v8 v9 X.drew := h.same (Below.refl _ _).drew
theorem NS.set (h : NS B g len cap b off a z w mb m v8 v9 X) (j : Nat) (val : Value) {m' : MsgL} (hA : (cellsM m v8 v9).setIfInBounds j val = cellsM m' v8 v9) (he : m'.ents = m.ents) (hc : m'.conf = m.conf) : NS B g len cap b off a z w mb m' v8 v9 (X.setCell ⟨mb, j, none⟩ val) := by
  have hg := grown_set X mb j val
  have hlow := h.low
  have hm := heap_setCell_same X mb j (cellsM m v8 v9) 25 val h.msg
  rw [hA] at hm
  exact ⟨h.cur.far2 (by omega) j val, set_far h.res (by omega) j val, hm, h.low, by rw [he]; exact h.ent.kept hg (Or.inr (own_not h.ent h.msg (by decide))), by rw [hc]; exact h.cnf.kept hg (Or.inr (own_not h.cnf h.msg (by decide))), grown_new h.gr (by omega) j val⟩
theorem NS.setC (h : NS B g len cap b off a z w mb m v8 v9 X) {c : List Int} {v : Value} (ho : X.ownsRow w.heap.size 3 1 v c.length (cellsI c)) : NS B g len cap b off a z w mb { m with conf := c } v8 v (X.setCell ⟨mb, 9, none⟩ v) := by
  have hg := grown_set X mb 9 v
  have hlow := h.low
  have hm := heap_setCell_same X mb 9 (cellsM m v8 v9) 25 v h.msg
  exact ⟨h.cur.far2 (by omega) 9 v, set_far h.res (by omega) 9 v, hm, h.low, h.ent.kept hg (Or.inr (own_not h.ent h.msg (by decide))), ho.kept hg (Or.inr (own_not ho h.msg (by decide))), grown_new h.gr (by omega) 9 v⟩
theorem NS.grows (h : NS B g len cap b off a z w mb m v8 v9 X) {X' : World} (hg : X.grownBy X' v8.ownBlock) : Cur B X' g a len cap b off z ∧ X'.heap[w.heap.size]? = some (.cells zeroC 25 (0, 0)) ∧ X'.heap[mb]? = some (.cells (cellsM m v8 v9) 25 (0, 0)) ∧ X'.ownsRow w.heap.size 3 1 v9 m.conf.length (cellsI m.conf) ∧ w.grownBy X' (some g) := by
  have hlow := h.low
  have hbl : ∀ r, v8.ownBlock = some r → w.heap.size ≤ r := fun r e => by
    rcases h.ent.2 with ⟨h1, _⟩ | ⟨g', cap', cur, h1, hbase, _⟩
    · rw [h1] at e; simp [Value.ownBlock] at e
    · rw [h1] at e
      obtain rfl : g' = r := by simpa [Value.ownBlock] using e
      exact hbase
  refine ⟨?_, grown_keep' h.res hg (own_not h.ent h.res (by decide)), grown_keep' h.msg hg (own_not h.ent h.msg (by decide)), ?_, h.gr.andThen hg (fun r e => Or.inl (hbl r e))⟩
  · exact h.cur.kept hg (fun r e => Or.inl (by have := hbl r e; have := h.cur.low; omega)) (hg.block g h.cur.lt (fun e => h.ne8 e.symm))
  · rcases own_diff h.cnf h.ent (by decide) with e | e
    · exact h.cnf.kept hg (Or.inl e)
    · exact h.cnf.kept hg (Or.inr e)
theorem NS.put (h : NS B g len cap b off a z w mb m v8 v9 X) {X' : World} (hg : X.grownBy X' v8.ownBlock) {es : List EntL} {v : Value} (hown : X'.ownsRow w.heap.size 44 3 v es.length (cellsEn es)) : NS B g len cap b off a z w mb { m with ents := es } v v9 (X'.setCell ⟨mb, 8, none⟩ v) := by
  have hlow := h.low
  obtain ⟨h1, h2, h3, h4, h5⟩ := h.grows hg
  have hgs := grown_set X' mb 8 v
  have hm := heap_setCell_same X' mb 8 (cellsM m v8 v9) 25 v h3
  exact ⟨h1.far2 (by omega) 8 v, set_far h2 (by omega) 8 v, hm, h.low, hown.kept hgs (Or.inr (own_not hown h3 (by decide))), h4.kept hgs (Or.inr (own_not h4 h3 (by decide))), grown_new h5 (by omega) 8 v⟩
theorem NS.done (h : NS B g len cap b off a z w mb m v8 v9 X) (A : Array Value) : Cur B (X.setRow w.heap.size A) g a len cap b off z ∧ w.grownBy (X.setRow w.heap.size A) (some g) ∧ (X.setRow w.heap.size A).ownsRow w.heap.size 44 3 v8 m.ents.length (cellsEn m.ents) ∧ (X.setRow w.heap.size A).ownsRow w.heap.size 3 1 v9 m.conf.length (cellsI m.conf) :=
  have hl := h.low
  ⟨h.cur.kept (grown_setRow X w.heap.size A) (fun r e => Or.inl (by have := h.cur.low; cases e; omega)) (setRow_other X w.heap.size g A (by omega)),
    h.gr.andThen (grown_setRow X w.heap.size A) (fun r e => Or.inl (by cases e; exact Nat.le_refl _)), own_row h.ent _ _ (own_not h.ent h.res (by decide)), own_row h.cnf _ _ (own_not h.cnf h.res (by decide))⟩
end
/-- A drawn message, in rows of the call's own. -/
def MPost (B g len cap b off : Nat) (a : Option Addr) (z : Nat → Int) (w : World) (N : Nat) (e : Ending) (w' : World) : Prop := ∃ (m : MsgL) (p : Option Addr) (c : Nat) (q : Option Addr) (d : Nat), e = .returned (msgV m p c q d) ∧ Small N m ∧ w'.ownsRow w.heap.size 44 3 (.slice p m.ents.length c) m.ents.length (cellsEn m.ents) ∧ w'.ownsRow w.heap.size 3 1 (.slice q m.conf.length d) m.conf.length (cellsI m.conf) ∧ Cur B w' g a len cap b off z ∧ w.grownBy w' (some g)
theorem step_call2 {P : Program} {ops : Array Oper} {o : Oper} {a : Act} {w : World} {K : Act → World → Prop} {Q : Exit → Act → World → Prop} {E : Prop} (hgd : o.guard = none) (f : Nat) (x y : Operand) (t1 t2 : TypeId)
    (ho : o.op = .call { callee := .value (.func f), args := #[x, y], argTypes := #[t1, t2] }) (v1 v2 : Value) (hx : a.eval x = v1) (hy : a.eval y = v2) (R : Value → World → Prop) (hcf : ∀ w, (callFunc f #[v1, v2]).run P w = .ok (.enter f #[v1, v2]) w)
    (hc : Calls P f #[v1, v2] w fun e w' => ∃ u, e = .returned u ∧ R u w') (h : ∀ u w', R u w' → K (a.put o.dst u) w') : if Region.wanted o (yielded ops a.tmps) = true then Oper.wp P o a w K Q else E := by
  have hw : Region.wanted o (yielded ops a.tmps) = true := by simp [Region.wanted, hgd]
  rw [if_pos hw]
  unfold Oper.wp
  have hf : a.eval (.func f) = .func (.func f) #[] #[] := rfl
  simp [execOp, ho, resolve, invoke, hf, hx, hy, hcf, Deferred.ofValue, Oper.upon]
  refine hc.mono ?_
  rintro e w' ⟨u, rfl, hr⟩
  exact h u w' hr
theorem step_call1 {P : Program} {ops : Array Oper} {o : Oper} {a : Act} {w : World} {K : Act → World → Prop} {Q : Exit → Act → World → Prop} {E : Prop} (hgd : o.guard = none) (f : Nat) (x : Operand) (t1 : TypeId)
    (ho : o.op = .call { callee := .value (.func f), args := #[x], argTypes := #[t1] }) (v1 : Value) (hx : a.eval x = v1) (R : Value → World → Prop) (hcf : ∀ w, (callFunc f #[v1]).run P w = .ok (.enter f #[v1]) w)
    (hc : Calls P f #[v1] w fun e w' => ∃ u, e = .returned u ∧ R u w') (h : ∀ u w', R u w' → K (a.put o.dst u) w') : if Region.wanted o (yielded ops a.tmps) = true then Oper.wp P o a w K Q else E := by
  have hw : Region.wanted o (yielded ops a.tmps) = true := by simp [Region.wanted, hgd]
  rw [if_pos hw]
  unfold Oper.wp
  have hf : a.eval (.func f) = .func (.func f) #[] #[] := rfl
  simp [execOp, ho, resolve, invoke, hf, hx, hcf, Deferred.ofValue, Oper.upon]
  refine hc.mono ?_
  rintro e w' ⟨u, rfl, hr⟩
  exact h u w' hr
theorem step_appV {w : World} {ops : Array Oper} {o : Oper} {act : Act} {K : Act → World → Prop} {Q : Exit → Act → World → Prop} {E : Prop} (hgd : o.guard = none) (s x : Operand)
    (ho : o.op = .call { callee := .builtin .append, args := #[s, x], argTypes := #[22, 22] }) (base : Nat) (v : Value) (B : Nat) (l : List EntL) (e : EntL) (hs : act.eval s = v) (hx : act.eval x = .slice (some ⟨B, 0, none⟩) 1 1)
    (h : w.ownsRow base 44 3 v l.length (cellsEn l)) (hb : base ≤ w.heap.size) (hn : l.length ≤ 1048576) (hB : w.heap[B]? = some (.cells #[.int .i64 e.term, .int .i64 e.kind, .string e.data] 44 (0, 0)))
    (hk : ∀ v' w', w'.ownsRow base 44 3 v' (l ++ [e]).length (cellsEn (l ++ [e])) → w.grownBy w' v.ownBlock → K (act.put o.dst v') w') : if Region.wanted o (yielded ops act.tmps) = true then Oper.wp Tryz.prog o act w K Q else E := by
  have hw : Region.wanted o (yielded ops act.tmps) = true := by simp [Region.wanted, hgd]
  rw [if_pos hw]
  obtain ⟨i0, hi, hz0, hz1, hz2⟩ := info_parts Tryz.info44
  have hnl : (cellsEn [e]).length = 1 * 3 := cellsEn_len [e]
  have hnc : ∀ j u, (cellsEn [e])[j]? = some u → w.cell? ((⟨B, 0, none⟩ : Addr).add j) = some u := World.news_of_block (cs := #[.int .i64 e.term, .int .i64 e.kind, .string e.data]) hB
  obtain ⟨v', w', hr, h2, h3, _⟩ := run_append_own (P := Tryz.prog) w base 22 o.type 44 i0 (.agg #[.int .i64 0, .int .i64 0, .string ByteArray.empty]) 3 32 Tryz.underlying22 hi hz0 hz1 hz2 rfl (by decide) _ l.length (cellsEn l) h ⟨B, 0, none⟩ 1 1 (cellsEn [e]) hnl hnc cellsEn_one (by unfold maxLen; omega) (by omega) hb
  unfold Oper.wp
  simp [execOp, ho, resolve, invoke, builtin, hs, hx, hr, Result.andThen]
  refine hk _ _ ?_ h3
  rw [cellsEn_app, List.length_append]
  exact h2
end Go.Proofs.YtimacmijinblmaaGreat
