/- What the specification's Decode holds while it reads. One entry put behind a row of the call's own; what Decode's loop needs. -/
import Derived.Test.YtimacmijinblmaaGreatMsgArg
import Derived.Test.YtimacmijinblmaaGreatAgg
import Derived.Test.YtimacmijinblmaaGreatSpecRE
import Derived.Test.YtimacmijinblmaaGreatCur3
import Derived.Test.YtimacmijinblmaaGreatMathPar
namespace Go.Proofs.YtimacmijinblmaaGreat
open Go.RowKit
set_option linter.unusedVariables false
set_option linter.unusedSimpArgs false

def zeroC : Array Value := #[.int .i64 0, .int .i64 0, .int .i64 0, .int .i64 0, .int .i64 0, .int .i64 0, .int .i64 0, .bool false, .slice none 0 0, .slice none 0 0, .string ⟨#[]⟩, .bool false]
/-- The result's block lies at the heap's end, the cursor's behind it, the message's at mb. -/
structure DS (w : World) (mb : Nat) (t : ByteArray) (A : Array Value) (v8 : Value) (l : List EntL) (v9 : Value) (c : List Int) (a : Nat) (bad : Bool) (X : World) : Prop where
  cur : C5 X (w.heap.size + 1) t a bad
  res : X.heap[w.heap.size]? = some (.cells zeroC 25 (0, 0))
  msg : X.heap[mb]? = some (.cells A 25 (0, 0))
  low : w.heap.size + 1 < mb
  ent : X.ownsRow w.heap.size 44 3 v8 l.length (cellsEn l)
  cnf : X.ownsRow w.heap.size 3 1 v9 c.length (cellsI c)
  bel : Below w.heap.size w X
section
variable {w : World} {mb : Nat} {t : ByteArray} {A : Array Value} {v8 : Value} {l : List EntL} {v9 : Value} {c : List Int} {a : Nat} {bad : Bool} {X : World}
theorem DS.grown (h : DS w mb t A v8 l v9 c a bad X) {X' : World} {a' : Nat} {bad' : Bool} (hg : X.grownBy X' (some (w.heap.size + 1))) (hc : C5 X' (w.heap.size + 1) t a' bad') : DS w mb t A v8 l v9 c a' bad' X' :=
  ⟨hc, grown_keep h.res hg (by omega), grown_keep h.msg hg (by have := h.low; omega), h.low, h.ent.kept hg (Or.inr (own_not h.ent h.cur.1 (by decide))), h.cnf.kept hg (Or.inr (own_not h.cnf h.cur.1 (by decide))), h.bel.grown hg h.bel.size (fun k e => by cases e; omega)⟩
theorem DS.below (h : DS w mb t A v8 l v9 c a bad X) {X' : World} (hb : Below X.heap.size X X') : DS w mb t A v8 l v9 c a bad X' :=
  ⟨h.cur.below hb, (hb.block _ (Array.getElem?_eq_some_iff.1 h.res).1).trans h.res, (hb.block _ (Array.getElem?_eq_some_iff.1 h.msg).1).trans h.msg, h.low, own_kept h.ent hb, own_kept h.cnf hb, h.bel.trans (hb.mono h.bel.size)⟩
theorem DS.set (h : DS w mb t A v8 l v9 c a bad X) (j : Nat) (v : Value) : DS w mb t (A.setIfInBounds j v) v8 l v9 c a bad (X.setCell ⟨mb, j, none⟩ v) := by
  have hg := grown_set X mb j v
  have hlow := h.low
  refine ⟨h.cur.far (by omega) j v, set_far h.res (by omega) j v, heap_setCell_same X mb j A 25 v h.msg, h.low, h.ent.kept hg (Or.inr (own_not h.ent h.msg (by decide))), h.cnf.kept hg (Or.inr (own_not h.cnf h.msg (by decide))), h.bel.setCell (by show w.heap.size ≤ mb; omega) v⟩
theorem DS.more (h : DS w mb t A v8 l v9 c a bad X) {X' : World} {v : Value} {l' : List EntL} (hg : X.grownBy X' v8.ownBlock) (ho : X'.ownsRow w.heap.size 44 3 v l'.length (cellsEn l')) : DS w mb t A v l' v9 c a bad X' := by
  have n1 := own_not h.ent h.cur.1 (by decide)
  have n2 := own_not h.ent h.res (by decide)
  have n3 := own_not h.ent h.msg (by decide)
  refine ⟨⟨grown_keep' h.cur.1 hg n1, h.cur.2⟩, grown_keep' h.res hg n2, grown_keep' h.msg hg n3, h.low, ho, ?_, ?_⟩
  · rcases own_diff h.cnf h.ent (by decide) with e | e
    · exact h.cnf.kept hg (Or.inl e)
    · exact h.cnf.kept hg (Or.inr e)
  · refine h.bel.grown hg h.bel.size (fun k e => ?_)
    rcases h.ent.2 with ⟨h1, _⟩ | ⟨g, cap, cur, h1, hbase, _⟩
    · rw [h1] at e; simp [Value.ownBlock] at e
    · rw [h1] at e
      obtain rfl : g = k := by simpa [Value.ownBlock] using e
      exact hbase
theorem DS.conf (h : DS w mb t A v8 l v9 c a bad X) {X' : World} {v : Value} {c' : List Int} (hb : Below X.heap.size X X') (ho : X'.ownsRow X.heap.size 3 1 v c'.length (cellsI c')) : DS w mb t A v8 l v c' a bad X' :=
  have h' := h.below hb
  ⟨h'.cur, h'.res, h'.msg, h'.low, h'.ent, own_mono ho h.bel.size, h'.bel⟩
end
end Go.Proofs.YtimacmijinblmaaGreat
namespace Go.Proofs.YtimacmijinblmaaGreat
open Go.RowKit
open Ents (okB)
open Msgs (okM bt Got pos epos)
set_option linter.unusedVariables false
set_option linter.unusedSimpArgs false
theorem wpList_app_en {w : World} {ops : Array Oper} {rest : List Oper} {o : Oper} {act : Act} {Q : Exit → Act → World → Prop} (hgd : o.guard = none) (s x : Operand)
    (ho : o.op = .call { callee := .builtin .append, args := #[s, x], argTypes := #[22, 22] }) (base : Nat) (v : Value) (l : List EntL) (hs : act.eval s = v) (hown : w.ownsRow base 44 3 v l.length (cellsEn l)) (e : EntL)
    (hx : act.eval x = .slice (some ⟨w.heap.size, 0, none⟩) 1 1) (hl : l.length ≤ 1000) (hb : base ≤ w.heap.size)
    (h : ∀ v' w', w'.ownsRow base 44 3 v' (l ++ [e]).length (cellsEn (l ++ [e])) → (w.alloc (.cells #[.int .i64 e.term, .int .i64 e.kind, .string e.data] 44)).grownBy w' v.ownBlock → wpList Tryz.prog ops Q rest (act.put o.dst v') w') : wpList Tryz.prog ops Q (o :: rest) act (w.alloc (.cells #[.int .i64 e.term, .int .i64 e.kind, .string e.data] 44)) := by
  obtain ⟨i0, hi, hz0, hz1, hz2⟩ := info_parts Tryz.info44
  have hB : (w.alloc (.cells #[.int .i64 e.term, .int .i64 e.kind, .string e.data] 44)).heap[w.heap.size]? = some (.cells #[.int .i64 e.term, .int .i64 e.kind, .string e.data] 44 (0, 0)) := heap_alloc_new w _
  have hnc : ∀ j u, (cellsEn [e])[j]? = some u → (w.alloc (.cells #[.int .i64 e.term, .int .i64 e.kind, .string e.data] 44)).cell? ((⟨w.heap.size, 0, none⟩ : Addr).add j) = some u := World.news_of_block (cs := #[.int .i64 e.term, .int .i64 e.kind, .string e.data]) hB
  refine wpList_append_own _ hgd s x 22 ho base 44 i0 (.agg #[.int .i64 0, .int .i64 0, .string ByteArray.empty]) 3 32 Tryz.underlying22 hi hz0 hz1 hz2 rfl (by decide) v l.length (cellsEn l) hs (hown.alloc _) ⟨w.heap.size, 0, none⟩ 1 1 (cellsEn [e]) hx (cellsEn_len [e]) hnc cellsEn_one (by unfold maxLen; omega) (by omega) (by simp; omega) ?_
  intro v' w' h1 h2 _
  refine h v' w' ?_ h2
  rw [cellsEn_app, List.length_append]
  exact h1
theorem got_data {x : ByteArray} {i : Nat} {e : EntL} (h : Ents.Got x i e) : e.data.size ≤ x.size := by
  have h1 : (Batches.by_ x).length = x.size := Words.size_list x
  have h2 : (Batches.by_ e.data).length = e.data.size := Words.size_list e.data
  rw [h.1] at h1
  simp only [Ents.text, List.length_cons, List.length_append, h2] at h1
  omega
theorem re_data {x : ByteArray} {i : Nat} {e : EntL} {R : Bool} (h : REIs x i e R) : e.data.size ≤ x.size := by
  rcases h with ⟨h, _⟩ | ⟨_, _, rfl, _⟩
  · exact got_data h
  · exact Nat.zero_le _
theorem re_right {e e' : EntL} {i : Nat} {R : Bool} (h : REIs (Ents.textS 1 e) i e' R) (hok : okB e = true) : e' = e :=
  (re_uniq h (i' := 1) (e' := e) ⟨rfl, hok, by decide, by decide⟩).2.1
theorem rc_len {x : ByteArray} {l : List Int} {R : Bool} (h : RCIs x l R) : l.length ≤ 4 := by
  rcases h with ⟨h, _⟩ | ⟨_, rfl, _⟩
  · have := (Ents.readC_iff.1 h).1
    exact (Ents.conf_in this).1.2
  · exact Nat.zero_le _
theorem rc_right {l l' : List Int} {R : Bool} (h : RCIs (Ents.confS l) l' R) (hok : Mans.confOk l = true ∨ l = []) : l' = l := by
  rcases hok with hok | rfl
  · have e : Ents.readC (Ents.confS l) = some l := Ents.readC_iff.2 ⟨hok, rfl⟩
    rcases h with ⟨h, _⟩ | ⟨h, _⟩
    · rw [e] at h; cases h; rfl
    · rw [e] at h; cases h
  · rcases h with ⟨h, _⟩ | ⟨_, h, _⟩
    · have := (Ents.readC_iff.1 h)
      have h1 := (Ents.conf_in this.1).1.1
      have h2 : (Ents.confS l').size = l'.length := by show (Ents.confB l').toArray.size = _; simp [Ents.confB]
      rw [← this.2] at h2
      have h3 : (Ents.confS []).size = 0 := rfl
      omega
    · exact h
end Go.Proofs.YtimacmijinblmaaGreat
