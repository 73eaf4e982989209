/- Terms that do not fall, told as the program asks it; no program is named here. Where each field of a message's bytes stands, and what is read there; no program is named here. What the specification's Decode holds while it reads. One entry put behind a row of the call's own; what Decode's loop needs. -/
import Derived.Test.YtimacmijinblmaaGreatLEn
import Derived.Test.YtimacmijinblmaaGreatAgg
import Derived.Test.YtimacmijinblmaaGreatSpecRE
import Derived.Test.YtimacmijinblmaaGreatCur3
namespace Go.Proofs.YtimacmijinblmaaGreat
set_option linter.unusedVariables false
set_option linter.unusedSimpArgs false
namespace Msgs
open Ents (okB)
def rises : Int → List EntL → Bool
  | _, [] => true
  | t, e :: r => (okB e && decide (t ≤ e.term)) && rises e.term r
theorem rises_step {t : Int} {l : List EntL} {k : Nat} {R : Bool} (hk : k < l.length) (h : rises t (l.drop k) = R) (h1 : okB l[k] = true) (h2 : t ≤ l[k].term) : rises l[k].term (l.drop (k + 1)) = R := by
  rw [List.drop_eq_getElem_cons hk] at h
  simpa [rises, h1, h2] using h
theorem rises_bad {t : Int} {l : List EntL} {k : Nat} {R : Bool} (hk : k < l.length) (h : rises t (l.drop k) = R) (h1 : okB l[k] = false ∨ ¬ t ≤ l[k].term) : R = false := by
  rw [List.drop_eq_getElem_cons hk] at h
  rw [← h]
  rcases h1 with h1 | h1
  · simp [rises, h1]
  · simp [rises, h1]
theorem rises_end {t : Int} {l : List EntL} {k : Nat} {R : Bool} (hk : l.length ≤ k) (h : rises t (l.drop k) = R) : R = true := by
  rw [List.drop_of_length_le hk] at h
  exact h.symm
/-- The term of the last entry, or the one ahead. -/
def lastT : Int → List EntL → Int
  | t, [] => t
  | _, e :: r => lastT e.term r
theorem lastT_get : ∀ (l : List EntL) (t : Int) (h : 0 < l.length), lastT t l = (l[l.length - 1]'(by omega)).term
  | [e], t, h => rfl
  | e :: f :: r, t, h => by
    have := lastT_get (f :: r) e.term (by simp)
    simp only [lastT] at this ⊢
    rw [this]
    simp
theorem lastT_ge : ∀ (l : List EntL) (t : Int), rises t l = true → t ≤ lastT t l
  | [], t, _ => Int.le_refl _
  | e :: r, t, h => by
    simp only [rises, Bool.and_eq_true, decide_eq_true_eq] at h
    have := lastT_ge r e.term h.2
    simp only [lastT]
    omega
theorem rise_rises (hi : Int) : ∀ (l : List EntL) (t : Int), 0 < l.length → rise hi t l = (rises t l && decide (lastT t l ≤ hi))
  | [e], t, _ => by
    simp only [rise, rises, lastT, Bool.and_true]
    exact (Bool.and_assoc _ _ _).symm
  | e :: f :: r, t, _ => by
    have h := rise_rises hi (f :: r) e.term (by simp)
    have e1 : rise hi t (e :: f :: r) = ((okB e && (decide (t ≤ e.term) && decide (e.term ≤ hi))) && rise hi e.term (f :: r)) := rfl
    have e2 : rises t (e :: f :: r) = ((okB e && decide (t ≤ e.term)) && rises e.term (f :: r)) := rfl
    have e3 : lastT t (e :: f :: r) = lastT e.term (f :: r) := rfl
    rw [e1, e2, e3, h]
    cases hr : rises e.term (f :: r)
    · simp
    · have := lastT_ge _ _ hr
      by_cases hq : lastT e.term (f :: r) ≤ hi
      · rw [decide_eq_true hq, decide_eq_true (p := e.term ≤ hi) (by omega)]
        simp
      · rw [decide_eq_false hq]; simp
end Msgs
end Go.Proofs.YtimacmijinblmaaGreat
namespace Go.Proofs.YtimacmijinblmaaGreat
set_option linter.unusedVariables false
set_option linter.unusedSimpArgs false
open Msgs (bt)
/-- The fields' bytes. -/
def fieldsL (m : MsgL) : List (List UInt8) := [[bt m.kind], [bt m.frm], [bt m.dst], Words.var m.term.toNat, Words.var m.index.toNat, Words.var m.lterm.toNat, Words.var m.commit.toNat, [Batches.flag m.ok], [Batches.flag m.last], Words.var m.ents.length ++ Msgs.many m.ents, Batches.short (Ents.confS m.conf), Batches.short m.data]
def parts (m : MsgL) (k : Nat) : List UInt8 := ((fieldsL m).take k).flatten
theorem parts_all (m : MsgL) : parts m 12 = Msgs.text m := by
  simp [parts, fieldsL, Msgs.text, Msgs.front]
namespace Msgs
open Batches (by_ rdShort cut cut_app cut_all rd_cut rdShort_cut rd_at rdShort_at short flag by_inj)
open Ents (okB)
def pos (m : MsgL) (k : Nat) : Nat := (parts m k).length
theorem parts_next {m : MsgL} {k : Nat} {x : List UInt8} (h : (fieldsL m)[k]? = some x) : parts m (k + 1) = parts m k ++ x := by
  unfold parts
  rw [List.take_add_one, h]
  simp
theorem split {t : ByteArray} {m : MsgL} (h : Got t m) {k : Nat} {x : List UInt8} (hx : (fieldsL m)[k]? = some x) : by_ t = parts m k ++ (x ++ ((fieldsL m).drop (k + 1)).flatten) := by
  rw [h.1, ← parts_all]
  have e : fieldsL m = (fieldsL m).take k ++ (x :: (fieldsL m).drop (k + 1)) := by
    obtain ⟨hk, he⟩ := List.getElem?_eq_some_iff.1 hx
    rw [← he, ← List.drop_eq_getElem_cons hk, List.take_append_drop]
  have e12 : parts m 12 = (fieldsL m).flatten := by unfold parts; rw [List.take_of_length_le (by simp [fieldsL])]
  rw [e12]
  conv => lhs; rw [e]
  simp [parts]
theorem at_var {t : ByteArray} {m : MsgL} (h : Got t m) {k n : Nat} (hn : n ≤ 1000000000) (hx : (fieldsL m)[k]? = some (Words.var n)) : Words.rd (by_ t) (pos m k) = some (n, pos m (k + 1)) := by
  have := rd_at hn (split h hx)
  unfold pos
  rw [this, parts_next hx]
theorem at_short {t : ByteArray} {m : MsgL} (h : Got t m) {k : Nat} {x : ByteArray} (hn : x.size ≤ 20000) (hx : (fieldsL m)[k]? = some (short x)) : rdShort t (pos m k) = some (x, pos m (k + 1)) := by
  have := rdShort_at hn (split h hx)
  unfold pos
  rw [this, parts_next hx]
theorem at_byte {t : ByteArray} {m : MsgL} (h : Got t m) {k : Nat} {x : UInt8} (hx : (fieldsL m)[k]? = some [x]) : (by_ t)[pos m k]? = some x ∧ pos m (k + 1) = pos m k + 1 := by
  refine ⟨?_, by simp [pos, parts_next hx]⟩
  rw [split h hx]
  unfold pos
  rw [List.getElem?_append_right (Nat.le_refl _), Nat.sub_self]
  rfl
theorem pos_end {t : ByteArray} {m : MsgL} (h : Got t m) : pos m 12 = t.size := by
  have : (by_ t).length = t.size := Words.size_list t
  unfold pos
  rw [parts_all, ← h.1, this]
/-- Where the k-th entry's text stands. -/
def epos (m : MsgL) (k : Nat) : Nat := pos m 9 + (Words.var m.ents.length ++ many (m.ents.take k)).length
theorem at_count {t : ByteArray} {m : MsgL} (h : Got t m) : Words.rd (by_ t) (pos m 9) = some (m.ents.length, epos m 0) := by
  have hs := split h (k := 9) rfl
  rw [List.append_assoc] at hs
  have := rd_at (by have := (fits h.2).len; omega) hs
  rw [show pos m 9 = (parts m 9).length from rfl, this]
  simp [epos, pos, many]
theorem ent_len {e : EntL} (h : okB e = true) : (Ents.textS 1 e).size ≤ 20000 := by
  obtain ⟨⟨t0, t1⟩, hk⟩ := Ents.okB_iff.1 h
  obtain ⟨_, hd⟩ := Ents.kind_in hk
  have e1 : (Ents.textS 1 e).size = (Ents.text 1 e).length := by show (Ents.text 1 e).toArray.size = _; simp
  have v1 := Mans.var_five 1 (by omega)
  have v2 := Mans.var_five e.term.toNat (by omega)
  have e2 : (by_ e.data).length = e.data.size := Words.size_list _
  rw [e1]
  simp only [Ents.text, List.length_cons, List.length_append, e2]
  omega
theorem at_ent {t : ByteArray} {m : MsgL} (h : Got t m) {k : Nat} (hk : k < m.ents.length) : rdShort t (epos m k) = some (Ents.textS 1 m.ents[k], epos m (k + 1)) := by
  have hs := split h (k := 9) rfl
  have hm : many m.ents = many (m.ents.take k) ++ (short (Ents.textS 1 m.ents[k]) ++ many (m.ents.drop (k + 1))) := by
    have e : m.ents = m.ents.take k ++ (m.ents[k] :: m.ents.drop (k + 1)) := by rw [← List.drop_eq_getElem_cons hk, List.take_append_drop]
    conv => lhs; rw [e]
    rw [many_app]
    rfl
  have hs2 : by_ t = (parts m 9 ++ (Words.var m.ents.length ++ many (m.ents.take k))) ++ (short (Ents.textS 1 m.ents[k]) ++ (many (m.ents.drop (k + 1)) ++ ((fieldsL m).drop 10).flatten)) := by
    rw [hs, hm]
    simp [List.append_assoc]
  have := rdShort_at (ent_len ((fits h.2).ents _ (List.getElem_mem hk))) hs2
  have e1 : epos m k = (parts m 9 ++ (Words.var m.ents.length ++ many (m.ents.take k))).length := by simp [epos, pos, Nat.add_assoc]
  have e2 : epos m (k + 1) = (parts m 9 ++ (Words.var m.ents.length ++ many (m.ents.take k)) ++ short (Ents.textS 1 m.ents[k])).length := by
    simp only [epos, pos]
    rw [List.take_succ_eq_append_getElem hk, many_snoc]
    simp [Nat.add_assoc]
  rw [e1, e2]
  exact this
theorem epos_end {m : MsgL} : epos m m.ents.length = pos m 10 := by
  unfold epos pos
  rw [List.take_of_length_le (Nat.le_refl _), parts_next (k := 9) rfl]
  simp
/-- The bytes of a message's fields, read back. -/
theorem bt_back {x : Int} (h0 : 1 ≤ x) (h1 : x ≤ 6) : ((bt x).toNat : Int) = x := by
  unfold bt
  rw [Words.ofNat_toNat _ (by omega)]
  omega
theorem conf_small {t : ByteArray} {m : MsgL} (h : Got t m) : (Ents.confS m.conf).size ≤ 20000 := by
  have : (Ents.confS m.conf).size = m.conf.length := by show (Ents.confB m.conf).toArray.size = _; simp [Ents.confB]
  rcases (fits h.2).conf with x | x
  · have := (Ents.conf_in x).1.2; omega
  · rw [this, x]; decide
theorem pos_byte {t : ByteArray} {m : MsgL} (h : Got t m) {k : Nat} {x : UInt8} (hx : (fieldsL m)[k]? = some [x]) : pos m k + 1 ≤ t.size ∧ t.extract (pos m k) (pos m k + 1) = ⟨#[x]⟩ := by
  obtain ⟨h1, _⟩ := at_byte h hx
  obtain ⟨h2, h3⟩ := Ents.cut_one h1
  refine ⟨by omega, ?_⟩
  apply by_inj
  unfold by_
  rw [Words.extract_list]
  unfold cut by_ at h3
  exact h3
end Msgs
end Go.Proofs.YtimacmijinblmaaGreat
namespace Go.Proofs.YtimacmijinblmaaGreat
open Go.RowKit
set_option linter.unusedVariables false
set_option linter.unusedSimpArgs false

def zeroC : Array Value := #[.int .i64 0, .int .i64 0, .int .i64 0, .int .i64 0, .int .i64 0, .int .i64 0, .int .i64 0, .bool false, .slice none 0 0, .slice none 0 0, .string ⟨#[]⟩, .bool false]
/-- The result's block lies at the heap's end, the cursor's behind it, the message's at mb. -/
structure DS (w : World) (mb : Nat) (t : ByteArray) (A : Array Value) (v8 : Value) (l : List EntL) (v9 : Value) (c : List Int) (a : Nat) (bad : Bool) (X : World) : Prop where
  cur : C5 X (w.heap.size + 1) t a bad
  res : X.heap[w.heap.size]? = some (.cells zeroC 25 (0, 0))
  msg : X.heap[mb]? = some (.cells A 25 (0, 0))
  low : w.heap.size + 1 < mb
  ent : X.ownsRow w.heap.size 44 3 v8 l.length (cellsEn l)
  cnf : X.ownsRow w.heap.size 3 1 v9 c.length (cellsI c)
  bel : Below w.heap.size w X
section
variable {w : World} {mb : Nat} {t : ByteArray} {A : Array Value} {v8 : Value} {l : List EntL} {v9 : Value} {c : List Int} {a : Nat} {bad : Bool} {X : World}
theorem DS.grown (h : DS w mb t A v8 l v9 c a bad X) {X' : World} {a' : Nat} {bad' : Bool} (hg : X.grownBy X' (some (w.heap.size + 1))) (hc : C5 X' (w.heap.size + 1) t a' bad') : DS w mb t A v8 l v9 c a' bad' X' :=
  ⟨hc, grown_keep h.res hg (by omega), grown_keep h.msg hg (by have := h.low; omega), h.low, h.ent.kept hg (Or.inr (own_not h.ent h.cur.1 (by decide))), h.cnf.kept hg (Or.inr (own_not h.cnf h.cur.1 (by decide))), h.bel.grown hg h.bel.size (fun k e => by cases e; omega)⟩
theorem DS.below (h : DS w mb t A v8 l v9 c a bad X) {X' : World} (hb : Below X.heap.size X X') : DS w mb t A v8 l v9 c a bad X' :=
  ⟨h.cur.below hb, (hb.block _ (Array.getElem?_eq_some_iff.1 h.res).1).trans h.res, (hb.block _ (Array.getElem?_eq_some_iff.1 h.msg).1).trans h.msg, h.low, own_kept h.ent hb, own_kept h.cnf hb, h.bel.trans (hb.mono h.bel.size)⟩
theorem DS.set (h : DS w mb t A v8 l v9 c a bad X) (j : Nat) (v : Value) : DS w mb t (A.setIfInBounds j v) v8 l v9 c a bad (X.setCell ⟨mb, j, none⟩ v) := by
  have hg := grown_set X mb j v
  have hlow := h.low
  refine ⟨h.cur.far (by omega) j v, set_far h.res (by omega) j v, heap_setCell_same X mb j A 25 v h.msg, h.low, h.ent.kept hg (Or.inr (own_not h.ent h.msg (by decide))), h.cnf.kept hg (Or.inr (own_not h.cnf h.msg (by decide))), h.bel.setCell (by show w.heap.size ≤ mb; omega) v⟩
theorem DS.more (h : DS w mb t A v8 l v9 c a bad X) {X' : World} {v : Value} {l' : List EntL} (hg : X.grownBy X' v8.ownBlock) (ho : X'.ownsRow w.heap.size 44 3 v l'.length (cellsEn l')) : DS w mb t A v l' v9 c a bad X' := by
  have n1 := own_not h.ent h.cur.1 (by decide)
  have n2 := own_not h.ent h.res (by decide)
  have n3 := own_not h.ent h.msg (by decide)
  refine ⟨⟨grown_keep' h.cur.1 hg n1, h.cur.2⟩, grown_keep' h.res hg n2, grown_keep' h.msg hg n3, h.low, ho, ?_, ?_⟩
  · rcases own_diff h.cnf h.ent (by decide) with e | e
    · exact h.cnf.kept hg (Or.inl e)
    · exact h.cnf.kept hg (Or.inr e)
  · refine h.bel.grown hg h.bel.size (fun k e => ?_)
    rcases h.ent.2 with ⟨h1, _⟩ | ⟨g, cap, cur, h1, hbase, _⟩
    · rw [h1] at e; simp [Value.ownBlock] at e
    · rw [h1] at e
      obtain rfl : g = k := by simpa [Value.ownBlock] using e
      exact hbase
theorem DS.conf (h : DS w mb t A v8 l v9 c a bad X) {X' : World} {v : Value} {c' : List Int} (hb : Below X.heap.size X X') (ho : X'.ownsRow X.heap.size 3 1 v c'.length (cellsI c')) : DS w mb t A v8 l v c' a bad X' :=
  have h' := h.below hb
  ⟨h'.cur, h'.res, h'.msg, h'.low, h'.ent, own_mono ho h.bel.size, h'.bel⟩
end
end Go.Proofs.YtimacmijinblmaaGreat
namespace Go.Proofs.YtimacmijinblmaaGreat
open Go.RowKit
open Ents (okB)
open Msgs (okM bt Got pos epos)
set_option linter.unusedVariables false
set_option linter.unusedSimpArgs false
theorem wpList_app_en {w : World} {ops : Array Oper} {rest : List Oper} {o : Oper} {act : Act} {Q : Exit → Act → World → Prop} (hgd : o.guard = none) (s x : Operand)
    (ho : o.op = .call { callee := .builtin .append, args := #[s, x], argTypes := #[22, 22] }) (base : Nat) (v : Value) (l : List EntL) (hs : act.eval s = v) (hown : w.ownsRow base 44 3 v l.length (cellsEn l)) (e : EntL)
    (hx : act.eval x = .slice (some ⟨w.heap.size, 0, none⟩) 1 1) (hl : l.length ≤ 1000) (hb : base ≤ w.heap.size)
    (h : ∀ v' w', w'.ownsRow base 44 3 v' (l ++ [e]).length (cellsEn (l ++ [e])) → (w.alloc (.cells #[.int .i64 e.term, .int .i64 e.kind, .string e.data] 44)).grownBy w' v.ownBlock → wpList Tryz.prog ops Q rest (act.put o.dst v') w') : wpList Tryz.prog ops Q (o :: rest) act (w.alloc (.cells #[.int .i64 e.term, .int .i64 e.kind, .string e.data] 44)) := by
  obtain ⟨i0, hi, hz0, hz1, hz2⟩ := info_parts Tryz.info44
  have hB : (w.alloc (.cells #[.int .i64 e.term, .int .i64 e.kind, .string e.data] 44)).heap[w.heap.size]? = some (.cells #[.int .i64 e.term, .int .i64 e.kind, .string e.data] 44 (0, 0)) := heap_alloc_new w _
  have hnc : ∀ j u, (cellsEn [e])[j]? = some u → (w.alloc (.cells #[.int .i64 e.term, .int .i64 e.kind, .string e.data] 44)).cell? ((⟨w.heap.size, 0, none⟩ : Addr).add j) = some u := World.news_of_block (cs := #[.int .i64 e.term, .int .i64 e.kind, .string e.data]) hB
  refine wpList_append_own _ hgd s x 22 ho base 44 i0 (.agg #[.int .i64 0, .int .i64 0, .string ByteArray.empty]) 3 32 Tryz.underlying22 hi hz0 hz1 hz2 rfl (by decide) v l.length (cellsEn l) hs (hown.alloc _) ⟨w.heap.size, 0, none⟩ 1 1 (cellsEn [e]) hx (cellsEn_len [e]) hnc cellsEn_one (by unfold maxLen; omega) (by omega) (by simp; omega) ?_
  intro v' w' h1 h2 _
  refine h v' w' ?_ h2
  rw [cellsEn_app, List.length_append]
  exact h1
theorem got_data {x : ByteArray} {i : Nat} {e : EntL} (h : Ents.Got x i e) : e.data.size ≤ x.size := by
  have h1 : (Batches.by_ x).length = x.size := Words.size_list x
  have h2 : (Batches.by_ e.data).length = e.data.size := Words.size_list e.data
  rw [h.1] at h1
  simp only [Ents.text, List.length_cons, List.length_append, h2] at h1
  omega
theorem re_data {x : ByteArray} {i : Nat} {e : EntL} {R : Bool} (h : REIs x i e R) : e.data.size ≤ x.size := by
  rcases h with ⟨h, _⟩ | ⟨_, _, rfl, _⟩
  · exact got_data h
  · exact Nat.zero_le _
theorem re_right {e e' : EntL} {i : Nat} {R : Bool} (h : REIs (Ents.textS 1 e) i e' R) (hok : okB e = true) : e' = e :=
  (re_uniq h (i' := 1) (e' := e) ⟨rfl, hok, by decide, by decide⟩).2.1
theorem rc_len {x : ByteArray} {l : List Int} {R : Bool} (h : RCIs x l R) : l.length ≤ 4 := by
  rcases h with ⟨h, _⟩ | ⟨_, rfl, _⟩
  · have := (Ents.readC_iff.1 h).1
    exact (Ents.conf_in this).1.2
  · exact Nat.zero_le _
theorem rc_right {l l' : List Int} {R : Bool} (h : RCIs (Ents.confS l) l' R) (hok : Mans.confOk l = true ∨ l = []) : l' = l := by
  rcases hok with hok | rfl
  · have e : Ents.readC (Ents.confS l) = some l := Ents.readC_iff.2 ⟨hok, rfl⟩
    rcases h with ⟨h, _⟩ | ⟨h, _⟩
    · rw [e] at h; cases h; rfl
    · rw [e] at h; cases h
  · rcases h with ⟨h, _⟩ | ⟨_, h, _⟩
    · have := (Ents.readC_iff.1 h)
      have h1 := (Ents.conf_in this.1).1.1
      have h2 : (Ents.confS l').size = l'.length := by show (Ents.confB l').toArray.size = _; simp [Ents.confB]
      rw [← this.2] at h2
      have h3 : (Ents.confS []).size = 0 := rfl
      omega
    · exact h
end Go.Proofs.YtimacmijinblmaaGreat
