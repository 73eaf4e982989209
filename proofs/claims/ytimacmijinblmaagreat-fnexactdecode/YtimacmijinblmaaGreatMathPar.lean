/- Where each field of a message's bytes stands, and what is read there; no program is named here. -/
import Derived.Test.YtimacmijinblmaaGreatMathMsg2
namespace Go.Proofs.YtimacmijinblmaaGreat
set_option linter.unusedVariables false
set_option linter.unusedSimpArgs false
open Msgs (bt)
/-- The fields' bytes. -/
def fieldsL (m : MsgL) : List (List UInt8) := [[bt m.kind], [bt m.frm], [bt m.dst], Words.var m.term.toNat, Words.var m.index.toNat, Words.var m.lterm.toNat, Words.var m.commit.toNat, [Batches.flag m.ok], [Batches.flag m.last], Words.var m.ents.length ++ Msgs.many m.ents, Batches.short (Ents.confS m.conf), Batches.short m.data]
def parts (m : MsgL) (k : Nat) : List UInt8 := ((fieldsL m).take k).flatten
theorem parts_all (m : MsgL) : parts m 12 = Msgs.text m := by
  simp [parts, fieldsL, Msgs.text, Msgs.front]
namespace Msgs
open Batches (by_ rdShort cut cut_app cut_all rd_cut rdShort_cut rd_at rdShort_at short flag by_inj)
open Ents (okB)
def pos (m : MsgL) (k : Nat) : Nat := (parts m k).length
theorem parts_next {m : MsgL} {k : Nat} {x : List UInt8} (h : (fieldsL m)[k]? = some x) : parts m (k + 1) = parts m k ++ x := by
  unfold parts
  rw [List.take_add_one, h]
  simp
theorem split {t : ByteArray} {m : MsgL} (h : Got t m) {k : Nat} {x : List UInt8} (hx : (fieldsL m)[k]? = some x) : by_ t = parts m k ++ (x ++ ((fieldsL m).drop (k + 1)).flatten) := by
  rw [h.1, ← parts_all]
  have e : fieldsL m = (fieldsL m).take k ++ (x :: (fieldsL m).drop (k + 1)) := by
    obtain ⟨hk, he⟩ := List.getElem?_eq_some_iff.1 hx
    rw [← he, ← List.drop_eq_getElem_cons hk, List.take_append_drop]
  have e12 : parts m 12 = (fieldsL m).flatten := by unfold parts; rw [List.take_of_length_le (by simp [fieldsL])]
  rw [e12]
  conv => lhs; rw [e]
  simp [parts]
theorem at_var {t : ByteArray} {m : MsgL} (h : Got t m) {k n : Nat} (hn : n ≤ 1000000000) (hx : (fieldsL m)[k]? = some (Words.var n)) : Words.rd (by_ t) (pos m k) = some (n, pos m (k + 1)) := by
  have := rd_at hn (split h hx)
  unfold pos
  rw [this, parts_next hx]
theorem at_short {t : ByteArray} {m : MsgL} (h : Got t m) {k : Nat} {x : ByteArray} (hn : x.size ≤ 20000) (hx : (fieldsL m)[k]? = some (short x)) : rdShort t (pos m k) = some (x, pos m (k + 1)) := by
  have := rdShort_at hn (split h hx)
  unfold pos
  rw [this, parts_next hx]
theorem at_byte {t : ByteArray} {m : MsgL} (h : Got t m) {k : Nat} {x : UInt8} (hx : (fieldsL m)[k]? = some [x]) : (by_ t)[pos m k]? = some x ∧ pos m (k + 1) = pos m k + 1 := by
  refine ⟨?_, by simp [pos, parts_next hx]⟩
  rw [split h hx]
  unfold pos
  rw [List.getElem?_append_right (Nat.le_refl _), Nat.sub_self]
  rfl
theorem pos_end {t : ByteArray} {m : MsgL} (h : Got t m) : pos m 12 = t.size := by
  have : (by_ t).length = t.size := Words.size_list t
  unfold pos
  rw [parts_all, ← h.1, this]
/-- Where the k-th entry's text stands. -/
def epos (m : MsgL) (k : Nat) : Nat := pos m 9 + (Words.var m.ents.length ++ many (m.ents.take k)).length
theorem at_count {t : ByteArray} {m : MsgL} (h : Got t m) : Words.rd (by_ t) (pos m 9) = some (m.ents.length, epos m 0) := by
  have hs := split h (k := 9) rfl
  rw [List.append_assoc] at hs
  have := rd_at (by have := (fits h.2).len; omega) hs
  rw [show pos m 9 = (parts m 9).length from rfl, this]
  simp [epos, pos, many]
theorem ent_len {e : EntL} (h : okB e = true) : (Ents.textS 1 e).size ≤ 20000 := by
  obtain ⟨⟨t0, t1⟩, hk⟩ := Ents.okB_iff.1 h
  obtain ⟨_, hd⟩ := Ents.kind_in hk
  have e1 : (Ents.textS 1 e).size = (Ents.text 1 e).length := by show (Ents.text 1 e).toArray.size = _; simp
  have v1 := Mans.var_five 1 (by omega)
  have v2 := Mans.var_five e.term.toNat (by omega)
  have e2 : (by_ e.data).length = e.data.size := Words.size_list _
  rw [e1]
  simp only [Ents.text, List.length_cons, List.length_append, e2]
  omega
theorem at_ent {t : ByteArray} {m : MsgL} (h : Got t m) {k : Nat} (hk : k < m.ents.length) : rdShort t (epos m k) = some (Ents.textS 1 m.ents[k], epos m (k + 1)) := by
  have hs := split h (k := 9) rfl
  have hm : many m.ents = many (m.ents.take k) ++ (short (Ents.textS 1 m.ents[k]) ++ many (m.ents.drop (k + 1))) := by
    have e : m.ents = m.ents.take k ++ (m.ents[k] :: m.ents.drop (k + 1)) := by rw [← List.drop_eq_getElem_cons hk, List.take_append_drop]
    conv => lhs; rw [e]
    rw [many_app]
    rfl
  have hs2 : by_ t = (parts m 9 ++ (Words.var m.ents.length ++ many (m.ents.take k))) ++ (short (Ents.textS 1 m.ents[k]) ++ (many (m.ents.drop (k + 1)) ++ ((fieldsL m).drop 10).flatten)) := by
    rw [hs, hm]
    simp [List.append_assoc]
  have := rdShort_at (ent_len ((fits h.2).ents _ (List.getElem_mem hk))) hs2
  have e1 : epos m k = (parts m 9 ++ (Words.var m.ents.length ++ many (m.ents.take k))).length := by simp [epos, pos, Nat.add_assoc]
  have e2 : epos m (k + 1) = (parts m 9 ++ (Words.var m.ents.length ++ many (m.ents.take k)) ++ short (Ents.textS 1 m.ents[k])).length := by
    simp only [epos, pos]
    rw [List.take_succ_eq_append_getElem hk, many_snoc]
    simp [Nat.add_assoc]
  rw [e1, e2]
  exact this
theorem epos_end {m : MsgL} : epos m m.ents.length = pos m 10 := by
  unfold epos pos
  rw [List.take_of_length_le (Nat.le_refl _), parts_next (k := 9) rfl]
  simp
/-- The bytes of a message's fields, read back. -/
theorem bt_back {x : Int} (h0 : 1 ≤ x) (h1 : x ≤ 6) : ((bt x).toNat : Int) = x := by
  unfold bt
  rw [Words.ofNat_toNat _ (by omega)]
  omega
theorem conf_small {t : ByteArray} {m : MsgL} (h : Got t m) : (Ents.confS m.conf).size ≤ 20000 := by
  have : (Ents.confS m.conf).size = m.conf.length := by show (Ents.confB m.conf).toArray.size = _; simp [Ents.confB]
  rcases (fits h.2).conf with x | x
  · have := (Ents.conf_in x).1.2; omega
  · rw [this, x]; decide
theorem pos_byte {t : ByteArray} {m : MsgL} (h : Got t m) {k : Nat} {x : UInt8} (hx : (fieldsL m)[k]? = some [x]) : pos m k + 1 ≤ t.size ∧ t.extract (pos m k) (pos m k + 1) = ⟨#[x]⟩ := by
  obtain ⟨h1, _⟩ := at_byte h hx
  obtain ⟨h2, h3⟩ := Ents.cut_one h1
  refine ⟨by omega, ?_⟩
  apply by_inj
  unfold by_
  rw [Words.extract_list]
  unfold cut by_ at h3
  exact h3
end Msgs
end Go.Proofs.YtimacmijinblmaaGreat
