/- DrawEncode and DrawDecode, walked. -/
import Derived.Test.YtimacmijinblmaaGreatDrawAny14
import Derived.Test.YtimacmijinblmaaGreatSpoilt
import Derived.Test.YtimacmijinblmaaGreatFldText
import Derived.Test.YtimacmijinblmaaGreatSpecEnc
namespace Go.Proofs.YtimacmijinblmaaGreat
open Go.RowKit
open Ents (okB)
open Msgs (okM)
set_option linter.unusedVariables false
set_option linter.unusedSimpArgs false
theorem result11 {w : World} {g : Nat} {A C : Array Value} (hg : w.heap[g]? = some (.cells C 25 (0, 0))) (hs : A.size = 12) {tmps : Array Value} (ht : tmps.getD 2 undef = .pointer (some ⟨g, 0, none⟩)) : (results Tryz.f11 tmps).run Tryz.prog (w.setRow g A) = .ok (.agg A) (w.setRow g A) := by
  have h := run_loadVar_agg (P := Tryz.prog) Tryz.isAgg25 Tryz.sizeOf25 (row_size (A := A) hg) hs
  have ht' : tmps[2]?.getD undef = .pointer (some ⟨g, 0, none⟩) := by simpa using ht
  simp [results, Tryz.results11, ht', asAddr, h]
/-- A drawn message in rows of the call's own. -/
def DEPost (w : World) (e : Ending) (w' : World) : Prop := ∃ (m : MsgL) (p : Option Addr) (c : Nat) (q : Option Addr) (d : Nat), e = .returned (msgV m p c q d) ∧ Small 11 m ∧ w'.ownsRow w.heap.size 44 3 (.slice p m.ents.length c) m.ents.length (cellsEn m.ents) ∧ w'.ownsRow w.heap.size 3 1 (.slice q m.conf.length d) m.conf.length (cellsI m.conf) ∧ Below w.heap.size w w'
set_option maxHeartbeats 4000000 in
set_option maxRecDepth 100000 in
theorem drawEnc_any {len cap b off : Nat} {a : Option Addr} {z : Nat → Int} (w : World) (hc : Code w.heap.size w a len b off z) : Calls Tryz.prog 11 #[.slice a len cap] w (DEPost w) := by
  obtain ⟨W0, hW0⟩ : ∃ W0, W0 = w.alloc (Obj.cells zeroC 25) := ⟨_, rfl⟩
  have HWD : Hid (w.alloc (Obj.cells #[.int .i64 0, .int .i64 0, .int .i64 0, .int .i64 0, .int .i64 0, .int .i64 0, .int .i64 0, .bool false, .slice none 0 0, .slice none 0 0, .string ⟨#[]⟩, .bool false] 25) = W0) := hW0.symm
  have hb : Below w.heap.size w W0 := by rw [hW0]; exact (Below.refl _ _).alloc (Nat.le_refl _) _
  have HC0 : Hid (Code w.heap.size W0 a len b off z) := hc.below hb
  have HZ0 : Hid (W0.heap[w.heap.size]? = some (.cells zeroC 25 (0, 0))) := by rw [hW0]; exact heap_alloc_new w _
  have HB0 : Hid (Below w.heap.size w W0) := hb
  clear hc hW0 hb
  go_enter Tryz.func11, Tryz.ntmps11
  go_wp2_with fail
  rw [HWD.out]
  clear HWD
  refine (new_any _ HB0.out.size HC0.out).mono ?_
  rintro e w1 ⟨rfl, hc1, hb1⟩
  have HZ1 : Hid (w1.heap[w.heap.size]? = some (.cells zeroC 25 (0, 0))) := (hb1.block _ (Array.getElem?_eq_some_iff.1 HZ0.out).1).trans HZ0.out
  have HB1 : Hid (Below w.heap.size w w1) := HB0.out.trans (hb1.mono HB0.out.size)
  have HC1 : Hid (Cur w.heap.size w1 W0.heap.size a len cap b off z) := hc1
  have hz0 : w.heap.size < W0.heap.size := (Array.getElem?_eq_some_iff.1 HZ0.out).1
  obtain ⟨g, hg⟩ : ∃ g, g = W0.heap.size := ⟨_, rfl⟩
  rw [← hg] at HC1 hz0
  rw [← hg]
  clear hc1 hb1 HC0 HZ0 HB0 hg
  go_wp2_with fail
  refine (any14_any _ HC1.out).mono ?_
  rintro e w2 ⟨m, p, c, q, d, rfl, hsm, o1, o2, hc2, hg2⟩
  have HZ2 : Hid (w2.heap[w.heap.size]? = some (.cells zeroC 25 (0, 0))) := grown_keep HZ1.out hg2 (by omega)
  have HB2 : Hid (Below w.heap.size w w2) := HB1.out.grown hg2 HB1.out.size (fun k e => by cases e; omega)
  have HONE : Hid (∀ v ∈ (msgC m p c q d).toList, v.oneCell' = true) := msg_one m p c q d
  have HP : Hid (DEPost w (.returned (.agg (msgC m p c q d))) (w2.setRow w.heap.size (msgC m p c q d))) := ⟨m, p, c, q, d, rfl, hsm, own_row (own_mono o1 HB1.out.size) _ _ (own_not o1 HZ2.out (by decide)), own_row (own_mono o2 HB1.out.size) _ _ (own_not o2 HZ2.out (by decide)), below_row HB2.out (Nat.le_refl _) _⟩
  clear hsm o1 o2 hc2 hg2 HZ1 HB1 HC1
  unfold msgV
  go_wp2_with (first | (refine wpList_storeA Tryz.sizeOf25 rfl _ _ rfl w.heap.size (msgC m p c q d) zeroC 25 rfl rfl HZ2.out rfl rfl HONE.out ?_) | fail)
  exact bodyPost_ret (result11 HZ2.out rfl rfl) rfl HP.out
theorem text_small {m : MsgL} (h : okM m = true) : (Msgs.textS m).size ≤ 5000 := by
  have F := Msgs.fits h
  have h1 := many_len m.ents F.ents
  have h2 := Mans.var_five m.term.toNat (by have := F.term; omega)
  have h3 := Mans.var_five m.index.toNat (by have := F.index; omega)
  have h4 := Mans.var_five m.lterm.toNat (by have := F.lterm; omega)
  have h5 := Mans.var_five m.commit.toNat (by have := F.commit; omega)
  have h6 := Mans.var_five m.ents.length (by have := F.len; omega)
  have h7 := Batches.short_len (Ents.confS m.conf)
  have h8 := Batches.short_len m.data
  have h9 : m.conf.length ≤ 4 := by
    rcases F.conf with x | x
    · exact (Ents.conf_in x).1.2
    · rw [x]; exact Nat.zero_le _
  have h10 := F.len
  have h11 := F.data
  rw [confS_len] at h7
  show (Msgs.text m).toArray.size ≤ _
  simp only [List.size_toArray, Msgs.text, Msgs.front, List.length_append, List.length_cons, List.length_nil]
  omega
set_option maxHeartbeats 4000000 in
set_option maxRecDepth 100000 in
theorem drawDec_any {len cap b off : Nat} {a : Option Addr} {z : Nat → Int} (w : World) (hc : Code w.heap.size w a len b off z) : Calls Tryz.prog 15 #[.slice a len cap] w fun e w' => ∃ S : ByteArray, e = .returned (.string S) ∧ S.size ≤ 5001 ∧ Below w.heap.size w w' := by
  have HC0 : Hid (Code w.heap.size w a len b off z) := hc
  clear hc
  go_enter Tryz.func15, Tryz.ntmps15
  go_wp2_with fail
  refine (new_any _ (Nat.le_refl _) HC0.out).mono ?_
  rintro e w1 ⟨rfl, hc1, hb1⟩
  have HC1 : Hid (Cur w.heap.size w1 w.heap.size a len cap b off z) := hc1
  have HB1 : Hid (Below w.heap.size w w1) := hb1
  clear hc1 hb1 HC0
  go_wp2_with fail
  refine (any14_any _ HC1.out).mono ?_
  rintro e w2 ⟨m, p, c, q, d, rfl, hsm, o1, o2, hc2, hg2⟩
  obtain ⟨T, O, hTO, hO, hT⟩ := enc_parts m
  have HENC : Hid (Calls Tryz.prog 21 #[.agg #[.int .i64 m.kind, .int .i64 m.frm, .int .i64 m.dst, .int .i64 m.term, .int .i64 m.index, .int .i64 m.lterm, .int .i64 m.commit, .bool m.ok, .slice p m.ents.length c, .slice q m.conf.length d, .string m.data, .bool m.last]] w2 fun en w' => en = .returned (.tuple #[.string T, .bool O]) ∧ Below w2.heap.size w2 w') := by
    obtain ⟨ge, oe, he⟩ := en_own o1
    obtain ⟨gi, oi, hi⟩ := int_own o2
    have h := specEnc_is (cap := c) (capb := d) m (by have := hsm.len; omega) (fun e he => by have := hsm.ents e he; omega) (by have := hsm.conf; omega) (by have := hsm.data; omega) w2 he hi
    rw [hTO] at h
    exact h
  have hTs : T.size ≤ 5000 := by
    cases O with
    | true => rw [hT rfl]; exact text_small hO.symm
    | false =>
      unfold encTuple at hTO
      rw [← hO] at hTO
      simp at hTO
      rw [← hTO]
      exact Nat.zero_le _
  have HC2 : Hid (Cur w.heap.size w2 w.heap.size a len cap b off z) := hc2
  have HB2 : Hid (Below w.heap.size w w2) := HB1.out.grown hg2 HB1.out.size (fun k e => by cases e; omega)
  clear hTO hO hT hsm o1 o2 hc2 hg2 HC1 HB1
  unfold msgV
  go_wp2_with fail
  refine HENC.out.mono ?_
  rintro e w3 ⟨rfl, hb3⟩
  have HC3 : Hid (Cur w.heap.size w3 w.heap.size a len cap b off z) := HC2.out.same hb3
  have HB3 : Hid (Below w.heap.size w w3) := HB2.out.trans (hb3.mono HB2.out.size)
  clear hb3 HC2 HB2 HENC
  go_wp2_with fail
  refine (spoilt_any T (by omega) _ HC3.out).mono ?_
  rintro e w4 ⟨S, rfl, hS, hc4, hg4⟩
  have HB4 : Hid (Below w.heap.size w w4) := HB3.out.grown hg4 HB3.out.size (fun k e => by cases e; omega)
  clear hc4 hg4
  go_wp2
  go_ret
  exact ⟨S, rfl, by omega, HB4.out⟩
end Go.Proofs.YtimacmijinblmaaGreat
