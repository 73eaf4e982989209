/- The program's EntryText, walked; the laws of EntryOk and EntryText. The program's texts of a message's parts, walked. -/
import Derived.Test.YtimacmijinblmaaGreatImplEnt2
import Derived.Test.YtimacmijinblmaaGreatSpecEncA
import Derived.Test.YtimacmijinblmaaGreatImplConf
namespace Go.Proofs.YtimacmijinblmaaGreat
open Go.RowKit
open Ents (okB kindB text textS right confOf confS)
set_option linter.unusedVariables false
set_option linter.unusedSimpArgs false

theorem varOf_q2 (x : Int) (h0 : 0 ≤ x) (h1 : x ≤ 100000) (T : ByteArray) (hT : T = varS x) (w : World) : Calls Tryz.prog 57 #[.int .i64 x] w fun en w' => en = .returned (.string T) ∧ Below w.heap.size w w' := by
  rw [hT]; exact varOf_q x h0 (by omega) w
theorem textS_is2 (n : Nat) (e : EntL) : (⟨#[69]⟩ : ByteArray) ++ varS (n : Int) ++ varS e.term ++ (⟨#[UInt8.ofNat e.kind.toNat]⟩ ++ e.data) = textS n e := by
  rw [← textS_is n e ⟨#[]⟩ _ rfl]
  apply Batches.by_inj
  simp [Batches.by_]
set_option maxHeartbeats 4000000 in
set_option maxRecDepth 100000 in
theorem implEntText_yes (n : Nat) (e : EntL) (h : right (n : Int) e) (w : World) : Calls Tryz.prog 100 #[.int .i64 (n : Int), entV e] w fun en w' => en = .returned (.tuple #[.string (textS n e), .bool true]) ∧ Below w.heap.size w w' := by
  obtain ⟨h1, h2, h3⟩ := h
  obtain ⟨⟨t0, t1⟩, hk⟩ := Ents.okB_iff.1 h1
  obtain ⟨⟨k0, k1⟩, hd⟩ := Ents.kind_in hk
  have hq := implEntOk_is e (by omega)
  rw [h1] at hq
  unfold entV at hq ⊢
  have HQ : Hid (∀ W, Calls Tryz.prog 116 #[.agg #[.int .i64 e.term, .int .i64 e.kind, .string e.data]] W fun en w' => en = .returned (.bool true) ∧ Below W.heap.size W w') := hq
  have HPL : Hid (∀ W, Calls Tryz.prog 117 #[.int .i64 (n : Int)] W fun en w' => en = .returned (.bool true) ∧ w' = W) := fun W => placeOk_is _ true (by simp [h2, h3]) W
  obtain ⟨W, hW⟩ : ∃ W, W = w.alloc (Obj.cells #[.int .i64 e.term, .int .i64 e.kind, .string e.data] 44) := ⟨_, rfl⟩
  have HE : Hid (EntAt W w.heap.size e) := by rw [hW]; exact EntAt.new w e
  have HB : Hid (Below w.heap.size w W) := by show Below _ _ _; rw [hW]; exact (Below.refl _ _).alloc (Nat.le_refl _) _
  obtain ⟨T1, hT1⟩ : ∃ T, T = varS (n : Int) := ⟨_, rfl⟩
  obtain ⟨T2, hT2⟩ : ∃ T, T = varS e.term := ⟨_, rfl⟩
  obtain ⟨T3, hT3⟩ : ∃ T : ByteArray, T = ⟨#[UInt8.ofNat e.kind.toNat]⟩ ++ e.data := ⟨_, rfl⟩
  have HT : Hid ((⟨#[69]⟩ : ByteArray) ++ T1 ++ T2 ++ T3 = textS n e) := by show _ = _; rw [hT1, hT2, hT3]; exact textS_is2 n e
  have sz1 := varS_size (n : Int) 100000 (by omega)
  have sz2 := varS_size e.term 100000 (by omega)
  have sz3 : T3.size ≤ 121 := by
    have q : (⟨#[UInt8.ofNat e.kind.toNat]⟩ : ByteArray).size = 1 := rfl
    rw [hT3, ByteArray.size_append]; omega
  have HV1 : Hid (∀ (W : World), Calls Tryz.prog 57 #[.int .i64 (n : Int)] W fun en w' => en = .returned (.string T1) ∧ Below W.heap.size W w') := fun W => varOf_q2 _ (by omega) h3 T1 hT1 W
  have HV2 : Hid (∀ (W : World), Calls Tryz.prog 57 #[.int .i64 e.term] W fun en w' => en = .returned (.string T2) ∧ Below W.heap.size W w') := fun W => varOf_q2 _ t0 t1 T2 hT2 W
  have HCO : Hid (∀ W, Calls Tryz.prog 119 #[.int .i64 e.kind, .string e.data] W fun en w' => ∃ v, en = .returned v ∧ ContV w' W.heap.size e v ∧ Below W.heap.size W w') := fun W => (contentOf_is e (by omega) W).mono fun en w' ⟨v, q1, q2, q3⟩ => by
    rcases q2 with ⟨q, _⟩ | ⟨_, q⟩
    · rw [hk] at q; cases q
    · exact ⟨v, q1, q, q3⟩
  have HCT : Hid (∀ (W : World) (B : Nat) (v : Value), ContV W B e v → Calls Tryz.prog 118 #[v] W fun en w' => en = .returned (.string T3) ∧ Below W.heap.size W w') := fun W B v q => by rw [hT3]; exact contentText_is hd W q
  rw [← hT1] at sz1
  rw [← hT2] at sz2
  obtain ⟨g, hg⟩ : ∃ g, g = w.heap.size := ⟨_, rfl⟩
  rw [← hg] at HE
  have HC : Hid (∀ W', Below W.heap.size W W' → EntAt W' g e) := fun W' h => HE.out.kept h
  clear HE hq hk h1 hT1 hT2 hT3
  have z1 : ¬ 9223372036854775807 < 1 + T1.size := by omega
  have z2 : ¬ 9223372036854775807 < 1 + T1.size + T2.size := by omega
  have z3 : ¬ 9223372036854775807 < 1 + T1.size + T2.size + T3.size := by omega
  go_enter Tryz.func100, Tryz.ntmps100
  go_wp2_with fail
  rw [← hW, ← hg]
  clear hW hg
  refine Calls.mono (HQ.out _) ?_
  rintro en w1 ⟨rfl, hb1⟩
  have HB1 : Hid (Below w.heap.size w w1) := HB.out.trans (hb1.mono HB.out.size)
  have HE1 : Hid (EntAt w1 g e) := HC.out _ hb1
  clear hb1 HB HC
  go_wp2_with (go_at_call 117; refine Calls.mono (HPL.out _) ?_; rintro en w2 ⟨rfl, hw2⟩; have hw3 := hw2.symm; clear hw2; subst hw3)
  have HK : Hid (∀ W W' : World, Below w1.heap.size w1 W → Below W.heap.size W W' → Below w1.heap.size w1 W') := fun W W' a b => a.trans (b.mono a.size)
  have HEC : Hid (∀ W, Below w1.heap.size w1 W → W.cell? ⟨g, 0, none⟩ = some (.int .i64 e.term) ∧ W.cell? ⟨g, 1, none⟩ = some (.int .i64 e.kind) ∧ W.cell? ⟨g, 2, none⟩ = some (.string e.data)) := fun W a => HE1.out.kept a
  have HEND : Hid (∀ W, Below w1.heap.size w1 W → Below w.heap.size w W) := fun W a => HB1.out.trans (a.mono HB1.out.size)
  have BD : Below w1.heap.size w1 w1.drew := (Below.refl _ _).drew
  go_region_held (fun w' => (w'.cell? ⟨g, 0, none⟩ = some (.int .i64 e.term) ∧ w'.cell? ⟨g, 1, none⟩ = some (.int .i64 e.kind) ∧ w'.cell? ⟨g, 2, none⟩ = some (.string e.data)) ∧ Below w1.heap.size w1 w')
    (first | assumption | exact ⟨HEC.out _ (by assumption), by assumption⟩ | fail)
    (first | (go_at_call 57; (first | (with_reducible refine Calls.mono (HV1.out _) ?_) | (with_reducible refine Calls.mono (HV2.out _) ?_) | fail); rintro en w5 ⟨rfl, hb5⟩; have hq5 := HK.out _ _ (And.right (by assumption)) hb5; clear hb5) | (go_at_call 119; refine Calls.mono (HCO.out _) ?_; rintro en w5 ⟨v5, rfl, hv5, hb5⟩; have hq5 := HK.out _ _ (And.right (by assumption)) hb5; have HV5 : Hid (ContV w5 _ e v5) := hv5; clear hb5 hv5) | (go_at_call 118; refine Calls.mono (HCT.out _ _ _ (Hid.out (by assumption))) ?_; rintro en w5 ⟨rfl, hb5⟩; have hq5 := HK.out _ _ (And.right (by assumption)) hb5; clear hb5) | fail)
  all_goals (
    go_wp2
    go_ret2
    exact ⟨by rw [← HT.out]; rfl, HEND.out _ (And.right (by assumption))⟩)
end Go.Proofs.YtimacmijinblmaaGreat
namespace Go.Proofs.YtimacmijinblmaaGreat
open Go.RowKit
open Ents (okB)
open Msgs (okM bt)
set_option linter.unusedVariables false
set_option linter.unusedSimpArgs false

set_option maxHeartbeats 400000 in
theorem implShort_yes (s : ByteArray) (h : s.size ≤ 20000) (w : World) :
    Calls Tryz.prog 103 #[.string s] w fun e w' => e = .returned (.tuple #[.string (⟨(Words.var s.size).toArray⟩ ++ s), .bool true]) ∧ Below w.heap.size w w' := by
  have hv := var_size s.size
  go_enter Tryz.func103, Tryz.ntmps103
  go_wp2_with (go_at_call 98; refine (implVar_yes s.size (by omega) _).mono ?_; rintro e w1 ⟨rfl, hb1⟩)
  go_ret2
  exact ⟨rfl, hb1⟩
set_option maxHeartbeats 400000 in
theorem shortOf_is (s : ByteArray) (h : s.size ≤ 20000) (S : ByteArray) (hS : Is S (Batches.short s)) (w : World) :
    Calls Tryz.prog 77 #[.string s] w fun e w' => e = .returned (.string S) ∧ Below w.heap.size w w' := by
  have hi : Is (⟨(Words.var s.size).toArray⟩ ++ s) (Batches.short s) := (Is.mk _).app rfl
  have HS : Hid (Value.string S = .string (⟨(Words.var s.size).toArray⟩ ++ s)) := by show _ = _; rw [hS.eq, hi.eq]
  clear hS hi
  go_enter Tryz.func77, Tryz.ntmps77
  go_wp2_with (go_at_call 103; refine (implShort_yes s (by omega) _).mono ?_; rintro e w1 ⟨rfl, hb1⟩)
  go_ret
  exact ⟨by rw [HS.out]; rfl, hb1⟩
theorem shortOf_q (s : ByteArray) (h : s.size ≤ 20000) (w : World) : Calls Tryz.prog 77 #[.string s] w fun e w' => e = .returned (.string (shortS s)) ∧ Below w.heap.size w w' := shortOf_is s h _ (shortS_is s) w
set_option maxHeartbeats 400000 in
theorem flagOf_q (G : Bool) (w : World) : Calls Tryz.prog 67 #[.bool G] w fun e w' => e = .returned (.string (flagS G)) ∧ Below w.heap.size w w' := by
  cases G
  all_goals
    go_enter Tryz.func67, Tryz.ntmps67
    go_wp2
    go_ret
    exact ⟨rfl, Below.refl _ _⟩
def byteS (x : UInt8) : ByteArray := ⟨#[x]⟩
set_option maxHeartbeats 400000 in
theorem byteOf_q (k : Int) (x : UInt8) (hx : IntKind.u8.wrap k = (x.toNat : Int)) (w : World) : Calls Tryz.prog 49 #[.int .i64 k] w fun e w' => e = .returned (.string (byteS x)) ∧ Below w.heap.size w w' := by
  have r1 := RowAt.new w x
  have cv := r1.cv
  go_enter Tryz.func49, Tryz.ntmps49
  go_wp2
  go_ret
  exact ⟨rfl, (Below.refl _ _).alloc (Nat.le_refl _) _⟩
theorem entS_len (i : Nat) (e : EntL) (h : okB e = true) (hi : i ≤ 100000) : (Ents.textS i e).size ≤ 132 := by
  obtain ⟨⟨t0, t1⟩, hk⟩ := Ents.okB_iff.1 h
  obtain ⟨_, hd⟩ := Ents.kind_in hk
  have e1 : (Ents.textS i e).size = (Ents.text i e).length := by show (Ents.text i e).toArray.size = _; simp
  have v1 := Mans.var_five i (by omega)
  have v2 := Mans.var_five e.term.toNat (by omega)
  have e2 : (Batches.by_ e.data).length = e.data.size := Words.size_list _
  rw [e1]
  simp only [Ents.text, List.length_cons, List.length_append, e2]
  omega
/-- The entries' bytes behind how many there are. -/
def entsS (l : List EntL) : ByteArray := ⟨(Words.var l.length ++ Msgs.many l).toArray⟩
set_option maxHeartbeats 4000000 in
set_option maxRecDepth 100000 in
theorem entriesText_q {a : Option Addr} {g off cap : Nat} (l : List EntL) (hl : l.length ≤ 4) (hok : ∀ e ∈ l, okB e = true) (w : World) (hf : EnAt w a g off l) :
    Calls Tryz.prog 73 #[.slice a l.length cap] w fun e w' => e = .returned (.string (entsS l)) ∧ Below w.heap.size w w' := by
  have HV : Hid (∀ W, Calls Tryz.prog 57 #[.int .i64 (l.length : Int)] W fun e w' => e = .returned (.string (varS (l.length : Int))) ∧ Below W.heap.size W w') := fun W => varOf_q _ (by omega) (by omega) W
  have HEN : Hid (∀ W', Below w.heap.size w W' → EnAt W' a g off l) := fun W' h => hf.kept h
  have hvs := varS_size (l.length : Int) 4 (by omega)
  have HST0 : Hid (Is (varS (l.length : Int)) (Words.var l.length ++ Msgs.many (l.take 0))) := by
    show Is _ _
    have := varS_is (l.length : Int)
    simpa [Msgs.many] using this
  generalize varS (l.length : Int) = V0 at HV hvs HST0
  clear hf
  go_enter Tryz.func73, Tryz.ntmps73
  go_wp2_with fail
  refine Calls.mono (HV.out _) ?_
  rintro e w1 ⟨rfl, hb1⟩
  have HB1 : Hid (Below w.heap.size w w1) := hb1
  clear hb1 HV
  go_wp2_with fail
  go_loopw [3, 5, 6, 7, 13] (fun s _ _ _ i wr => ∃ (k : Nat) (S : ByteArray), k ≤ l.length ∧ i = .int .i64 (k : Int) ∧ s = .string S ∧ Hid (Is S (Words.var l.length ++ Msgs.many (l.take k))) ∧ Hid (S.size ≤ 5 + k * 300) ∧ Hid (Below w.heap.size w wr)) (fun _ _ _ _ i _ => l.length - (intOf i).toNat)
  case atStart => exact ⟨0, V0, Nat.zero_le _, rfl, rfl, HST0, by show _ ≤ _; omega, HB1⟩
  case round =>
    clear HST0 hvs HB1
    obtain ⟨k, S, hk, rfl, rfl, HIS, HSZ, HBW⟩ := hrel
    by_cases hlt : k < l.length
    · have hA := HEN.out _ HBW.out
      have ea := hA.1 (by omega)
      obtain ⟨d0, d1, d2⟩ := hA.2 k hlt
      have HOK : Hid (okB l[k] = true) := hok _ (List.getElem_mem _)
      have HTK : Hid (l.take (k + 1) = l.take k ++ [l[k]]) := by show _ = _; rw [List.take_succ_eq_append_getElem hlt]
      obtain ⟨e, he⟩ : ∃ e, e = l[k] := ⟨_, rfl⟩
      rw [← he] at d0 d1 d2 HOK HTK
      subst ea
      have hk0 : (0 : Int) ≤ (k : Int) := by omega
      have hk1 : (k : Int) < (l.length : Int) := by omega
      obtain ⟨TE, hTE⟩ : ∃ TE, TE = Ents.textS 1 e := ⟨_, rfl⟩
      have HE : Hid (∀ W, Calls Tryz.prog 100 #[.int .i64 1, .agg #[.int .i64 e.term, .int .i64 e.kind, .string e.data]] W fun en w' => en = .returned (.tuple #[.string TE, .bool true]) ∧ Below W.heap.size W w') := fun W => by rw [hTE]; exact implEntText_yes 1 e ⟨HOK.out, by decide, by decide⟩ W
      have hTEs : TE.size ≤ 132 := by rw [hTE]; exact entS_len 1 e HOK.out (by decide)
      have HSH : Hid (∀ W, Calls Tryz.prog 77 #[.string TE] W fun en w' => en = .returned (.string (shortS TE)) ∧ Below W.heap.size W w') := fun W => shortOf_q TE (by omega) W
      have HI2 : Hid (Is (S ++ shortS TE) (Words.var l.length ++ Msgs.many (l.take (k + 1)))) := by
        show Is _ _
        rw [HTK.out, Msgs.many_snoc, ← hTE, ← List.append_assoc]
        exact HIS.out.app (shortS_is TE)
      have hss := shortS_size TE 132 hTEs
      generalize shortS TE = SH at HSH HI2 hss
      have hz : ¬ 9223372036854775807 < S.size + SH.size := by have := HSZ.out; omega
      have HSZ2 : Hid ((S ++ SH).size ≤ 5 + (k + 1) * 300) := by show _ ≤ _; rw [ByteArray.size_append]; have := HSZ.out; omega
      clear hA he hTE hTEs hss HIS HSZ HTK HOK
      obtain ⟨W2, hW2⟩ : ∃ W2, W2 = wr.alloc (Obj.cells #[.int .i64 e.term, .int .i64 e.kind, .string e.data] 44) := ⟨_, rfl⟩
      have HB2 : Hid (Below w.heap.size w W2) := by rw [hW2]; exact HBW.out.alloc HBW.out.size _
      go_wp2_with fail
      rw [← hW2]
      refine Calls.mono (HE.out _) ?_
      rintro en w5 ⟨rfl, hb5⟩
      have HB5 : Hid (Below w.heap.size w w5) := HB2.out.trans (hb5.mono HB2.out.size)
      clear hb5 d0 d1 d2 HE HBW hW2 HB2
      go_wp2_with fail
      refine Calls.mono (HSH.out _) ?_
      rintro en w6 ⟨rfl, hb6⟩
      have HB6 : Hid (Below w.heap.size w w6) := HB5.out.trans (hb6.mono HB5.out.size)
      clear hb6 HB5 HSH
      go_wp2
      go_roundw
      case rel => exact ⟨k + 1, _, by omega, by go_num, rfl, HI2, HSZ2, HB6⟩
      case measure => simp [intOf]; omega
    · have hk1 : ¬ (k : Int) < (l.length : Int) := by omega
      have HE : Hid (S = entsS l) := by
        have := HIS.out
        rw [List.take_of_length_le (by omega)] at this
        exact this.eq
      go_wp2
      go_ret
      exact ⟨by rw [← HE.out]; rfl, HBW.out⟩
theorem confS_len (l : List Int) : (Ents.confS l).size = l.length := by show (Ents.confB l).toArray.size = _; simp [Ents.confB]
set_option maxHeartbeats 1000000 in
theorem confBytes_q {a : Option Addr} {g off cap : Nat} (l : List Int) (hl : l.length ≤ 4) (hok : Mans.confOk l = true ∨ l = []) (w : World) (hf : IntAt w a g off l) :
    Calls Tryz.prog 78 #[.slice a l.length cap] w fun e w' => e = .returned (.string (Ents.confS l)) ∧ Below w.heap.size w w' := by
  have HCT : Hid (∃ rb, Calls Tryz.prog 104 #[.slice a l.length cap] w fun en w' => en = .returned (.tuple #[.string (Ents.confS l), .bool rb]) ∧ Below w.heap.size w w') := by
    have := implConfText_is (cap := cap) l (by omega) w hf
    unfold confTuple at this
    rcases hok with x | x
    · rw [if_pos x] at this
      exact ⟨true, this⟩
    · rw [x] at this ⊢
      rw [if_neg (by decide)] at this
      exact ⟨false, this⟩
  clear hf hok
  obtain ⟨CS, hCS⟩ : ∃ CS, CS = Ents.confS l := ⟨_, rfl⟩
  rw [← hCS] at HCT ⊢
  clear hCS
  obtain ⟨rb, hct⟩ := HCT.out
  have HC2 : Hid (Calls Tryz.prog 104 #[.slice a l.length cap] w fun en w' => en = .returned (.tuple #[.string CS, .bool rb]) ∧ Below w.heap.size w w') := hct
  clear HCT hct
  go_enter Tryz.func78, Tryz.ntmps78
  go_wp2_with fail
  refine Calls.mono HC2.out ?_
  rintro en w5 ⟨rfl, hb5⟩
  go_wp2
  go_ret
  exact ⟨rfl, hb5⟩
end Go.Proofs.YtimacmijinblmaaGreat
