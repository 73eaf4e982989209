/- The program's texts of a message's parts, walked. -/
import Derived.Test.YtimacmijinblmaaSpecEncA
import Derived.Test.YtimacmijinblmaaImplEntT
import Derived.Test.YtimacmijinblmaaImplConf
namespace Go.Proofs.Ytimacmijinblmaa
open Go.RowKit
open Ents (okB)
open Msgs (okM bt)
set_option linter.unusedVariables false
set_option linter.unusedSimpArgs false

set_option maxHeartbeats 400000 in
theorem implShort_yes (s : ByteArray) (h : s.size ≤ 20000) (w : World) :
    Calls Try.prog 85 #[.string s] w fun e w' => e = .returned (.tuple #[.string (⟨(Words.var s.size).toArray⟩ ++ s), .bool true]) ∧ Below w.heap.size w w' := by
  have hv := var_size s.size
  go_enter Try.func85, Try.ntmps85
  go_wp2_with (go_at_call 80; refine (implVar_yes s.size (by omega) _).mono ?_; rintro e w1 ⟨rfl, hb1⟩)
  go_ret2
  exact ⟨rfl, hb1⟩
set_option maxHeartbeats 400000 in
theorem shortOf_is (s : ByteArray) (h : s.size ≤ 20000) (S : ByteArray) (hS : Is S (Batches.short s)) (w : World) :
    Calls Try.prog 70 #[.string s] w fun e w' => e = .returned (.string S) ∧ Below w.heap.size w w' := by
  have hi : Is (⟨(Words.var s.size).toArray⟩ ++ s) (Batches.short s) := (Is.mk _).app rfl
  have HS : Hid (Value.string S = .string (⟨(Words.var s.size).toArray⟩ ++ s)) := by show _ = _; rw [hS.eq, hi.eq]
  clear hS hi
  go_enter Try.func70, Try.ntmps70
  go_wp2_with (go_at_call 85; refine (implShort_yes s (by omega) _).mono ?_; rintro e w1 ⟨rfl, hb1⟩)
  go_ret
  exact ⟨by rw [HS.out]; rfl, hb1⟩
theorem shortOf_q (s : ByteArray) (h : s.size ≤ 20000) (w : World) : Calls Try.prog 70 #[.string s] w fun e w' => e = .returned (.string (shortS s)) ∧ Below w.heap.size w w' := shortOf_is s h _ (shortS_is s) w
set_option maxHeartbeats 400000 in
theorem flagOf_q (G : Bool) (w : World) : Calls Try.prog 60 #[.bool G] w fun e w' => e = .returned (.string (flagS G)) ∧ Below w.heap.size w w' := by
  cases G
  all_goals
    go_enter Try.func60, Try.ntmps60
    go_wp2
    go_ret
    exact ⟨rfl, Below.refl _ _⟩
def byteS (x : UInt8) : ByteArray := ⟨#[x]⟩
set_option maxHeartbeats 400000 in
theorem byteOf_q (k : Int) (x : UInt8) (hx : IntKind.u8.wrap k = (x.toNat : Int)) (w : World) : Calls Try.prog 42 #[.int .i64 k] w fun e w' => e = .returned (.string (byteS x)) ∧ Below w.heap.size w w' := by
  have r1 := RowAt.new w x
  have cv := r1.cv
  go_enter Try.func42, Try.ntmps42
  go_wp2
  go_ret
  exact ⟨rfl, (Below.refl _ _).alloc (Nat.le_refl _) _⟩
theorem entS_len (i : Nat) (e : EntL) (h : okB e = true) (hi : i ≤ 100000) : (Ents.textS i e).size ≤ 132 := by
  obtain ⟨⟨t0, t1⟩, hk⟩ := Ents.okB_iff.1 h
  obtain ⟨_, hd⟩ := Ents.kind_in hk
  have e1 : (Ents.textS i e).size = (Ents.text i e).length := by show (Ents.text i e).toArray.size = _; simp
  have v1 := Mans.var_five i (by omega)
  have v2 := Mans.var_five e.term.toNat (by omega)
  have e2 : (Batches.by_ e.data).length = e.data.size := Words.size_list _
  rw [e1]
  simp only [Ents.text, List.length_cons, List.length_append, e2]
  omega
/-- The entries' bytes behind how many there are. -/
def entsS (l : List EntL) : ByteArray := ⟨(Words.var l.length ++ Msgs.many l).toArray⟩
set_option maxHeartbeats 4000000 in
set_option maxRecDepth 100000 in
theorem entriesText_q {a : Option Addr} {g off cap : Nat} (l : List EntL) (hl : l.length ≤ 4) (hok : ∀ e ∈ l, okB e = true) (w : World) (hf : EnAt w a g off l) :
    Calls Try.prog 66 #[.slice a l.length cap] w fun e w' => e = .returned (.string (entsS l)) ∧ Below w.heap.size w w' := by
  have HV : Hid (∀ W, Calls Try.prog 50 #[.int .i64 (l.length : Int)] W fun e w' => e = .returned (.string (varS (l.length : Int))) ∧ Below W.heap.size W w') := fun W => varOf_q _ (by omega) (by omega) W
  have HEN : Hid (∀ W', Below w.heap.size w W' → EnAt W' a g off l) := fun W' h => hf.kept h
  have hvs := varS_size (l.length : Int) 4 (by omega)
  have HST0 : Hid (Is (varS (l.length : Int)) (Words.var l.length ++ Msgs.many (l.take 0))) := by
    show Is _ _
    have := varS_is (l.length : Int)
    simpa [Msgs.many] using this
  generalize varS (l.length : Int) = V0 at HV hvs HST0
  clear hf
  go_enter Try.func66, Try.ntmps66
  go_wp2_with fail
  refine Calls.mono (HV.out _) ?_
  rintro e w1 ⟨rfl, hb1⟩
  have HB1 : Hid (Below w.heap.size w w1) := hb1
  clear hb1 HV
  go_wp2_with fail
  go_loopw [3, 5, 6, 7, 13] (fun s _ _ _ i wr => ∃ (k : Nat) (S : ByteArray), k ≤ l.length ∧ i = .int .i64 (k : Int) ∧ s = .string S ∧ Hid (Is S (Words.var l.length ++ Msgs.many (l.take k))) ∧ Hid (S.size ≤ 5 + k * 300) ∧ Hid (Below w.heap.size w wr)) (fun _ _ _ _ i _ => l.length - (intOf i).toNat)
  case atStart => exact ⟨0, V0, Nat.zero_le _, rfl, rfl, HST0, by show _ ≤ _; omega, HB1⟩
  case round =>
    clear HST0 hvs HB1
    obtain ⟨k, S, hk, rfl, rfl, HIS, HSZ, HBW⟩ := hrel
    by_cases hlt : k < l.length
    · have hA := HEN.out _ HBW.out
      have ea := hA.1 (by omega)
      obtain ⟨d0, d1, d2⟩ := hA.2 k hlt
      have HOK : Hid (okB l[k] = true) := hok _ (List.getElem_mem _)
      have HTK : Hid (l.take (k + 1) = l.take k ++ [l[k]]) := by show _ = _; rw [List.take_succ_eq_append_getElem hlt]
      obtain ⟨e, he⟩ : ∃ e, e = l[k] := ⟨_, rfl⟩
      rw [← he] at d0 d1 d2 HOK HTK
      subst ea
      have hk0 : (0 : Int) ≤ (k : Int) := by omega
      have hk1 : (k : Int) < (l.length : Int) := by omega
      obtain ⟨TE, hTE⟩ : ∃ TE, TE = Ents.textS 1 e := ⟨_, rfl⟩
      have HE : Hid (∀ W, Calls Try.prog 82 #[.int .i64 1, .agg #[.int .i64 e.term, .int .i64 e.kind, .string e.data]] W fun en w' => en = .returned (.tuple #[.string TE, .bool true]) ∧ Below W.heap.size W w') := fun W => by rw [hTE]; exact implEntText_yes 1 e ⟨HOK.out, by decide, by decide⟩ W
      have hTEs : TE.size ≤ 132 := by rw [hTE]; exact entS_len 1 e HOK.out (by decide)
      have HSH : Hid (∀ W, Calls Try.prog 70 #[.string TE] W fun en w' => en = .returned (.string (shortS TE)) ∧ Below W.heap.size W w') := fun W => shortOf_q TE (by omega) W
      have HI2 : Hid (Is (S ++ shortS TE) (Words.var l.length ++ Msgs.many (l.take (k + 1)))) := by
        show Is _ _
        rw [HTK.out, Msgs.many_snoc, ← hTE, ← List.append_assoc]
        exact HIS.out.app (shortS_is TE)
      have hss := shortS_size TE 132 hTEs
      generalize shortS TE = SH at HSH HI2 hss
      have hz : ¬ 9223372036854775807 < S.size + SH.size := by have := HSZ.out; omega
      have HSZ2 : Hid ((S ++ SH).size ≤ 5 + (k + 1) * 300) := by show _ ≤ _; rw [ByteArray.size_append]; have := HSZ.out; omega
      clear hA he hTE hTEs hss HIS HSZ HTK HOK
      obtain ⟨W2, hW2⟩ : ∃ W2, W2 = wr.alloc (Obj.cells #[.int .i64 e.term, .int .i64 e.kind, .string e.data] 41) := ⟨_, rfl⟩
      have HB2 : Hid (Below w.heap.size w W2) := by rw [hW2]; exact HBW.out.alloc HBW.out.size _
      go_wp2_with fail
      rw [← hW2]
      refine Calls.mono (HE.out _) ?_
      rintro en w5 ⟨rfl, hb5⟩
      have HB5 : Hid (Below w.heap.size w w5) := HB2.out.trans (hb5.mono HB2.out.size)
      clear hb5 d0 d1 d2 HE HBW hW2 HB2
      go_wp2_with fail
      refine Calls.mono (HSH.out _) ?_
      rintro en w6 ⟨rfl, hb6⟩
      have HB6 : Hid (Below w.heap.size w w6) := HB5.out.trans (hb6.mono HB5.out.size)
      clear hb6 HB5 HSH
      go_wp2
      go_roundw
      case rel => exact ⟨k + 1, _, by omega, by go_num, rfl, HI2, HSZ2, HB6⟩
      case measure => simp [intOf]; omega
    · have hk1 : ¬ (k : Int) < (l.length : Int) := by omega
      have HE : Hid (S = entsS l) := by
        have := HIS.out
        rw [List.take_of_length_le (by omega)] at this
        exact this.eq
      go_wp2
      go_ret
      exact ⟨by rw [← HE.out]; rfl, HBW.out⟩
theorem confS_len (l : List Int) : (Ents.confS l).size = l.length := by show (Ents.confB l).toArray.size = _; simp [Ents.confB]
set_option maxHeartbeats 1000000 in
theorem confBytes_q {a : Option Addr} {g off cap : Nat} (l : List Int) (hl : l.length ≤ 4) (hok : Mans.confOk l = true ∨ l = []) (w : World) (hf : IntAt w a g off l) :
    Calls Try.prog 71 #[.slice a l.length cap] w fun e w' => e = .returned (.string (Ents.confS l)) ∧ Below w.heap.size w w' := by
  have HCT : Hid (∃ rb, Calls Try.prog 86 #[.slice a l.length cap] w fun en w' => en = .returned (.tuple #[.string (Ents.confS l), .bool rb]) ∧ Below w.heap.size w w') := by
    have := implConfText_is (cap := cap) l (by omega) w hf
    unfold confTuple at this
    rcases hok with x | x
    · rw [if_pos x] at this
      exact ⟨true, this⟩
    · rw [x] at this ⊢
      rw [if_neg (by decide)] at this
      exact ⟨false, this⟩
  clear hf hok
  obtain ⟨CS, hCS⟩ : ∃ CS, CS = Ents.confS l := ⟨_, rfl⟩
  rw [← hCS] at HCT ⊢
  clear hCS
  obtain ⟨rb, hct⟩ := HCT.out
  have HC2 : Hid (Calls Try.prog 86 #[.slice a l.length cap] w fun en w' => en = .returned (.tuple #[.string CS, .bool rb]) ∧ Below w.heap.size w w') := hct
  clear HCT hct
  go_enter Try.func71, Try.ntmps71
  go_wp2_with fail
  refine Calls.mono HC2.out ?_
  rintro en w5 ⟨rfl, hb5⟩
  go_wp2
  go_ret
  exact ⟨rfl, hb5⟩
end Go.Proofs.Ytimacmijinblmaa
