/- The specification's l12Head, l12Frames and LogFile, walked. -/
import Derived.Test.YtahpoemmlpbgdaaSpecLog
import Derived.Test.YtahpoemmlpbgdaaSealA
import Derived.Test.YtahpoemmlpbgdaaTxtA
namespace Go.Proofs.Ytahpoemmlpbgdaa
open Go.RowKit
open Ents (okB text textS)
open Logs (okL rises Fits inB startT recs frames file)
set_option linter.unusedVariables false
set_option linter.unusedSimpArgs false

/-- A frame's text, or nothing. -/
def frameOr (s : ByteArray) : ByteArray := if 1 ≤ s.size ∧ s.size ≤ 9000 then frameB s else ⟨#[]⟩
theorem specFrame_or (s : ByteArray) (hs : s.size ≤ maxLen) (w : World) : ∃ b : Bool, Calls Try.prog 59 #[.string s] w fun en w' => en = .returned (.tuple #[.string (frameOr s), .bool b]) ∧ Below w.heap.size w w' := by
  by_cases h : 1 ≤ s.size ∧ s.size ≤ 9000
  · refine ⟨true, ?_⟩
    unfold frameOr
    rw [if_pos h]
    exact specFrame_yes s h.1 h.2 w
  · refine ⟨false, ?_⟩
    unfold frameOr
    rw [if_neg h]
    exact specFrame_no s hs h w
def startS (l : LogL) : ByteArray := ⟨(startT l).toArray⟩
theorem startS_is (l : LogL) : (⟨#[83]⟩ : ByteArray) ++ varS l.start ++ varS l.sterm = startS l := by
  have h : Is ((⟨#[83]⟩ : ByteArray) ++ varS l.start ++ varS l.sterm) (startT l) := by
    have h1 : Is (⟨#[83]⟩ : ByteArray) [83] := rfl
    have := (h1.app (varS_is l.start)).app (varS_is l.sterm)
    unfold startT
    simpa using this
  exact h.eq
theorem startS_size (l : LogL) (h : Fits l) : 1 ≤ (startS l).size ∧ (startS l).size ≤ 11 := by
  have h1 := Mans.var_five l.start.toNat (by have := h.s1; omega)
  have h2 := Mans.var_five l.sterm.toNat (by have := h.t1; omega)
  show 1 ≤ (startT l).toArray.size ∧ (startT l).toArray.size ≤ 11
  simp only [startT, List.size_toArray, List.length_cons, List.length_append]
  omega
def headS (l : LogL) : ByteArray := frameB (startS l)
set_option maxHeartbeats 2000000 in
set_option maxRecDepth 100000 in
theorem specHead_is {a : Option Addr} {cap : Nat} (l : LogL) (h : Fits l) (w : World) :
    Calls Try.prog 48 #[logV l a cap] w fun en w' => en = .returned (.string (headS l)) ∧ Below w.heap.size w w' := by
  unfold logV
  obtain ⟨W, hW⟩ : ∃ W, W = w.alloc (Obj.cells #[.int .i64 l.start, .int .i64 l.sterm, .slice a l.ents.length cap] 29) := ⟨_, rfl⟩
  have hb : Below w.heap.size w W := by rw [hW]; exact (Below.refl _ _).alloc (Nat.le_refl _) _
  have HB : Hid (Below w.heap.size w W) := hb
  have hla : LogAt W w.heap.size l a cap := by rw [hW]; exact LogAt.new w l a cap 29
  obtain ⟨q, hqq⟩ : ∃ q, q = w.heap.size := ⟨_, rfl⟩
  have HLA : Hid (∀ W', Below W.heap.size W W' → W'.cell? ⟨q, 0, none⟩ = some (.int .i64 l.start) ∧ W'.cell? ⟨q, 1, none⟩ = some (.int .i64 l.sterm)) := fun W' h => by rw [hqq]; exact ⟨(hla.kept h).1, (hla.kept h).2.1⟩
  obtain ⟨s1, s2⟩ := startS_size l h
  obtain ⟨f0, f1, g0, g1, _, _⟩ := h
  have sz1 := varS_size l.start 100000 (by omega)
  have sz2 := varS_size l.sterm 100000 (by omega)
  obtain ⟨T1, hT1⟩ : ∃ T, T = varS l.start := ⟨_, rfl⟩
  obtain ⟨T2, hT2⟩ : ∃ T, T = varS l.sterm := ⟨_, rfl⟩
  have hT : (⟨#[83]⟩ : ByteArray) ++ T1 ++ T2 = startS l := by rw [hT1, hT2]; exact startS_is l
  have HV1 : Hid (∀ W, Calls Try.prog 60 #[.int .i64 l.start] W fun en w' => en = .returned (.string T1) ∧ Below W.heap.size W w') := fun W => by rw [hT1]; exact l01Var_q _ f0 (by omega) W
  have HV2 : Hid (∀ W, Calls Try.prog 60 #[.int .i64 l.sterm] W fun en w' => en = .returned (.string T2) ∧ Below W.heap.size W w') := fun W => by rw [hT2]; exact l01Var_q _ g0 (by omega) W
  have HF : Hid (∀ W, Calls Try.prog 59 #[.string ((⟨#[83]⟩ : ByteArray) ++ T1 ++ T2)] W fun en w' => en = .returned (.tuple #[.string (headS l), .bool true]) ∧ Below W.heap.size W w') := fun W => by rw [hT]; exact specFrame_yes _ s1 (by omega) W
  rw [← hT1] at sz1
  rw [← hT2] at sz2
  clear hT hT1 hT2 hla hb
  have z1 : ¬ 9223372036854775807 < 1 + T1.size := by omega
  have z2 : ¬ 9223372036854775807 < 1 + T1.size + T2.size := by omega
  have HK : Hid (∀ X X' : World, Below W.heap.size W X → Below X.heap.size X X' → Below W.heap.size W X') := fun X X' a b => a.trans (b.mono a.size)
  have HEND : Hid (∀ X, Below W.heap.size W X → Below w.heap.size w X) := fun X a => HB.out.trans (a.mono HB.out.size)
  have BD : Below W.heap.size W W.drew := (Below.refl _ _).drew
  go_enter Try.func48, Try.ntmps48
  go_wp2_with fail
  rw [← hW, ← hqq]
  clear hW hqq
  go_region_held (fun w' => (w'.cell? ⟨q, 0, none⟩ = some (.int .i64 l.start) ∧ w'.cell? ⟨q, 1, none⟩ = some (.int .i64 l.sterm)) ∧ Below W.heap.size W w')
    (first | assumption | exact ⟨HLA.out _ (by assumption), by assumption⟩ | fail)
    (first | (go_at_call 60; (first | (with_reducible refine Calls.mono (HV1.out _) ?_) | (with_reducible refine Calls.mono (HV2.out _) ?_) | fail); rintro en w5 ⟨rfl, hb5⟩; have hq5 := HK.out _ _ (And.right (by assumption)) hb5; clear hb5) | (go_at_call 59; refine Calls.mono (HF.out _) ?_; rintro en w5 ⟨rfl, hb5⟩; have hq5 := HK.out _ _ (And.right (by assumption)) hb5; clear hb5) | fail)
  all_goals (
    go_wp2
    go_ret
    exact ⟨rfl, HEND.out _ (And.right (by assumption))⟩)
end Go.Proofs.Ytahpoemmlpbgdaa
