/- The specification's l12Head, l12Frames and LogFile, walked. The specification's l12Start, walked. -/
import Derived.Test.YtahpoemmlpbgdaaGreatSpecLog
import Derived.Test.YtahpoemmlpbgdaaGreatSealA
import Derived.Test.YtahpoemmlpbgdaaGreatTxtA
import Derived.Test.YtahpoemmlpbgdaaGreatSpecBehind
import Derived.Test.YtahpoemmlpbgdaaGreatSpecRE
namespace Go.Proofs.YtahpoemmlpbgdaaGreat
open Go.RowKit
open Ents (okB text textS)
open Logs (okL rises Fits inB startT recs frames file)
set_option linter.unusedVariables false
set_option linter.unusedSimpArgs false

def startS (l : LogL) : ByteArray := ⟨(startT l).toArray⟩
theorem startS_is (l : LogL) : (⟨#[83]⟩ : ByteArray) ++ varS l.start ++ varS l.sterm = startS l := by
  have h : Is ((⟨#[83]⟩ : ByteArray) ++ varS l.start ++ varS l.sterm) (startT l) := by
    have h1 : Is (⟨#[83]⟩ : ByteArray) [83] := rfl
    have := (h1.app (varS_is l.start)).app (varS_is l.sterm)
    unfold startT
    simpa using this
  exact h.eq
theorem startS_size (l : LogL) (h : Fits l) : 1 ≤ (startS l).size ∧ (startS l).size ≤ 11 := by
  have h1 := Mans.var_five l.start.toNat (by have := h.s1; omega)
  have h2 := Mans.var_five l.sterm.toNat (by have := h.t1; omega)
  show 1 ≤ (startT l).toArray.size ∧ (startT l).toArray.size ≤ 11
  simp only [startT, List.size_toArray, List.length_cons, List.length_append]
  omega
def headS (l : LogL) : ByteArray := frameB (startS l)
set_option maxHeartbeats 2000000 in
set_option maxRecDepth 100000 in
theorem specHead_is {a : Option Addr} {cap : Nat} (l : LogL) (h : Fits l) (w : World) :
    Calls Tryz.prog 44 #[logV l a cap] w fun en w' => en = .returned (.string (headS l)) ∧ Below w.heap.size w w' := by
  unfold logV
  obtain ⟨W, hW⟩ : ∃ W, W = w.alloc (Obj.cells #[.int .i64 l.start, .int .i64 l.sterm, .slice a l.ents.length cap] 26) := ⟨_, rfl⟩
  have hb : Below w.heap.size w W := by rw [hW]; exact (Below.refl _ _).alloc (Nat.le_refl _) _
  have HB : Hid (Below w.heap.size w W) := hb
  have hla : LogAt W w.heap.size l a cap := by rw [hW]; exact LogAt.new w l a cap 26
  obtain ⟨q, hqq⟩ : ∃ q, q = w.heap.size := ⟨_, rfl⟩
  have HLA : Hid (∀ W', Below W.heap.size W W' → W'.cell? ⟨q, 0, none⟩ = some (.int .i64 l.start) ∧ W'.cell? ⟨q, 1, none⟩ = some (.int .i64 l.sterm)) := fun W' h => by rw [hqq]; exact ⟨(hla.kept h).1, (hla.kept h).2.1⟩
  obtain ⟨s1, s2⟩ := startS_size l h
  obtain ⟨f0, f1, g0, g1, _, _⟩ := h
  have sz1 := varS_size l.start 100000 (by omega)
  have sz2 := varS_size l.sterm 100000 (by omega)
  obtain ⟨T1, hT1⟩ : ∃ T, T = varS l.start := ⟨_, rfl⟩
  obtain ⟨T2, hT2⟩ : ∃ T, T = varS l.sterm := ⟨_, rfl⟩
  have hT : (⟨#[83]⟩ : ByteArray) ++ T1 ++ T2 = startS l := by rw [hT1, hT2]; exact startS_is l
  have HV1 : Hid (∀ W, Calls Tryz.prog 81 #[.int .i64 l.start] W fun en w' => en = .returned (.string T1) ∧ Below W.heap.size W w') := fun W => by rw [hT1]; exact l01Var_q _ f0 (by omega) W
  have HV2 : Hid (∀ W, Calls Tryz.prog 81 #[.int .i64 l.sterm] W fun en w' => en = .returned (.string T2) ∧ Below W.heap.size W w') := fun W => by rw [hT2]; exact l01Var_q _ g0 (by omega) W
  have HF : Hid (∀ W, Calls Tryz.prog 70 #[.string ((⟨#[83]⟩ : ByteArray) ++ T1 ++ T2)] W fun en w' => en = .returned (.tuple #[.string (headS l), .bool true]) ∧ Below W.heap.size W w') := fun W => by rw [hT]; exact specFrame_yes _ s1 (by omega) W
  rw [← hT1] at sz1
  rw [← hT2] at sz2
  clear hT hT1 hT2 hla hb
  have z1 : ¬ 9223372036854775807 < 1 + T1.size := by omega
  have z2 : ¬ 9223372036854775807 < 1 + T1.size + T2.size := by omega
  have HK : Hid (∀ X X' : World, Below W.heap.size W X → Below X.heap.size X X' → Below W.heap.size W X') := fun X X' a b => a.trans (b.mono a.size)
  have HEND : Hid (∀ X, Below W.heap.size W X → Below w.heap.size w X) := fun X a => HB.out.trans (a.mono HB.out.size)
  have BD : Below W.heap.size W W.drew := (Below.refl _ _).drew
  go_enter Tryz.func44, Tryz.ntmps44
  go_wp2_with fail
  rw [← hW, ← hqq]
  clear hW hqq
  go_region_held (fun w' => (w'.cell? ⟨q, 0, none⟩ = some (.int .i64 l.start) ∧ w'.cell? ⟨q, 1, none⟩ = some (.int .i64 l.sterm)) ∧ Below W.heap.size W w')
    (first | assumption | exact ⟨HLA.out _ (by assumption), by assumption⟩ | fail)
    (first | (go_at_call 81; (first | (with_reducible refine Calls.mono (HV1.out _) ?_) | (with_reducible refine Calls.mono (HV2.out _) ?_) | fail); rintro en w5 ⟨rfl, hb5⟩; have hq5 := HK.out _ _ (And.right (by assumption)) hb5; clear hb5) | (go_at_call 70; refine Calls.mono (HF.out _) ?_; rintro en w5 ⟨rfl, hb5⟩; have hq5 := HK.out _ _ (And.right (by assumption)) hb5; clear hb5) | fail)
  all_goals (
    go_wp2
    go_ret
    exact ⟨rfl, HEND.out _ (And.right (by assumption))⟩)
end Go.Proofs.YtahpoemmlpbgdaaGreat
namespace Go.Proofs.YtahpoemmlpbgdaaGreat
open Go.RowKit
set_option linter.unusedVariables false
set_option linter.unusedSimpArgs false

/-- The text of a record that begins a log anew. -/
def startAt (i j : Nat) : List UInt8 := 83 :: (Words.var i ++ Words.var j)
def startAtS (i j : Nat) : ByteArray := (⟨#[83]⟩ : ByteArray) ++ varS (i : Int) ++ varS (j : Int)
theorem startAtS_is (i j : Nat) : Is (startAtS i j) (startAt i j) := by
  have h1 : Is (⟨#[83]⟩ : ByteArray) [83] := rfl
  have := (h1.app (varS_is (i : Int))).app (varS_is (j : Int))
  unfold startAt startAtS
  simpa using this
/-- A text that begins a log anew. -/
def Begins (t : ByteArray) (i j : Nat) : Prop := Batches.by_ t = startAt i j ∧ i ≤ 1000000000 ∧ j ≤ 1000000000
def StIs (t : ByteArray) (i j : Nat) (R : Bool) : Prop := (Begins t i j ∧ R = true) ∨ ((∀ i' j', ¬ Begins t i' j') ∧ i = 0 ∧ j = 0 ∧ R = false)
structure Sees2 (t : ByteArray) (i j : Nat) (x : ByteArray) (s1 s2 s3 : Nat × Bool) : Prop where
  q1 : tk t (0, false) = (x, s1)
  q2 : Mans.cv t s1 = (i, s2)
  q3 : Mans.cv t s2 = (j, s3)
theorem sees2_ex (t : ByteArray) : ∃ i j x s1 s2 s3, Sees2 t i j x s1 s2 s3 := ⟨_, _, _, _, _, _, rfl, rfl, rfl⟩
theorem sees2_of {t : ByteArray} {i j : Nat} {x : ByteArray} {s1 s2 s3 : Nat × Bool} (h : Sees2 t i j x s1 s2 s3) {i' j' : Nat} (hg : Begins t i' j') : i = i' ∧ j = j' ∧ s3.2 = false := by
  obtain ⟨e0, hi, hj⟩ := hg
  have e1 : Batches.by_ t = [83] ++ (Words.var i' ++ (Words.var j' ++ [])) := by rw [e0]; simp [startAt]
  have e2 : Batches.by_ t = ([83] ++ Words.var i') ++ (Words.var j' ++ []) := by rw [e0]; simp [startAt]
  have r1 := Batches.rd_at hi e1
  have r2 := Batches.rd_at hj e2
  have h1 : tk t (0, false) = (⟨#[83]⟩, (1, false)) := by
    have : (Batches.by_ t)[0]? = some 83 := by rw [e0]; rfl
    simp [tk, this]
  rw [h.q1] at h1
  obtain ⟨_, g1⟩ := Prod.mk.inj h1
  have h2 : Mans.cv t s1 = (i', (([83] ++ Words.var i').length, false)) := by rw [g1]; exact Mans.cv_some r1
  rw [h.q2] at h2
  obtain ⟨f2, g2⟩ := Prod.mk.inj h2
  have h3 : Mans.cv t s2 = (j', (([83] ++ Words.var i' ++ Words.var j').length, false)) := by rw [g2]; exact Mans.cv_some r2
  rw [h.q3] at h3
  obtain ⟨f3, g3⟩ := Prod.mk.inj h3
  exact ⟨f2, f3, by rw [g3]⟩
theorem st_none {t : ByteArray} {i j : Nat} {R : Bool} (h : StIs t i j R) (hn : ∀ i' j', ¬ Begins t i' j') : i = 0 ∧ j = 0 ∧ R = false := by
  rcases h with ⟨h, rfl⟩ | ⟨_, h⟩
  · exact absurd h (hn _ _)
  · exact h
theorem result52 {w : World} {g : Nat} {A C : Array Value} {b : Bool} (hg : w.heap[g]? = some (.cells C 26 (0, 0))) (hs : A.size = 3) {tmps : Array Value} (ht : tmps.getD 2 undef = .pointer (some ⟨g, 0, none⟩)) (hb : tmps.getD 3 undef = .bool b) : (results Tryz.f67 tmps).run Tryz.prog (w.setRow g A) = .ok (.tuple #[.agg A, .bool b]) (w.setRow g A) := by
  have h := run_loadVar_agg (P := Tryz.prog) Tryz.isAgg26 Tryz.sizeOf26 (row_size (A := A) hg) hs
  have ht' : tmps[2]?.getD undef = .pointer (some ⟨g, 0, none⟩) := by simpa using ht
  have hb' : tmps[3]?.getD undef = .bool b := by simpa using hb
  simp [results, Tryz.results67, ht', hb', asAddr, h]
set_option maxHeartbeats 4000000 in
set_option maxRecDepth 100000 in
theorem specStart_is {t : ByteArray} {i j : Nat} {R : Bool} (hs : t.size ≤ 1048576) (h : StIs t i j R) (w : World) :
    Calls Tryz.prog 67 #[.string t] w fun en w' => en = .returned (.tuple #[.agg #[.int .i64 (i : Int), .int .i64 (j : Int), .slice none 0 0], .bool R]) ∧ Below w.heap.size w w' := by
  obtain ⟨I, J, x, s1, s2, s3, hS⟩ := sees2_ex t
  have HRE : Hid (StIs t i j R) := h
  have HS : Hid (Sees2 t I J x s1 s2 s3) := hS
  have Q1 : Hid (tk t (0, false) = (x, s1)) := hS.q1
  have Q2 : Hid (Mans.cv t s1 = (I, s2)) := hS.q2
  have Q3 : Hid (Mans.cv t s2 = (J, s3)) := hS.q3
  clear hS h
  obtain ⟨W, hW⟩ : ∃ W, W = (w.alloc (Obj.cells #[.int .i64 0, .int .i64 0, .slice none 0 0] 26)).alloc (Obj.cells #[.string t, .int .i64 0, .bool false] 139) := ⟨_, rfl⟩
  have HZ : Hid (W.heap[w.heap.size]? = some (.cells #[.int .i64 0, .int .i64 0, .slice none 0 0] 26 (0, 0))) := by
    show _ = _
    rw [hW, Below.heap_alloc _ _ _ (by simp)]
    exact heap_alloc_new w _
  have HC : Hid (C5 W (w.heap.size + 1) t 0 false) := by
    refine ⟨?_, Nat.zero_le _⟩
    rw [hW]
    have := heap_alloc_new (w.alloc (Obj.cells #[.int .i64 0, .int .i64 0, .slice none 0 0] 26)) (Obj.cells #[.string t, .int .i64 0, .bool false] 139)
    simpa using this
  have HB : Hid (Below w.heap.size w W) := by show Below _ _ _; rw [hW]; exact ((Below.refl _ _).alloc (Nat.le_refl _) _).alloc (by simp) _
  obtain ⟨q, hq⟩ : ∃ q, q = w.heap.size := ⟨_, rfl⟩
  have HQ : Hid (q = w.heap.size) := hq
  rw [← hq] at HZ HC
  go_enter Tryz.func67, Tryz.ntmps67
  go_wp2_with fail
  rw [← hW, ← hq]
  clear hW hq
  refine (take_tk hs W HC.out Q1.out).mono ?_
  rintro en w1 ⟨rfl, hc1, hg1⟩
  have hz1 := grown_keep HZ.out hg1 (by omega)
  have hq0 := HQ.out
  have hB1 : Below w.heap.size w w1 := HB.out.grown hg1 HB.out.size (fun k e => by cases e; omega)
  obtain ⟨W2, hW2⟩ : ∃ W2, W2 = w1.alloc (Obj.cells #[.int .i64 0, .int .i64 0, .slice none 0 0] 26) := ⟨_, rfl⟩
  have hb2 : Below w1.heap.size w1 W2 := by rw [hW2]; exact (Below.refl _ _).alloc (Nat.le_refl _) _
  have HC2 : Hid (C5 W2 (q + 1) t s1.1 s1.2) := hc1.below hb2
  have HZ2 : Hid (W2.heap[q]? = some (.cells #[.int .i64 0, .int .i64 0, .slice none 0 0] 26 (0, 0))) := (hb2.block _ (Array.getElem?_eq_some_iff.1 hz1).1).trans hz1
  have HE2 : Hid (W2.heap[w1.heap.size]? = some (.cells #[.int .i64 0, .int .i64 0, .slice none 0 0] 26 (0, 0))) := by show _ = _; rw [hW2]; exact heap_alloc_new w1 _
  have HB2 : Hid (Below w.heap.size w W2) := hB1.trans (hb2.mono hB1.size)
  have hcl : q + 1 < w1.heap.size := hc1.lt
  obtain ⟨eb, heb⟩ : ∃ eb, eb = w1.heap.size := ⟨_, rfl⟩
  rw [← heb] at HE2 hcl
  clear hc1 hg1 hz1 hB1 hb2 HC HZ HB hq0
  go_wp2_with fail
  rw [← hW2, ← heb]
  clear hW2 heb
  refine (l05Var_cv hs W2 HC2.out Q2.out).mono ?_
  rintro en w3 ⟨rfl, ⟨hc3, hg3⟩, hI⟩
  have hz3 := grown_keep HZ2.out hg3 (by omega)
  have he3 := grown_keep HE2.out hg3 (by omega)
  have hq0 := HQ.out
  have HC3 : Hid (C5 w3 (q + 1) t s2.1 s2.2) := hc3
  have HZ3 : Hid (w3.heap[q]? = some (.cells #[.int .i64 0, .int .i64 0, .slice none 0 0] 26 (0, 0))) := hz3
  have HE3 : Hid (w3.heap[eb]? = some (.cells #[.int .i64 0, .int .i64 0, .slice none 0 0] 26 (0, 0))) := he3
  have HB3 : Hid (Below w.heap.size w w3) := HB2.out.grown hg3 HB2.out.size (fun k e => by cases e; omega)
  have x0 := cell_of_row _ _ 0 _ _ _ he3
  have xf0 := frozen_of_row _ _ 0 _ _ he3
  simp at x0
  obtain ⟨W4, hW4⟩ : ∃ W4, W4 = w3.setCell ⟨eb, 0, none⟩ (.int .i64 (I : Int)) := ⟨_, rfl⟩
  have HC4 : Hid (C5 W4 (q + 1) t s2.1 s2.2) := by rw [hW4]; exact HC3.out.far (by omega) _ _
  have HZ4 : Hid (W4.heap[q]? = some (.cells #[.int .i64 0, .int .i64 0, .slice none 0 0] 26 (0, 0))) := by rw [hW4]; exact set_far HZ3.out (by omega) _ _
  have HE4 : Hid (W4.heap[eb]? = some (.cells #[.int .i64 (I : Int), .int .i64 0, .slice none 0 0] 26 (0, 0))) := by
    show _ = _
    rw [hW4]
    have := heap_setCell_same w3 eb 0 _ 26 (.int .i64 (I : Int)) HE3.out
    simpa using this
  have HB4 : Hid (Below w.heap.size w W4) := by rw [hW4]; exact HB3.out.setCell (by show w.heap.size ≤ eb; omega) _
  clear hz3 he3 hc3 hg3 HC2 HZ2 HE2 HB2 HC3 HZ3 HE3 HB3 hq0
  go_wp2_with fail
  rw [← hW4]
  clear hW4 x0 xf0
  refine (l05Var_cv hs W4 HC4.out Q3.out).mono ?_
  rintro en w5 ⟨rfl, ⟨hc5, hg5⟩, hJ⟩
  have hz5 := grown_keep HZ4.out hg5 (by omega)
  have he5 := grown_keep HE4.out hg5 (by omega)
  have hq0 := HQ.out
  have HC5 : Hid (C5 w5 (q + 1) t s3.1 s3.2) := hc5
  have HZ5 : Hid (w5.heap[q]? = some (.cells #[.int .i64 0, .int .i64 0, .slice none 0 0] 26 (0, 0))) := hz5
  have HE5 : Hid (w5.heap[eb]? = some (.cells #[.int .i64 (I : Int), .int .i64 0, .slice none 0 0] 26 (0, 0))) := he5
  have HB5 : Hid (Below w.heap.size w w5) := HB4.out.grown hg5 HB4.out.size (fun k e => by cases e; omega)
  have x1 := cell_of_row _ _ 1 _ _ _ he5
  have xf1 := frozen_of_row _ _ 1 _ _ he5
  simp at x1
  obtain ⟨W6, hW6⟩ : ∃ W6, W6 = w5.setCell ⟨eb, 1, none⟩ (.int .i64 (J : Int)) := ⟨_, rfl⟩
  have HC6 : Hid (C5 W6 (q + 1) t s3.1 s3.2) := by rw [hW6]; exact HC5.out.far (by omega) _ _
  have HZ6 : Hid (W6.heap[q]? = some (.cells #[.int .i64 0, .int .i64 0, .slice none 0 0] 26 (0, 0))) := by rw [hW6]; exact set_far HZ5.out (by omega) _ _
  have HE6 : Hid (W6.heap[eb]? = some (.cells #[.int .i64 (I : Int), .int .i64 (J : Int), .slice none 0 0] 26 (0, 0))) := by
    show _ = _
    rw [hW6]
    have := heap_setCell_same w5 eb 1 _ 26 (.int .i64 (J : Int)) HE5.out
    simpa using this
  have HB6 : Hid (Below w.heap.size w W6) := by rw [hW6]; exact HB5.out.setCell (by show w.heap.size ≤ eb; omega) _
  clear hz5 he5 hc5 hg5 HC4 HZ4 HE4 HB4 HC5 HZ5 HE5 HB5 hq0 Q1 Q2 Q3
  go_wp2_with fail
  rw [← hW6]
  clear hW6 x1 xf1
  obtain ⟨a3, b3⟩ := s3
  have c2 := HC6.out.c2
  simp only at c2
  have e0 := cell_of_row _ _ 0 _ _ _ HE6.out
  have e1 := cell_of_row _ _ 1 _ _ _ HE6.out
  simp at e0 e1
  have NE := Abv.ne W6
  have C2 := fun x : Abv W6 => x.cell c2
  have E0 := fun x : Abv W6 => x.cell e0
  have E1 := fun x : Abv W6 => x.cell e1
  have HKP : Hid (∀ w7, Below W6.heap.size W6 w7 → w7.heap[q]? = some (.cells #[.int .i64 0, .int .i64 0, .slice none 0 0] 26 (0, 0)) ∧ w7.heap[eb]? = some (.cells #[.int .i64 (I : Int), .int .i64 (J : Int), .slice none 0 0] 26 (0, 0)) ∧ Below w.heap.size w w7) := fun w7 hb =>
    ⟨(hb.block _ (Array.getElem?_eq_some_iff.1 HZ6.out).1).trans HZ6.out, (hb.block _ (Array.getElem?_eq_some_iff.1 HE6.out).1).trans HE6.out, HB6.out.trans (hb.mono HB6.out.size)⟩
  cases b3 with
  | true =>
    obtain ⟨rfl, rfl, rfl⟩ := st_none HRE.out (fun i' j' hg => by cases (sees2_of HS.out hg).2.2)
    clear HS HRE
    refine wp_region_above (by kernel_rfl) (by kernel_rfl) ?_
    repeat (go_big_quiet_step (fail))
    refine wpQuiet_nil ?_
    rintro w7 ⟨⟨_, hb7⟩, rfl⟩
    obtain ⟨hz7, _, hB7⟩ := HKP.out _ hb7
    have HZ7 : Hid (w7.heap[q]? = some (.cells #[.int .i64 0, .int .i64 0, .slice none 0 0] 26 (0, 0))) := hz7
    have HB7 : Hid (Below w.heap.size w w7) := hB7
    clear hz7 hB7 hb7 NE C2 E0 E1 e0 e1 c2 HKP HZ6 HE6 HB6 HC6
    go_wp2_with (first | (refine wpList_storeA Tryz.sizeOf26 rfl _ _ rfl q #[.int .i64 0, .int .i64 0, .slice none 0 0] #[.int .i64 0, .int .i64 0, .slice none 0 0] 26 rfl rfl HZ7.out rfl rfl (log_one _ _ _ _ _) ?_) | fail)
    exact bodyPost_ret (result52 HZ7.out rfl rfl rfl) rfl ⟨rfl, below_setRow HB7.out (by have := HQ.out; omega) _⟩
  | false =>
    have sz1 := varS_size (I : Int) 1000000000 (by omega)
    have sz2 := varS_size (J : Int) 1000000000 (by omega)
    have HV : Hid (∀ (x : Int), (0 ≤ x ∧ x ≤ 1000000000) → ∀ W, Calls Tryz.prog 81 #[.int .i64 x] W fun en w' => en = .returned (.string (varS x)) ∧ Below W.heap.size W w') := fun x hx W => l01Var_q x hx.1 hx.2 W
    have z1 : ¬ 9223372036854775807 < 1 + (varS (I : Int)).size := by omega
    have z2 : ¬ 9223372036854775807 < 1 + (varS (I : Int)).size + (varS (J : Int)).size := by omega
    have HST : Hid ((⟨#[83]⟩ : ByteArray) ++ varS (I : Int) ++ varS (J : Int) = startAtS I J) := rfl
    by_cases ht : startAtS I J = t
    · have hg : Begins t I J := ⟨by rw [← ht]; exact startAtS_is I J, hI, hJ⟩
      have hnn : (((⟨#[83]⟩ : ByteArray) ++ varS (I : Int) ++ varS (J : Int)).toList == t.toList) = true := by rw [HST.out, ht]; simp
      obtain ⟨rfl, rfl, rfl⟩ : i = I ∧ j = J ∧ R = true := by
        rcases HRE.out with ⟨h, rfl⟩ | ⟨h, _⟩
        · obtain ⟨h1, h2, _⟩ := sees2_of HS.out h
          exact ⟨h1.symm, h2.symm, rfl⟩
        · exact absurd hg (h _ _)
      clear ht hg HS HRE
      refine wp_region_above (by kernel_rfl) (by kernel_rfl) ?_
      repeat (go_big_quiet_step (first | (go_at_call 81; exact calls_above (HV.out _ (by omega) _))))
      refine wpQuiet_nil ?_
      rintro w7 ⟨⟨_, hb7⟩, rfl⟩
      obtain ⟨hz7, he7, hB7⟩ := HKP.out _ hb7
      have HZ7 : Hid (w7.heap[q]? = some (.cells #[.int .i64 0, .int .i64 0, .slice none 0 0] 26 (0, 0))) := hz7
      have HE7 : Hid (w7.heap[eb]? = some (.cells #[.int .i64 (i : Int), .int .i64 (j : Int), .slice none 0 0] 26 (0, 0))) := he7
      have HB7 : Hid (Below w.heap.size w w7) := hB7
      clear hz7 he7 hB7 hb7 NE C2 E0 E1 e0 e1 c2 HKP HZ6 HE6 HB6 HC6
      go_wp2_with (first | (refine wpList_loadA Tryz.isAgg26 Tryz.sizeOf26 rfl _ rfl eb #[.int .i64 (i : Int), .int .i64 (j : Int), .slice none 0 0] 26 rfl HE7.out rfl ?_) | (refine wpList_storeA Tryz.sizeOf26 rfl _ _ rfl q #[.int .i64 (i : Int), .int .i64 (j : Int), .slice none 0 0] #[.int .i64 0, .int .i64 0, .slice none 0 0] 26 rfl rfl HZ7.out rfl rfl (log_one _ _ _ _ _) ?_) | fail)
      exact bodyPost_ret (result52 HZ7.out rfl rfl rfl) rfl ⟨rfl, below_setRow HB7.out (by have := HQ.out; omega) _⟩
    · obtain ⟨rfl, rfl, rfl⟩ := st_none HRE.out (fun i' j' hg => by
        obtain ⟨rfl, rfl, _⟩ := sees2_of HS.out hg
        exact ht (Batches.by_inj ((startAtS_is I J).trans hg.1.symm)))
      have hnn : (((⟨#[83]⟩ : ByteArray) ++ varS (I : Int) ++ varS (J : Int)).toList == t.toList) = false := by
        rw [HST.out, beq_eq_false_iff_ne, Batches.toList_by, Batches.toList_by]
        exact fun x => ht (Batches.by_inj x)
      clear ht HS HRE
      refine wp_region_above (by kernel_rfl) (by kernel_rfl) ?_
      repeat (go_big_quiet_step (first | (go_at_call 81; exact calls_above (HV.out _ (by omega) _))))
      refine wpQuiet_nil ?_
      rintro w7 ⟨⟨_, hb7⟩, rfl⟩
      obtain ⟨hz7, he7, hB7⟩ := HKP.out _ hb7
      have HZ7 : Hid (w7.heap[q]? = some (.cells #[.int .i64 0, .int .i64 0, .slice none 0 0] 26 (0, 0))) := hz7
      have HB7 : Hid (Below w.heap.size w w7) := hB7
      clear hz7 he7 hB7 hb7 NE C2 E0 E1 e0 e1 c2 HKP HZ6 HE6 HB6 HC6
      go_wp2_with (first | (refine wpList_storeA Tryz.sizeOf26 rfl _ _ rfl q #[.int .i64 0, .int .i64 0, .slice none 0 0] #[.int .i64 0, .int .i64 0, .slice none 0 0] 26 rfl rfl HZ7.out rfl rfl (log_one _ _ _ _ _) ?_) | fail)
      exact bodyPost_ret (result52 HZ7.out rfl rfl rfl) rfl ⟨rfl, below_setRow HB7.out (by have := HQ.out; omega) _⟩
end Go.Proofs.YtahpoemmlpbgdaaGreat
