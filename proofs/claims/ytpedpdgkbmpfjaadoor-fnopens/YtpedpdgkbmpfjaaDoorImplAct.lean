/- The program's Act, walked. -/
import Derived.Test.YtpedpdgkbmpfjaaDoorOpenNext
import Derived.Test.YtpedpdgkbmpfjaaDoorImplCmd
import Derived.Test.YtpedpdgkbmpfjaaDoorSpecAct
namespace Go.Proofs.YtpedpdgkbmpfjaaDoor
open Go.RowKit
open Cmds (okC fits)
open Acts (decS skey sval nkey kkey sess parse Enc get nextN least pickL findS opC opR opM doneM openM leftM act)
set_option linter.unusedVariables false
set_option linter.unusedSimpArgs false

/-- A state that is answered in a row of the call's own, with a text and true. -/
def OutI (m : List PairL) (r : ByteArray) (w : World) (e : Ending) (w' : World) : Prop := ∃ v, e = .returned (.tuple #[v, .string r, .bool true]) ∧ w'.ownsRow w.heap.size 48 2 v m.length (cellsPair m) ∧ Below w.heap.size w w'
theorem opC_cases (m : List PairL) (c : CmdL) (hv : c.val.size ≤ 5) : opC m c = [] ∨ ∃ v g, opC m c = [⟨kkey c.key, v, g⟩] ∧ v.size ≤ 5 ∧ (g = true → v.size = 0) := by
  unfold opC
  split
  · exact Or.inl rfl
  · split
    · exact Or.inr ⟨_, _, rfl, hv, fun h => by cases h⟩
    · split
      · split
        · exact Or.inr ⟨_, _, rfl, Nat.zero_le _, fun _ => rfl⟩
        · exact Or.inl rfl
      · split
        · exact Or.inr ⟨_, _, rfl, hv, fun h => by cases h⟩
        · exact Or.inl rfl
theorem askCs_do {T i : Nat} {m : List PairL} (hG : Acts.Good T m) (hT : T ≤ 20) (hi : i ≤ 99) {c : CmdL} (hok : okC c = true) (hv : c.val.size ≤ 5) (h1 : c.op ≠ 1) : DoR m 0 (askCs m i c) (act m i c).1 true ∧ (askCs m i c).length ≤ 2 ∧ (∀ d ∈ askCs m i c, smallChange 2097152 d) := by
  have F := fits hok
  have hA := Acts.act_good hG (by omega) hi hok hv
  have key : (askCs m i c).length ≤ 2 ∧ Maps.AscC (askCs m i c) ∧ ∀ d ∈ askCs m i c, Batches.changeOk d := by
    unfold askCs
    cases hs : findS m c.ses with
    | none => exact ⟨Nat.zero_le _, List.Pairwise.nil, fun d h => by cases h⟩
    | some s =>
      simp only
      by_cases hq : c.seq ≤ (s.seq : Int) ∨ (s.seq : Int) + 1 < c.seq
      · rw [if_pos hq]
        exact ⟨Nat.zero_le _, List.Pairwise.nil, fun d h => by cases h⟩
      · rw [if_neg hq]
        obtain ⟨f1, f2⟩ := Acts.find_mem hs
        obtain ⟨g1, g2, g3, g4, g5⟩ := Acts.mem_sess (by omega) hG.enc f1
        have hr := Acts.opR_size hG.enc c
        have s1 := Acts.skey_size (show s.id ≤ 99 by omega)
        have v1 := Acts.sval_size (s := ⟨s.id, c.seq.toNat, i, opR m c⟩) (by show c.seq.toNat ≤ 99; omega) hi
        simp only at v1
        have e := Acts.kkey_size c.key
        have hk := F.key
        have hd : Batches.changeOk (⟨skey s.id, sval ⟨s.id, c.seq.toNat, i, opR m c⟩, false⟩ : ChangeL) := ⟨by show 1 ≤ (skey _).size; omega, by show (skey _).size ≤ 10; omega, by show (sval _).size ≤ 40; omega, fun h => by cases h⟩
        rcases opC_cases m c hv with x | ⟨v, gn, x, xv, xg⟩
        · rw [x]
          refine ⟨Nat.le_succ _, List.pairwise_singleton _ _, fun d h => ?_⟩
          simp only [List.nil_append, List.mem_singleton] at h
          subst h
          exact hd
        · rw [x]
          refine ⟨Nat.le_refl _, List.pairwise_pair.2 (Acts.k_lt_s c.key s.id), fun d h => ?_⟩
          simp only [List.cons_append, List.nil_append, List.mem_cons, List.not_mem_nil, or_false] at h
          rcases h with rfl | rfl
          · exact ⟨by show 1 ≤ (kkey _).size; omega, by show (kkey _).size ≤ 10; omega, by show v.size ≤ 40; omega, xg⟩
          · exact hd
  obtain ⟨k1, k2, k3⟩ := key
  refine ⟨?_, k1, fun d hd => ?_⟩
  · rw [askCs_act (by omega) hG i c h1] at hA ⊢
    exact doR_fold (hG.right (by omega)) k3 k2 (by omega) (hA.right (by omega))
  · have := k3 d hd
    exact ⟨by have := this.2.1; omega, by have := this.2.2.1; omega⟩
set_option maxHeartbeats 4000000 in
set_option maxRecDepth 100000 in
theorem implAct_is {T i : Nat} {a : Option Addr} {g off cap : Nat} (m : List PairL) (c : CmdL) (hG : Acts.Good T m) (hT : T ≤ 20) (hi : i ≤ 99) (hok : okC c = true) (hv : c.val.size ≤ 5) (w : World) (hf : PairAt w a g off m) :
    Calls Tryd.prog 11 #[.slice a m.length cap, .int .i64 (i : Int), cmdV c] w (OutI (act m i c).1 (act m i c).2 w) := by
  have hml : m.length ≤ 40 := by have := hG.len; omega
  have F := fits hok
  have HF : Hid (PairAt w a g off m) := hf
  have HMOK : Hid (∀ W, PairAt W a g off m → Calls Tryd.prog 32 #[.slice a m.length cap] W fun e w' => e = .returned (.bool true) ∧ Below W.heap.size W w') := fun W h => implMapOk_any true m (by omega) W h (good_small hG) ⟨fun _ => hG.right (by omega), fun _ => rfl⟩
  have HCOK : Hid (∀ W, Calls Tryd.prog 34 #[.agg #[.int .i64 c.op, .int .i64 c.ses, .int .i64 c.seq, .string c.key, .string c.val, .string c.old]] W fun e w' => e = .returned (.bool true) ∧ Below W.heap.size W w') := fun W => by
    have q := implCmdOk_is c ⟨by have := F.key; omega, by have := F.val; omega, by have := F.old; omega⟩ W
    rw [hok] at q
    exact q
  have HIN : Hid (∀ W, Calls Tryd.prog 33 #[.int .i64 (i : Int)] W fun e w' => e = .returned (.bool true) ∧ w' = W) := fun W => stampOk_is (i : Int) true ⟨fun _ => ⟨by omega, by omega⟩, fun _ => rfl⟩ W
  have HALL : Hid (∀ W, PairAt W a g off m → Calls Tryd.prog 35 #[.slice a m.length cap] W fun e w' => ∃ v, e = .returned (.tuple #[v, .bool true]) ∧ w'.ownsRow W.heap.size 92 4 v (sess m).length (cellsSes (sess m)) ∧ Below W.heap.size W w') := fun W h => sesOf_is m (by omega) (by omega) hG.enc W h
  have HOPEN : Hid (c.op = 1 → ∀ (b : Option Addr) (g2 off2 capb : Nat) (W : World), PairAt W a g off m → SesAt W b g2 off2 (sess m) → Calls Tryd.prog 36 #[.slice a m.length cap, .int .i64 (i : Int), .slice b (sess m).length capb] W fun e w' => ∃ v, e = .returned (.tuple #[v, .string (act m i c).2, .bool true]) ∧ w'.ownsRow W.heap.size 48 2 v (act m i c).1.length (cellsPair (act m i c).1) ∧ Below W.heap.size W w') := fun h1 b g2 off2 capb W hW hS => by
    have e : act m i c = (openM m i, Acts.openR ++ decS (nextN m)) := by unfold act; rw [if_pos h1]
    rw [e]
    exact openNext_is m hG hT hi W hW hS
  have HASK : Hid (c.op ≠ 1 → ∀ (b : Option Addr) (g2 off2 capb : Nat) (W : World), PairAt W a g off m → SesAt W b g2 off2 (sess m) → Calls Tryd.prog 37 #[.slice a m.length cap, .int .i64 (i : Int), .agg #[.int .i64 c.op, .int .i64 c.ses, .int .i64 c.seq, .string c.key, .string c.val, .string c.old], .slice b (sess m).length capb] W fun e w' => ∃ v, e = .returned (.tuple #[v, .string (act m i c).2]) ∧ w'.ownsRow W.heap.size 100 3 v (askCs m i c).length (cellsChange (askCs m i c)) ∧ Below W.heap.size W w') := fun h1 b g2 off2 capb W hW hS => asked_is m hG (by omega) c hok h1 hi W hW hS
  have HREP : Hid (c.op ≠ 1 → ∀ (b : Option Addr) (g2 off2 capb : Nat) (W : World), PairAt W a g off m → ChangeAt W b g2 off2 (askCs m i c) → Calls Tryd.prog 38 #[.slice a m.length cap, .slice b (askCs m i c).length capb, .string (act m i c).2] W fun e w' => ∃ v, e = .returned (.tuple #[v, .string (act m i c).2, .bool true]) ∧ w'.ownsRow W.heap.size 48 2 v (act m i c).1.length (cellsPair (act m i c).1) ∧ Below W.heap.size W w') := fun h1 b g2 off2 capb W hW hC => by
    obtain ⟨d1, d2, d3⟩ := askCs_do hG hT hi hok hv h1
    exact replied_is m (by omega) (good_small hG) (askCs m i c) (by omega) d3 (act m i c).1 d1 (act m i c).2 W hW hC
  obtain ⟨OM, hOM⟩ : ∃ OM, OM = (act m i c).1 := ⟨_, rfl⟩
  obtain ⟨R, hR⟩ : ∃ R, R = (act m i c).2 := ⟨_, rfl⟩
  obtain ⟨SL, hSL⟩ : ∃ SL, SL = sess m := ⟨_, rfl⟩
  obtain ⟨AC, hAC⟩ : ∃ AC, AC = askCs m i c := ⟨_, rfl⟩
  simp only [← hOM, ← hR, ← hSL, ← hAC] at HALL HOPEN HASK HREP ⊢
  obtain ⟨W0, hW0⟩ : ∃ W0, W0 = w.alloc (Obj.cells #[.int .i64 c.op, .int .i64 c.ses, .int .i64 c.seq, .string c.key, .string c.val, .string c.old] 31) := ⟨_, rfl⟩
  have HB0 : Hid (Below w.heap.size w W0) := by rw [hW0]; exact (Below.refl _ _).alloc (Nat.le_refl _) _
  have HX0 : Hid (W0.heap[w.heap.size]? = some (.cells #[.int .i64 c.op, .int .i64 c.ses, .int .i64 c.seq, .string c.key, .string c.val, .string c.old] 31 (0, 0))) := by rw [hW0]; exact heap_alloc_new w _
  clear hG hf hok hv F hOM hR hSL hAC
  unfold cmdV
  go_enter Tryd.func11, Tryd.ntmps11
  go_wp2_with (first | (rw [← hW0]; clear hW0) | fail)
  refine Calls.mono (HMOK.out W0 (HF.out.kept HB0.out)) ?_
  rintro e w2 ⟨rfl, hb2⟩
  have HB2 : Hid (Below w.heap.size w w2) := HB0.out.trans (hb2.mono HB0.out.size)
  have HX2 : Hid (w2.heap[w.heap.size]? = some (.cells #[.int .i64 c.op, .int .i64 c.ses, .int .i64 c.seq, .string c.key, .string c.val, .string c.old] 31 (0, 0))) := (hb2.block _ (Array.getElem?_eq_some_iff.1 HX0.out).1).trans HX0.out
  clear hb2 HB0 HX0 HMOK
  have x0 := cell_of_row _ _ 0 _ _ _ HX2.out
  have x1 := cell_of_row _ _ 1 _ _ _ HX2.out
  have x2 := cell_of_row _ _ 2 _ _ _ HX2.out
  have x3 := cell_of_row _ _ 3 _ _ _ HX2.out
  have x4 := cell_of_row _ _ 4 _ _ _ HX2.out
  have x5 := cell_of_row _ _ 5 _ _ _ HX2.out
  go_wp2_with (first | (go_at_call 33; refine Calls.mono (HIN.out _) ?_; rintro e w4 ⟨rfl, hw⟩; subst hw) | fail)
  refine Calls.mono (HCOK.out _) ?_
  rintro e w3 ⟨rfl, hb3⟩
  have HB3 : Hid (Below w.heap.size w w3) := HB2.out.trans (hb3.mono HB2.out.size)
  have HX3 : Hid (w3.heap[w.heap.size]? = some (.cells #[.int .i64 c.op, .int .i64 c.ses, .int .i64 c.seq, .string c.key, .string c.val, .string c.old] 31 (0, 0))) := (hb3.block _ (Array.getElem?_eq_some_iff.1 HX2.out).1).trans HX2.out
  clear hb3 HB2 HX2 HCOK x0 x1 x2 x3 x4 x5
  go_wp2_with fail
  refine Calls.mono (HALL.out _ (HF.out.kept HB3.out)) ?_
  rintro e w5 ⟨v5, rfl, hown5, hb5⟩
  obtain ⟨la, lg, lc, rfl, hat⟩ := cellsSes_slice hown5
  have HL5 : Hid (SesAt w5 la lg 0 SL) := hat
  have HB5 : Hid (Below w.heap.size w w5) := HB3.out.trans (hb5.mono HB3.out.size)
  have HX5 : Hid (w5.heap[w.heap.size]? = some (.cells #[.int .i64 c.op, .int .i64 c.ses, .int .i64 c.seq, .string c.key, .string c.val, .string c.old] 31 (0, 0))) := (hb5.block _ (Array.getElem?_eq_some_iff.1 HX3.out).1).trans HX3.out
  have HP5 : Hid (PairAt w5 a g off m) := HF.out.kept HB5.out
  clear hb5 hown5 hat HB3 HX3 HALL HIN HF
  obtain ⟨OP, hOP⟩ : ∃ OP, OP = c.op := ⟨_, rfl⟩
  have HOP : Hid (OP = c.op) := hOP
  have x0 := cell_of_row _ _ 0 _ _ _ HX5.out
  simp only [← hOP] at x0
  clear hOP
  by_cases h1 : OP = 1
  · have hb1 : (OP == (1 : Int)) = true := by simpa using h1
    go_wp2_with fail
    refine Calls.mono (HOPEN.out (by rw [← HOP.out]; exact h1) la lg 0 lc _ HP5.out HL5.out) ?_
    rintro e w6 ⟨v6, rfl, hown6, hb6⟩
    have HB6 : Hid (Below w.heap.size w w6) := HB5.out.trans (hb6.mono HB5.out.size)
    have HO6 : Hid (w6.ownsRow w.heap.size 48 2 v6 OM.length (cellsPair OM)) := own_mono hown6 HB5.out.size
    clear hown6 hb6
    go_wp2
    refine bodyPost_ret (v := .tuple #[v6, .string R, .bool true]) (by simp [results, Tryd.results11, go_sem]) rfl ⟨v6, rfl, HO6.out, HB6.out⟩
  · have hb1 : (OP == (1 : Int)) = false := by simpa using h1
    go_upto_region 8 with fail
    clear x0
    have x0 := cell_of_row _ _ 0 _ _ _ HX5.out
    have x1 := cell_of_row _ _ 1 _ _ _ HX5.out
    have x2 := cell_of_row _ _ 2 _ _ _ HX5.out
    have x3 := cell_of_row _ _ 3 _ _ _ HX5.out
    have x4 := cell_of_row _ _ 4 _ _ _ HX5.out
    have x5 := cell_of_row _ _ 5 _ _ _ HX5.out
    go_wp2_with fail
    refine Calls.mono (HASK.out (by rw [← HOP.out]; exact h1) la lg 0 lc _ HP5.out HL5.out) ?_
    rintro e w6 ⟨v6, rfl, hown6, hb6⟩
    obtain ⟨ca, cg, cc, rfl, hat6⟩ := cellsChange_slice hown6
    have HC6 : Hid (ChangeAt w6 ca cg 0 AC) := hat6
    have HB6 : Hid (Below w.heap.size w w6) := HB5.out.trans (hb6.mono HB5.out.size)
    have HP6 : Hid (PairAt w6 a g off m) := HP5.out.kept hb6
    clear hown6 hb6 hat6 x0 x1 x2 x3 x4 x5
    go_wp2_with fail
    refine Calls.mono (HREP.out (by rw [← HOP.out]; exact h1) ca cg 0 cc _ HP6.out HC6.out) ?_
    rintro e w7 ⟨v7, rfl, hown7, hb7⟩
    have HB7 : Hid (Below w.heap.size w w7) := HB6.out.trans (hb7.mono HB6.out.size)
    have HO7 : Hid (w7.ownsRow w.heap.size 48 2 v7 OM.length (cellsPair OM)) := own_mono hown7 HB6.out.size
    clear hown7 hb7
    go_wp2
    refine bodyPost_ret (v := .tuple #[v7, .string R, .bool true]) (by simp [results, Tryd.results11, go_sem]) rfl ⟨v7, rfl, HO7.out, HB7.out⟩
end Go.Proofs.YtpedpdgkbmpfjaaDoor
