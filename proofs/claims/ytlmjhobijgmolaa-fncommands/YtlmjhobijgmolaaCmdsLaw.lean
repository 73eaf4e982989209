/- The law of commands, walked. -/
import Derived.Test.YtlmjhobijgmolaaCmdLaws
import Derived.Test.YtlmjhobijgmolaaDrawAnyC
import Derived.Test.YtlmjhobijgmolaaMathCmd2
namespace Go.Proofs.Ytlmjhobijgmolaa
open Go.RowKit
open Cmds (okC Got)
set_option linter.unusedVariables false
set_option linter.unusedSimpArgs false

theorem read_back {w w' : World} {c : CmdL} {en : Ending} (hok : okC c = true) (h : ReadPost w (Cmds.textS c) en w') : en = .returned (.tuple #[.agg #[.int .i64 c.op, .int .i64 c.ses, .int .i64 c.seq, .string c.key, .string c.val, .string c.old], .bool true]) ∧ Below w.heap.size w w' := by
  obtain ⟨hb, ⟨d, hg, he⟩ | ⟨hn, he⟩⟩ := h
  · have e := Cmds.text_inj (hg.1.symm.trans (Cmds.by_textS c)) hg.2 hok
    subst e
    exact ⟨he, hb⟩
  · exact absurd ⟨Cmds.by_textS c, hok⟩ (hn c)
theorem read_not {w w' : World} {c : CmdL} {en : Ending} (hok : okC c = true) (h : ReadPost w (Cmds.textS c ++ ⟨#[120]⟩) en w') : en = .returned (.tuple #[.agg #[.int .i64 Cmds.noC.op, .int .i64 Cmds.noC.ses, .int .i64 Cmds.noC.seq, .string Cmds.noC.key, .string Cmds.noC.val, .string Cmds.noC.old], .bool false]) ∧ Below w.heap.size w w' := by
  obtain ⟨hb, ⟨d, hg, he⟩ | ⟨hn, he⟩⟩ := h
  · refine absurd hg (Cmds.not_more (c := c) (x := 120) ?_ hok)
    show (Cmds.textS c ++ ⟨#[120]⟩).data.toList = _
    rw [app_list]
    rfl
  · exact ⟨he, hb⟩
set_option maxHeartbeats 8000000 in
set_option maxRecDepth 100000 in
theorem lawCmds_big {len cap : Nat} {a : Option Addr} (w : World) (h : 1048576 < len) : Calls Try.prog 6 #[.slice a len cap] w fun e w' => e = .returned (.bool true) ∧ Below w.heap.size w w' := by
  go_enter Try.func6, Try.ntmps6
  go_wp2_with (go_at_call 16; refine (big_yes _ _ _ h _).mono ?_; rintro e w1 ⟨rfl, rfl⟩)
  go_ret
  exact ⟨rfl, Below.refl _ _⟩
set_option maxHeartbeats 8000000 in
set_option maxRecDepth 100000 in
theorem lawCmds_any {len cap b off : Nat} {a : Option Addr} {z : Nat → Int} (w : World) (hc : Code w.heap.size w a len b off z) : Calls Try.prog 6 #[.slice a len cap] w fun e w' => e = .returned (.bool true) ∧ Below w.heap.size w w' := by
  have hl : len ≤ 1048576 := hc.2.1
  have HC : Hid (Code w.heap.size w a len b off z) := hc
  clear hc
  go_enter Try.func6, Try.ntmps6
  go_wp2_with (go_at_call 16; refine (big_no _ _ _ hl _).mono ?_; rintro e w1 ⟨rfl, rfl⟩)
  refine (drawCmd_any _ HC.out).mono ?_
  rintro e w1 ⟨c, rfl, hsm, hb1⟩
  have HSM : Hid (c.key.size ≤ 1048576 ∧ c.val.size ≤ 1048576 ∧ c.old.size ≤ 1048576) := by obtain ⟨s1, s2, s3⟩ := hsm; exact ⟨by omega, by omega, by omega⟩
  obtain ⟨W1, hW1⟩ : ∃ W1, W1 = w1.alloc (Obj.cells #[.int .i64 c.op, .int .i64 c.ses, .int .i64 c.seq, .string c.key, .string c.val, .string c.old] 26) := ⟨_, rfl⟩
  obtain ⟨g, hg⟩ : ∃ g, g = w1.heap.size := ⟨_, rfl⟩
  have HK : Hid (∀ w2, Below W1.heap.size W1 w2 → w2.cell? ⟨g, 0, none⟩ = some (.int .i64 c.op) ∧ w2.cell? ⟨g, 1, none⟩ = some (.int .i64 c.ses) ∧ w2.cell? ⟨g, 2, none⟩ = some (.int .i64 c.seq) ∧ w2.cell? ⟨g, 3, none⟩ = some (.string c.key) ∧ w2.cell? ⟨g, 4, none⟩ = some (.string c.val) ∧ w2.cell? ⟨g, 5, none⟩ = some (.string c.old)) := fun w2 hb => by rw [hg]; exact cmdV_kept hW1 hb
  have HH : Hid (∀ w2, Below W1.heap.size W1 w2 → w2.heap[g]? = some (.cells #[.int .i64 c.op, .int .i64 c.ses, .int .i64 c.seq, .string c.key, .string c.val, .string c.old] 26 (0, 0))) := fun w2 hb => by
    have p0 := heap_alloc_new w1 (Obj.cells #[.int .i64 c.op, .int .i64 c.ses, .int .i64 c.seq, .string c.key, .string c.val, .string c.old] 26)
    rw [← hW1, ← hg] at p0
    exact (hb.block _ (Array.getElem?_eq_some_iff.1 p0).1).trans p0
  have HGL : Hid (g < W1.heap.size) := by show g < _; rw [hW1, hg]; simp
  have HB1 : Hid (Below w.heap.size w W1) := by rw [hW1]; exact hb1.alloc hb1.size _
  obtain ⟨c0, c1, c2, c3, c4, c5⟩ := HK.out _ (Below.refl _ _)
  have HTX : Hid (∀ W, Calls Try.prog 12 #[.agg #[.int .i64 c.op, .int .i64 c.ses, .int .i64 c.seq, .string c.key, .string c.val, .string c.old]] W fun en w' => en = .returned (textV c) ∧ Below W.heap.size W w') := fun W => implTxt_is c HSM.out W
  have HSO : Hid (∀ W, Calls Try.prog 8 #[.agg #[.int .i64 c.op, .int .i64 c.ses, .int .i64 c.seq, .string c.key, .string c.val, .string c.old]] W fun en w' => en = .returned (.bool (okC c)) ∧ Below W.heap.size W w') := fun W => specCmdOk_is c HSM.out W
  have HIO : Hid (∀ W, Calls Try.prog 10 #[.agg #[.int .i64 c.op, .int .i64 c.ses, .int .i64 c.seq, .string c.key, .string c.val, .string c.old]] W fun en w' => en = .returned (.bool (okC c)) ∧ Below W.heap.size W w') := fun W => implCmdOk_is c HSM.out W
  unfold cmdV
  clear hsm hb1 HC
  go_wp2_with fail
  rw [← hW1, ← hg]
  clear hW1 hg
  refine Calls.mono (HTX.out _) ?_
  rintro en w2 ⟨rfl, hb2⟩
  clear c0 c1 c2 c3 c4 c5
  have HB2 : Hid (Below W1.heap.size W1 w2) := hb2
  clear hb2 HTX
  unfold textV
  cases hok : okC c with
  | true =>
    rw [hok] at HSO HIO
    rw [if_pos rfl]
    have hts := Cmds.textS_size hok
    have HOK : Hid (okC c = true) := hok
    have E : ∀ W : World, (binOp .eql 26 (.agg #[.int .i64 c.op, .int .i64 c.ses, .int .i64 c.seq, .string c.key, .string c.val, .string c.old]) (.agg #[.int .i64 c.op, .int .i64 c.ses, .int .i64 c.seq, .string c.key, .string c.val, .string c.old])).run Try.prog W = .ok (.bool true) W := fun W => by
      have h := eq_cmd c c W
      rw [(sameC_iff c c).2 rfl] at h
      exact h
    obtain ⟨t, ht⟩ : ∃ t, t = Cmds.textS c := ⟨_, rfl⟩
    have HR1 : Hid (∀ W, Calls Try.prog 14 #[.string t] W fun en w' => en = .returned (.tuple #[.agg #[.int .i64 c.op, .int .i64 c.ses, .int .i64 c.seq, .string c.key, .string c.val, .string c.old], .bool true]) ∧ Below W.heap.size W w') := fun W => by rw [ht]; exact (implRead_is (by omega) W).mono fun en w' h => read_back hok h
    have HR2 : Hid (∀ W, Calls Try.prog 14 #[.string (t ++ ⟨#[120]⟩)] W fun en w' => en = .returned (.tuple #[.agg #[.int .i64 Cmds.noC.op, .int .i64 Cmds.noC.ses, .int .i64 Cmds.noC.seq, .string Cmds.noC.key, .string Cmds.noC.val, .string Cmds.noC.old], .bool false]) ∧ Below W.heap.size W w') := fun W => by rw [ht]; exact (implRead_is (by rw [ByteArray.size_append]; show _ + 1 ≤ _; omega) W).mono fun en w' h => read_not hok h
    rw [← ht] at hts
    rw [← ht]
    have z1 : ¬ 9223372036854775807 < t.size + 1 := by omega
    clear ht hok
    go_wp2_with fail
    refine Calls.mono (HR1.out _) ?_
    rintro en w3 ⟨rfl, hb3⟩
    have HB3 : Hid (Below W1.heap.size W1 w3) := HB2.out.trans (hb3.mono HB2.out.size)
    clear hb3 HB2
    obtain ⟨W3, hW3⟩ : ∃ W3, W3 = w3.alloc (Obj.cells #[.int .i64 c.op, .int .i64 c.ses, .int .i64 c.seq, .string c.key, .string c.val, .string c.old] 26) := ⟨_, rfl⟩
    obtain ⟨y, hy⟩ : ∃ y, y = w3.heap.size := ⟨_, rfl⟩
    have HY : Hid (∀ w2, Below W3.heap.size W3 w2 → w2.cell? ⟨y, 0, none⟩ = some (.int .i64 c.op) ∧ w2.cell? ⟨y, 1, none⟩ = some (.int .i64 c.ses) ∧ w2.cell? ⟨y, 2, none⟩ = some (.int .i64 c.seq) ∧ w2.cell? ⟨y, 3, none⟩ = some (.string c.key) ∧ w2.cell? ⟨y, 4, none⟩ = some (.string c.val) ∧ w2.cell? ⟨y, 5, none⟩ = some (.string c.old)) := fun w2 hb => by rw [hy]; exact cmdV_kept hW3 hb
    have HB4 : Hid (Below W1.heap.size W1 W3) := by rw [hW3]; exact HB3.out.alloc HB3.out.size _
    go_wp2_with fail
    rw [← hW3, ← hy]
    clear hW3 hy HB3
    refine Calls.mono (HR2.out _) ?_
    rintro en w4 ⟨rfl, hb4⟩
    obtain ⟨W4, hW4⟩ : ∃ W4, W4 = w4.alloc (Obj.cells #[.int .i64 Cmds.noC.op, .int .i64 Cmds.noC.ses, .int .i64 Cmds.noC.seq, .string Cmds.noC.key, .string Cmds.noC.val, .string Cmds.noC.old] 26) := ⟨_, rfl⟩
    have HB5 : Hid (Below W3.heap.size W3 W4) := by rw [hW4]; exact hb4.alloc hb4.size _
    have HB6 : Hid (Below W1.heap.size W1 W4) := HB4.out.trans (HB5.out.mono HB4.out.size)
    have hb4' : Below W1.heap.size W1 w4 := HB4.out.trans (hb4.mono HB4.out.size)
    have HX : Hid ((w4.alloc (Obj.cells #[.int .i64 Cmds.noC.op, .int .i64 Cmds.noC.ses, .int .i64 Cmds.noC.seq, .string Cmds.noC.key, .string Cmds.noC.val, .string Cmds.noC.old] 26)).heap[g]? = some (.cells #[.int .i64 c.op, .int .i64 c.ses, .int .i64 c.seq, .string c.key, .string c.val, .string c.old] 26 (0, 0))) := HH.out _ (hb4'.alloc hb4'.size _)
    have hn : g ≠ w4.heap.size := by have := HGL.out; have := hb4'.size; omega
    clear hb4 HB4 HR1 HR2 hb4'
    go_wp2_with (first | (refine wpList_loadA Try.isAgg26' Try.sizeOf26' rfl _ rfl g #[.int .i64 c.op, .int .i64 c.ses, .int .i64 c.seq, .string c.key, .string c.val, .string c.old] 26 rfl HX.out rfl ?_) | fail)
    rw [← hW4]
    clear hW4
    refine Calls.mono (HSO.out _) ?_
    rintro en w5 ⟨rfl, hb5⟩
    have HB7 : Hid (Below W3.heap.size W3 w5) := HB5.out.trans (hb5.mono HB5.out.size)
    have HB8 : Hid (Below W1.heap.size W1 w5) := HB6.out.trans (hb5.mono HB6.out.size)
    clear hb5 HB5 HB6 hn HX
    obtain ⟨c0, c1, c2, c3, c4, c5⟩ := HK.out _ HB8.out
    go_wp2_with fail
    refine Calls.mono (HIO.out _) ?_
    rintro en w6 ⟨rfl, hb6⟩
    have HB9 : Hid (Below W3.heap.size W3 w6) := HB7.out.trans (hb6.mono HB7.out.size)
    have HB10 : Hid (Below W1.heap.size W1 w6) := HB8.out.trans (hb6.mono HB8.out.size)
    clear c0 c1 c2 c3 c4 c5 hb6 HB7 HB8
    obtain ⟨c0, c1, c2, c3, c4, c5⟩ := HK.out _ HB10.out
    obtain ⟨d0, d1, d2, d3, d4, d5⟩ := HY.out _ HB9.out
    go_wp2
    go_ret
    exact ⟨rfl, HB1.out.trans (HB10.out.mono HB1.out.size)⟩
  | false =>
    rw [hok] at HSO HIO
    rw [if_neg (by simp)]
    clear hok
    go_wp2_with fail
    refine Calls.mono (implRead_is (by show (0 : Nat) ≤ 1048576; omega) _) ?_
    intro en w3 hp
    obtain ⟨hb3, d, R, rfl, _, _⟩ := read_one hp
    have HB3 : Hid (Below W1.heap.size W1 w3) := HB2.out.trans (hb3.mono HB2.out.size)
    clear hp hb3 HB2
    unfold cmdC
    obtain ⟨W3, hW3⟩ : ∃ W3, W3 = w3.alloc (Obj.cells #[.int .i64 d.op, .int .i64 d.ses, .int .i64 d.seq, .string d.key, .string d.val, .string d.old] 26) := ⟨_, rfl⟩
    have HB4 : Hid (Below W1.heap.size W1 W3) := by rw [hW3]; exact HB3.out.alloc HB3.out.size _
    go_wp2_with fail
    rw [← hW3]
    clear hW3 HB3
    refine Calls.mono (implRead_is (by show (1 : Nat) ≤ 1048576; omega) _) ?_
    intro en w4 hp
    obtain ⟨hb4, d2, R2, rfl, _, _⟩ := read_one hp
    obtain ⟨W4, hW4⟩ : ∃ W4, W4 = w4.alloc (Obj.cells #[.int .i64 d2.op, .int .i64 d2.ses, .int .i64 d2.seq, .string d2.key, .string d2.val, .string d2.old] 26) := ⟨_, rfl⟩
    have HB5 : Hid (Below W3.heap.size W3 W4) := by rw [hW4]; exact hb4.alloc hb4.size _
    have HB6 : Hid (Below W1.heap.size W1 W4) := HB4.out.trans (HB5.out.mono HB4.out.size)
    have hb4' : Below W1.heap.size W1 w4 := HB4.out.trans (hb4.mono HB4.out.size)
    have HX : Hid ((w4.alloc (Obj.cells #[.int .i64 d2.op, .int .i64 d2.ses, .int .i64 d2.seq, .string d2.key, .string d2.val, .string d2.old] 26)).heap[g]? = some (.cells #[.int .i64 c.op, .int .i64 c.ses, .int .i64 c.seq, .string c.key, .string c.val, .string c.old] 26 (0, 0))) := HH.out _ (hb4'.alloc hb4'.size _)
    have hn : g ≠ w4.heap.size := by have := HGL.out; have := hb4'.size; omega
    clear hp hb4 HB4 hb4'
    unfold cmdC
    go_wp2_with (first | (refine wpList_loadA Try.isAgg26' Try.sizeOf26' rfl _ rfl g #[.int .i64 c.op, .int .i64 c.ses, .int .i64 c.seq, .string c.key, .string c.val, .string c.old] 26 rfl HX.out rfl ?_) | fail)
    rw [← hW4]
    clear hW4
    refine Calls.mono (HSO.out _) ?_
    rintro en w5 ⟨rfl, hb5⟩
    have HB8 : Hid (Below W1.heap.size W1 w5) := HB6.out.trans (hb5.mono HB6.out.size)
    clear hb5 HB5 HB6 hn HX
    obtain ⟨c0, c1, c2, c3, c4, c5⟩ := HK.out _ HB8.out
    go_wp2_with fail
    refine Calls.mono (HIO.out _) ?_
    rintro en w6 ⟨rfl, hb6⟩
    have HB10 : Hid (Below W1.heap.size W1 w6) := HB8.out.trans (hb6.mono HB8.out.size)
    clear c0 c1 c2 c3 c4 c5 hb6 HB8
    go_wp2
    go_ret
    exact ⟨rfl, HB1.out.trans (HB10.out.mono HB1.out.size)⟩
end Go.Proofs.Ytlmjhobijgmolaa
