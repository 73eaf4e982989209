/- CommandText of the program, walked. -/
import Derived.Test.YtlmjhobijgmolaaSpecTxt
import Derived.Test.YtlmjhobijgmolaaImplCmd
namespace Go.Proofs.Ytlmjhobijgmolaa
open Go.RowKit
open Cmds (okC)
set_option linter.unusedVariables false
set_option linter.unusedSimpArgs false

set_option maxHeartbeats 4000000 in
set_option maxRecDepth 100000 in
theorem implTxt_yes (c : CmdL) (hok : okC c = true) (w : World) : Calls Try.prog 12 #[cmdV c] w fun en w' => en = .returned (.tuple #[.string (Cmds.textS c), .bool true]) ∧ Below w.heap.size w w' := by
  have h := Cmds.fits hok
  obtain ⟨o1, o2, o3, o4, o5, o6⟩ := h
  have HQ : Hid (∀ W, Calls Try.prog 10 #[.agg #[.int .i64 c.op, .int .i64 c.ses, .int .i64 c.seq, .string c.key, .string c.val, .string c.old]] W fun en w' => en = .returned (.bool true) ∧ Below W.heap.size W w') := fun W => by rw [← hok]; exact implCmdOk_is c ⟨by omega, by omega, by omega⟩ W
  obtain ⟨W, hW⟩ : ∃ W, W = w.alloc (Obj.cells #[.int .i64 c.op, .int .i64 c.ses, .int .i64 c.seq, .string c.key, .string c.val, .string c.old] 26) := ⟨_, rfl⟩
  have HE : Hid (CmdAt W w.heap.size c) := by rw [hW]; exact CmdAt.new w c
  have HB : Hid (Below w.heap.size w W) := by show Below _ _ _; rw [hW]; exact (Below.refl _ _).alloc (Nat.le_refl _) _
  obtain ⟨b, hb⟩ : ∃ b, b = UInt8.ofNat c.op.toNat := ⟨_, rfl⟩
  have HWK : Hid (IntKind.u8.wrap c.op = (b.toNat : Int)) := by show _ = _; rw [hb]; exact wrap_op _ o1.1 o1.2
  have HT : Hid (Cmds.textS c = ((⟨#[b]⟩ : ByteArray) ++ varS c.ses ++ varS c.seq ++ shortS c.key ++ shortS c.val ++ shortS c.old)) := by show _ = _; rw [hb]; exact (textS_is c).symm
  have sz1 := varS_size c.ses 100000 (by omega)
  have sz2 := varS_size c.seq 100000 (by omega)
  have sz3 := shortS_size c.key 9 o4
  have sz4 := shortS_size c.val 12 o5
  have sz5 := shortS_size c.old 12 o6
  have sb : (byteS b).size = 1 := rfl
  obtain ⟨g, hg⟩ : ∃ g, g = w.heap.size := ⟨_, rfl⟩
  rw [← hg] at HE
  unfold cmdV
  clear hok hb
  go_enter Try.func12, Try.ntmps12
  go_wp2_with fail
  rw [← hW, ← hg]
  clear hW hg
  refine Calls.mono (HQ.out _) ?_
  rintro en w1 ⟨rfl, hb1⟩
  have HB1 : Hid (Below w.heap.size w w1) := HB.out.trans (hb1.mono HB.out.size)
  have he1 : CmdAt w1 g c := HE.out.kept hb1
  have HE1 : Hid (CmdAt w1 g c) := he1
  obtain ⟨d0, d1, d2, d3, d4, d5⟩ := he1
  clear hb1 HB HE HQ d3 d4 d5
  go_wp2_with fail
  have z1 : ¬ 9223372036854775807 < (byteS b).size + (varS c.ses).size := by omega
  have z2 : ¬ 9223372036854775807 < (byteS b ++ varS c.ses).size + (varS c.seq).size := by rw [ByteArray.size_append]; omega
  have hwk := HWK.out
  have NE := Abv.ne w1
  have F0 := fun x : Abv w1 => x.cell d0
  have F1 := fun x : Abv w1 => x.cell d1
  have F2 := fun x : Abv w1 => x.cell d2
  refine wp_region_above (by kernel_rfl) (by kernel_rfl) ?_
  repeat (go_big_quiet_step (first | (go_at_call 23; exact calls_above (byteOf_q _ b HWK.out _)) | (go_at_call 24; exact calls_above (varOf_q _ (by omega) (by omega) _))))
  refine wpQuiet_nil ?_
  rintro w2 ⟨⟨_, hb2⟩, rfl⟩
  clear NE F0 F1 F2 d0 d1 d2 hwk
  have HB2 : Hid (Below w.heap.size w w2) := HB1.out.trans (hb2.mono HB1.out.size)
  obtain ⟨d0, d1, d2, d3, d4, d5⟩ := HE1.out.kept hb2
  clear d0 d1 d2 HE1 HB1 hb2
  go_wp2_with fail
  have y0 : (byteS b ++ varS c.ses ++ varS c.seq).size ≤ 300000 := by rw [ByteArray.size_append, ByteArray.size_append]; omega
  obtain ⟨S0, hS0⟩ : ∃ S0, S0 = byteS b ++ varS c.ses ++ varS c.seq := ⟨_, rfl⟩
  rw [← hS0] at y0 ⊢
  have HS0 : Hid (S0 = byteS b ++ varS c.ses ++ varS c.seq) := hS0
  clear hS0 z1 z2
  have z1 : ¬ 9223372036854775807 < S0.size + (shortS c.key).size := by omega
  have z2 : ¬ 9223372036854775807 < (S0 ++ shortS c.key).size + (shortS c.val).size := by rw [ByteArray.size_append]; omega
  have z3 : ¬ 9223372036854775807 < (S0 ++ shortS c.key ++ shortS c.val).size + (shortS c.old).size := by rw [ByteArray.size_append, ByteArray.size_append]; omega
  have NE := Abv.ne w2
  have F0 := fun x : Abv w2 => x.cell d3
  have F1 := fun x : Abv w2 => x.cell d4
  have F2 := fun x : Abv w2 => x.cell d5
  refine wp_region_above (by kernel_rfl) (by kernel_rfl) ?_
  repeat (go_big_quiet_step (first | (go_at_call 25; exact calls_above (shortOf_q _ (by omega) _))))
  refine wpQuiet_nil ?_
  rintro w3 ⟨⟨_, hb3⟩, rfl⟩
  clear NE F0 F1 F2 z1 z2 z3
  go_wp2
  go_ret2
  exact ⟨by rw [HT.out, HS0.out]; rfl, HB2.out.trans (hb3.mono HB2.out.size)⟩
set_option maxHeartbeats 1000000 in
theorem implTxt_no (c : CmdL) (hs : c.key.size ≤ 1048576 ∧ c.val.size ≤ 1048576 ∧ c.old.size ≤ 1048576) (hok : okC c = false) (w : World) : Calls Try.prog 12 #[cmdV c] w fun en w' => en = .returned (.tuple #[.string ⟨#[]⟩, .bool false]) ∧ Below w.heap.size w w' := by
  have HQ : Hid (∀ W, Calls Try.prog 10 #[.agg #[.int .i64 c.op, .int .i64 c.ses, .int .i64 c.seq, .string c.key, .string c.val, .string c.old]] W fun en w' => en = .returned (.bool false) ∧ Below W.heap.size W w') := fun W => by rw [← hok]; exact implCmdOk_is c hs W
  have HB : Hid (Below w.heap.size w (w.alloc (Obj.cells #[.int .i64 c.op, .int .i64 c.ses, .int .i64 c.seq, .string c.key, .string c.val, .string c.old] 26))) := (Below.refl _ _).alloc (Nat.le_refl _) _
  unfold cmdV
  clear hok hs
  go_enter Try.func12, Try.ntmps12
  go_wp2_with (go_at_call 10; refine Calls.mono (HQ.out _) ?_; rintro en w1 ⟨rfl, hb1⟩)
  go_ret2
  exact ⟨rfl, HB.out.trans (hb1.mono HB.out.size)⟩
theorem implTxt_is (c : CmdL) (hs : c.key.size ≤ 1048576 ∧ c.val.size ≤ 1048576 ∧ c.old.size ≤ 1048576) (w : World) : Calls Try.prog 12 #[cmdV c] w fun en w' => en = .returned (textV c) ∧ Below w.heap.size w w' := by
  unfold textV
  cases hok : okC c with
  | true =>
    rw [if_pos rfl]
    exact implTxt_yes c hok w
  | false =>
    rw [if_neg (by simp)]
    exact implTxt_no c hs hok w
end Go.Proofs.Ytlmjhobijgmolaa
