/- CommandText of the specification, walked. -/
import Derived.Test.YtlmjhobijgmolaaSpecCmd
namespace Go.Proofs.Ytlmjhobijgmolaa
open Go.RowKit
open Cmds (okC)
set_option linter.unusedVariables false
set_option linter.unusedSimpArgs false

/-- The cells of a command that lies at g. -/
def CmdAt (W : World) (g : Nat) (c : CmdL) : Prop := W.cell? ⟨g, 0, none⟩ = some (.int .i64 c.op) ∧ W.cell? ⟨g, 1, none⟩ = some (.int .i64 c.ses) ∧ W.cell? ⟨g, 2, none⟩ = some (.int .i64 c.seq) ∧ W.cell? ⟨g, 3, none⟩ = some (.string c.key) ∧ W.cell? ⟨g, 4, none⟩ = some (.string c.val) ∧ W.cell? ⟨g, 5, none⟩ = some (.string c.old)
theorem CmdAt.new (w : World) (c : CmdL) : CmdAt (w.alloc (Obj.cells #[.int .i64 c.op, .int .i64 c.ses, .int .i64 c.seq, .string c.key, .string c.val, .string c.old] 26)) w.heap.size c := by
  have p0 := heap_alloc_new w (Obj.cells #[.int .i64 c.op, .int .i64 c.ses, .int .i64 c.seq, .string c.key, .string c.val, .string c.old] 26)
  exact ⟨cell_of_row _ _ 0 _ _ _ p0, cell_of_row _ _ 1 _ _ _ p0, cell_of_row _ _ 2 _ _ _ p0, cell_of_row _ _ 3 _ _ _ p0, cell_of_row _ _ 4 _ _ _ p0, cell_of_row _ _ 5 _ _ _ p0⟩
theorem CmdAt.kept {W W' : World} {g : Nat} {c : CmdL} (h : CmdAt W g c) (hb : Below W.heap.size W W') : CmdAt W' g c := by
  have hl := World.block_lt_of_cell? W _ h.1
  obtain ⟨h0, h1, h2, h3, h4, h5⟩ := h
  exact ⟨(hb.cell (p := ⟨g, 0, none⟩) hl).trans h0, (hb.cell (p := ⟨g, 1, none⟩) hl).trans h1, (hb.cell (p := ⟨g, 2, none⟩) hl).trans h2, (hb.cell (p := ⟨g, 3, none⟩) hl).trans h3, (hb.cell (p := ⟨g, 4, none⟩) hl).trans h4, (hb.cell (p := ⟨g, 5, none⟩) hl).trans h5⟩
theorem wrap_op (k : Int) (h0 : 1 ≤ k) (h1 : k ≤ 5) : IntKind.u8.wrap k = ((UInt8.ofNat k.toNat).toNat : Int) := by
  have : k = 1 ∨ k = 2 ∨ k = 3 ∨ k = 4 ∨ k = 5 := by omega
  rcases this with rfl | rfl | rfl | rfl | rfl <;> decide
set_option maxHeartbeats 8000000 in
set_option maxRecDepth 100000 in
theorem specTxt_raw (c : CmdL) (hok : okC c = true) (w : World) : Calls Try.prog 11 #[cmdV c] w fun en w' => en = .returned (.tuple #[.string ((⟨#[UInt8.ofNat c.op.toNat]⟩ : ByteArray) ++ varS c.ses ++ varS c.seq ++ shortS c.key ++ shortS c.val ++ shortS c.old), .bool true]) ∧ Below w.heap.size w w' := by
  have h := Cmds.fits hok
  obtain ⟨o1, o2, o3, o4, o5, o6⟩ := h
  have hq : ∀ W, Calls Try.prog 8 #[cmdV c] W fun en w' => en = .returned (.bool true) ∧ Below W.heap.size W w' := fun W => by rw [← hok]; exact specCmdOk_is c ⟨by omega, by omega, by omega⟩ W
  unfold cmdV at hq ⊢
  have HQ : Hid (∀ W, Calls Try.prog 8 #[.agg #[.int .i64 c.op, .int .i64 c.ses, .int .i64 c.seq, .string c.key, .string c.val, .string c.old]] W fun en w' => en = .returned (.bool true) ∧ Below W.heap.size W w') := hq
  obtain ⟨W, hW⟩ : ∃ W, W = w.alloc (Obj.cells #[.int .i64 c.op, .int .i64 c.ses, .int .i64 c.seq, .string c.key, .string c.val, .string c.old] 26) := ⟨_, rfl⟩
  have HE : Hid (CmdAt W w.heap.size c) := by rw [hW]; exact CmdAt.new w c
  have HB : Hid (Below w.heap.size w W) := by show Below _ _ _; rw [hW]; exact (Below.refl _ _).alloc (Nat.le_refl _) _
  obtain ⟨b, hb⟩ : ∃ b, b = UInt8.ofNat c.op.toNat := ⟨_, rfl⟩
  have HWK : Hid (IntKind.u8.wrap c.op = (b.toNat : Int)) := by show _ = _; rw [hb]; exact wrap_op _ o1.1 o1.2
  obtain ⟨g, hg⟩ : ∃ g, g = w.heap.size := ⟨_, rfl⟩
  rw [← hg] at HE
  have HC : Hid (∀ W', Below W.heap.size W W' → CmdAt W' g c) := fun W' h => HE.out.kept h
  have sz1 := varS_size c.ses 100000 (by omega)
  have sz2 := varS_size c.seq 100000 (by omega)
  have sz3 := shortS_size c.key 9 o4
  have sz4 := shortS_size c.val 12 o5
  have sz5 := shortS_size c.old 12 o6
  obtain ⟨T1, hT1⟩ : ∃ T, T = varS c.ses := ⟨_, rfl⟩
  obtain ⟨T2, hT2⟩ : ∃ T, T = varS c.seq := ⟨_, rfl⟩
  obtain ⟨T3, hT3⟩ : ∃ T, T = shortS c.key := ⟨_, rfl⟩
  obtain ⟨T4, hT4⟩ : ∃ T, T = shortS c.val := ⟨_, rfl⟩
  obtain ⟨T5, hT5⟩ : ∃ T, T = shortS c.old := ⟨_, rfl⟩
  have HV1 : Hid (∀ (W : World), Calls Try.prog 21 #[.int .i64 c.ses] W fun en w' => en = .returned (.string T1) ∧ Below W.heap.size W w') := fun W => by rw [hT1]; exact l01Var_q _ o2.1 (by omega) W
  have HV2 : Hid (∀ (W : World), Calls Try.prog 21 #[.int .i64 c.seq] W fun en w' => en = .returned (.string T2) ∧ Below W.heap.size W w') := fun W => by rw [hT2]; exact l01Var_q _ o3.1 (by omega) W
  have HV3 : Hid (∀ (W : World), Calls Try.prog 22 #[.string c.key] W fun en w' => en = .returned (.string T3) ∧ Below W.heap.size W w') := fun W => by rw [hT3]; exact l05Short_q _ (by omega) W
  have HV4 : Hid (∀ (W : World), Calls Try.prog 22 #[.string c.val] W fun en w' => en = .returned (.string T4) ∧ Below W.heap.size W w') := fun W => by rw [hT4]; exact l05Short_q _ (by omega) W
  have HV5 : Hid (∀ (W : World), Calls Try.prog 22 #[.string c.old] W fun en w' => en = .returned (.string T5) ∧ Below W.heap.size W w') := fun W => by rw [hT5]; exact l05Short_q _ (by omega) W
  rw [← hT1] at sz1
  rw [← hT2] at sz2
  rw [← hT3] at sz3
  rw [← hT4] at sz4
  rw [← hT5] at sz5
  rw [← hb, ← hT1, ← hT2, ← hT3, ← hT4, ← hT5]
  clear HE hq hb hT1 hT2 hT3 hT4 hT5 hok
  have z1 : ¬ 9223372036854775807 < 1 + T1.size := by omega
  have z2 : ¬ 9223372036854775807 < 1 + T1.size + T2.size := by omega
  have z3 : ¬ 9223372036854775807 < 1 + T1.size + T2.size + T3.size := by omega
  have z4 : ¬ 9223372036854775807 < 1 + T1.size + T2.size + T3.size + T4.size := by omega
  have z5 : ¬ 9223372036854775807 < 1 + T1.size + T2.size + T3.size + T4.size + T5.size := by omega
  go_enter Try.func11, Try.ntmps11
  go_wp2_with fail
  rw [← hW, ← hg]
  clear hW hg
  refine Calls.mono (HQ.out _) ?_
  rintro en w1 ⟨rfl, hb1⟩
  have HB1 : Hid (Below w.heap.size w w1) := HB.out.trans (hb1.mono HB.out.size)
  have HE1 : Hid (CmdAt w1 g c) := HC.out _ hb1
  clear hb1 HB HC HQ
  go_wp2_with fail
  have hw := HWK.out
  have HK : Hid (∀ W W' : World, Below w1.heap.size w1 W → Below W.heap.size W W' → Below w1.heap.size w1 W') := fun W W' a b => a.trans (b.mono a.size)
  have HEC : Hid (∀ W, Below w1.heap.size w1 W → CmdAt W g c) := fun W a => HE1.out.kept a
  have HR1 : Hid (∀ X W' : World, Below (X.alloc (Obj.cells #[.int .u8 (b.toNat : Int)] 5)).heap.size (X.alloc (Obj.cells #[.int .u8 (b.toNat : Int)] 5)) W' → RowAt W' X.heap.size b) := fun X W' a => (RowAt.new X b).kept a
  have HR0 : Hid (∀ W' : World, Below (w1.drew.alloc (Obj.cells #[.int .u8 (b.toNat : Int)] 5)).heap.size (w1.drew.alloc (Obj.cells #[.int .u8 (b.toNat : Int)] 5)) W' → RowAt W' w1.heap.size b) := fun W' a => (RowAt.new w1.drew b).kept a
  have HR2 : Hid (∀ (X W' : World) (q : Nat), RowAt X q b → Below X.heap.size X W' → RowAt W' q b) := fun X W' q a c => RowAt.kept a c
  have cv0 : ∀ X : World, (convert 35 9 (.slice (some ⟨X.heap.size, 0, none⟩) 1 1)).run Try.prog (X.alloc (Obj.cells #[.int .u8 (b.toNat : Int)] 5)) = .ok (.string ⟨#[b]⟩) (X.alloc (Obj.cells #[.int .u8 (b.toNat : Int)] 5)) := fun X => (RowAt.new X b).cv
  have cv00 : (convert 35 9 (.slice (some ⟨w1.heap.size, 0, none⟩) 1 1)).run Try.prog (w1.alloc (Obj.cells #[.int .u8 (b.toNat : Int)] 5)).drew = .ok (.string ⟨#[b]⟩) (w1.alloc (Obj.cells #[.int .u8 (b.toNat : Int)] 5)).drew := (RowAt.new w1.drew b).cv
  have HEND : Hid (∀ W, Below w1.heap.size w1 W → Below w.heap.size w W) := fun W a => HB1.out.trans (a.mono HB1.out.size)
  have BD : Below w1.heap.size w1 w1.drew := (Below.refl _ _).drew
  clear HWK HE1 HB1
  go_region_held (fun w' => (w'.cell? ⟨g, 0, none⟩ = some (.int .i64 c.op) ∧ w'.cell? ⟨g, 1, none⟩ = some (.int .i64 c.ses) ∧ w'.cell? ⟨g, 2, none⟩ = some (.int .i64 c.seq) ∧ w'.cell? ⟨g, 3, none⟩ = some (.string c.key) ∧ w'.cell? ⟨g, 4, none⟩ = some (.string c.val) ∧ w'.cell? ⟨g, 5, none⟩ = some (.string c.old)) ∧ Below w1.heap.size w1 w')
    (first | assumption | exact ⟨HEC.out _ (by assumption), by assumption⟩ | exact ⟨HEC.out _ (Below.alloc (And.right (by assumption)) (Below.size (And.right (by assumption))) _), Below.alloc (And.right (by assumption)) (Below.size (And.right (by assumption))) _⟩ | fail)
    (first | (go_at_call 21; (first | (with_reducible refine Calls.mono (HV1.out _) ?_) | (with_reducible refine Calls.mono (HV2.out _) ?_) | fail); rintro en w5 ⟨rfl, hb5⟩; have hq5 := HK.out _ _ (And.right (by assumption)) hb5; (first | (have r5 := HR2.out _ _ _ (by assumption) hb5; have cv5 := r5.cv; clear hb5) | (have r5 := HR0.out _ hb5; have cv5 := r5.cv; clear hb5) | (have r5 := HR1.out _ _ hb5; have cv5 := r5.cv; clear hb5) | (clear hb5))) | (go_at_call 22; (first | (with_reducible refine Calls.mono (HV3.out _) ?_) | (with_reducible refine Calls.mono (HV4.out _) ?_) | (with_reducible refine Calls.mono (HV5.out _) ?_) | fail); rintro en w5 ⟨rfl, hb5⟩; have hq5 := HK.out _ _ (And.right (by assumption)) hb5; (first | (have r5 := HR2.out _ _ _ (by assumption) hb5; have cv5 := r5.cv; clear hb5) | (have r5 := HR0.out _ hb5; have cv5 := r5.cv; clear hb5) | (have r5 := HR1.out _ _ hb5; have cv5 := r5.cv; clear hb5) | (clear hb5))) | fail)
  all_goals (
    go_wp2
    go_ret2
    exact ⟨rfl, HEND.out _ (And.right (by assumption))⟩)
def textV (c : CmdL) : Value := if okC c = true then .tuple #[.string (Cmds.textS c), .bool true] else .tuple #[.string ⟨#[]⟩, .bool false]
theorem textS_is (c : CmdL) : ((⟨#[UInt8.ofNat c.op.toNat]⟩ : ByteArray) ++ varS c.ses ++ varS c.seq ++ shortS c.key ++ shortS c.val ++ shortS c.old) = Cmds.textS c := by
  have h := (((((Is.mk [Cmds.bt c.op]).app (varS_is c.ses)).app (varS_is c.seq)).app (shortS_is c.key)).app (shortS_is c.val)).app (shortS_is c.old)
  exact h.eq
set_option maxHeartbeats 1000000 in
theorem specTxt_no (c : CmdL) (hs : c.key.size ≤ 1048576 ∧ c.val.size ≤ 1048576 ∧ c.old.size ≤ 1048576) (hok : okC c = false) (w : World) : Calls Try.prog 11 #[cmdV c] w fun en w' => en = .returned (.tuple #[.string ⟨#[]⟩, .bool false]) ∧ Below w.heap.size w w' := by
  have HQ : Hid (∀ W, Calls Try.prog 8 #[.agg #[.int .i64 c.op, .int .i64 c.ses, .int .i64 c.seq, .string c.key, .string c.val, .string c.old]] W fun en w' => en = .returned (.bool false) ∧ Below W.heap.size W w') := fun W => by rw [← hok]; exact specCmdOk_is c hs W
  have HB : Hid (Below w.heap.size w (w.alloc (Obj.cells #[.int .i64 c.op, .int .i64 c.ses, .int .i64 c.seq, .string c.key, .string c.val, .string c.old] 26))) := (Below.refl _ _).alloc (Nat.le_refl _) _
  unfold cmdV
  clear hok hs
  go_enter Try.func11, Try.ntmps11
  go_wp2_with (go_at_call 8; refine Calls.mono (HQ.out _) ?_; rintro en w1 ⟨rfl, hb1⟩)
  go_ret2
  exact ⟨rfl, HB.out.trans (hb1.mono HB.out.size)⟩
theorem specTxt_is (c : CmdL) (hs : c.key.size ≤ 1048576 ∧ c.val.size ≤ 1048576 ∧ c.old.size ≤ 1048576) (w : World) : Calls Try.prog 11 #[cmdV c] w fun en w' => en = .returned (textV c) ∧ Below w.heap.size w w' := by
  unfold textV
  cases hok : okC c with
  | true =>
    rw [if_pos rfl, ← textS_is]
    exact specTxt_raw c hok w
  | false =>
    rw [if_neg (by simp)]
    exact specTxt_no c hs hok w
end Go.Proofs.Ytlmjhobijgmolaa
