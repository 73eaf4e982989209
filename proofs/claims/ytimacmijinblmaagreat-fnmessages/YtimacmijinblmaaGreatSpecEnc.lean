/- The specification's Encode of a right message, walked. -/
import Derived.Test.YtimacmijinblmaaGreatSpecEncA
import Derived.Test.YtimacmijinblmaaGreatRegInv
namespace Go.Proofs.YtimacmijinblmaaGreat
open Go.RowKit
open Ents (okB)
open Msgs (okM bt)
set_option linter.unusedVariables false
set_option linter.unusedSimpArgs false

/-- Three bytes in a block that a call has laid. -/
def Built (x y z : UInt8) (v : Value) (W : World) : Prop := ∃ g, v = .slice (some ⟨g, 0, none⟩) 3 3 ∧ Row3 W g x y z
theorem Built.new (W : World) (x y z : UInt8) : Built x y z (.slice (some ⟨W.heap.size, 0, none⟩) 3 3) (W.alloc (Obj.cells #[.int .u8 (x.toNat : Int), .int .u8 (y.toNat : Int), .int .u8 (z.toNat : Int)] 5)) := ⟨_, rfl, Row3.new W x y z⟩
theorem Built.cv {x y z : UInt8} {v : Value} {W : World} (h : Built x y z v W) : (convert 31 9 v).run Tryz.prog W = .ok (.string ⟨#[x, y, z]⟩) W := by
  obtain ⟨g, rfl, h2⟩ := h
  exact h2.cv
theorem Built.kept {x y z : UInt8} {v : Value} {W W' : World} (h : Built x y z v W) (hb : Below W.heap.size W W') : Built x y z v W' := by
  obtain ⟨g, h1, h2⟩ := h
  exact ⟨g, h1, h2.kept hb⟩
set_option maxHeartbeats 16000000 in
set_option maxRecDepth 100000 in
theorem specEnc_yes {a b : Option Addr} {g off cap h offb capb : Nat} (m : MsgL) (hok : okM m = true) (hd : ∀ e ∈ m.ents, e.data.size ≤ 1048576) (w : World) (hf : EnAt w a g off m.ents) (hc : IntAt w b h offb m.conf) :
    Calls Tryz.prog 21 #[msgV m a cap b capb] w fun en w' => en = .returned (.tuple #[.string (Msgs.textS m), .bool true]) ∧ Below w.heap.size w w' := by
  have F := Msgs.fits hok
  have hl4 := F.len
  have hlc : m.conf.length ≤ 4 := by
    rcases F.conf with x | x
    · exact (Ents.conf_in x).1.2
    · rw [x]; exact Nat.zero_le _
  have hds := F.data
  have HQ : Hid (∀ W', EnAt W' a g off m.ents → IntAt W' b h offb m.conf → Calls Tryz.prog 13 #[.agg #[.int .i64 m.kind, .int .i64 m.frm, .int .i64 m.dst, .int .i64 m.term, .int .i64 m.index, .int .i64 m.lterm, .int .i64 m.commit, .bool m.ok, .slice a m.ents.length cap, .slice b m.conf.length capb, .string m.data, .bool m.last]] W' fun en w' => en = .returned (.bool true) ∧ Below W'.heap.size W' w') := fun W' x y => by
    have := specMsgOk_is (cap := cap) (capb := capb) m (by omega) hd (by omega) (by omega) W' x y
    rw [hok] at this
    exact this
  unfold msgV
  obtain ⟨W, hW⟩ : ∃ W, W = w.alloc (Obj.cells (msgC m a cap b capb) 25) := ⟨_, rfl⟩
  have hb : Below w.heap.size w W := by rw [hW]; exact (Below.refl _ _).alloc (Nat.le_refl _) _
  have HB : Hid (Below w.heap.size w W) := hb
  have hla : MsgAt W w.heap.size m a cap b capb := by rw [hW]; exact MsgAt.new w m a cap b capb 25
  have HEN : Hid (∀ W', Below W.heap.size W W' → EnAt W' a g off m.ents) := fun W' x => (hf.kept hb).kept x
  have HCO : Hid (∀ W', Below W.heap.size W W' → IntAt W' b h offb m.conf) := fun W' x => (hc.kept hb).kept x
  obtain ⟨q, hq⟩ : ∃ q, q = w.heap.size := ⟨_, rfl⟩
  rw [← hq] at hla
  have HLA : Hid (∀ W', Below W.heap.size W W' → MsgAt W' q m a cap b capb) := fun W' x => hla.kept x
  have HWD : Hid (w.alloc (Obj.cells #[.int .i64 m.kind, .int .i64 m.frm, .int .i64 m.dst, .int .i64 m.term, .int .i64 m.index, .int .i64 m.lterm, .int .i64 m.commit, .bool m.ok, .slice a m.ents.length cap, .slice b m.conf.length capb, .string m.data, .bool m.last] 25) = W) := hW.symm
  clear hla hb hf hc hW
  go_enter Tryz.func21, Tryz.ntmps21
  go_wp2_with fail
  rw [HWD.out, ← hq]
  clear HWD hq
  refine Calls.mono (HQ.out _ (HEN.out _ (Below.refl _ _)) (HCO.out _ (Below.refl _ _))) ?_
  rintro en w1 ⟨rfl, hb1⟩
  have HB1 : Hid (Below W.heap.size W w1) := hb1
  clear hb1 HQ
  have szT1 := varS_size m.term 100000 (by have := F.term; omega)
  have HVT10 := fun W => l01Var_q m.term (F.term).1 (by have := F.term; omega) W
  have szT2 := varS_size m.index 100000 (by have := F.index; omega)
  have HVT20 := fun W => l01Var_q m.index (F.index).1 (by have := F.index; omega) W
  have szT3 := varS_size m.lterm 100000 (by have := F.lterm; omega)
  have HVT30 := fun W => l01Var_q m.lterm (F.lterm).1 (by have := F.lterm; omega) W
  have szT4 := varS_size m.commit 100000 (by have := F.commit; omega)
  have HVT40 := fun W => l01Var_q m.commit (F.commit).1 (by have := F.commit; omega) W
  have szT5 := varS_size (m.ents.length : Int) 100000 (by omega)
  have HVT50 := fun W => l01Var_q (m.ents.length : Int) (by omega) (by omega) W
  have HF10 := fun W => flag_q m.ok W
  have HF20 := fun W => flag_q m.last W
  have szF1 := flagS_size m.ok
  have szF2 := flagS_size m.last
  have wk1 := wrap_small m.kind F.kind.1 F.kind.2
  have wk2 := wrap_small m.frm F.frm.1 (by have := F.frm; omega)
  have wk3 := wrap_small m.dst F.dst.1 (by have := F.dst; omega)
  obtain ⟨x, hx⟩ : ∃ x, x = bt m.kind := ⟨_, rfl⟩
  obtain ⟨y, hy⟩ : ∃ y, y = bt m.frm := ⟨_, rfl⟩
  obtain ⟨z, hz⟩ : ∃ z, z = bt m.dst := ⟨_, rfl⟩
  have hfr := front_is m x y z hx hy hz
  rw [← hx] at wk1
  rw [← hy] at wk2
  rw [← hz] at wk3
  clear hx hy hz
  generalize varS m.term = T1 at szT1 HVT10 hfr
  generalize varS m.index = T2 at szT2 HVT20 hfr
  generalize varS m.lterm = T3 at szT3 HVT30 hfr
  generalize varS m.commit = T4 at szT4 HVT40 hfr
  generalize flagS m.ok = F1 at szF1 HF10 hfr
  generalize flagS m.last = F2 at szF2 HF20 hfr
  generalize varS (m.ents.length : Int) = T5 at szT5 HVT50 hfr
  have z1 : ¬ 9223372036854775807 < 3 + T1.size := by omega
  have z2 : ¬ 9223372036854775807 < 3 + T1.size + T2.size := by omega
  have z3 : ¬ 9223372036854775807 < 3 + T1.size + T2.size + T3.size := by omega
  have z4 : ¬ 9223372036854775807 < 3 + T1.size + T2.size + T3.size + T4.size := by omega
  have z5 : ¬ 9223372036854775807 < 3 + T1.size + T2.size + T3.size + T4.size + F1.size := by omega
  have z6 : ¬ 9223372036854775807 < 3 + T1.size + T2.size + T3.size + T4.size + F1.size + F2.size := by omega
  have z7 : ¬ 9223372036854775807 < 3 + T1.size + T2.size + T3.size + T4.size + F1.size + F2.size + T5.size := by omega
  have HT1 : Hid (∀ W, Calls Tryz.prog 43 #[.int .i64 m.term] W fun en w' => en = .returned (.string T1) ∧ Below W.heap.size W w') := HVT10
  have HT2 : Hid (∀ W, Calls Tryz.prog 43 #[.int .i64 m.index] W fun en w' => en = .returned (.string T2) ∧ Below W.heap.size W w') := HVT20
  have HT3 : Hid (∀ W, Calls Tryz.prog 43 #[.int .i64 m.lterm] W fun en w' => en = .returned (.string T3) ∧ Below W.heap.size W w') := HVT30
  have HT4 : Hid (∀ W, Calls Tryz.prog 43 #[.int .i64 m.commit] W fun en w' => en = .returned (.string T4) ∧ Below W.heap.size W w') := HVT40
  have HT5 : Hid (∀ W, Calls Tryz.prog 43 #[.int .i64 (m.ents.length : Int)] W fun en w' => en = .returned (.string T5) ∧ Below W.heap.size W w') := HVT50
  have HF1 : Hid (∀ W, Calls Tryz.prog 44 #[.bool m.ok] W fun en w' => en = .returned (.string F1) ∧ Below W.heap.size W w') := HF10
  have HF2 : Hid (∀ W, Calls Tryz.prog 44 #[.bool m.last] W fun en w' => en = .returned (.string F2) ∧ Below W.heap.size W w') := HF20
  have HFR : Hid (Is (⟨#[x, y, z]⟩ ++ T1 ++ T2 ++ T3 ++ T4 ++ F1 ++ F2 ++ T5) (Msgs.front m)) := hfr
  have hsum : 3 + T1.size + T2.size + T3.size + T4.size + F1.size + F2.size + T5.size ≤ 1000000 := by omega
  clear HVT10 HVT20 HVT30 HVT40 HVT50 HF10 HF20 hfr szT1 szT2 szT3 szT4 szT5 szF1 szF2
  go_wp2_with fail
  have HMC : Hid (∀ w', Below w1.heap.size w1 w' → MsgAt w' q m a cap b capb) := fun w' x => HLA.out w' (HB1.out.trans (x.mono HB1.out.size))
  go_cut [4] (fun s wx => s = .string (⟨#[x, y, z]⟩ ++ T1 ++ T2 ++ T3 ++ T4 ++ F1 ++ F2 ++ T5) ∧ Hid (Below w1.heap.size w1 wx))
  case first =>
    rename_i J K1 hJ hK
    refine Inv.region_walk 87 (fun i v W => if i = 9 then Built x y z v W else v = [.pointer (some ⟨q, 0, none⟩), .int .i64 m.kind, .int .u8 (x.toNat : Int), .pointer (some ⟨q, 1, none⟩), .int .i64 m.frm, .int .u8 (y.toNat : Int), .pointer (some ⟨q, 2, none⟩), .int .i64 m.dst, .int .u8 (z.toNat : Int), undef, .string (⟨#[x, y, z]⟩ : ByteArray), .pointer (some ⟨q, 3, none⟩), .int .i64 m.term, .string T1, .string ((⟨#[x, y, z]⟩ : ByteArray) ++ T1), .pointer (some ⟨q, 4, none⟩), .int .i64 m.index, .string T2, .string ((⟨#[x, y, z]⟩ : ByteArray) ++ T1 ++ T2), .pointer (some ⟨q, 5, none⟩), .int .i64 m.lterm, .string T3, .string ((⟨#[x, y, z]⟩ : ByteArray) ++ T1 ++ T2 ++ T3), .pointer (some ⟨q, 6, none⟩), .int .i64 m.commit, .string T4, .string ((⟨#[x, y, z]⟩ : ByteArray) ++ T1 ++ T2 ++ T3 ++ T4), .pointer (some ⟨q, 7, none⟩), .bool m.ok, .string F1, .string ((⟨#[x, y, z]⟩ : ByteArray) ++ T1 ++ T2 ++ T3 ++ T4 ++ F1), .pointer (some ⟨q, 11, none⟩), .bool m.last, .string F2, .string ((⟨#[x, y, z]⟩ : ByteArray) ++ T1 ++ T2 ++ T3 ++ T4 ++ F1 ++ F2), .pointer (some ⟨q, 8, none⟩), .slice a m.ents.length cap, .int .i64 (m.ents.length : Int), .string T5, .string ((⟨#[x, y, z]⟩ : ByteArray) ++ T1 ++ T2 ++ T3 ++ T4 ++ F1 ++ F2 ++ T5), .string ((⟨#[x, y, z]⟩ : ByteArray) ++ T1 ++ T2 ++ T3 ++ T4 ++ F1 ++ F2 ++ T5)].getD i undef) rfl rfl (by kernel_rfl) ?_ ?_ ?_
    · intro i v W W' h hb
      by_cases h9 : i = 9
      · simp only [h9, if_true] at h ⊢
        exact h.kept hb
      · simp only [h9, if_false] at h ⊢
        exact h
    refine ⟨?_, ?_, ?_, ?_, ?_, ?_, ?_, ?_, ?_, ?_, ?_, ?_, ?_, ?_, ?_, ?_, ?_, ?_, ?_, ?_, ?_, ?_, ?_, ?_, ?_, ?_, ?_, ?_, ?_, ?_, ?_, ?_, ?_, ?_, ?_, ?_, ?_, ?_, ?_, ?_, ?_, trivial⟩
    · intro f W K hb hf hd hk
      have e1 : f 1 = .pointer (some ⟨q, 0, none⟩) := hf 1 rfl
      refine Inv.pay_value (v := .pointer (some ⟨q, 0, none⟩)) (w' := W) ?_ ?_
      · simp [execOp, go_sem, Inv.act_get, e1]
      · exact hk (.pointer (some ⟨q, 0, none⟩)) W (Below.refl _ _) rfl
    · intro f W K hb hf hd hk
      have d0 : f 13 = .pointer (some ⟨q, 0, none⟩) := hd 0 rfl
      have M := HMC.out W hb
      have c := M.c0
      refine Inv.pay_value (v := .int .i64 m.kind) (w' := W) ?_ ?_
      · simp [execOp, go_sem, Inv.act_get, d0, c]
      · exact hk (.int .i64 m.kind) W (Below.refl _ _) rfl
    · intro f W K hb hf hd hk
      have d1 : f 14 = .int .i64 m.kind := hd 1 rfl
      refine Inv.pay_value (v := .int .u8 (x.toNat : Int)) (w' := W) ?_ ?_
      · simp [execOp, go_sem, Inv.act_get, d1, wk1]
      · exact hk (.int .u8 (x.toNat : Int)) W (Below.refl _ _) rfl
    · intro f W K hb hf hd hk
      have e1 : f 1 = .pointer (some ⟨q, 0, none⟩) := hf 1 rfl
      refine Inv.pay_value (v := .pointer (some ⟨q, 1, none⟩)) (w' := W) ?_ ?_
      · simp [execOp, go_sem, Inv.act_get, e1]
      · exact hk (.pointer (some ⟨q, 1, none⟩)) W (Below.refl _ _) rfl
    · intro f W K hb hf hd hk
      have d3 : f 16 = .pointer (some ⟨q, 1, none⟩) := hd 3 rfl
      have M := HMC.out W hb
      have c := M.c1
      refine Inv.pay_value (v := .int .i64 m.frm) (w' := W) ?_ ?_
      · simp [execOp, go_sem, Inv.act_get, d3, c]
      · exact hk (.int .i64 m.frm) W (Below.refl _ _) rfl
    · intro f W K hb hf hd hk
      have d4 : f 17 = .int .i64 m.frm := hd 4 rfl
      refine Inv.pay_value (v := .int .u8 (y.toNat : Int)) (w' := W) ?_ ?_
      · simp [execOp, go_sem, Inv.act_get, d4, wk2]
      · exact hk (.int .u8 (y.toNat : Int)) W (Below.refl _ _) rfl
    · intro f W K hb hf hd hk
      have e1 : f 1 = .pointer (some ⟨q, 0, none⟩) := hf 1 rfl
      refine Inv.pay_value (v := .pointer (some ⟨q, 2, none⟩)) (w' := W) ?_ ?_
      · simp [execOp, go_sem, Inv.act_get, e1]
      · exact hk (.pointer (some ⟨q, 2, none⟩)) W (Below.refl _ _) rfl
    · intro f W K hb hf hd hk
      have d6 : f 19 = .pointer (some ⟨q, 2, none⟩) := hd 6 rfl
      have M := HMC.out W hb
      have c := M.c2
      refine Inv.pay_value (v := .int .i64 m.dst) (w' := W) ?_ ?_
      · simp [execOp, go_sem, Inv.act_get, d6, c]
      · exact hk (.int .i64 m.dst) W (Below.refl _ _) rfl
    · intro f W K hb hf hd hk
      have d7 : f 20 = .int .i64 m.dst := hd 7 rfl
      refine Inv.pay_value (v := .int .u8 (z.toNat : Int)) (w' := W) ?_ ?_
      · simp [execOp, go_sem, Inv.act_get, d7, wk3]
      · exact hk (.int .u8 (z.toNat : Int)) W (Below.refl _ _) rfl
    · intro f W K hb hf hd hk
      have d2 : f 15 = .int .u8 (x.toNat : Int) := hd 2 rfl
      have d5 : f 18 = .int .u8 (y.toNat : Int) := hd 5 rfl
      have d8 : f 21 = .int .u8 (z.toNat : Int) := hd 8 rfl
      refine Inv.pay_value (v := .slice (some ⟨W.heap.size, 0, none⟩) 3 3) (w' := W.alloc (Obj.cells #[.int .u8 (x.toNat : Int), .int .u8 (y.toNat : Int), .int .u8 (z.toNat : Int)] 5)) ?_ (hk (.slice (some ⟨W.heap.size, 0, none⟩) 3 3) (W.alloc (Obj.cells #[.int .u8 (x.toNat : Int), .int .u8 (y.toNat : Int), .int .u8 (z.toNat : Int)] 5)) ((Below.refl _ _).alloc (Nat.le_refl _) _) (Built.new W x y z))
      simp [execOp, go_sem, Inv.act_get, d2, d5, d8]
    · intro f W K hb hf hd hk
      have h9 : Built x y z (f 22) W := hd 9 rfl
      have cv := h9.cv
      refine Inv.pay_value (v := .string (⟨#[x, y, z]⟩ : ByteArray)) (w' := W) ?_ ?_
      · simp [execOp, go_sem, Inv.act_get, cv]
      · exact hk (.string (⟨#[x, y, z]⟩ : ByteArray)) W (Below.refl _ _) rfl
    · intro f W K hb hf hd hk
      have e1 : f 1 = .pointer (some ⟨q, 0, none⟩) := hf 1 rfl
      refine Inv.pay_value (v := .pointer (some ⟨q, 3, none⟩)) (w' := W) ?_ ?_
      · simp [execOp, go_sem, Inv.act_get, e1]
      · exact hk (.pointer (some ⟨q, 3, none⟩)) W (Below.refl _ _) rfl
    · intro f W K hb hf hd hk
      have d11 : f 24 = .pointer (some ⟨q, 3, none⟩) := hd 11 rfl
      have M := HMC.out W hb
      have c := M.c3
      refine Inv.pay_value (v := .int .i64 m.term) (w' := W) ?_ ?_
      · simp [execOp, go_sem, Inv.act_get, d11, c]
      · exact hk (.int .i64 m.term) W (Below.refl _ _) rfl
    · intro f W K hb hf hd hk
      have d12 : f 25 = .int .i64 m.term := hd 12 rfl
      refine Inv.pay_call (f := 43) (args := #[.int .i64 m.term]) (u := .string T1) (R := fun w' => Below W.heap.size W w') ?_ (HT1.out W) (fun w5 hb5 => hk (.string T1) w5 hb5 rfl)
      simp [execOp, go_sem, Inv.act_get, d12]
    · intro f W K hb hf hd hk
      have d10 : f 23 = .string (⟨#[x, y, z]⟩ : ByteArray) := hd 10 rfl
      have d13 : f 26 = .string T1 := hd 13 rfl
      refine Inv.pay_value (v := .string ((⟨#[x, y, z]⟩ : ByteArray) ++ T1)) (w' := W) ?_ ?_
      · simp [execOp, go_sem, Inv.act_get, d10, d13, z1]
      · exact hk (.string ((⟨#[x, y, z]⟩ : ByteArray) ++ T1)) W (Below.refl _ _) rfl
    · intro f W K hb hf hd hk
      have e1 : f 1 = .pointer (some ⟨q, 0, none⟩) := hf 1 rfl
      refine Inv.pay_value (v := .pointer (some ⟨q, 4, none⟩)) (w' := W) ?_ ?_
      · simp [execOp, go_sem, Inv.act_get, e1]
      · exact hk (.pointer (some ⟨q, 4, none⟩)) W (Below.refl _ _) rfl
    · intro f W K hb hf hd hk
      have d15 : f 28 = .pointer (some ⟨q, 4, none⟩) := hd 15 rfl
      have M := HMC.out W hb
      have c := M.c4
      refine Inv.pay_value (v := .int .i64 m.index) (w' := W) ?_ ?_
      · simp [execOp, go_sem, Inv.act_get, d15, c]
      · exact hk (.int .i64 m.index) W (Below.refl _ _) rfl
    · intro f W K hb hf hd hk
      have d16 : f 29 = .int .i64 m.index := hd 16 rfl
      refine Inv.pay_call (f := 43) (args := #[.int .i64 m.index]) (u := .string T2) (R := fun w' => Below W.heap.size W w') ?_ (HT2.out W) (fun w5 hb5 => hk (.string T2) w5 hb5 rfl)
      simp [execOp, go_sem, Inv.act_get, d16]
    · intro f W K hb hf hd hk
      have d14 : f 27 = .string ((⟨#[x, y, z]⟩ : ByteArray) ++ T1) := hd 14 rfl
      have d17 : f 30 = .string T2 := hd 17 rfl
      refine Inv.pay_value (v := .string ((⟨#[x, y, z]⟩ : ByteArray) ++ T1 ++ T2)) (w' := W) ?_ ?_
      · simp [execOp, go_sem, Inv.act_get, d14, d17, z2]
      · exact hk (.string ((⟨#[x, y, z]⟩ : ByteArray) ++ T1 ++ T2)) W (Below.refl _ _) rfl
    · intro f W K hb hf hd hk
      have e1 : f 1 = .pointer (some ⟨q, 0, none⟩) := hf 1 rfl
      refine Inv.pay_value (v := .pointer (some ⟨q, 5, none⟩)) (w' := W) ?_ ?_
      · simp [execOp, go_sem, Inv.act_get, e1]
      · exact hk (.pointer (some ⟨q, 5, none⟩)) W (Below.refl _ _) rfl
    · intro f W K hb hf hd hk
      have d19 : f 32 = .pointer (some ⟨q, 5, none⟩) := hd 19 rfl
      have M := HMC.out W hb
      have c := M.c5
      refine Inv.pay_value (v := .int .i64 m.lterm) (w' := W) ?_ ?_
      · simp [execOp, go_sem, Inv.act_get, d19, c]
      · exact hk (.int .i64 m.lterm) W (Below.refl _ _) rfl
    · intro f W K hb hf hd hk
      have d20 : f 33 = .int .i64 m.lterm := hd 20 rfl
      refine Inv.pay_call (f := 43) (args := #[.int .i64 m.lterm]) (u := .string T3) (R := fun w' => Below W.heap.size W w') ?_ (HT3.out W) (fun w5 hb5 => hk (.string T3) w5 hb5 rfl)
      simp [execOp, go_sem, Inv.act_get, d20]
    · intro f W K hb hf hd hk
      have d18 : f 31 = .string ((⟨#[x, y, z]⟩ : ByteArray) ++ T1 ++ T2) := hd 18 rfl
      have d21 : f 34 = .string T3 := hd 21 rfl
      refine Inv.pay_value (v := .string ((⟨#[x, y, z]⟩ : ByteArray) ++ T1 ++ T2 ++ T3)) (w' := W) ?_ ?_
      · simp [execOp, go_sem, Inv.act_get, d18, d21, z3]
      · exact hk (.string ((⟨#[x, y, z]⟩ : ByteArray) ++ T1 ++ T2 ++ T3)) W (Below.refl _ _) rfl
    · intro f W K hb hf hd hk
      have e1 : f 1 = .pointer (some ⟨q, 0, none⟩) := hf 1 rfl
      refine Inv.pay_value (v := .pointer (some ⟨q, 6, none⟩)) (w' := W) ?_ ?_
      · simp [execOp, go_sem, Inv.act_get, e1]
      · exact hk (.pointer (some ⟨q, 6, none⟩)) W (Below.refl _ _) rfl
    · intro f W K hb hf hd hk
      have d23 : f 36 = .pointer (some ⟨q, 6, none⟩) := hd 23 rfl
      have M := HMC.out W hb
      have c := M.c6
      refine Inv.pay_value (v := .int .i64 m.commit) (w' := W) ?_ ?_
      · simp [execOp, go_sem, Inv.act_get, d23, c]
      · exact hk (.int .i64 m.commit) W (Below.refl _ _) rfl
    · intro f W K hb hf hd hk
      have d24 : f 37 = .int .i64 m.commit := hd 24 rfl
      refine Inv.pay_call (f := 43) (args := #[.int .i64 m.commit]) (u := .string T4) (R := fun w' => Below W.heap.size W w') ?_ (HT4.out W) (fun w5 hb5 => hk (.string T4) w5 hb5 rfl)
      simp [execOp, go_sem, Inv.act_get, d24]
    · intro f W K hb hf hd hk
      have d22 : f 35 = .string ((⟨#[x, y, z]⟩ : ByteArray) ++ T1 ++ T2 ++ T3) := hd 22 rfl
      have d25 : f 38 = .string T4 := hd 25 rfl
      refine Inv.pay_value (v := .string ((⟨#[x, y, z]⟩ : ByteArray) ++ T1 ++ T2 ++ T3 ++ T4)) (w' := W) ?_ ?_
      · simp [execOp, go_sem, Inv.act_get, d22, d25, z4]
      · exact hk (.string ((⟨#[x, y, z]⟩ : ByteArray) ++ T1 ++ T2 ++ T3 ++ T4)) W (Below.refl _ _) rfl
    · intro f W K hb hf hd hk
      have e1 : f 1 = .pointer (some ⟨q, 0, none⟩) := hf 1 rfl
      refine Inv.pay_value (v := .pointer (some ⟨q, 7, none⟩)) (w' := W) ?_ ?_
      · simp [execOp, go_sem, Inv.act_get, e1]
      · exact hk (.pointer (some ⟨q, 7, none⟩)) W (Below.refl _ _) rfl
    · intro f W K hb hf hd hk
      have d27 : f 40 = .pointer (some ⟨q, 7, none⟩) := hd 27 rfl
      have M := HMC.out W hb
      have c := M.c7
      refine Inv.pay_value (v := .bool m.ok) (w' := W) ?_ ?_
      · simp [execOp, go_sem, Inv.act_get, d27, c]
      · exact hk (.bool m.ok) W (Below.refl _ _) rfl
    · intro f W K hb hf hd hk
      have d28 : f 41 = .bool m.ok := hd 28 rfl
      refine Inv.pay_call (f := 44) (args := #[.bool m.ok]) (u := .string F1) (R := fun w' => Below W.heap.size W w') ?_ (HF1.out W) (fun w5 hb5 => hk (.string F1) w5 hb5 rfl)
      simp [execOp, go_sem, Inv.act_get, d28]
    · intro f W K hb hf hd hk
      have d26 : f 39 = .string ((⟨#[x, y, z]⟩ : ByteArray) ++ T1 ++ T2 ++ T3 ++ T4) := hd 26 rfl
      have d29 : f 42 = .string F1 := hd 29 rfl
      refine Inv.pay_value (v := .string ((⟨#[x, y, z]⟩ : ByteArray) ++ T1 ++ T2 ++ T3 ++ T4 ++ F1)) (w' := W) ?_ ?_
      · simp [execOp, go_sem, Inv.act_get, d26, d29, z5]
      · exact hk (.string ((⟨#[x, y, z]⟩ : ByteArray) ++ T1 ++ T2 ++ T3 ++ T4 ++ F1)) W (Below.refl _ _) rfl
    · intro f W K hb hf hd hk
      have e1 : f 1 = .pointer (some ⟨q, 0, none⟩) := hf 1 rfl
      refine Inv.pay_value (v := .pointer (some ⟨q, 11, none⟩)) (w' := W) ?_ ?_
      · simp [execOp, go_sem, Inv.act_get, e1]
      · exact hk (.pointer (some ⟨q, 11, none⟩)) W (Below.refl _ _) rfl
    · intro f W K hb hf hd hk
      have d31 : f 44 = .pointer (some ⟨q, 11, none⟩) := hd 31 rfl
      have M := HMC.out W hb
      have c := M.c11
      refine Inv.pay_value (v := .bool m.last) (w' := W) ?_ ?_
      · simp [execOp, go_sem, Inv.act_get, d31, c]
      · exact hk (.bool m.last) W (Below.refl _ _) rfl
    · intro f W K hb hf hd hk
      have d32 : f 45 = .bool m.last := hd 32 rfl
      refine Inv.pay_call (f := 44) (args := #[.bool m.last]) (u := .string F2) (R := fun w' => Below W.heap.size W w') ?_ (HF2.out W) (fun w5 hb5 => hk (.string F2) w5 hb5 rfl)
      simp [execOp, go_sem, Inv.act_get, d32]
    · intro f W K hb hf hd hk
      have d30 : f 43 = .string ((⟨#[x, y, z]⟩ : ByteArray) ++ T1 ++ T2 ++ T3 ++ T4 ++ F1) := hd 30 rfl
      have d33 : f 46 = .string F2 := hd 33 rfl
      refine Inv.pay_value (v := .string ((⟨#[x, y, z]⟩ : ByteArray) ++ T1 ++ T2 ++ T3 ++ T4 ++ F1 ++ F2)) (w' := W) ?_ ?_
      · simp [execOp, go_sem, Inv.act_get, d30, d33, z6]
      · exact hk (.string ((⟨#[x, y, z]⟩ : ByteArray) ++ T1 ++ T2 ++ T3 ++ T4 ++ F1 ++ F2)) W (Below.refl _ _) rfl
    · intro f W K hb hf hd hk
      have e1 : f 1 = .pointer (some ⟨q, 0, none⟩) := hf 1 rfl
      refine Inv.pay_value (v := .pointer (some ⟨q, 8, none⟩)) (w' := W) ?_ ?_
      · simp [execOp, go_sem, Inv.act_get, e1]
      · exact hk (.pointer (some ⟨q, 8, none⟩)) W (Below.refl _ _) rfl
    · intro f W K hb hf hd hk
      have d35 : f 48 = .pointer (some ⟨q, 8, none⟩) := hd 35 rfl
      have M := HMC.out W hb
      have c := M.c8
      refine Inv.pay_value (v := .slice a m.ents.length cap) (w' := W) ?_ ?_
      · simp [execOp, go_sem, Inv.act_get, d35, c]
      · exact hk (.slice a m.ents.length cap) W (Below.refl _ _) rfl
    · intro f W K hb hf hd hk
      have d36 : f 49 = .slice a m.ents.length cap := hd 36 rfl
      refine Inv.pay_value (v := .int .i64 (m.ents.length : Int)) (w' := W) ?_ ?_
      · simp [execOp, go_sem, Inv.act_get, d36]
      · exact hk (.int .i64 (m.ents.length : Int)) W (Below.refl _ _) rfl
    · intro f W K hb hf hd hk
      have d37 : f 50 = .int .i64 (m.ents.length : Int) := hd 37 rfl
      refine Inv.pay_call (f := 43) (args := #[.int .i64 (m.ents.length : Int)]) (u := .string T5) (R := fun w' => Below W.heap.size W w') ?_ (HT5.out W) (fun w5 hb5 => hk (.string T5) w5 hb5 rfl)
      simp [execOp, go_sem, Inv.act_get, d37]
    · intro f W K hb hf hd hk
      have d34 : f 47 = .string ((⟨#[x, y, z]⟩ : ByteArray) ++ T1 ++ T2 ++ T3 ++ T4 ++ F1 ++ F2) := hd 34 rfl
      have d38 : f 51 = .string T5 := hd 38 rfl
      refine Inv.pay_value (v := .string ((⟨#[x, y, z]⟩ : ByteArray) ++ T1 ++ T2 ++ T3 ++ T4 ++ F1 ++ F2 ++ T5)) (w' := W) ?_ ?_
      · simp [execOp, go_sem, Inv.act_get, d34, d38, z7]
      · exact hk (.string ((⟨#[x, y, z]⟩ : ByteArray) ++ T1 ++ T2 ++ T3 ++ T4 ++ F1 ++ F2 ++ T5)) W (Below.refl _ _) rfl
    · intro f W K hb hf hd hk
      have d39 : f 52 = .string ((⟨#[x, y, z]⟩ : ByteArray) ++ T1 ++ T2 ++ T3 ++ T4 ++ F1 ++ F2 ++ T5) := hd 39 rfl
      refine Inv.pay_value (v := .string ((⟨#[x, y, z]⟩ : ByteArray) ++ T1 ++ T2 ++ T3 ++ T4 ++ F1 ++ F2 ++ T5)) (w' := W) ?_ ?_
      · simp [execOp, go_sem, Inv.act_get, d39]
      · exact hk (.string ((⟨#[x, y, z]⟩ : ByteArray) ++ T1 ++ T2 ++ T3 ++ T4 ++ F1 ++ F2 ++ T5)) W (Below.refl _ _) rfl
    · intro f w2 hb2 hf hv
      have e4 : f 4 = .string ((⟨#[x, y, z]⟩ : ByteArray) ++ T1 ++ T2 ++ T3 ++ T4 ++ F1 ++ F2 ++ T5) := hv 40 (by decide)
      have e0 : f 0 = .agg #[.int .i64 m.kind, .int .i64 m.frm, .int .i64 m.dst, .int .i64 m.term, .int .i64 m.index, .int .i64 m.lterm, .int .i64 m.commit, .bool m.ok, .slice a m.ents.length cap, .slice b m.conf.length capb, .string m.data, .bool m.last] := hf 0 rfl
      have e1 : f 1 = .pointer (some ⟨q, 0, none⟩) := hf 1 rfl
      have e2 : f 2 = .string ⟨#[]⟩ := hf 2 rfl
      have e3 : f 3 = .bool false := hf 3 rfl
      have e5 : f 5 = undef := hf 5 rfl
      have e6 : f 6 = undef := hf 6 rfl
      have e7 : f 7 = undef := hf 7 rfl
      have e8 : f 8 = undef := hf 8 rfl
      have e9 : f 9 = undef := hf 9 rfl
      have hact : Inv.act 87 [] f = ⟨(f 0 :: f 1 :: f 2 :: f 3 :: f 4 :: f 5 :: f 6 :: f 7 :: f 8 :: f 9 :: f 10 :: f 11 :: f 12 :: f 13 :: f 14 :: f 15 :: f 16 :: f 17 :: f 18 :: f 19 :: f 20 :: f 21 :: f 22 :: f 23 :: f 24 :: f 25 :: f 26 :: f 27 :: f 28 :: f 29 :: f 30 :: f 31 :: f 32 :: f 33 :: f 34 :: f 35 :: f 36 :: f 37 :: f 38 :: f 39 :: f 40 :: f 41 :: f 42 :: f 43 :: f 44 :: f 45 :: f 46 :: f 47 :: f 48 :: f 49 :: f 50 :: f 51 :: f 52 :: f 53 :: f 54 :: f 55 :: f 56 :: f 57 :: f 58 :: f 59 :: f 60 :: f 61 :: f 62 :: f 63 :: f 64 :: f 65 :: f 66 :: f 67 :: f 68 :: f 69 :: f 70 :: f 71 :: f 72 :: f 73 :: f 74 :: f 75 :: f 76 :: f 77 :: f 78 :: f 79 :: f 80 :: f 81 :: f 82 :: f 83 :: f 84 :: f 85 :: f 86 :: []).toArray, []⟩ := by kernel_rfl
      rw [hact, e0, e1, e2, e3, e4, e5, e6, e7, e8, e9]
      clear hact hf hv
      refine hK _ _ (Met.intro (hJ _ _ ?_))
      (repeat apply Exists.intro)
      exact ⟨⟨rfl, hb2⟩, rfl⟩
  case rest =>
    obtain ⟨rfl, HBc⟩ := hcut
    obtain ⟨FR, hFR⟩ : ∃ FR : ByteArray, FR = ⟨#[x, y, z]⟩ ++ T1 ++ T2 ++ T3 ++ T4 ++ F1 ++ F2 ++ T5 := ⟨_, rfl⟩
    rw [← hFR] at HFR
    rw [← hFR]
    have hfs : FR.size ≤ 1000000 := by
      rw [hFR]
      have e3 : (⟨#[x, y, z]⟩ : ByteArray).size = 3 := rfl
      simp only [ByteArray.size_append, e3]
      omega
    clear hFR z1 z2 z3 z4 z5 z6 z7 wk1 wk2 wk3 HT1 HT2 HT3 HT4 HT5 HF1 HF2 hsum
    have HST0 : Hid (Is FR (Msgs.front m ++ Msgs.many (m.ents.take 0))) := by
      have := HFR.out
      show Is _ _
      simpa [Msgs.many] using this
    clear HFR
    go_wp2_with fail
    go_loopw [4, 5, 6, 7] (fun s i _ _ wr => ∃ (k : Nat) (S : ByteArray), k ≤ m.ents.length ∧ i = .int .i64 (k : Int) ∧ s = .string S ∧ Hid (Is S (Msgs.front m ++ Msgs.many (m.ents.take k))) ∧ Hid (S.size ≤ 1000000 + k * 700000) ∧ Hid (Below w1.heap.size w1 wr)) (fun _ i _ _ _ => m.ents.length - (intOf i).toNat)
    case atStart => exact ⟨0, FR, Nat.zero_le _, rfl, rfl, HST0, by show _ ≤ _; omega, HBc⟩
    case round =>
      clear HST0 HBc hfs
      obtain ⟨k, S, hk, rfl, rfl, HIS, HSZ, HBW⟩ := hrel
      have M := HMC.out _ HBW.out
      have c8 := M.c8
      by_cases hlt : k < m.ents.length
      · have hA := HEN.out _ (HB1.out.trans (HBW.out.mono HB1.out.size))
        have ea := hA.1 (by omega)
        obtain ⟨d0, d1, d2⟩ := hA.2 k hlt
        have HOK : Hid (okB m.ents[k] = true) := F.ents _ (List.getElem_mem _)
        have HTK : Hid (m.ents.take (k + 1) = m.ents.take k ++ [m.ents[k]]) := by show _ = _; rw [List.take_succ_eq_append_getElem hlt]
        obtain ⟨e, he⟩ : ∃ e, e = m.ents[k] := ⟨_, rfl⟩
        rw [← he] at d0 d1 d2 HOK HTK
        subst ea
        have hk0 : (0 : Int) ≤ (k : Int) := by omega
        have hk1 : (k : Int) < (m.ents.length : Int) := by omega
        obtain ⟨TE, hTE⟩ : ∃ TE, TE = Ents.textS 1 e := ⟨_, rfl⟩
        have HE : Hid (∀ W, Calls Tryz.prog 42 #[.int .i64 1, .agg #[.int .i64 e.term, .int .i64 e.kind, .string e.data]] W fun en w' => en = .returned (.tuple #[.string TE, .bool true]) ∧ Below W.heap.size W w') := fun W => by rw [hTE]; exact specEntText_yes 1 e ⟨HOK.out, by decide, by decide⟩ W
        have hTEs : TE.size ≤ 300000 := by rw [hTE]; exact textS_len 1 e HOK.out (by decide)
        have HSH : Hid (∀ W, Calls Tryz.prog 45 #[.string TE] W fun en w' => en = .returned (.string (shortS TE)) ∧ Below W.heap.size W w') := fun W => l05Short_q TE (by omega) W
        have HI2 : Hid (Is (S ++ shortS TE) (Msgs.front m ++ Msgs.many (m.ents.take (k + 1)))) := by
          show Is _ _
          rw [HTK.out, Msgs.many_snoc, ← hTE, ← List.append_assoc]
          exact HIS.out.app (shortS_is TE)
        have hss := shortS_size TE 300000 hTEs
        generalize shortS TE = SH at HSH HI2 hss
        have hz : ¬ 9223372036854775807 < S.size + SH.size := by have := HSZ.out; omega
        have HSZ2 : Hid ((S ++ SH).size ≤ 1000000 + (k + 1) * 700000) := by show _ ≤ _; rw [ByteArray.size_append]; have := HSZ.out; omega
        clear hA he hTE hTEs hss HIS HSZ HTK HOK M
        go_wp2_with fail
        refine Calls.mono (HE.out _) ?_
        rintro en w5 ⟨rfl, hb5⟩
        have HB5 : Hid (Below w1.heap.size w1 w5) := HBW.out.trans (hb5.mono HBW.out.size)
        clear hb5 d0 d1 d2 c8 HE HBW
        go_wp2_with fail
        refine Calls.mono (HSH.out _) ?_
        rintro en w6 ⟨rfl, hb6⟩
        have HB6 : Hid (Below w1.heap.size w1 w6) := HB5.out.trans (hb6.mono HB5.out.size)
        clear hb6 HB5 HSH
        go_wp2
        go_roundw
        case rel => exact ⟨k + 1, _, by omega, by go_num, rfl, HI2, HSZ2, HB6⟩
        case measure => simp [intOf]; omega
      · have hk1 : ¬ (k : Int) < (m.ents.length : Int) := by omega
        have hI0 : IntAt wr b h offb m.conf := HCO.out _ (HB1.out.trans (HBW.out.mono HB1.out.size))
        have HCT : Hid (∃ rb, Calls Tryz.prog 46 #[.slice b m.conf.length capb] wr fun en w' => en = .returned (.tuple #[.string (Ents.confS m.conf), .bool rb]) ∧ Below wr.heap.size wr w') := by
          have := specConfText_is (cap := capb) m.conf (by omega) wr hI0
          unfold confTuple at this
          rcases F.conf with x | x
          · rw [if_pos x] at this
            exact ⟨true, this⟩
          · rw [x] at this ⊢
            rw [if_neg (by decide)] at this
            exact ⟨false, this⟩
        have HIE : Hid (Is S (Msgs.front m ++ Msgs.many m.ents)) := by
          have := HIS.out
          rwa [List.take_of_length_le (by omega)] at this
        have hcs : (Ents.confS m.conf).size ≤ 4 := by
          have : (Ents.confS m.conf).size = m.conf.length := by show (Ents.confB m.conf).toArray.size = _; simp [Ents.confB]
          omega
        have HS1 : Hid (∀ W, Calls Tryz.prog 45 #[.string (Ents.confS m.conf)] W fun en w' => en = .returned (.string (shortS (Ents.confS m.conf))) ∧ Below W.heap.size W w') := fun W => l05Short_q _ (by omega) W
        have HS2 : Hid (∀ W, Calls Tryz.prog 45 #[.string m.data] W fun en w' => en = .returned (.string (shortS m.data)) ∧ Below W.heap.size W w') := fun W => l05Short_q _ (by omega) W
        have HFI : Hid (S ++ shortS (Ents.confS m.conf) ++ shortS m.data = Msgs.textS m) := by
          show _ = _
          exact ((HIE.out.app (shortS_is _)).app (shortS_is _)).eq
        have s1 := shortS_size (Ents.confS m.conf) 4 hcs
        have s2 := shortS_size m.data 60 hds
        obtain ⟨CS, hCS⟩ : ∃ CS, CS = Ents.confS m.conf := ⟨_, rfl⟩
        rw [← hCS] at HCT HS1 HFI s1
        generalize shortS CS = SC at HS1 HFI s1
        generalize shortS m.data = SD at HS2 HFI s2
        have hz1 : ¬ 9223372036854775807 < S.size + SC.size := by have := HSZ.out; omega
        have hz2 : ¬ 9223372036854775807 < S.size + SC.size + SD.size := by have := HSZ.out; omega
        have c9 := M.c9
        obtain ⟨TX, hTX⟩ : ∃ TX, TX = Msgs.textS m := ⟨_, rfl⟩
        rw [← hTX] at HFI
        clear hI0 hcs HIE HIS hCS M HSZ s1 s2
        obtain ⟨rb, hct⟩ := HCT.out
        have HCT2 : Hid (Calls Tryz.prog 46 #[.slice b m.conf.length capb] wr fun en w' => en = .returned (.tuple #[.string CS, .bool rb]) ∧ Below wr.heap.size wr w') := hct
        clear HCT hct
        go_wp2_with fail
        refine Calls.mono HCT2.out ?_
        rintro en w5 ⟨rfl, hb5⟩
        have HB5 : Hid (Below w1.heap.size w1 w5) := HBW.out.trans (hb5.mono HBW.out.size)
        have HMC5 : Hid (∀ w', Below w5.heap.size w5 w' → MsgAt w' q m a cap b capb) := fun w' x => HMC.out w' (HB5.out.trans (x.mono HB5.out.size))
        clear hb5 c8 c9 HCT2 HBW
        go_wp2_with fail
        refine Inv.region_walk 87 (fun i v W => v = [.string S, .string CS, .string SC, .string (S ++ SC), .pointer (some ⟨q, 10, none⟩), .string m.data, .string SD, .string (S ++ SC ++ SD), .string (S ++ SC ++ SD), .bool true].getD i undef) rfl rfl (by kernel_rfl) (fun i v W W' h hb => h) ?_ ?_
        · refine ⟨?_, ?_, ?_, ?_, ?_, ?_, ?_, ?_, ?_, ?_, trivial⟩
          · intro f W K hb hf hd hk
            have e4 : f 4 = .string S := hf 4 rfl
            refine Inv.pay_value (v := .string S) (w' := W) ?_ ?_
            · simp [execOp, go_sem, Inv.act_get, e4]
            · exact hk (.string S) W (Below.refl _ _) rfl
          · intro f W K hb hf hd hk
            have e8 : f 8 = .string CS := hf 8 rfl
            refine Inv.pay_value (v := .string CS) (w' := W) ?_ ?_
            · simp [execOp, go_sem, Inv.act_get, e8]
            · exact hk (.string CS) W (Below.refl _ _) rfl
          · intro f W K hb hf hd hk
            have d1 : f 80 = .string CS := hd 1 rfl
            refine Inv.pay_call (f := 45) (args := #[.string CS]) (u := .string SC) (R := fun w' => Below W.heap.size W w') ?_ (HS1.out W) (fun w7 hb7 => hk (.string SC) w7 hb7 rfl)
            simp [execOp, go_sem, Inv.act_get, d1]
          · intro f W K hb hf hd hk
            have d0 : f 79 = .string S := hd 0 rfl
            have d2 : f 81 = .string SC := hd 2 rfl
            refine Inv.pay_value (v := .string (S ++ SC)) (w' := W) ?_ ?_
            · simp [execOp, go_sem, Inv.act_get, d0, d2, hz1]
            · exact hk (.string (S ++ SC)) W (Below.refl _ _) rfl
          · intro f W K hb hf hd hk
            have e1 : f 1 = .pointer (some ⟨q, 0, none⟩) := hf 1 rfl
            refine Inv.pay_value (v := .pointer (some ⟨q, 10, none⟩)) (w' := W) ?_ ?_
            · simp [execOp, go_sem, Inv.act_get, e1]
            · exact hk (.pointer (some ⟨q, 10, none⟩)) W (Below.refl _ _) rfl
          · intro f W K hb hf hd hk
            have d4 : f 83 = .pointer (some ⟨q, 10, none⟩) := hd 4 rfl
            have c := (HMC5.out W hb).c10
            refine Inv.pay_value (v := .string m.data) (w' := W) ?_ ?_
            · simp [execOp, go_sem, Inv.act_get, d4, c]
            · exact hk (.string m.data) W (Below.refl _ _) rfl
          · intro f W K hb hf hd hk
            have d5 : f 84 = .string m.data := hd 5 rfl
            refine Inv.pay_call (f := 45) (args := #[.string m.data]) (u := .string SD) (R := fun w' => Below W.heap.size W w') ?_ (HS2.out W) (fun w7 hb7 => hk (.string SD) w7 hb7 rfl)
            simp [execOp, go_sem, Inv.act_get, d5]
          · intro f W K hb hf hd hk
            have d3 : f 82 = .string (S ++ SC) := hd 3 rfl
            have d6 : f 85 = .string SD := hd 6 rfl
            refine Inv.pay_value (v := .string (S ++ SC ++ SD)) (w' := W) ?_ ?_
            · simp [execOp, go_sem, Inv.act_get, d3, d6, hz2]
            · exact hk (.string (S ++ SC ++ SD)) W (Below.refl _ _) rfl
          · intro f W K hb hf hd hk
            have d7 : f 86 = .string (S ++ SC ++ SD) := hd 7 rfl
            refine Inv.pay_value (v := .string (S ++ SC ++ SD)) (w' := W) ?_ ?_
            · simp [execOp, go_sem, Inv.act_get, d7]
            · exact hk (.string (S ++ SC ++ SD)) W (Below.refl _ _) rfl
          · intro f W K hb hf hd hk
            refine Inv.pay_value (v := .bool true) (w' := W) ?_ ?_
            · simp [execOp, go_sem, Inv.act_get, Act.eval]
            · exact hk (.bool true) W (Below.refl _ _) rfl
        · intro f w6 hb6 hf hv
          have e2 : f 2 = .string (S ++ SC ++ SD) := hv 8 (by decide)
          have e3 : f 3 = .bool true := hv 9 (by decide)
          have hact : Inv.act 87 [] f = ⟨(f 0 :: f 1 :: f 2 :: f 3 :: f 4 :: f 5 :: f 6 :: f 7 :: f 8 :: f 9 :: f 10 :: f 11 :: f 12 :: f 13 :: f 14 :: f 15 :: f 16 :: f 17 :: f 18 :: f 19 :: f 20 :: f 21 :: f 22 :: f 23 :: f 24 :: f 25 :: f 26 :: f 27 :: f 28 :: f 29 :: f 30 :: f 31 :: f 32 :: f 33 :: f 34 :: f 35 :: f 36 :: f 37 :: f 38 :: f 39 :: f 40 :: f 41 :: f 42 :: f 43 :: f 44 :: f 45 :: f 46 :: f 47 :: f 48 :: f 49 :: f 50 :: f 51 :: f 52 :: f 53 :: f 54 :: f 55 :: f 56 :: f 57 :: f 58 :: f 59 :: f 60 :: f 61 :: f 62 :: f 63 :: f 64 :: f 65 :: f 66 :: f 67 :: f 68 :: f 69 :: f 70 :: f 71 :: f 72 :: f 73 :: f 74 :: f 75 :: f 76 :: f 77 :: f 78 :: f 79 :: f 80 :: f 81 :: f 82 :: f 83 :: f 84 :: f 85 :: f 86 :: []).toArray, []⟩ := by kernel_rfl
          rw [hact, e2, e3]
          clear hact hf hv
          go_wp2
          go_ret2
          exact ⟨by rw [← hTX, ← HFI.out]; rfl, HB.out.trans ((HB1.out.trans ((HB5.out.trans (hb6.mono HB5.out.size)).mono HB1.out.size)).mono HB.out.size)⟩
theorem specEnc_is {a b : Option Addr} {g off cap h offb capb : Nat} (m : MsgL) (hlen : m.ents.length ≤ 1048576) (hd : ∀ e ∈ m.ents, e.data.size ≤ 1048576) (hlc : m.conf.length ≤ 1048576) (hds : m.data.size ≤ 1048576) (w : World) (hf : EnAt w a g off m.ents) (hc : IntAt w b h offb m.conf) :
    Calls Tryz.prog 21 #[msgV m a cap b capb] w fun en w' => en = .returned (encTuple m) ∧ Below w.heap.size w w' := by
  unfold encTuple
  cases hok : okM m with
  | true => exact specEnc_yes m hok hd w hf hc
  | false => exact specEnc_no m hok hlen hd hlc hds w hf hc
end Go.Proofs.YtimacmijinblmaaGreat
