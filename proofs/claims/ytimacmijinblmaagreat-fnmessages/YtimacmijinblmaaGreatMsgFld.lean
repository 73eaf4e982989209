/- The twelve writers of a message's fields, walked. -/
import Derived.Test.YtimacmijinblmaaGreatMsgTxt
namespace Go.Proofs.YtimacmijinblmaaGreat
open Go.RowKit
open Ents (okB)
open Msgs (okM bt)
set_option linter.unusedVariables false
set_option linter.unusedSimpArgs false

set_option maxHeartbeats 1000000 in
theorem write0_is {a b : Option Addr} {g off cap h offb capb : Nat} (m : MsgL) (F : Msgs.Fits m) (hlc : m.conf.length ≤ 4) (w : World) (hf : EnAt w a g off m.ents) (hc : IntAt w b h offb m.conf) :
    Calls Tryz.prog 48 #[msgV m a cap b capb] w fun en w' => en = .returned (.string (byteS (bt m.kind))) ∧ Below w.heap.size w w' := by
  unfold msgV
  obtain ⟨W, hW⟩ : ∃ W, W = w.alloc (Obj.cells (msgC m a cap b capb) 25) := ⟨_, rfl⟩
  have hb : Below w.heap.size w W := by rw [hW]; exact (Below.refl _ _).alloc (Nat.le_refl _) _
  have HB : Hid (Below w.heap.size w W) := hb
  have hla : MsgAt W w.heap.size m a cap b capb := by rw [hW]; exact MsgAt.new w m a cap b capb 25
  have HWD : Hid (w.alloc (Obj.cells #[.int .i64 m.kind, .int .i64 m.frm, .int .i64 m.dst, .int .i64 m.term, .int .i64 m.index, .int .i64 m.lterm, .int .i64 m.commit, .bool m.ok, .slice a m.ents.length cap, .slice b m.conf.length capb, .string m.data, .bool m.last] 25) = W) := hW.symm
  have HQ : Hid (Calls Tryz.prog 49 #[.int .i64 m.kind] W fun en w' => en = .returned (.string (byteS (bt m.kind))) ∧ Below W.heap.size W w') := byteOf_q m.kind _ (wrap_small _ F.kind.1 F.kind.2) W
  generalize byteS (bt m.kind) = T at HQ ⊢
  have c := hla.c0
  rw [hW] at c
  unfold msgC at c
  clear hla hb hW hf hc
  go_enter Tryz.func48, Tryz.ntmps48
  go_wp2_with fail
  rw [HWD.out]
  refine Calls.mono HQ.out ?_
  rintro en w1 ⟨rfl, hb1⟩
  clear c HQ
  go_wp2
  go_ret
  exact ⟨rfl, HB.out.trans (hb1.mono HB.out.size)⟩
set_option maxHeartbeats 1000000 in
theorem write1_is {a b : Option Addr} {g off cap h offb capb : Nat} (m : MsgL) (F : Msgs.Fits m) (hlc : m.conf.length ≤ 4) (w : World) (hf : EnAt w a g off m.ents) (hc : IntAt w b h offb m.conf) :
    Calls Tryz.prog 52 #[msgV m a cap b capb] w fun en w' => en = .returned (.string (byteS (bt m.frm))) ∧ Below w.heap.size w w' := by
  unfold msgV
  obtain ⟨W, hW⟩ : ∃ W, W = w.alloc (Obj.cells (msgC m a cap b capb) 25) := ⟨_, rfl⟩
  have hb : Below w.heap.size w W := by rw [hW]; exact (Below.refl _ _).alloc (Nat.le_refl _) _
  have HB : Hid (Below w.heap.size w W) := hb
  have hla : MsgAt W w.heap.size m a cap b capb := by rw [hW]; exact MsgAt.new w m a cap b capb 25
  have HWD : Hid (w.alloc (Obj.cells #[.int .i64 m.kind, .int .i64 m.frm, .int .i64 m.dst, .int .i64 m.term, .int .i64 m.index, .int .i64 m.lterm, .int .i64 m.commit, .bool m.ok, .slice a m.ents.length cap, .slice b m.conf.length capb, .string m.data, .bool m.last] 25) = W) := hW.symm
  have HQ : Hid (Calls Tryz.prog 49 #[.int .i64 m.frm] W fun en w' => en = .returned (.string (byteS (bt m.frm))) ∧ Below W.heap.size W w') := byteOf_q m.frm _ (wrap_small _ F.frm.1 (by have := F.frm; omega)) W
  generalize byteS (bt m.frm) = T at HQ ⊢
  have c := hla.c1
  rw [hW] at c
  unfold msgC at c
  clear hla hb hW hf hc
  go_enter Tryz.func52, Tryz.ntmps52
  go_wp2_with fail
  rw [HWD.out]
  refine Calls.mono HQ.out ?_
  rintro en w1 ⟨rfl, hb1⟩
  clear c HQ
  go_wp2
  go_ret
  exact ⟨rfl, HB.out.trans (hb1.mono HB.out.size)⟩
set_option maxHeartbeats 1000000 in
theorem write2_is {a b : Option Addr} {g off cap h offb capb : Nat} (m : MsgL) (F : Msgs.Fits m) (hlc : m.conf.length ≤ 4) (w : World) (hf : EnAt w a g off m.ents) (hc : IntAt w b h offb m.conf) :
    Calls Tryz.prog 54 #[msgV m a cap b capb] w fun en w' => en = .returned (.string (byteS (bt m.dst))) ∧ Below w.heap.size w w' := by
  unfold msgV
  obtain ⟨W, hW⟩ : ∃ W, W = w.alloc (Obj.cells (msgC m a cap b capb) 25) := ⟨_, rfl⟩
  have hb : Below w.heap.size w W := by rw [hW]; exact (Below.refl _ _).alloc (Nat.le_refl _) _
  have HB : Hid (Below w.heap.size w W) := hb
  have hla : MsgAt W w.heap.size m a cap b capb := by rw [hW]; exact MsgAt.new w m a cap b capb 25
  have HWD : Hid (w.alloc (Obj.cells #[.int .i64 m.kind, .int .i64 m.frm, .int .i64 m.dst, .int .i64 m.term, .int .i64 m.index, .int .i64 m.lterm, .int .i64 m.commit, .bool m.ok, .slice a m.ents.length cap, .slice b m.conf.length capb, .string m.data, .bool m.last] 25) = W) := hW.symm
  have HQ : Hid (Calls Tryz.prog 49 #[.int .i64 m.dst] W fun en w' => en = .returned (.string (byteS (bt m.dst))) ∧ Below W.heap.size W w') := byteOf_q m.dst _ (wrap_small _ F.dst.1 (by have := F.dst; omega)) W
  generalize byteS (bt m.dst) = T at HQ ⊢
  have c := hla.c2
  rw [hW] at c
  unfold msgC at c
  clear hla hb hW hf hc
  go_enter Tryz.func54, Tryz.ntmps54
  go_wp2_with fail
  rw [HWD.out]
  refine Calls.mono HQ.out ?_
  rintro en w1 ⟨rfl, hb1⟩
  clear c HQ
  go_wp2
  go_ret
  exact ⟨rfl, HB.out.trans (hb1.mono HB.out.size)⟩
set_option maxHeartbeats 1000000 in
theorem write3_is {a b : Option Addr} {g off cap h offb capb : Nat} (m : MsgL) (F : Msgs.Fits m) (hlc : m.conf.length ≤ 4) (w : World) (hf : EnAt w a g off m.ents) (hc : IntAt w b h offb m.conf) :
    Calls Tryz.prog 56 #[msgV m a cap b capb] w fun en w' => en = .returned (.string (varS m.term)) ∧ Below w.heap.size w w' := by
  unfold msgV
  obtain ⟨W, hW⟩ : ∃ W, W = w.alloc (Obj.cells (msgC m a cap b capb) 25) := ⟨_, rfl⟩
  have hb : Below w.heap.size w W := by rw [hW]; exact (Below.refl _ _).alloc (Nat.le_refl _) _
  have HB : Hid (Below w.heap.size w W) := hb
  have hla : MsgAt W w.heap.size m a cap b capb := by rw [hW]; exact MsgAt.new w m a cap b capb 25
  have HWD : Hid (w.alloc (Obj.cells #[.int .i64 m.kind, .int .i64 m.frm, .int .i64 m.dst, .int .i64 m.term, .int .i64 m.index, .int .i64 m.lterm, .int .i64 m.commit, .bool m.ok, .slice a m.ents.length cap, .slice b m.conf.length capb, .string m.data, .bool m.last] 25) = W) := hW.symm
  have HQ : Hid (Calls Tryz.prog 57 #[.int .i64 m.term] W fun en w' => en = .returned (.string (varS m.term)) ∧ Below W.heap.size W w') := varOf_q m.term F.term.1 (by have := F.term; omega) W
  generalize varS m.term = T at HQ ⊢
  have c := hla.c3
  rw [hW] at c
  unfold msgC at c
  clear hla hb hW hf hc
  go_enter Tryz.func56, Tryz.ntmps56
  go_wp2_with fail
  rw [HWD.out]
  refine Calls.mono HQ.out ?_
  rintro en w1 ⟨rfl, hb1⟩
  clear c HQ
  go_wp2
  go_ret
  exact ⟨rfl, HB.out.trans (hb1.mono HB.out.size)⟩
set_option maxHeartbeats 1000000 in
theorem write4_is {a b : Option Addr} {g off cap h offb capb : Nat} (m : MsgL) (F : Msgs.Fits m) (hlc : m.conf.length ≤ 4) (w : World) (hf : EnAt w a g off m.ents) (hc : IntAt w b h offb m.conf) :
    Calls Tryz.prog 60 #[msgV m a cap b capb] w fun en w' => en = .returned (.string (varS m.index)) ∧ Below w.heap.size w w' := by
  unfold msgV
  obtain ⟨W, hW⟩ : ∃ W, W = w.alloc (Obj.cells (msgC m a cap b capb) 25) := ⟨_, rfl⟩
  have hb : Below w.heap.size w W := by rw [hW]; exact (Below.refl _ _).alloc (Nat.le_refl _) _
  have HB : Hid (Below w.heap.size w W) := hb
  have hla : MsgAt W w.heap.size m a cap b capb := by rw [hW]; exact MsgAt.new w m a cap b capb 25
  have HWD : Hid (w.alloc (Obj.cells #[.int .i64 m.kind, .int .i64 m.frm, .int .i64 m.dst, .int .i64 m.term, .int .i64 m.index, .int .i64 m.lterm, .int .i64 m.commit, .bool m.ok, .slice a m.ents.length cap, .slice b m.conf.length capb, .string m.data, .bool m.last] 25) = W) := hW.symm
  have HQ : Hid (Calls Tryz.prog 57 #[.int .i64 m.index] W fun en w' => en = .returned (.string (varS m.index)) ∧ Below W.heap.size W w') := varOf_q m.index F.index.1 (by have := F.index; omega) W
  generalize varS m.index = T at HQ ⊢
  have c := hla.c4
  rw [hW] at c
  unfold msgC at c
  clear hla hb hW hf hc
  go_enter Tryz.func60, Tryz.ntmps60
  go_wp2_with fail
  rw [HWD.out]
  refine Calls.mono HQ.out ?_
  rintro en w1 ⟨rfl, hb1⟩
  clear c HQ
  go_wp2
  go_ret
  exact ⟨rfl, HB.out.trans (hb1.mono HB.out.size)⟩
set_option maxHeartbeats 1000000 in
theorem write5_is {a b : Option Addr} {g off cap h offb capb : Nat} (m : MsgL) (F : Msgs.Fits m) (hlc : m.conf.length ≤ 4) (w : World) (hf : EnAt w a g off m.ents) (hc : IntAt w b h offb m.conf) :
    Calls Tryz.prog 62 #[msgV m a cap b capb] w fun en w' => en = .returned (.string (varS m.lterm)) ∧ Below w.heap.size w w' := by
  unfold msgV
  obtain ⟨W, hW⟩ : ∃ W, W = w.alloc (Obj.cells (msgC m a cap b capb) 25) := ⟨_, rfl⟩
  have hb : Below w.heap.size w W := by rw [hW]; exact (Below.refl _ _).alloc (Nat.le_refl _) _
  have HB : Hid (Below w.heap.size w W) := hb
  have hla : MsgAt W w.heap.size m a cap b capb := by rw [hW]; exact MsgAt.new w m a cap b capb 25
  have HWD : Hid (w.alloc (Obj.cells #[.int .i64 m.kind, .int .i64 m.frm, .int .i64 m.dst, .int .i64 m.term, .int .i64 m.index, .int .i64 m.lterm, .int .i64 m.commit, .bool m.ok, .slice a m.ents.length cap, .slice b m.conf.length capb, .string m.data, .bool m.last] 25) = W) := hW.symm
  have HQ : Hid (Calls Tryz.prog 57 #[.int .i64 m.lterm] W fun en w' => en = .returned (.string (varS m.lterm)) ∧ Below W.heap.size W w') := varOf_q m.lterm F.lterm.1 (by have := F.lterm; omega) W
  generalize varS m.lterm = T at HQ ⊢
  have c := hla.c5
  rw [hW] at c
  unfold msgC at c
  clear hla hb hW hf hc
  go_enter Tryz.func62, Tryz.ntmps62
  go_wp2_with fail
  rw [HWD.out]
  refine Calls.mono HQ.out ?_
  rintro en w1 ⟨rfl, hb1⟩
  clear c HQ
  go_wp2
  go_ret
  exact ⟨rfl, HB.out.trans (hb1.mono HB.out.size)⟩
set_option maxHeartbeats 1000000 in
theorem write6_is {a b : Option Addr} {g off cap h offb capb : Nat} (m : MsgL) (F : Msgs.Fits m) (hlc : m.conf.length ≤ 4) (w : World) (hf : EnAt w a g off m.ents) (hc : IntAt w b h offb m.conf) :
    Calls Tryz.prog 64 #[msgV m a cap b capb] w fun en w' => en = .returned (.string (varS m.commit)) ∧ Below w.heap.size w w' := by
  unfold msgV
  obtain ⟨W, hW⟩ : ∃ W, W = w.alloc (Obj.cells (msgC m a cap b capb) 25) := ⟨_, rfl⟩
  have hb : Below w.heap.size w W := by rw [hW]; exact (Below.refl _ _).alloc (Nat.le_refl _) _
  have HB : Hid (Below w.heap.size w W) := hb
  have hla : MsgAt W w.heap.size m a cap b capb := by rw [hW]; exact MsgAt.new w m a cap b capb 25
  have HWD : Hid (w.alloc (Obj.cells #[.int .i64 m.kind, .int .i64 m.frm, .int .i64 m.dst, .int .i64 m.term, .int .i64 m.index, .int .i64 m.lterm, .int .i64 m.commit, .bool m.ok, .slice a m.ents.length cap, .slice b m.conf.length capb, .string m.data, .bool m.last] 25) = W) := hW.symm
  have HQ : Hid (Calls Tryz.prog 57 #[.int .i64 m.commit] W fun en w' => en = .returned (.string (varS m.commit)) ∧ Below W.heap.size W w') := varOf_q m.commit F.commit.1 (by have := F.commit; omega) W
  generalize varS m.commit = T at HQ ⊢
  have c := hla.c6
  rw [hW] at c
  unfold msgC at c
  clear hla hb hW hf hc
  go_enter Tryz.func64, Tryz.ntmps64
  go_wp2_with fail
  rw [HWD.out]
  refine Calls.mono HQ.out ?_
  rintro en w1 ⟨rfl, hb1⟩
  clear c HQ
  go_wp2
  go_ret
  exact ⟨rfl, HB.out.trans (hb1.mono HB.out.size)⟩
set_option maxHeartbeats 1000000 in
theorem write7_is {a b : Option Addr} {g off cap h offb capb : Nat} (m : MsgL) (F : Msgs.Fits m) (hlc : m.conf.length ≤ 4) (w : World) (hf : EnAt w a g off m.ents) (hc : IntAt w b h offb m.conf) :
    Calls Tryz.prog 66 #[msgV m a cap b capb] w fun en w' => en = .returned (.string (flagS m.ok)) ∧ Below w.heap.size w w' := by
  unfold msgV
  obtain ⟨W, hW⟩ : ∃ W, W = w.alloc (Obj.cells (msgC m a cap b capb) 25) := ⟨_, rfl⟩
  have hb : Below w.heap.size w W := by rw [hW]; exact (Below.refl _ _).alloc (Nat.le_refl _) _
  have HB : Hid (Below w.heap.size w W) := hb
  have hla : MsgAt W w.heap.size m a cap b capb := by rw [hW]; exact MsgAt.new w m a cap b capb 25
  have HWD : Hid (w.alloc (Obj.cells #[.int .i64 m.kind, .int .i64 m.frm, .int .i64 m.dst, .int .i64 m.term, .int .i64 m.index, .int .i64 m.lterm, .int .i64 m.commit, .bool m.ok, .slice a m.ents.length cap, .slice b m.conf.length capb, .string m.data, .bool m.last] 25) = W) := hW.symm
  have HQ : Hid (Calls Tryz.prog 67 #[.bool m.ok] W fun en w' => en = .returned (.string (flagS m.ok)) ∧ Below W.heap.size W w') := flagOf_q m.ok W
  generalize flagS m.ok = T at HQ ⊢
  have c := hla.c7
  rw [hW] at c
  unfold msgC at c
  clear hla hb hW hf hc
  go_enter Tryz.func66, Tryz.ntmps66
  go_wp2_with fail
  rw [HWD.out]
  refine Calls.mono HQ.out ?_
  rintro en w1 ⟨rfl, hb1⟩
  clear c HQ
  go_wp2
  go_ret
  exact ⟨rfl, HB.out.trans (hb1.mono HB.out.size)⟩
set_option maxHeartbeats 1000000 in
theorem write8_is {a b : Option Addr} {g off cap h offb capb : Nat} (m : MsgL) (F : Msgs.Fits m) (hlc : m.conf.length ≤ 4) (w : World) (hf : EnAt w a g off m.ents) (hc : IntAt w b h offb m.conf) :
    Calls Tryz.prog 70 #[msgV m a cap b capb] w fun en w' => en = .returned (.string (flagS m.last)) ∧ Below w.heap.size w w' := by
  unfold msgV
  obtain ⟨W, hW⟩ : ∃ W, W = w.alloc (Obj.cells (msgC m a cap b capb) 25) := ⟨_, rfl⟩
  have hb : Below w.heap.size w W := by rw [hW]; exact (Below.refl _ _).alloc (Nat.le_refl _) _
  have HB : Hid (Below w.heap.size w W) := hb
  have hla : MsgAt W w.heap.size m a cap b capb := by rw [hW]; exact MsgAt.new w m a cap b capb 25
  have HWD : Hid (w.alloc (Obj.cells #[.int .i64 m.kind, .int .i64 m.frm, .int .i64 m.dst, .int .i64 m.term, .int .i64 m.index, .int .i64 m.lterm, .int .i64 m.commit, .bool m.ok, .slice a m.ents.length cap, .slice b m.conf.length capb, .string m.data, .bool m.last] 25) = W) := hW.symm
  have HQ : Hid (Calls Tryz.prog 67 #[.bool m.last] W fun en w' => en = .returned (.string (flagS m.last)) ∧ Below W.heap.size W w') := flagOf_q m.last W
  generalize flagS m.last = T at HQ ⊢
  have c := hla.c11
  rw [hW] at c
  unfold msgC at c
  clear hla hb hW hf hc
  go_enter Tryz.func70, Tryz.ntmps70
  go_wp2_with fail
  rw [HWD.out]
  refine Calls.mono HQ.out ?_
  rintro en w1 ⟨rfl, hb1⟩
  clear c HQ
  go_wp2
  go_ret
  exact ⟨rfl, HB.out.trans (hb1.mono HB.out.size)⟩
set_option maxHeartbeats 1000000 in
theorem write9_is {a b : Option Addr} {g off cap h offb capb : Nat} (m : MsgL) (F : Msgs.Fits m) (hlc : m.conf.length ≤ 4) (w : World) (hf : EnAt w a g off m.ents) (hc : IntAt w b h offb m.conf) :
    Calls Tryz.prog 72 #[msgV m a cap b capb] w fun en w' => en = .returned (.string (entsS m.ents)) ∧ Below w.heap.size w w' := by
  unfold msgV
  obtain ⟨W, hW⟩ : ∃ W, W = w.alloc (Obj.cells (msgC m a cap b capb) 25) := ⟨_, rfl⟩
  have hb : Below w.heap.size w W := by rw [hW]; exact (Below.refl _ _).alloc (Nat.le_refl _) _
  have HB : Hid (Below w.heap.size w W) := hb
  have hla : MsgAt W w.heap.size m a cap b capb := by rw [hW]; exact MsgAt.new w m a cap b capb 25
  have HWD : Hid (w.alloc (Obj.cells #[.int .i64 m.kind, .int .i64 m.frm, .int .i64 m.dst, .int .i64 m.term, .int .i64 m.index, .int .i64 m.lterm, .int .i64 m.commit, .bool m.ok, .slice a m.ents.length cap, .slice b m.conf.length capb, .string m.data, .bool m.last] 25) = W) := hW.symm
  have HQ : Hid (Calls Tryz.prog 73 #[.slice a m.ents.length cap] W fun en w' => en = .returned (.string (entsS m.ents)) ∧ Below W.heap.size W w') := entriesText_q m.ents F.len F.ents W (hf.kept hb)
  generalize entsS m.ents = T at HQ ⊢
  have c := hla.c8
  rw [hW] at c
  unfold msgC at c
  clear hla hb hW hf hc
  go_enter Tryz.func72, Tryz.ntmps72
  go_wp2_with fail
  rw [HWD.out]
  refine Calls.mono HQ.out ?_
  rintro en w1 ⟨rfl, hb1⟩
  clear c HQ
  go_wp2
  go_ret
  exact ⟨rfl, HB.out.trans (hb1.mono HB.out.size)⟩
set_option maxHeartbeats 1000000 in
theorem write10_is {a b : Option Addr} {g off cap h offb capb : Nat} (m : MsgL) (F : Msgs.Fits m) (hlc : m.conf.length ≤ 4) (w : World) (hf : EnAt w a g off m.ents) (hc : IntAt w b h offb m.conf) :
    Calls Tryz.prog 76 #[msgV m a cap b capb] w fun en w' => en = .returned (.string (shortS (Ents.confS m.conf))) ∧ Below w.heap.size w w' := by
  unfold msgV
  obtain ⟨W, hW⟩ : ∃ W, W = w.alloc (Obj.cells (msgC m a cap b capb) 25) := ⟨_, rfl⟩
  have hb : Below w.heap.size w W := by rw [hW]; exact (Below.refl _ _).alloc (Nat.le_refl _) _
  have HB : Hid (Below w.heap.size w W) := hb
  have hla : MsgAt W w.heap.size m a cap b capb := by rw [hW]; exact MsgAt.new w m a cap b capb 25
  have HWD : Hid (w.alloc (Obj.cells #[.int .i64 m.kind, .int .i64 m.frm, .int .i64 m.dst, .int .i64 m.term, .int .i64 m.index, .int .i64 m.lterm, .int .i64 m.commit, .bool m.ok, .slice a m.ents.length cap, .slice b m.conf.length capb, .string m.data, .bool m.last] 25) = W) := hW.symm
  have HQ : Hid (Calls Tryz.prog 78 #[.slice b m.conf.length capb] W fun en w' => en = .returned (.string (Ents.confS m.conf)) ∧ Below W.heap.size W w') := confBytes_q m.conf hlc F.conf W (hc.kept hb)
  have HS : Hid (∀ X, Calls Tryz.prog 77 #[.string (Ents.confS m.conf)] X fun en w' => en = .returned (.string (shortS (Ents.confS m.conf))) ∧ Below X.heap.size X w') := fun X => shortOf_q _ (by rw [confS_len]; omega) X
  generalize shortS (Ents.confS m.conf) = T2 at HS ⊢
  generalize Ents.confS m.conf = T at HS HQ
  have c := hla.c9
  rw [hW] at c
  unfold msgC at c
  clear hla hb hW hf hc
  go_enter Tryz.func76, Tryz.ntmps76
  go_wp2_with fail
  rw [HWD.out]
  refine Calls.mono HQ.out ?_
  rintro en w1 ⟨rfl, hb1⟩
  have HB1 : Hid (Below w.heap.size w w1) := HB.out.trans (hb1.mono HB.out.size)
  clear hb1 c HQ
  go_wp2_with fail
  refine Calls.mono (HS.out _) ?_
  rintro en w2 ⟨rfl, hb2⟩
  go_wp2
  go_ret
  exact ⟨rfl, HB1.out.trans (hb2.mono HB1.out.size)⟩
set_option maxHeartbeats 1000000 in
theorem write11_is {a b : Option Addr} {g off cap h offb capb : Nat} (m : MsgL) (F : Msgs.Fits m) (hlc : m.conf.length ≤ 4) (w : World) (hf : EnAt w a g off m.ents) (hc : IntAt w b h offb m.conf) :
    Calls Tryz.prog 81 #[msgV m a cap b capb] w fun en w' => en = .returned (.string (shortS m.data)) ∧ Below w.heap.size w w' := by
  unfold msgV
  obtain ⟨W, hW⟩ : ∃ W, W = w.alloc (Obj.cells (msgC m a cap b capb) 25) := ⟨_, rfl⟩
  have hb : Below w.heap.size w W := by rw [hW]; exact (Below.refl _ _).alloc (Nat.le_refl _) _
  have HB : Hid (Below w.heap.size w W) := hb
  have hla : MsgAt W w.heap.size m a cap b capb := by rw [hW]; exact MsgAt.new w m a cap b capb 25
  have HWD : Hid (w.alloc (Obj.cells #[.int .i64 m.kind, .int .i64 m.frm, .int .i64 m.dst, .int .i64 m.term, .int .i64 m.index, .int .i64 m.lterm, .int .i64 m.commit, .bool m.ok, .slice a m.ents.length cap, .slice b m.conf.length capb, .string m.data, .bool m.last] 25) = W) := hW.symm
  have HQ : Hid (Calls Tryz.prog 77 #[.string m.data] W fun en w' => en = .returned (.string (shortS m.data)) ∧ Below W.heap.size W w') := shortOf_q m.data (by have := F.data; omega) W
  generalize shortS m.data = T at HQ ⊢
  have c := hla.c10
  rw [hW] at c
  unfold msgC at c
  clear hla hb hW hf hc
  go_enter Tryz.func81, Tryz.ntmps81
  go_wp2_with fail
  rw [HWD.out]
  refine Calls.mono HQ.out ?_
  rintro en w1 ⟨rfl, hb1⟩
  clear c HQ
  go_wp2
  go_ret
  exact ⟨rfl, HB.out.trans (hb1.mono HB.out.size)⟩
end Go.Proofs.YtimacmijinblmaaGreat
