/- The law of EventOk, walked. Made by program. -/
import Derived.Test.YtojhjffkbjdgfaaToEv
import Derived.Test.YtojhjffkbjdgfaaRegInv
namespace Go.Proofs.Ytojhjffkbjdgfaa
open Go.RowKit
open Cmds (okC)
set_option linter.unusedVariables false
set_option linter.unusedSimpArgs false
set_option maxHeartbeats 2000000 in
set_option maxRecDepth 100000 in
theorem eqEv_same (e : EvL) (hc : e.conf.length ≤ 1048576) (g1 g2 : Nat) (w : World) (h1 : IntAt w (some ⟨g1, 0, none⟩) g1 0 e.conf) (h2 : IntAt w (some ⟨g2, 0, none⟩) g2 0 e.conf) :
    Calls Try.prog 8 #[evV e (some ⟨g1, 0, none⟩) e.conf.length, evV e (some ⟨g2, 0, none⟩) e.conf.length] w fun en w' => en = .returned (.bool true) ∧ Below w.heap.size w w' := by
  obtain ⟨k, n, q, l, c, cl, cu, wh, pt⟩ := e
  simp only at hc h1 h2
  obtain ⟨W, hW⟩ : ∃ W, W = (w.alloc (Obj.cells #[.int .i64 k, .int .i64 n, .int .i64 q, .int .i64 l, .int .i64 c.op, .int .i64 c.ses, .int .i64 c.seq, .string c.key, .string c.val, .string c.old, .slice (some ⟨g1, 0, none⟩) cl.length cl.length, .bool cu, .int .i64 wh, .int .i64 pt] 31)).alloc (Obj.cells #[.int .i64 k, .int .i64 n, .int .i64 q, .int .i64 l, .int .i64 c.op, .int .i64 c.ses, .int .i64 c.seq, .string c.key, .string c.val, .string c.old, .slice (some ⟨g2, 0, none⟩) cl.length cl.length, .bool cu, .int .i64 wh, .int .i64 pt] 31) := ⟨_, rfl⟩
  have hb : Below w.heap.size w W := by rw [hW]; exact ((Below.refl _ _).alloc (Nat.le_refl _) _).alloc (by simp) _
  have hxa : EvAt W w.heap.size ⟨k, n, q, l, c, cl, cu, wh, pt⟩ (some ⟨g1, 0, none⟩) cl.length := by
    rw [hW]
    exact (EvAt.new w ⟨k, n, q, l, c, cl, cu, wh, pt⟩ (some ⟨g1, 0, none⟩) cl.length 31).kept ((Below.refl _ _).alloc (Nat.le_refl _) _)
  have hxb : EvAt W (w.heap.size + 1) ⟨k, n, q, l, c, cl, cu, wh, pt⟩ (some ⟨g2, 0, none⟩) cl.length := by
    rw [hW]
    have := EvAt.new (w.alloc (Obj.cells #[.int .i64 k, .int .i64 n, .int .i64 q, .int .i64 l, .int .i64 c.op, .int .i64 c.ses, .int .i64 c.seq, .string c.key, .string c.val, .string c.old, .slice (some ⟨g1, 0, none⟩) cl.length cl.length, .bool cu, .int .i64 wh, .int .i64 pt] 31)) ⟨k, n, q, l, c, cl, cu, wh, pt⟩ (some ⟨g2, 0, none⟩) cl.length 31
    simpa using this
  have HX : Hid (∀ X, Below W.heap.size W X → EvAt X w.heap.size ⟨k, n, q, l, c, cl, cu, wh, pt⟩ (some ⟨g1, 0, none⟩) cl.length ∧ EvAt X (w.heap.size + 1) ⟨k, n, q, l, c, cl, cu, wh, pt⟩ (some ⟨g2, 0, none⟩) cl.length) := fun X h => ⟨hxa.kept h, hxb.kept h⟩
  have HBB : Hid (∀ X, Below W.heap.size W X → Below w.heap.size w X) := fun X h => hb.trans (h.mono hb.size)
  have HEC : Hid (∀ X, Calls Try.prog 18 #[.agg #[.int .i64 c.op, .int .i64 c.ses, .int .i64 c.seq, .string c.key, .string c.val, .string c.old], .agg #[.int .i64 c.op, .int .i64 c.ses, .int .i64 c.seq, .string c.key, .string c.val, .string c.old]] X fun en w' => en = .returned (.bool true) ∧ Below X.heap.size X w') := fun X => eqCmd_same c X
  have HEI : Hid (∀ X, Below w.heap.size w X → Calls Try.prog 19 #[.slice (some ⟨g1, 0, none⟩) cl.length cl.length, .slice (some ⟨g2, 0, none⟩) cl.length cl.length] X fun en w' => en = .returned (.bool true) ∧ Below X.heap.size X w') := fun X h => eqIntS_same cl hc X (h1.kept h) (h2.kept h)
  clear hb hxa hxb h1 h2 hc
  unfold evV
  go_enter Try.func8, Try.ntmps8
  go_wp2_with fail
  rw [← hW]
  clear hW
  refine Calls.mono (HEC.out _) ?_
  rintro en w1 ⟨rfl, hb1⟩
  have HB1 : Hid (Below W.heap.size W w1) := hb1
  clear hb1
  obtain ⟨⟨p0, p1, p2, p3, p4, p5, p6, p7, p8, p9, p10, p11, p12, p13⟩, q0, q1, q2, q3, q4, q5, q6, q7, q8, q9, q10, q11, q12, q13⟩ := HX.out _ HB1.out
  go_wp2_with fail
  clear p0 p1 p2 p3 p4 p5 p6 p7 p8 p9 p10 p11 p12 p13 q0 q1 q2 q3 q4 q5 q6 q7 q8 q9 q10 q11 q12 q13
  refine Calls.mono (HEI.out _ (HBB.out _ HB1.out)) ?_
  rintro en w2 ⟨rfl, hb2⟩
  have HB2 : Hid (Below W.heap.size W w2) := HB1.out.trans (hb2.mono HB1.out.size)
  clear hb2
  obtain ⟨⟨p0, p1, p2, p3, p4, p5, p6, p7, p8, p9, p10, p11, p12, p13⟩, q0, q1, q2, q3, q4, q5, q6, q7, q8, q9, q10, q11, q12, q13⟩ := HX.out _ HB2.out
  go_wp2
  go_ret
  exact ⟨rfl, HBB.out _ HB2.out⟩
def LaidE (k n q l : Int) (c : CmdL) (cl : List Int) (cu : Bool) (wh pt : Int) (v : Value) (W : World) : Prop := ∃ g1 : Nat, v = .agg #[.int .i64 k, .int .i64 n, .int .i64 q, .int .i64 l, .int .i64 c.op, .int .i64 c.ses, .int .i64 c.seq, .string c.key, .string c.val, .string c.old, .slice (some ⟨g1, 0, none⟩) cl.length cl.length, .bool cu, .int .i64 wh, .int .i64 pt] ∧ IntAt W (some ⟨g1, 0, none⟩) g1 0 cl
set_option maxHeartbeats 4000000 in
set_option maxRecDepth 100000 in
theorem lawEv_any (N : Int) (e : EvL) (hs : e.cmd.key.size ≤ maxLen ∧ e.cmd.val.size ≤ maxLen ∧ e.cmd.old.size ≤ maxLen) (hl : e.conf.length ≤ maxLen) {a : Option Addr} {gc oc cc : Nat} (w : World) (hI : IntAt w a gc oc e.conf) :
    Calls Try.prog 3 #[.int .i64 N, evV e a cc] w fun en w' => en = .returned (.bool true) ∧ Below w.heap.size w w' := by
  have HSZ : Hid (∀ X, Calls Try.prog 4 #[evV e a cc, .int .i64 1048576] X fun en w' => ∃ x : Int, en = .returned (.int .i64 x) ∧ (0 ≤ x → SmallE e) ∧ Below X.heap.size X w') := fun X => szEv_is e hs hl X
  clear hs hl
  obtain ⟨k, n, q, l, c, cl, cu, wh, pt⟩ := e
  simp only at hI
  obtain ⟨W, hW⟩ : ∃ W, W = w.alloc (Obj.cells #[.int .i64 k, .int .i64 n, .int .i64 q, .int .i64 l, .int .i64 c.op, .int .i64 c.ses, .int .i64 c.seq, .string c.key, .string c.val, .string c.old, .slice a cl.length cc, .bool cu, .int .i64 wh, .int .i64 pt] 26) := ⟨_, rfl⟩
  have hb : Below w.heap.size w W := by rw [hW]; exact (Below.refl _ _).alloc (Nat.le_refl _) _
  obtain ⟨z, hz⟩ : ∃ z, z = w.heap.size := ⟨_, rfl⟩
  have hx : EvAt W z ⟨k, n, q, l, c, cl, cu, wh, pt⟩ a cc := by rw [hW, hz]; exact EvAt.new w ⟨k, n, q, l, c, cl, cu, wh, pt⟩ a cc 26
  have HX : Hid (∀ X, Below W.heap.size W X → EvAt X z ⟨k, n, q, l, c, cl, cu, wh, pt⟩ a cc) := fun X h => hx.kept h
  have HB : Hid (Below w.heap.size w W) := hb
  have HI : Hid (∀ X, Below w.heap.size w X → IntAt X a gc oc cl) := fun X h => hI.kept h
  unfold evV at HSZ ⊢
  simp only at HSZ ⊢
  clear hb hx hI
  go_enter Try.func3, Try.ntmps3
  go_wp2_with fail
  rw [← hW, ← hz]
  clear hW hz
  refine Calls.mono (HSZ.out _) ?_
  rintro en w1 ⟨x, rfl, hx, hb1⟩
  have HB1 : Hid (Below W.heap.size W w1) := hb1
  clear hb1 HSZ
  by_cases hn : x < 0
  · clear hx
    go_wp2
    go_ret
    exact ⟨rfl, HB.out.trans (HB1.out.mono HB.out.size)⟩
  obtain ⟨hs, hc⟩ := hx (by omega)
  simp only at hs hc
  have HTO : Hid (∀ X, Below w.heap.size w X → Calls Try.prog 6 #[.agg #[.int .i64 k, .int .i64 n, .int .i64 q, .int .i64 l, .int .i64 c.op, .int .i64 c.ses, .int .i64 c.seq, .string c.key, .string c.val, .string c.old, .slice a cl.length cc, .bool cu, .int .i64 wh, .int .i64 pt]] X fun en w' => ∃ g1 : Nat, en = .returned (.agg #[.int .i64 k, .int .i64 n, .int .i64 q, .int .i64 l, .int .i64 c.op, .int .i64 c.ses, .int .i64 c.seq, .string c.key, .string c.val, .string c.old, .slice (some ⟨g1, 0, none⟩) cl.length cl.length, .bool cu, .int .i64 wh, .int .i64 pt]) ∧ IntAt w' (some ⟨g1, 0, none⟩) g1 0 cl ∧ Below X.heap.size X w') := fun X h => toEv_is (cc := cc) ⟨k, n, q, l, c, cl, cu, wh, pt⟩ hc X (HI.out X h)
  obtain ⟨R, hR⟩ : ∃ R, R = evB N ⟨k, n, q, l, c, cl, cu, wh, pt⟩ := ⟨_, rfl⟩
  have HSP : Hid (∀ X g1, IntAt X (some ⟨g1, 0, none⟩) g1 0 cl → Calls Try.prog 5 #[.int .i64 N, .agg #[.int .i64 k, .int .i64 n, .int .i64 q, .int .i64 l, .int .i64 c.op, .int .i64 c.ses, .int .i64 c.seq, .string c.key, .string c.val, .string c.old, .slice (some ⟨g1, 0, none⟩) cl.length cl.length, .bool cu, .int .i64 wh, .int .i64 pt]] X fun en w' => en = .returned (.bool R) ∧ Below X.heap.size X w') := fun X g1 h => by rw [hR]; exact specEv_is N ⟨k, n, q, l, c, cl, cu, wh, pt⟩ hs hc X h
  have HIM : Hid (∀ X g1, IntAt X (some ⟨g1, 0, none⟩) g1 0 cl → Calls Try.prog 7 #[.int .i64 N, .agg #[.int .i64 k, .int .i64 n, .int .i64 q, .int .i64 l, .int .i64 c.op, .int .i64 c.ses, .int .i64 c.seq, .string c.key, .string c.val, .string c.old, .slice (some ⟨g1, 0, none⟩) cl.length cl.length, .bool cu, .int .i64 wh, .int .i64 pt]] X fun en w' => en = .returned (.bool R) ∧ Below X.heap.size X w') := fun X g1 h => by rw [hR]; exact implEv_is N ⟨k, n, q, l, c, cl, cu, wh, pt⟩ hs hc X h
  have HEQ : Hid (∀ X g1 g2, IntAt X (some ⟨g1, 0, none⟩) g1 0 cl → IntAt X (some ⟨g2, 0, none⟩) g2 0 cl → Calls Try.prog 8 #[.agg #[.int .i64 k, .int .i64 n, .int .i64 q, .int .i64 l, .int .i64 c.op, .int .i64 c.ses, .int .i64 c.seq, .string c.key, .string c.val, .string c.old, .slice (some ⟨g1, 0, none⟩) cl.length cl.length, .bool cu, .int .i64 wh, .int .i64 pt], .agg #[.int .i64 k, .int .i64 n, .int .i64 q, .int .i64 l, .int .i64 c.op, .int .i64 c.ses, .int .i64 c.seq, .string c.key, .string c.val, .string c.old, .slice (some ⟨g2, 0, none⟩) cl.length cl.length, .bool cu, .int .i64 wh, .int .i64 pt]] X fun en w' => en = .returned (.bool true) ∧ Below X.heap.size X w') := fun X g1 g2 h h' => eqEv_same ⟨k, n, q, l, c, cl, cu, wh, pt⟩ hc g1 g2 X h h'
  clear hR hx hs hc
  obtain ⟨p0, p1, p2, p3, p4, p5, p6, p7, p8, p9, p10, p11, p12, p13⟩ := HX.out _ HB1.out
  go_wp2_with fail
  clear p0 p1 p2 p3 p4 p5 p6 p7 p8 p9 p10 p11 p12 p13
  refine Calls.mono (HTO.out _ (HB.out.trans (HB1.out.mono HB.out.size))) ?_
  rintro en w2 ⟨g1, rfl, hi2, hb2⟩
  have HB2 : Hid (Below W.heap.size W w2) := HB1.out.trans (hb2.mono HB1.out.size)
  clear hb2 HB1
  go_wp2_with fail
  refine Calls.mono (HSP.out _ g1 hi2) ?_
  rintro en w3 ⟨rfl, hb3⟩
  have HB3 : Hid (Below W.heap.size W w3) := HB2.out.trans (hb3.mono HB2.out.size)
  clear hb3 HB2 hi2 HSP
  obtain ⟨p0, p1, p2, p3, p4, p5, p6, p7, p8, p9, p10, p11, p12, p13⟩ := HX.out _ HB3.out
  go_wp2_with fail
  clear p0 p1 p2 p3 p4 p5 p6 p7 p8 p9 p10 p11 p12 p13
  refine Calls.mono (HTO.out _ (HB.out.trans (HB3.out.mono HB.out.size))) ?_
  rintro en w4 ⟨g3, rfl, hi4, hb4⟩
  have HB4 : Hid (Below W.heap.size W w4) := HB3.out.trans (hb4.mono HB3.out.size)
  obtain ⟨W5, hW5⟩ : ∃ W5, W5 = w4.alloc (Obj.cells #[.int .i64 k, .int .i64 n, .int .i64 q, .int .i64 l, .int .i64 c.op, .int .i64 c.ses, .int .i64 c.seq, .string c.key, .string c.val, .string c.old, .slice (some ⟨g3, 0, none⟩) cl.length cl.length, .bool cu, .int .i64 wh, .int .i64 pt] 31) := ⟨_, rfl⟩
  have hb5 : Below w4.heap.size w4 W5 := by rw [hW5]; exact (Below.refl _ _).alloc (Nat.le_refl _) _
  have HW5 : Hid (w4.alloc (Obj.cells #[.int .i64 k, .int .i64 n, .int .i64 q, .int .i64 l, .int .i64 c.op, .int .i64 c.ses, .int .i64 c.seq, .string c.key, .string c.val, .string c.old, .slice (some ⟨g3, 0, none⟩) cl.length cl.length, .bool cu, .int .i64 wh, .int .i64 pt] 31) = W5) := hW5.symm
  obtain ⟨z5, hz5⟩ : ∃ z5, z5 = w4.heap.size := ⟨_, rfl⟩
  have hx5 : EvAt W5 z5 ⟨k, n, q, l, c, cl, cu, wh, pt⟩ (some ⟨g3, 0, none⟩) cl.length := by rw [hW5, hz5]; exact EvAt.new w4 ⟨k, n, q, l, c, cl, cu, wh, pt⟩ (some ⟨g3, 0, none⟩) cl.length 31
  have HX5 : Hid (∀ X, Below W5.heap.size W5 X → EvAt X z5 ⟨k, n, q, l, c, cl, cu, wh, pt⟩ (some ⟨g3, 0, none⟩) cl.length ∧ EvAt X z ⟨k, n, q, l, c, cl, cu, wh, pt⟩ a cc ∧ IntAt X (some ⟨g3, 0, none⟩) g3 0 cl ∧ Below w.heap.size w X) := fun X h => by
    have b5 : Below W.heap.size W X := (HB4.out.trans (hb5.mono HB4.out.size)).trans (h.mono ((HB4.out.trans (hb5.mono HB4.out.size)).size))
    exact ⟨hx5.kept h, HX.out X b5, (hi4.kept hb5).kept h, HB.out.trans (b5.mono HB.out.size)⟩
  have HI5 : Hid (IntAt W5 (some ⟨g3, 0, none⟩) g3 0 cl) := hi4.kept hb5
  obtain ⟨p0, p1, p2, p3, p4, p5, p6, p7, p8, p9, p10, p11, p12, p13⟩ := hx5
  rw [hW5, hz5] at p0 p1 p2 p3 p4 p5 p6 p7 p8 p9 p10 p11 p12 p13
  clear hb4 hb5 hi4 HB3 HB4 hW5
  go_wp2_with fail
  rw [HW5.out, ← hz5]
  clear HW5 hz5 p0 p1 p2 p3 p4 p5 p6 p7 p8 p9 p10 p11 p12 p13
  refine Calls.mono (HIM.out _ g3 HI5.out) ?_
  rintro en w6 ⟨rfl, hb6⟩
  have HX6 : Hid (∀ X, Below w6.heap.size w6 X → EvAt X z5 ⟨k, n, q, l, c, cl, cu, wh, pt⟩ (some ⟨g3, 0, none⟩) cl.length ∧ EvAt X z ⟨k, n, q, l, c, cl, cu, wh, pt⟩ a cc ∧ IntAt X (some ⟨g3, 0, none⟩) g3 0 cl ∧ Below w.heap.size w X) := fun X h => HX5.out X (hb6.trans (h.mono hb6.size))
  clear hb6 HX5 HI5 HIM HX HI
  go_wp2_with fail
  refine Inv.region_walk 31 (fun i v W => if i = 2 then LaidE k n q l c cl cu wh pt v W else v = [.agg #[.int .i64 k, .int .i64 n, .int .i64 q, .int .i64 l, .int .i64 c.op, .int .i64 c.ses, .int .i64 c.seq, .string c.key, .string c.val, .string c.old, .slice (some ⟨g3, 0, none⟩) cl.length cl.length, .bool cu, .int .i64 wh, .int .i64 pt], .agg #[.int .i64 k, .int .i64 n, .int .i64 q, .int .i64 l, .int .i64 c.op, .int .i64 c.ses, .int .i64 c.seq, .string c.key, .string c.val, .string c.old, .slice a cl.length cc, .bool cu, .int .i64 wh, .int .i64 pt], undef, .bool true, .bool false].getD i undef) rfl rfl (by kernel_rfl) ?_ ?_ ?_
  · intro i v W W' h hb
    by_cases h2 : i = 2
    · simp only [h2, if_true] at h ⊢
      obtain ⟨g, e, h⟩ := h
      exact ⟨g, e, h.kept hb⟩
    · simp only [h2, if_false] at h ⊢
      exact h
  · refine ⟨?_, ?_, ?_, ?_, ?_, trivial⟩
    · intro f W K hb hf hd hk
      have e1 : f 7 = .pointer (some ⟨z5, 0, none⟩) := hf 7 rfl
      have M := (HX6.out W hb).1
      have c0 := M.c0; have c1 := M.c1; have c2 := M.c2; have c3 := M.c3; have c4 := M.c4; have c5 := M.c5; have c6 := M.c6; have c7 := M.c7; have c8 := M.c8; have c9 := M.c9; have c10 := M.c10; have c11 := M.c11; have c12 := M.c12; have c13 := M.c13
      refine Inv.pay_value (v := .agg #[.int .i64 k, .int .i64 n, .int .i64 q, .int .i64 l, .int .i64 c.op, .int .i64 c.ses, .int .i64 c.seq, .string c.key, .string c.val, .string c.old, .slice (some ⟨g3, 0, none⟩) cl.length cl.length, .bool cu, .int .i64 wh, .int .i64 pt]) (w' := W) ?_ ?_
      · simp [execOp, go_sem, Inv.act_get, e1, c0, c1, c2, c3, c4, c5, c6, c7, c8, c9, c10, c11, c12, c13]
      · exact hk (.agg #[.int .i64 k, .int .i64 n, .int .i64 q, .int .i64 l, .int .i64 c.op, .int .i64 c.ses, .int .i64 c.seq, .string c.key, .string c.val, .string c.old, .slice (some ⟨g3, 0, none⟩) cl.length cl.length, .bool cu, .int .i64 wh, .int .i64 pt]) W (Below.refl _ _) rfl
    · intro f W K hb hf hd hk
      have e1 : f 3 = .pointer (some ⟨z, 0, none⟩) := hf 3 rfl
      have M := (HX6.out W hb).2.1
      have c0 := M.c0; have c1 := M.c1; have c2 := M.c2; have c3 := M.c3; have c4 := M.c4; have c5 := M.c5; have c6 := M.c6; have c7 := M.c7; have c8 := M.c8; have c9 := M.c9; have c10 := M.c10; have c11 := M.c11; have c12 := M.c12; have c13 := M.c13
      refine Inv.pay_value (v := .agg #[.int .i64 k, .int .i64 n, .int .i64 q, .int .i64 l, .int .i64 c.op, .int .i64 c.ses, .int .i64 c.seq, .string c.key, .string c.val, .string c.old, .slice a cl.length cc, .bool cu, .int .i64 wh, .int .i64 pt]) (w' := W) ?_ ?_
      · simp [execOp, go_sem, Inv.act_get, e1, c0, c1, c2, c3, c4, c5, c6, c7, c8, c9, c10, c11, c12, c13]
      · exact hk (.agg #[.int .i64 k, .int .i64 n, .int .i64 q, .int .i64 l, .int .i64 c.op, .int .i64 c.ses, .int .i64 c.seq, .string c.key, .string c.val, .string c.old, .slice a cl.length cc, .bool cu, .int .i64 wh, .int .i64 pt]) W (Below.refl _ _) rfl
    · intro f W K hb hf hd hk
      have d1 : f 27 = .agg #[.int .i64 k, .int .i64 n, .int .i64 q, .int .i64 l, .int .i64 c.op, .int .i64 c.ses, .int .i64 c.seq, .string c.key, .string c.val, .string c.old, .slice a cl.length cc, .bool cu, .int .i64 wh, .int .i64 pt] := hd 1 rfl
      refine Inv.pay_callE (f := 6) (args := #[.agg #[.int .i64 k, .int .i64 n, .int .i64 q, .int .i64 l, .int .i64 c.op, .int .i64 c.ses, .int .i64 c.seq, .string c.key, .string c.val, .string c.old, .slice a cl.length cc, .bool cu, .int .i64 wh, .int .i64 pt]]) (R := fun v w' => LaidE k n q l c cl cu wh pt v w' ∧ Below W.heap.size W w') ?_ ?_ (fun v w5 hv => hk v w5 hv.2 hv.1)
      · simp [execOp, go_sem, Inv.act_get, d1]
      · refine (HTO.out W (HX6.out W hb).2.2.2).mono ?_
        rintro e w' ⟨g1, rfl, hp, hb7⟩
        exact ⟨_, rfl, ⟨g1, rfl, hp⟩, hb7⟩
    · intro f W K hb hf hd hk
      have d0 : f 26 = .agg #[.int .i64 k, .int .i64 n, .int .i64 q, .int .i64 l, .int .i64 c.op, .int .i64 c.ses, .int .i64 c.seq, .string c.key, .string c.val, .string c.old, .slice (some ⟨g3, 0, none⟩) cl.length cl.length, .bool cu, .int .i64 wh, .int .i64 pt] := hd 0 rfl
      have d2 : LaidE k n q l c cl cu wh pt (f 28) W := hd 2 rfl
      have hc9 : Calls Try.prog 8 #[.agg #[.int .i64 k, .int .i64 n, .int .i64 q, .int .i64 l, .int .i64 c.op, .int .i64 c.ses, .int .i64 c.seq, .string c.key, .string c.val, .string c.old, .slice (some ⟨g3, 0, none⟩) cl.length cl.length, .bool cu, .int .i64 wh, .int .i64 pt], f 28] W fun e w' => e = .returned (.bool true) ∧ Below W.heap.size W w' := by
        generalize f 28 = v at d2
        obtain ⟨g, e, h⟩ := d2
        rw [e]
        exact HEQ.out W g3 g (HX6.out W hb).2.2.1 h
      refine Inv.pay_call (f := 8) (args := #[.agg #[.int .i64 k, .int .i64 n, .int .i64 q, .int .i64 l, .int .i64 c.op, .int .i64 c.ses, .int .i64 c.seq, .string c.key, .string c.val, .string c.old, .slice (some ⟨g3, 0, none⟩) cl.length cl.length, .bool cu, .int .i64 wh, .int .i64 pt], f 28]) (u := .bool true) (R := fun w' => Below W.heap.size W w') ?_ hc9 (fun w5 hb5 => hk (.bool true) w5 hb5 rfl)
      simp [execOp, go_sem, Inv.act_get, d0]
    · intro f W K hb hf hd hk
      have d3 : f 29 = .bool true := hd 3 rfl
      refine Inv.pay_value (v := .bool false) (w' := W) ?_ ?_
      · simp [execOp, go_sem, Inv.act_get, d3]
      · exact hk (.bool false) W (Below.refl _ _) rfl
  · intro f w7 hb7 hf hv
    have e4 : f 30 = .bool false := hv 4 (by decide)
    have hact : Inv.act 31 [] f = ⟨(f 0 :: f 1 :: f 2 :: f 3 :: f 4 :: f 5 :: f 6 :: f 7 :: f 8 :: f 9 :: f 10 :: f 11 :: f 12 :: f 13 :: f 14 :: f 15 :: f 16 :: f 17 :: f 18 :: f 19 :: f 20 :: f 21 :: f 22 :: f 23 :: f 24 :: f 25 :: f 26 :: f 27 :: f 28 :: f 29 :: f 30 :: []).toArray, []⟩ := by kernel_rfl
    rw [hact, e4]
    clear hact hf hv
    go_wp2
    go_ret
    exact ⟨rfl, (HX6.out w7 hb7).2.2.2⟩
end Go.Proofs.Ytojhjffkbjdgfaa
