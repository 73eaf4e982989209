/- The law of EventOk, walked. Made by program. -/
import Derived.Test.YtojhjffkbjdgfaaEvI
import Derived.Test.YtojhjffkbjdgfaaSpecEv
namespace Go.Proofs.Ytojhjffkbjdgfaa
open Go.RowKit
open Cmds (okC)
set_option linter.unusedVariables false
set_option linter.unusedSimpArgs false
def SmallE (e : EvL) : Prop := (e.cmd.key.size ≤ 1048576 ∧ e.cmd.val.size ≤ 1048576 ∧ e.cmd.old.size ≤ 1048576) ∧ e.conf.length ≤ 1048576
set_option maxHeartbeats 4000000 in
set_option maxRecDepth 100000 in
theorem szEv_is (e : EvL) (hs : e.cmd.key.size ≤ maxLen ∧ e.cmd.val.size ≤ maxLen ∧ e.cmd.old.size ≤ maxLen) (hc : e.conf.length ≤ maxLen) {a : Option Addr} {cc : Nat} (w : World) :
    Calls Try.prog 4 #[evV e a cc, .int .i64 1048576] w fun en w' => ∃ x : Int, en = .returned (.int .i64 x) ∧ (0 ≤ x → SmallE e) ∧ Below w.heap.size w w' := by
  obtain ⟨k, n, q, l, c, cl, cu, wh, pt⟩ := e
  simp only at hs hc
  obtain ⟨R, hR⟩ : ∃ R : Int, R = if tot c ≤ 1048576 then ((1048576 - tot c : Nat) : Int) else -1 := ⟨_, rfl⟩
  obtain ⟨W, hW⟩ : ∃ W, W = w.alloc (Obj.cells #[.int .i64 k, .int .i64 n, .int .i64 q, .int .i64 l, .int .i64 c.op, .int .i64 c.ses, .int .i64 c.seq, .string c.key, .string c.val, .string c.old, .slice a cl.length cc, .bool cu, .int .i64 wh, .int .i64 pt] 26) := ⟨_, rfl⟩
  obtain ⟨g, hg⟩ : ∃ g, g = w.heap.size := ⟨_, rfl⟩
  have hb : Below w.heap.size w W := by rw [hW]; exact (Below.refl _ _).alloc (Nat.le_refl _) _
  have HBB : Hid (∀ W', Below W.heap.size W W' → Below w.heap.size w W') := fun W' h => hb.trans (h.mono hb.size)
  have HX : Hid (∀ W', Below W.heap.size W W' → EvAt W' g ⟨k, n, q, l, c, cl, cu, wh, pt⟩ a cc) := fun W' h => by rw [hg]; exact (by rw [hW]; exact EvAt.new w ⟨k, n, q, l, c, cl, cu, wh, pt⟩ a cc 26 : EvAt W w.heap.size ⟨k, n, q, l, c, cl, cu, wh, pt⟩ a cc).kept h
  have HSZ : Hid (∀ W, Calls Try.prog 9 #[.agg #[.int .i64 c.op, .int .i64 c.ses, .int .i64 c.seq, .string c.key, .string c.val, .string c.old], .int .i64 1048576] W fun en w' => en = .returned (.int .i64 R) ∧ Below W.heap.size W w') := fun W => szCmd_is c R hs hR W
  unfold evV
  by_cases h : tot c ≤ 1048576
  · rw [if_pos h] at hR
    have hR0 : ¬ R < 0 := by rw [hR]; omega
    have HCI : Hid (∀ W, Calls Try.prog 10 #[.slice a cl.length cc, .int .i64 R] W fun e w' => ∃ x : Int, e = .returned (.int .i64 x) ∧ Left (1048576 - tot c) cl.length x ∧ Below W.heap.size W w') := fun W => by rw [hR]; exact szIntS_is hc (by omega) W
    have HSM : Hid (∀ x : Int, Left (1048576 - tot c) cl.length x → 0 ≤ x → SmallE ⟨k, n, q, l, c, cl, cu, wh, pt⟩) := fun x hx h0 => by
      unfold tot at h hx
      rcases hx with ⟨h1, h2⟩ | ⟨h1, h2⟩
      · exact ⟨⟨by show c.key.size ≤ _; omega, by show c.val.size ≤ _; omega, by show c.old.size ≤ _; omega⟩, by show cl.length ≤ _; omega⟩
      · omega
    clear hR h hs hc hb
    go_enter Try.func4, Try.ntmps4
    go_wp2_with fail
    rw [← hW]
    refine Calls.mono (HSZ.out _) ?_
    rintro en w1 ⟨rfl, hb1⟩
    have HB1 : Hid (Below W.heap.size W w1) := hb1
    clear hb1
    obtain ⟨p0, p1, p2, p3, p4, p5, p6, p7, p8, p9, p10, p11, p12, p13⟩ := HX.out _ HB1.out
    rw [hg] at p0 p1 p2 p3 p4 p5 p6 p7 p8 p9 p10 p11 p12 p13
    go_wp2_with fail
    refine Calls.mono (HCI.out _) ?_
    rintro en w2 ⟨x, rfl, hx, hb2⟩
    have HL : Hid (Left (1048576 - tot c) cl.length x) := hx
    have HB2 : Hid (Below W.heap.size W w2) := HB1.out.trans (hb2.mono HB1.out.size)
    clear hb2 hx p0 p1 p2 p3 p4 p5 p6 p7 p8 p9 p10 p11 p12 p13
    by_cases hx0 : x < 0
    · go_wp2
      go_ret
      exact ⟨_, rfl, fun h => by omega, HBB.out _ HB2.out⟩
    · go_wp2
      go_ret
      exact ⟨_, rfl, HSM.out x HL.out, HBB.out _ HB2.out⟩
  · rw [if_neg h] at hR
    have hR0 : R < 0 := by rw [hR]; omega
    clear hR h hs hc hb
    go_enter Try.func4, Try.ntmps4
    go_wp2_with fail
    rw [← hW]
    refine Calls.mono (HSZ.out _) ?_
    rintro en w1 ⟨rfl, hb1⟩
    go_wp2
    go_ret
    exact ⟨_, rfl, fun h => by omega, HBB.out _ hb1⟩
end Go.Proofs.Ytojhjffkbjdgfaa
