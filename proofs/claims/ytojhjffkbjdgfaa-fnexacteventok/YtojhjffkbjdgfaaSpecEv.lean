/- EventOk of the specification, walked. Made by program. -/
import Derived.Test.YtojhjffkbjdgfaaEvA
namespace Go.Proofs.Ytojhjffkbjdgfaa
open Go.RowKit
open Cmds (okC)
set_option linter.unusedVariables false
set_option linter.unusedSimpArgs false

set_option maxHeartbeats 4000000 in
set_option maxRecDepth 100000 in
theorem specEv_is (N : Int) (e : EvL) (hs : e.cmd.key.size ≤ 1048576 ∧ e.cmd.val.size ≤ 1048576 ∧ e.cmd.old.size ≤ 1048576) (hc : e.conf.length ≤ 1048576) {a : Option Addr} {gc oc cc : Nat} (w : World) (hI : IntAt w a gc oc e.conf) :
    Calls Try.prog 5 #[.int .i64 N, evV e a cc] w fun en w' => en = .returned (.bool (evB N e)) ∧ Below w.heap.size w w' := by
  obtain ⟨R, hR⟩ : ∃ R, R = evB N e := ⟨_, rfl⟩
  rw [← hR]
  obtain ⟨k, n, q, l, c, cl, cu, wh, pt⟩ := e
  simp only at hs hc hI ⊢
  obtain ⟨W, hW⟩ : ∃ W, W = w.alloc (Obj.cells #[.int .i64 k, .int .i64 n, .int .i64 q, .int .i64 l, .int .i64 c.op, .int .i64 c.ses, .int .i64 c.seq, .string c.key, .string c.val, .string c.old, .slice a cl.length cc, .bool cu, .int .i64 wh, .int .i64 pt] 31) := ⟨_, rfl⟩
  obtain ⟨g, hg⟩ : ∃ g, g = w.heap.size := ⟨_, rfl⟩
  have hb : Below w.heap.size w W := by rw [hW]; exact (Below.refl _ _).alloc (Nat.le_refl _) _
  have HB : Hid (Below w.heap.size w W) := hb
  have HBB : Hid (∀ W', Below W.heap.size W W' → Below w.heap.size w W') := fun W' h => hb.trans (h.mono hb.size)
  have HI : Hid (∀ W', Below W.heap.size W W' → IntAt W' a gc oc cl) := fun W' h => (hI.kept hb).kept h
  have HX : Hid (∀ W', Below W.heap.size W W' → EvAt W' g ⟨k, n, q, l, c, cl, cu, wh, pt⟩ a cc) := fun W' h => by rw [hg]; exact (by rw [hW]; exact EvAt.new w ⟨k, n, q, l, c, cl, cu, wh, pt⟩ a cc 31 : EvAt W w.heap.size ⟨k, n, q, l, c, cl, cu, wh, pt⟩ a cc).kept h
  have HIN : Hid (∀ (x a b : Int) (W : World), a ≤ x ∧ x ≤ b → Calls Try.prog 11 #[.int .i64 x, .int .i64 a, .int .i64 b] W fun en w' => en = .returned (.bool true) ∧ w' = W) := fun x a b W q => in_is x a b true (by simp [q]) W
  have HNO : Hid (∀ (x a b : Int) (W : World), Hid (¬ (a ≤ x ∧ x ≤ b)) → Calls Try.prog 11 #[.int .i64 x, .int .i64 a, .int .i64 b] W fun en w' => en = .returned (.bool false) ∧ w' = W) := fun x a b W q => in_is x a b false ⟨fun h => (by cases h), fun h => absurd h q.out⟩ W
  unfold evV
  by_cases k1 : 1 ≤ N ∧ N ≤ 4
  rotate_left
  · obtain rfl : R = false := hR.trans (evB_no fun h => k1 h.1)
    have q1 : Hid (¬ ((1 : Int) ≤ N ∧ N ≤ 4)) := k1
    clear hR k1
    go_enter Try.func5, Try.ntmps5
    go_wp2_with (go_at_call 11; (first | (with_reducible refine Calls.mono (HIN.out _ _ _ _ (by assumption)) ?_) | (with_reducible refine Calls.mono (HIN.out _ _ _ _ (by decide)) ?_) | (with_reducible refine Calls.mono (HNO.out _ _ _ _ (by assumption)) ?_) | fail); rintro en w2 ⟨rfl, hw2⟩; subst hw2)
    go_ret
    exact ⟨rfl, hW ▸ HB.out⟩
  by_cases k2 : 1 ≤ k ∧ k ≤ 9
  rotate_left
  · obtain rfl : R = false := hR.trans (evB_no fun h => k2 h.2.1)
    have q2 : Hid (¬ ((1 : Int) ≤ k ∧ k ≤ 9)) := k2
    clear hR k2
    go_enter Try.func5, Try.ntmps5
    go_wp2_with (go_at_call 11; (first | (with_reducible refine Calls.mono (HIN.out _ _ _ _ (by assumption)) ?_) | (with_reducible refine Calls.mono (HIN.out _ _ _ _ (by decide)) ?_) | (with_reducible refine Calls.mono (HNO.out _ _ _ _ (by assumption)) ?_) | fail); rintro en w2 ⟨rfl, hw2⟩; subst hw2)
    go_ret
    exact ⟨rfl, hW ▸ HB.out⟩
  by_cases k3 : 1 ≤ n ∧ n ≤ N
  rotate_left
  · obtain rfl : R = false := hR.trans (evB_no fun h => k3 h.2.2.1)
    have q3 : Hid (¬ ((1 : Int) ≤ n ∧ n ≤ N)) := k3
    clear hR k3
    go_enter Try.func5, Try.ntmps5
    go_wp2_with (go_at_call 11; (first | (with_reducible refine Calls.mono (HIN.out _ _ _ _ (by assumption)) ?_) | (with_reducible refine Calls.mono (HIN.out _ _ _ _ (by decide)) ?_) | (with_reducible refine Calls.mono (HNO.out _ _ _ _ (by assumption)) ?_) | fail); rintro en w2 ⟨rfl, hw2⟩; subst hw2)
    go_ret
    exact ⟨rfl, hW ▸ HB.out⟩
  by_cases k4 : 0 ≤ q
  rotate_left
  · obtain rfl : R = false := hR.trans (evB_no fun h => k4 h.2.2.2)
    have q4 : q < 0 := by omega
    clear hR k4
    go_enter Try.func5, Try.ntmps5
    go_wp2_with (go_at_call 11; (first | (with_reducible refine Calls.mono (HIN.out _ _ _ _ (by assumption)) ?_) | (with_reducible refine Calls.mono (HIN.out _ _ _ _ (by decide)) ?_) | (with_reducible refine Calls.mono (HNO.out _ _ _ _ (by assumption)) ?_) | fail); rintro en w2 ⟨rfl, hw2⟩; subst hw2)
    go_ret
    exact ⟨rfl, hW ▸ HB.out⟩
  rw [evB_yes k1 k2 k3 k4] at hR
  have q4 : ¬ q < 0 := by omega
  clear k4
  unfold kindB at hR
  simp only at hR
  by_cases t1 : k = 1 ∨ k = 9
  · rw [if_pos t1] at hR
    by_cases k5 : 1 ≤ l ∧ l ≤ 20
    · have hR' : R = true := by rw [hR]; simp [k5]
      subst hR'
      clear hR
      rcases t1 with rfl | rfl
      all_goals (
        go_enter Try.func5, Try.ntmps5
        go_wp2_with (go_at_call 11; (first | (with_reducible refine Calls.mono (HIN.out _ _ _ _ (by assumption)) ?_) | (with_reducible refine Calls.mono (HIN.out _ _ _ _ (by decide)) ?_) | (with_reducible refine Calls.mono (HNO.out _ _ _ _ (by assumption)) ?_) | fail); rintro en w2 ⟨rfl, hw2⟩; subst hw2)
        go_ret
        exact ⟨rfl, hW ▸ HB.out⟩)
    · have hR' : R = false := by rw [hR, Bool.and_eq_false_iff]; simp only [decide_eq_false_iff_not]; omega
      subst hR'
      have q5 : Hid (¬ ((1 : Int) ≤ l ∧ l ≤ 20)) := k5
      clear hR k5
      rcases t1 with rfl | rfl
      all_goals (
        go_enter Try.func5, Try.ntmps5
        go_wp2_with (go_at_call 11; (first | (with_reducible refine Calls.mono (HIN.out _ _ _ _ (by assumption)) ?_) | (with_reducible refine Calls.mono (HIN.out _ _ _ _ (by decide)) ?_) | (with_reducible refine Calls.mono (HNO.out _ _ _ _ (by assumption)) ?_) | fail); rintro en w2 ⟨rfl, hw2⟩; subst hw2)
        go_ret
        exact ⟨rfl, hW ▸ HB.out⟩)
  rw [if_neg t1] at hR
  by_cases t2 : k = 5
  · rw [if_pos t2] at hR
    subst t2
    have HCM : Hid (∀ W, Calls Try.prog 12 #[.agg #[.int .i64 c.op, .int .i64 c.ses, .int .i64 c.seq, .string c.key, .string c.val, .string c.old]] W fun en w' => en = .returned (.bool R) ∧ Below W.heap.size W w') := fun W => by rw [hR]; exact specCmdOk_is c hs W
    clear hR t1
    go_enter Try.func5, Try.ntmps5
    go_wp2_with (first | (go_at_call 11; (first | (with_reducible refine Calls.mono (HIN.out _ _ _ _ (by assumption)) ?_) | (with_reducible refine Calls.mono (HIN.out _ _ _ _ (by decide)) ?_) | (with_reducible refine Calls.mono (HNO.out _ _ _ _ (by assumption)) ?_) | fail); rintro en w2 ⟨rfl, hw2⟩; subst hw2) | (go_at_call 12; refine Calls.mono (HCM.out _) ?_; rintro en w3 ⟨rfl, hb3⟩))
    go_ret
    exact ⟨rfl, HBB.out _ (hW ▸ hb3)⟩
  rw [if_neg t2] at hR
  by_cases t3 : k = 6
  · rw [if_pos t3] at hR
    subst t3
    obtain ⟨R0, hR0⟩ : ∃ R0, Mans.confOk cl = R0 := ⟨_, rfl⟩
    have HCO : Hid (∀ W', Below W.heap.size W W' → Calls Try.prog 13 #[.slice a cl.length cc] W' fun en w' => en = .returned (.bool R0) ∧ Below W'.heap.size W' w') := fun W' h => specConf_is cl hc R0 hR0 W' (HI.out W' h)
    unfold confIn at hR
    rw [hR0] at hR
    cases R0 with
    | false =>
      simp only [Bool.false_and] at hR
      subst hR
      clear t1 t2
      go_enter Try.func5, Try.ntmps5
      go_wp2_with (first | (go_at_call 11; (first | (with_reducible refine Calls.mono (HIN.out _ _ _ _ (by assumption)) ?_) | (with_reducible refine Calls.mono (HIN.out _ _ _ _ (by decide)) ?_) | (with_reducible refine Calls.mono (HNO.out _ _ _ _ (by assumption)) ?_) | fail); rintro en w2 ⟨rfl, hw2⟩; subst hw2) | (go_at_call 13; rw [← hW, ← hg]; refine Calls.mono (HCO.out _ (Below.refl _ _)) ?_; rintro en w3 ⟨rfl, hb3⟩))
      go_ret
      exact ⟨rfl, HBB.out _ hb3⟩
    | true =>
      simp only [Bool.true_and] at hR
      obtain ⟨ll, hl1, hl2⟩ := (⟨(Mans.confOk_iff.1 hR0).1.1, (Mans.confOk_iff.1 hR0).1.2⟩ : 1 ≤ cl.length ∧ cl.length ≤ 4) |> fun h => (⟨cl.length - 1, by omega, by omega⟩ : ∃ j, j < cl.length ∧ cl.length = j + 1)
      have hlast : lastI cl = cl[ll] := by
        unfold lastI
        rw [List.getLastD_eq_getLast?, List.getLast?_eq_getElem?, show cl.length - 1 = ll by omega, List.getElem?_eq_getElem hl1]; rfl
      rw [hlast] at hR
      obtain ⟨z, hz⟩ : ∃ z, z = cl[ll] := ⟨_, rfl⟩
      rw [← hz] at hR
      have HL : Hid (∀ W', Below W.heap.size W W' → W'.cell? ⟨gc, oc + ll, none⟩ = some (.int .i64 z)) := fun W' h => by rw [hz]; exact (HI.out W' h).2 ll hl1
      have HA : a = some ⟨gc, oc, none⟩ := (HI.out W (Below.refl _ _)).1 (by omega)
      subst HA
      have hlen : (cl.length : Int) - 1 = (ll : Int) := by omega
      have hll : ll < 1048577 := by omega
      clear t1 t2 hlast
      have hlt : (ll : Int) < (cl.length : Int) := by omega
      have hge : (0 : Int) ≤ (ll : Int) := by omega
      by_cases hzN : z ≤ N
      · obtain rfl : R = true := by rw [hR]; simp [hzN]
        clear hR hR0 hz hl1 hl2 hs hc hI hb
        go_enter Try.func5, Try.ntmps5
        go_wp2_with (first | (go_at_call 11; (first | (with_reducible refine Calls.mono (HIN.out _ _ _ _ (by assumption)) ?_) | (with_reducible refine Calls.mono (HIN.out _ _ _ _ (by decide)) ?_) | (with_reducible refine Calls.mono (HNO.out _ _ _ _ (by assumption)) ?_) | fail); rintro en w2 ⟨rfl, hw2⟩; subst hw2) | (go_at_call 13; rw [← hW]; refine Calls.mono (HCO.out _ (Below.refl _ _)) ?_; rintro en w3 ⟨rfl, hb3⟩; have hl := HL.out _ hb3; have HB3 : Hid (Below W.heap.size W w3) := hb3; obtain ⟨p0, p1, p2, p3, p4, p5, p6, p7, p8, p9, p10, p11, p12, p13⟩ := HX.out _ hb3; rw [hg] at p0 p1 p2 p3 p4 p5 p6 p7 p8 p9 p10 p11 p12 p13; clear hb3))
        go_ret
        exact ⟨by first | rfl | simp [hzN], HBB.out _ (by assumption : Hid (Below W.heap.size W _)).out⟩
      · obtain rfl : R = false := by rw [hR]; simp [hzN]
        clear hR hR0 hz hl1 hl2 hs hc hI hb
        go_enter Try.func5, Try.ntmps5
        go_wp2_with (first | (go_at_call 11; (first | (with_reducible refine Calls.mono (HIN.out _ _ _ _ (by assumption)) ?_) | (with_reducible refine Calls.mono (HIN.out _ _ _ _ (by decide)) ?_) | (with_reducible refine Calls.mono (HNO.out _ _ _ _ (by assumption)) ?_) | fail); rintro en w2 ⟨rfl, hw2⟩; subst hw2) | (go_at_call 13; rw [← hW]; refine Calls.mono (HCO.out _ (Below.refl _ _)) ?_; rintro en w3 ⟨rfl, hb3⟩; have hl := HL.out _ hb3; have HB3 : Hid (Below W.heap.size W w3) := hb3; obtain ⟨p0, p1, p2, p3, p4, p5, p6, p7, p8, p9, p10, p11, p12, p13⟩ := HX.out _ hb3; rw [hg] at p0 p1 p2 p3 p4 p5 p6 p7 p8 p9 p10 p11 p12 p13; clear hb3))
        go_ret
        exact ⟨by first | rfl | simp [hzN], HBB.out _ (by assumption : Hid (Below W.heap.size W _)).out⟩
  rw [if_neg t3] at hR
  subst hR
  have f1 : (k == 1) = false := by simp; omega
  have f9 : (k == 9) = false := by simp; omega
  have f5 : (k == 5) = false := by simp; omega
  have f6 : (k == 6) = false := by simp; omega
  clear t1 t2 t3
  go_enter Try.func5, Try.ntmps5
  go_wp2_with (go_at_call 11; (first | (with_reducible refine Calls.mono (HIN.out _ _ _ _ (by assumption)) ?_) | (with_reducible refine Calls.mono (HIN.out _ _ _ _ (by decide)) ?_) | (with_reducible refine Calls.mono (HNO.out _ _ _ _ (by assumption)) ?_) | fail); rintro en w2 ⟨rfl, hw2⟩; subst hw2)
  go_ret
  exact ⟨rfl, hW ▸ HB.out⟩
end Go.Proofs.Ytojhjffkbjdgfaa
