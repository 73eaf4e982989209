/- EventOk of the program, walked. Made by program. -/
import Derived.Test.YtojhjffkbjdgfaaEvA
namespace Go.Proofs.Ytojhjffkbjdgfaa
open Go.RowKit
open Cmds (okC)
set_option linter.unusedVariables false
set_option linter.unusedSimpArgs false

theorem nodesOk_is (n : Int) (R : Bool) (hR : R = true ↔ 1 ≤ n ∧ n ≤ 4) (w : World) : Calls Try.prog 16 #[.int .i64 n] w fun en w' => en = .returned (.bool R) ∧ w' = w := by
  by_cases h1 : 1 ≤ n
  · by_cases h2 : n ≤ 4
    · obtain rfl : R = true := hR.2 ⟨h1, h2⟩
      clear hR
      go_enter Try.func16, Try.ntmps16
      go_wp2
      go_ret
      exact ⟨rfl, rfl⟩
    · obtain rfl : R = false := ans_no hR (fun h => h2 h.2)
      clear hR
      go_enter Try.func16, Try.ntmps16
      go_wp2
      go_ret
      exact ⟨rfl, rfl⟩
  · obtain rfl : R = false := ans_no hR (fun h => h1 h.1)
    clear hR
    go_enter Try.func16, Try.ntmps16
    go_wp2
    go_ret
    exact ⟨rfl, rfl⟩
theorem limitOk_is (n : Int) (R : Bool) (hR : R = true ↔ 1 ≤ n ∧ n ≤ 20) (w : World) : Calls Try.prog 21 #[.int .i64 n] w fun en w' => en = .returned (.bool R) ∧ w' = w := by
  by_cases h1 : 1 ≤ n
  · by_cases h2 : n ≤ 20
    · obtain rfl : R = true := hR.2 ⟨h1, h2⟩
      clear hR
      go_enter Try.func21, Try.ntmps21
      go_wp2
      go_ret
      exact ⟨rfl, rfl⟩
    · obtain rfl : R = false := ans_no hR (fun h => h2 h.2)
      clear hR
      go_enter Try.func21, Try.ntmps21
      go_wp2
      go_ret
      exact ⟨rfl, rfl⟩
  · obtain rfl : R = false := ans_no hR (fun h => h1 h.1)
    clear hR
    go_enter Try.func21, Try.ntmps21
    go_wp2
    go_ret
    exact ⟨rfl, rfl⟩

set_option maxHeartbeats 2000000 in
theorem smax_is {a : Option Addr} {g off cap : Nat} (x : Int) (l : List Int) (hlen : (x :: l).length ≤ 1048576) (w : World) (hf : IntAt w a g off (x :: l)) :
    Calls Try.prog 27 #[.slice a (x :: l).length cap] w fun en w' => en = .returned (.int .i64 (mx x l)) ∧ w' = w := by
  have HF : Hid (IntAt w a g off (x :: l)) := hf
  obtain ⟨n, hn⟩ : ∃ n, n = (x :: l).length := ⟨_, rfl⟩
  have hn0 : 0 < n := by rw [hn]; simp
  have hn1 : ¬ (n : Int) < 1 := by omega
  have hc0 : w.cell? ⟨g, off, none⟩ = some (.int .i64 x) := by have := hf.2 0 (by simp); simpa using this
  have HN : Hid (n = l.length + 1) := by show _ = _; rw [hn]; simp
  obtain rfl := hf.1 (by simp)
  rw [← hn] at hlen ⊢
  clear hf hn
  go_enter Try.func27, Try.ntmps27
  go_wp2
  go_loopw [3, 4] (fun m i wr => ∃ (k : Nat) (z : Int), 1 ≤ k ∧ k ≤ n ∧ i = .int .i64 (k : Int) ∧ m = .int .i64 z ∧ mx z (l.drop (k - 1)) = mx x l ∧ wr = w) (fun _ i _ => n - (intOf i).toNat)
  case atStart => exact ⟨1, x, Nat.le_refl _, by omega, rfl, rfl, by simp, rfl⟩
  case round =>
    obtain ⟨k, z, hk1, hk, rfl, rfl, hmx, rfl⟩ := hrel
    have HM : Hid (mx z (l.drop (k - 1)) = mx x l) := hmx
    clear hmx
    by_cases h1 : k < n
    · have h1' : (k : Int) < (n : Int) := by omega
      have hj : k < (x :: l).length := by have := HN.out; simp; omega
      have hj' : k - 1 < l.length := by have := HN.out; omega
      obtain ⟨y, hy⟩ : ∃ y, y = (x :: l)[k] := ⟨_, rfl⟩
      have hcell : wr.cell? ⟨g, off + k, none⟩ = some (.int .i64 y) := by rw [hy]; exact HF.out.2 k hj
      have hy2 : y = l[k - 1] := by rw [hy]; rcases k with _ | k; · omega
                                    · simp
      have hmx2 : Hid (mx (max z y) (l.drop (k + 1 - 1)) = mx x l) := by
        show _ = _
        rw [← HM.out, List.drop_eq_getElem_cons hj', mx, hy2, show k - 1 + 1 = k + 1 - 1 by omega]
      clear hy hy2 hj hj'
      have e : max z y = if z < y then y else z := by split <;> omega
      rw [e] at hmx2
      clear e
      go_wp2
      go_roundw
      case rel => exact ⟨k + 1, _, by omega, by omega, by go_num, rfl, hmx2.out, trivial⟩
      case measure => simp [intOf]; omega
    · have hk' : k = n := by omega
      have hend : z = mx x l := by
        have := HM.out
        rw [List.drop_of_length_le (by have := HN.out; omega)] at this
        exact this
      have h1' : ¬ (k : Int) < (n : Int) := by omega
      subst hend
      clear HM
      go_wp2
      go_ret
      exact ⟨rfl, rfl⟩

set_option maxHeartbeats 2000000 in
theorem confWithin_is {a : Option Addr} {g off cap : Nat} (l : List Int) (hlen : l.length ≤ 1048576) (n : Int) (w : World) (hf : IntAt w a g off l) :
    Calls Try.prog 23 #[.slice a l.length cap, .int .i64 n] w fun en w' => en = .returned (.bool (confIn n l)) ∧ w' = w := by
  obtain ⟨R, hR⟩ : ∃ R, Mans.confOk l = R := ⟨_, rfl⟩
  have HC : Hid (Calls Try.prog 26 #[.slice a l.length cap] w fun en w' => en = .returned (.bool R) ∧ w = w') := implConf_is l hlen R hR w hf
  unfold confIn
  rw [hR]
  cases R with
  | false =>
    clear hR hf
    go_enter Try.func23, Try.ntmps23
    go_wp2_with (go_at_call 26; refine Calls.mono HC.out ?_; rintro en w2 ⟨rfl, rfl⟩)
    go_ret
    exact ⟨rfl, rfl⟩
  | true =>
    have HM : Hid (Calls Try.prog 27 #[.slice a l.length cap] w fun en w' => en = .returned (.int .i64 (lastI l)) ∧ w' = w) := by
      show Calls _ _ _ _ _
      rcases l with _ | ⟨x, l⟩
      · simp [Mans.confOk] at hR
      · have := smax_is (cap := cap) x l hlen w hf
        rw [mx_conf hR] at this
        exact this
    obtain ⟨z, hz⟩ : ∃ z, z = lastI l := ⟨_, rfl⟩
    obtain ⟨m, hm⟩ : ∃ m, m = l.length := ⟨_, rfl⟩
    rw [← hz, ← hm] at HM
    rw [← hm] at HC ⊢
    rw [← hz]
    clear hR hf hz hm
    by_cases h : z ≤ n
    · go_enter Try.func23, Try.ntmps23
      go_wp2_with (first | (go_at_call 26; refine Calls.mono HC.out ?_; rintro en w2 ⟨rfl, hw2⟩; subst hw2) | (go_at_call 27; refine Calls.mono HM.out ?_; rintro en w2 ⟨rfl, hw2⟩; subst hw2))
      go_ret
      exact ⟨by simp [h], rfl⟩
    · go_enter Try.func23, Try.ntmps23
      go_wp2_with (first | (go_at_call 26; refine Calls.mono HC.out ?_; rintro en w2 ⟨rfl, hw2⟩; subst hw2) | (go_at_call 27; refine Calls.mono HM.out ?_; rintro en w2 ⟨rfl, hw2⟩; subst hw2))
      go_ret
      exact ⟨by simp [h], rfl⟩

def kindF (n : Int) (e : EvL) : Bool :=
  if e.kind = 1 ∨ e.kind = 9 then (decide (1 ≤ e.lim) && decide (e.lim ≤ 20)) else if e.kind = 5 then okC e.cmd else if e.kind = 6 then confIn n e.conf else (decide (1 ≤ e.kind) && decide (e.kind ≤ 9))
theorem evB_kindF {n : Int} {e : EvL} (h1 : 1 ≤ n ∧ n ≤ 4) (h3 : 1 ≤ e.node ∧ e.node ≤ n) (h4 : 0 ≤ e.at_) : evB n e = kindF n e := by
  unfold evB kindF kindB
  by_cases q1 : e.kind = 1 ∨ e.kind = 9
  · rw [if_pos q1, if_pos q1]
    rcases q1 with q | q <;> simp [q, h1, h3, h4]
  rw [if_neg q1, if_neg q1]
  by_cases q2 : e.kind = 5
  · rw [if_pos q2, if_pos q2]; simp [q2, h1, h3, h4]
  rw [if_neg q2, if_neg q2]
  by_cases q3 : e.kind = 6
  · rw [if_pos q3, if_pos q3]; simp [q3, h1, h3, h4]
  rw [if_neg q3, if_neg q3]
  simp [h1, h3, h4]

set_option maxHeartbeats 4000000 in
set_option maxRecDepth 100000 in
theorem kindOk_is (N : Int) (e : EvL) (hs : e.cmd.key.size ≤ 1048576 ∧ e.cmd.val.size ≤ 1048576 ∧ e.cmd.old.size ≤ 1048576) (hc : e.conf.length ≤ 1048576) {a : Option Addr} {gc oc cc : Nat} (w : World) (hI : IntAt w a gc oc e.conf) :
    Calls Try.prog 17 #[.int .i64 N, evV e a cc] w fun en w' => en = .returned (.bool (kindF N e)) ∧ Below w.heap.size w w' := by
  obtain ⟨R, hR⟩ : ∃ R, R = kindF N e := ⟨_, rfl⟩
  rw [← hR]
  obtain ⟨k, n, q, l, c, cl, cu, wh, pt⟩ := e
  simp only at hs hc hI ⊢
  obtain ⟨W, hW⟩ : ∃ W, W = w.alloc (Obj.cells #[.int .i64 k, .int .i64 n, .int .i64 q, .int .i64 l, .int .i64 c.op, .int .i64 c.ses, .int .i64 c.seq, .string c.key, .string c.val, .string c.old, .slice a cl.length cc, .bool cu, .int .i64 wh, .int .i64 pt] 31) := ⟨_, rfl⟩
  obtain ⟨g, hg⟩ : ∃ g, g = w.heap.size := ⟨_, rfl⟩
  have hb : Below w.heap.size w W := by rw [hW]; exact (Below.refl _ _).alloc (Nat.le_refl _) _
  have HB : Hid (Below w.heap.size w W) := hb
  have HBB : Hid (∀ W', Below W.heap.size W W' → Below w.heap.size w W') := fun W' h => hb.trans (h.mono hb.size)
  have HI : Hid (∀ W', Below W.heap.size W W' → IntAt W' a gc oc cl) := fun W' h => (hI.kept hb).kept h
  have HX : Hid (∀ W', Below W.heap.size W W' → EvAt W' g ⟨k, n, q, l, c, cl, cu, wh, pt⟩ a cc) := fun W' h => by rw [hg]; exact (by rw [hW]; exact EvAt.new w ⟨k, n, q, l, c, cl, cu, wh, pt⟩ a cc 31 : EvAt W w.heap.size ⟨k, n, q, l, c, cl, cu, wh, pt⟩ a cc).kept h
  unfold evV
  unfold kindF at hR
  simp only at hR
  have HLY : Hid (∀ W : World, 1 ≤ l ∧ l ≤ 20 → Calls Try.prog 21 #[.int .i64 l] W fun en w' => en = .returned (.bool true) ∧ w' = W) := fun W q => limitOk_is l true (by simp [q]) W
  have HLN : Hid (∀ W : World, Hid (¬ (1 ≤ l ∧ l ≤ 20)) → Calls Try.prog 21 #[.int .i64 l] W fun en w' => en = .returned (.bool false) ∧ w' = W) := fun W q => limitOk_is l false ⟨fun h => (by cases h), fun h => absurd h q.out⟩ W
  by_cases t1 : k = 1 ∨ k = 9
  · rw [if_pos t1] at hR
    by_cases k5 : 1 ≤ l ∧ l ≤ 20
    · have hR' : R = true := by rw [hR]; simp [k5]
      subst hR'
      clear hR
      rcases t1 with rfl | rfl
      all_goals (
        go_enter Try.func17, Try.ntmps17
        go_wp2_with (go_at_call 21; refine Calls.mono (HLY.out _ k5) ?_; rintro en w2 ⟨rfl, hw2⟩; subst hw2)
        go_ret
        exact ⟨rfl, hW ▸ HB.out⟩)
    · have hR' : R = false := by rw [hR, Bool.and_eq_false_iff]; simp only [decide_eq_false_iff_not]; omega
      subst hR'
      have q5 : Hid (¬ ((1 : Int) ≤ l ∧ l ≤ 20)) := k5
      clear hR k5
      rcases t1 with rfl | rfl
      all_goals (
        go_enter Try.func17, Try.ntmps17
        go_wp2_with (go_at_call 21; refine Calls.mono (HLN.out _ q5) ?_; rintro en w2 ⟨rfl, hw2⟩; subst hw2)
        go_ret
        exact ⟨rfl, hW ▸ HB.out⟩)
  rw [if_neg t1] at hR
  by_cases t2 : k = 5
  · rw [if_pos t2] at hR
    subst t2
    have HCM : Hid (∀ W, Calls Try.prog 22 #[.agg #[.int .i64 c.op, .int .i64 c.ses, .int .i64 c.seq, .string c.key, .string c.val, .string c.old]] W fun en w' => en = .returned (.bool R) ∧ Below W.heap.size W w') := fun W => by rw [hR]; exact implCmdOk_is c hs W
    clear hR t1
    go_enter Try.func17, Try.ntmps17
    go_wp2_with (go_at_call 22; refine Calls.mono (HCM.out _) ?_; rintro en w3 ⟨rfl, hb3⟩)
    go_ret
    exact ⟨rfl, HBB.out _ (hW ▸ hb3)⟩
  rw [if_neg t2] at hR
  by_cases t3 : k = 6
  · rw [if_pos t3] at hR
    subst t3
    have HCO : Hid (∀ W', Below W.heap.size W W' → Calls Try.prog 23 #[.slice a cl.length cc, .int .i64 N] W' fun en w' => en = .returned (.bool R) ∧ w' = W') := fun W' h => by rw [hR]; exact confWithin_is cl hc N W' (HI.out W' h)
    clear hR t1 t2
    go_enter Try.func17, Try.ntmps17
    go_wp2_with fail
    rw [← hW]
    refine Calls.mono (HCO.out _ (Below.refl _ _)) ?_
    rintro en w3 ⟨rfl, hw3⟩
    go_wp2
    go_ret
    exact ⟨rfl, hW ▸ HB.out⟩
  rw [if_neg t3] at hR
  have f1 : (k == 1) = false := by simp; omega
  have f9 : (k == 9) = false := by simp; omega
  have f5 : (k == 5) = false := by simp; omega
  have f6 : (k == 6) = false := by simp; omega
  clear t1 t2 t3
  by_cases k1 : 1 ≤ k
  · by_cases k2 : k ≤ 9
    · have hR' : R = true := by rw [hR]; simp [k1, k2]
      subst hR'
      clear hR
      go_enter Try.func17, Try.ntmps17
      go_wp2
      go_ret
      exact ⟨rfl, hW ▸ HB.out⟩
    · have hR' : R = false := by rw [hR]; simp [k2]
      subst hR'
      clear hR
      go_enter Try.func17, Try.ntmps17
      go_wp2
      go_ret
      exact ⟨rfl, hW ▸ HB.out⟩
  · have hR' : R = false := by rw [hR]; simp [k1]
    subst hR'
    clear hR
    go_enter Try.func17, Try.ntmps17
    go_wp2
    go_ret
    exact ⟨rfl, hW ▸ HB.out⟩

set_option maxHeartbeats 4000000 in
set_option maxRecDepth 100000 in
theorem implEv_is (N : Int) (e : EvL) (hs : e.cmd.key.size ≤ 1048576 ∧ e.cmd.val.size ≤ 1048576 ∧ e.cmd.old.size ≤ 1048576) (hc : e.conf.length ≤ 1048576) {a : Option Addr} {gc oc cc : Nat} (w : World) (hI : IntAt w a gc oc e.conf) :
    Calls Try.prog 7 #[.int .i64 N, evV e a cc] w fun en w' => en = .returned (.bool (evB N e)) ∧ Below w.heap.size w w' := by
  have hkk := fun (X : World) (hX : Below w.heap.size w X) => kindOk_is (cc := cc) N e hs hc X (hI.kept hX)
  obtain ⟨R, hR⟩ : ∃ R, R = evB N e := ⟨_, rfl⟩
  rw [← hR]
  obtain ⟨k, n, q, l, c, cl, cu, wh, pt⟩ := e
  simp only at hs hc hI ⊢
  obtain ⟨W, hW⟩ : ∃ W, W = w.alloc (Obj.cells #[.int .i64 k, .int .i64 n, .int .i64 q, .int .i64 l, .int .i64 c.op, .int .i64 c.ses, .int .i64 c.seq, .string c.key, .string c.val, .string c.old, .slice a cl.length cc, .bool cu, .int .i64 wh, .int .i64 pt] 31) := ⟨_, rfl⟩
  obtain ⟨g, hg⟩ : ∃ g, g = w.heap.size := ⟨_, rfl⟩
  have hb : Below w.heap.size w W := by rw [hW]; exact (Below.refl _ _).alloc (Nat.le_refl _) _
  have HB : Hid (Below w.heap.size w W) := hb
  have HBB : Hid (∀ W', Below W.heap.size W W' → Below w.heap.size w W') := fun W' h => hb.trans (h.mono hb.size)
  have HI : Hid (∀ W', Below W.heap.size W W' → IntAt W' a gc oc cl) := fun W' h => (hI.kept hb).kept h
  have HX : Hid (∀ W', Below W.heap.size W W' → EvAt W' g ⟨k, n, q, l, c, cl, cu, wh, pt⟩ a cc) := fun W' h => by rw [hg]; exact (by rw [hW]; exact EvAt.new w ⟨k, n, q, l, c, cl, cu, wh, pt⟩ a cc 31 : EvAt W w.heap.size ⟨k, n, q, l, c, cl, cu, wh, pt⟩ a cc).kept h
  have HNY : Hid (∀ W : World, 1 ≤ N ∧ N ≤ 4 → Calls Try.prog 16 #[.int .i64 N] W fun en w' => en = .returned (.bool true) ∧ w' = W) := fun W q => nodesOk_is N true (by simp [q]) W
  have HNN : Hid (∀ W : World, Hid (¬ (1 ≤ N ∧ N ≤ 4)) → Calls Try.prog 16 #[.int .i64 N] W fun en w' => en = .returned (.bool false) ∧ w' = W) := fun W q => nodesOk_is N false ⟨fun h => (by cases h), fun h => absurd h q.out⟩ W
  unfold evV at hkk ⊢
  simp only at hkk
  by_cases k1 : 1 ≤ N ∧ N ≤ 4
  rotate_left
  · obtain rfl : R = false := hR.trans (evB_no fun h => k1 h.1)
    have q1 : Hid (¬ ((1 : Int) ≤ N ∧ N ≤ 4)) := k1
    clear hR k1 hkk
    go_enter Try.func7, Try.ntmps7
    go_wp2_with (go_at_call 16; refine Calls.mono (HNN.out _ q1) ?_; rintro en w2 ⟨rfl, hw2⟩; subst hw2)
    go_ret
    exact ⟨rfl, hW ▸ HB.out⟩
  by_cases k3 : 1 ≤ n
  rotate_left
  · obtain rfl : R = false := hR.trans (evB_no fun h => k3 h.2.2.1.1)
    clear hR hkk
    go_enter Try.func7, Try.ntmps7
    go_wp2_with (go_at_call 16; refine Calls.mono (HNY.out _ k1) ?_; rintro en w2 ⟨rfl, hw2⟩; subst hw2)
    go_ret
    exact ⟨rfl, hW ▸ HB.out⟩
  by_cases k4 : n ≤ N
  rotate_left
  · obtain rfl : R = false := hR.trans (evB_no fun h => k4 h.2.2.1.2)
    clear hR hkk
    go_enter Try.func7, Try.ntmps7
    go_wp2_with (go_at_call 16; refine Calls.mono (HNY.out _ k1) ?_; rintro en w2 ⟨rfl, hw2⟩; subst hw2)
    go_ret
    exact ⟨rfl, hW ▸ HB.out⟩
  by_cases k5 : 0 ≤ q
  rotate_left
  · obtain rfl : R = false := hR.trans (evB_no fun h => k5 h.2.2.2)
    clear hR hkk
    go_enter Try.func7, Try.ntmps7
    go_wp2_with (go_at_call 16; refine Calls.mono (HNY.out _ k1) ?_; rintro en w2 ⟨rfl, hw2⟩; subst hw2)
    go_ret
    exact ⟨rfl, hW ▸ HB.out⟩
  rw [evB_kindF k1 ⟨k3, k4⟩ k5] at hR
  rw [← hR] at hkk
  have HK : Hid (∀ X, Below w.heap.size w X → Calls Try.prog 17 #[.int .i64 N, .agg #[.int .i64 k, .int .i64 n, .int .i64 q, .int .i64 l, .int .i64 c.op, .int .i64 c.ses, .int .i64 c.seq, .string c.key, .string c.val, .string c.old, .slice a cl.length cc, .bool cu, .int .i64 wh, .int .i64 pt]] X fun en w' => en = .returned (.bool R) ∧ Below X.heap.size X w') := hkk
  clear hR hkk
  obtain ⟨p0, p1, p2, p3, p4, p5, p6, p7, p8, p9, p10, p11, p12, p13⟩ := HX.out W (Below.refl _ _)
  rw [hW, hg] at p0 p1 p2 p3 p4 p5 p6 p7 p8 p9 p10 p11 p12 p13
  go_enter Try.func7, Try.ntmps7
  go_wp2_with (first | (go_at_call 16; refine Calls.mono (HNY.out _ k1) ?_; rintro en w2 ⟨rfl, hw2⟩; subst hw2) | (go_at_call 17; rw [← hW]; refine Calls.mono (HK.out _ HB.out) ?_; rintro en w3 ⟨rfl, hb3⟩))
  go_ret
  exact ⟨rfl, HB.out.trans (hb3.mono HB.out.size)⟩
end Go.Proofs.Ytojhjffkbjdgfaa
