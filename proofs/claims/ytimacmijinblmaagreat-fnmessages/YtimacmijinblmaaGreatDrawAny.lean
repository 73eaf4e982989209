/- The calls of l07Conf and l07AnyConf, walked: some list of a few numbers. The call of l07AnyConf, walked. -/
import Derived.Test.YtimacmijinblmaaGreatDrawCmd
import Derived.Test.YtimacmijinblmaaGreatInts
namespace Go.Proofs.YtimacmijinblmaaGreat
open Go.RowKit
set_option linter.unusedVariables false

theorem Cur.blk {B g len cap b off : Nat} {a : Option Addr} {z : Nat → Int} {W : World} (h : Cur B W g a len cap b off z) : ∃ cs, W.heap[g]? = some (.cells cs 97 (0, 0)) := by
  obtain ⟨hB, hb, hlen, hcode, i, h, hi, hblk⟩ := h
  exact ⟨_, hblk⟩
theorem Cur.low {B g len cap b off : Nat} {a : Option Addr} {z : Nat → Int} {W : World} (h : Cur B W g a len cap b off z) : B ≤ g := h.1
theorem Cur.not {B g len cap b off : Nat} {a : Option Addr} {z : Nat → Int} {W : World} (h : Cur B W g a len cap b off z) {bb n : Nat} {v : Value} {xs : List Value} (ho : W.ownsRow bb 3 1 v n xs) : v.ownBlock ≠ some g := by
  obtain ⟨cs, hc⟩ := h.blk
  exact own_not ho hc (by decide)
/-- A row of the call's own beside the cursor. -/
structure DL (B g len cap b off : Nat) (a : Option Addr) (z : Nat → Int) (w : World) (v : Value) (l : List Int) (W : World) : Prop where
  cur : Cur B W g a len cap b off z
  own : W.ownsRow w.heap.size 3 1 v l.length (cellsI l)
  gr : w.grownBy W (some g)
  lt : g < w.heap.size
section
variable {B g len cap b off : Nat} {a : Option Addr} {z : Nat → Int} {w W W' : World} {v v' : Value} {l : List Int}
theorem DL.call (h : DL B g len cap b off a z w v l W) (hc : Cur B W' g a len cap b off z) (hg : W.grownBy W' (some g)) : DL B g len cap b off a z w v l W' :=
  ⟨hc, h.own.kept hg (Or.inr (h.cur.not h.own)), h.gr.trans hg, h.lt⟩
theorem DL.alloc (h : DL B g len cap b off a z w v l W) (o : Obj) : DL B g len cap b off a z w v l (W.alloc o) := h.call (h.cur.alloc o) (World.grownBy_alloc W o (some g))
theorem DL.app (h : DL B g len cap b off a z w v l W) {c : Int} (hg : W.grownBy W' v.ownBlock) (hown : W'.ownsRow w.heap.size 3 1 v' (l.length + 1) (cellsI l ++ [.int .i64 c])) : DL B g len cap b off a z w v' (l ++ [c]) W' := by
  have hlo := h.cur.low
  have hl := h.lt
  refine ⟨h.cur.kept hg (fun r e => Or.inl (by have := (h.own.lt r e).1; omega)) (hg.block g h.cur.lt (fun e => h.cur.not h.own e.symm)), ownI_snoc hown, h.gr.andThen hg (fun r e => Or.inl (h.own.lt r e).1), hl⟩
theorem DL.size (h : DL B g len cap b off a z w v l W) : w.heap.size ≤ W.heap.size := h.gr.size
end
/-- Some list of at most n numbers. -/
def ListPost (B g len cap b off : Nat) (a : Option Addr) (z : Nat → Int) (w : World) (n : Nat) (e : Ending) (w' : World) : Prop := ∃ v l, e = .returned v ∧ l.length ≤ n ∧ DL B g len cap b off a z w v l w'
theorem news_int (w : World) (c : Int) : ∀ j u, [Value.int .i64 c][j]? = some u → (w.alloc (.cells #[.int .i64 c] 3)).cell? ((⟨w.heap.size, 0, none⟩ : Addr).add j) = some u :=
  World.news_of_block (cs := #[.int .i64 c]) (t := 3) (fr := (0, 0)) (heap_alloc_new w _)
theorem one_int (c : Int) : ∀ u ∈ [Value.int .i64 c], u.oneCell' = true := by
  intro u hu
  simp at hu
  rw [hu]; rfl
/-- One int appended to a row of the call's own. -/
theorem wpList_app_int {w : World} {ops : Array Oper} {rest : List Oper} {o : Oper} {act : Act} {Q : Exit → Act → World → Prop} (hgd : o.guard = none) (s x : Operand)
    (ho : o.op = .call { callee := .builtin .append, args := #[s, x], argTypes := #[23, 23] }) (base : Nat) (v : Value) (l : List Int) (hs : act.eval s = v) (hown : w.ownsRow base 3 1 v l.length (cellsI l)) (c : Int)
    (hx : act.eval x = .slice (some ⟨w.heap.size, 0, none⟩) 1 1) (hl : l.length ≤ 1000) (hb : base ≤ w.heap.size)
    (h : ∀ v' w', w'.ownsRow base 3 1 v' (l.length + 1) (cellsI l ++ [.int .i64 c]) → (w.alloc (.cells #[.int .i64 c] 3)).grownBy w' v.ownBlock → wpList Tryz.prog ops Q rest (act.put o.dst v') w') : wpList Tryz.prog ops Q (o :: rest) act (w.alloc (.cells #[.int .i64 c] 3)) := by
  obtain ⟨i0, hi, hz0, hz1, hz2⟩ := info_parts Tryz.info3
  refine wpList_append_own _ hgd s x 23 ho base 3 i0 (.int .i64 0) 1 8 Tryz.underlying23 hi hz0 hz1 hz2 rfl (by decide) v l.length (cellsI l) hs (hown.alloc _) ⟨w.heap.size, 0, none⟩ 1 1 [.int .i64 c] hx rfl (news_int w c) (one_int c) (by unfold maxLen; omega) (by omega) (by simp; omega) ?_
  intro v' w' h1 h2 _
  exact h v' w' h1 h2
theorem DL.start {B g len cap b off : Nat} {a : Option Addr} {z : Nat → Int} {w : World} (hc : Cur B w g a len cap b off z) : DL B g len cap b off a z w (.slice (some ⟨w.heap.size, 0, none⟩) 0 0) [] (w.alloc (.cells #[] 3)) :=
  ⟨hc.alloc _, World.ownsRow_made w #[] 0 (Nat.le_refl _) (by unfold maxLen; omega) rfl, World.grownBy_alloc _ _ _, hc.lt⟩
set_option maxHeartbeats 2000000 in
set_option maxRecDepth 100000 in
theorem conf_any {B g len cap b off : Nat} {a : Option Addr} {z : Nat → Int} (w : World) (hc : Cur B w g a len cap b off z) :
    Calls Tryz.prog 114 #[.pointer (some ⟨g, 0, none⟩)] w (ListPost B g len cap b off a z w 5) := by
  obtain ⟨i0, hi, hz0, hz1, hz2⟩ := info_parts Tryz.info3
  have HD : Hid (DL B g len cap b off a z w (.slice (some ⟨w.heap.size, 0, none⟩) 0 0) [] (w.alloc (.cells #[] 3))) := DL.start hc
  clear hc
  go_enter Tryz.func114, Tryz.ntmps114
  go_wp2_with fail
  go_loopw [3, 4] (fun v i wr => ∃ (k : Nat) (l : List Int), k ≤ 4 ∧ i = .int .i64 ((k + 1 : Nat) : Int) ∧ l.length ≤ k ∧ DL B g len cap b off a z w v l wr) (fun _ i _ => 5 - (intOf i).toNat)
  case atStart => exact ⟨0, [], by omega, rfl, Nat.le_refl _, HD.out⟩
  case round =>
    obtain ⟨k, l, hk, rfl, hll, hd⟩ := hrel
    have HL : Hid (DL B g len cap b off a z w u3 l wr) := hd
    clear hd HD
    by_cases hlt : k < 4
    · have hk1 : ((k + 1 : Nat) : Int) ≤ 4 := by omega
      go_wp2_with fail
      refine (once_any 2 (by omega) _ HL.out.cur).mono ?_
      rintro e w1 ⟨x, rfl, hc1, hg1⟩
      have hD1 := HL.out.call hc1 hg1
      have HD1 : Hid (DL B g len cap b off a z w u3 l w1) := hD1
      have hown := hD1.own
      have hsz := hD1.size
      clear hc1 hg1 hD1
      cases hx : (x == 0) with
      | false =>
        go_wp2_with fail
        go_roundw
        case rel => exact ⟨k + 1, l, by omega, by go_num, by omega, HD1.out⟩
        case measure => simp [intOf]; omega
      | true =>
        go_wp2_with (at_builtin; refine wpList_app_int rfl _ _ rfl w.heap.size _ l rfl hown _ rfl (by first | omega | simp) hsz ?_; intro v' w4 hown2 hgrow)
        have hD4 := (HD1.out.alloc _).app hgrow hown2
        have HD4 : Hid (DL B g len cap b off a z w v' (l ++ [_]) w4) := hD4
        clear hD4
        clear hown2 hgrow hown
        go_wp2
        go_roundw
        case rel => exact ⟨k + 1, l ++ [_], by omega, by go_num, by simp; omega, HD4.out⟩
        case measure => simp [intOf]; omega
    · have hk1 : ¬ ((k + 1 : Nat) : Int) ≤ 4 := by omega
      obtain ⟨va, vc, hv⟩ := own_slice HL.out.own
      subst hv
      by_cases hl0 : l.length = 0
      · obtain rfl : l = [] := List.length_eq_zero_iff.1 hl0
        have hown := HL.out.own
        have hsz := HL.out.size
        go_wp2_with (at_builtin; refine wpList_app_int rfl _ _ rfl w.heap.size _ [] rfl hown _ rfl (by first | omega | simp) hsz ?_; intro v' w4 hown2 hgrow)
        have HD4 : Hid (DL B g len cap b off a z w v' ([] ++ [1]) w4) := (HL.out.alloc _).app hgrow hown2
        clear hown2 hgrow hown
        go_wp2
        go_ret
        exact ⟨v', [] ++ [1], rfl, by simp, HD4.out⟩
      · have hl1 : ¬ (l.length : Int) = 0 := by omega
        go_wp2
        go_ret
        exact ⟨_, l, rfl, by omega, HL.out⟩
end Go.Proofs.YtimacmijinblmaaGreat
namespace Go.Proofs.YtimacmijinblmaaGreat
open Go.RowKit
set_option linter.unusedVariables false

theorem four_ints (p q r s : Int) (hp : -9223372036854775808 ≤ p ∧ p ≤ 9223372036854775807) (hq : -9223372036854775808 ≤ q ∧ q ≤ 9223372036854775807) (hr : -9223372036854775808 ≤ r ∧ r ≤ 9223372036854775807) (hs : -9223372036854775808 ≤ s ∧ s ≤ 9223372036854775807) :
    ∀ j, j < 4 → ∃ v : Int, (#[Value.int .i64 p, .int .i64 q, .int .i64 r, .int .i64 s] : Array Value)[j]? = some (.int .i64 v) ∧ -9223372036854775808 ≤ v ∧ v ≤ 9223372036854775807 := by
  intro j hj
  match j, hj with
  | 0, _ => exact ⟨p, rfl, hp⟩
  | 1, _ => exact ⟨q, rfl, hq⟩
  | 2, _ => exact ⟨r, rfl, hr⟩
  | 3, _ => exact ⟨s, rfl, hs⟩
theorem three_ints (p q r : Int) (hp : -9223372036854775808 ≤ p ∧ p ≤ 9223372036854775807) (hq : -9223372036854775808 ≤ q ∧ q ≤ 9223372036854775807) (hr : -9223372036854775808 ≤ r ∧ r ≤ 9223372036854775807) :
    ∀ j, j < 3 → ∃ v : Int, (#[Value.int .i64 p, .int .i64 q, .int .i64 r] : Array Value)[j]? = some (.int .i64 v) ∧ -9223372036854775808 ≤ v ∧ v ≤ 9223372036854775807 := by
  intro j hj
  match j, hj with
  | 0, _ => exact ⟨p, rfl, hp⟩
  | 1, _ => exact ⟨q, rfl, hq⟩
  | 2, _ => exact ⟨r, rfl, hr⟩
set_option maxHeartbeats 2000000 in
set_option maxRecDepth 100000 in
theorem anyConf_any {B g len cap b off : Nat} {a : Option Addr} {z : Nat → Int} (w : World) (hc : Cur B w g a len cap b off z) :
    Calls Tryz.prog 94 #[.pointer (some ⟨g, 0, none⟩)] w (ListPost B g len cap b off a z w 6) := by
  have HC : Hid (Cur B w g a len cap b off z) := hc
  clear hc
  go_enter Tryz.func94, Tryz.ntmps94
  go_wp2_with fail
  refine (conf_any w HC.out).mono ?_
  rintro e w1 ⟨v, l, rfl, hl, hd⟩
  have HD1 : Hid (DL B g len cap b off a z w v l w1) := hd
  obtain ⟨va, vc, hv⟩ := own_slice hd.own
  subst hv
  clear hd
  go_wp2_with fail
  refine (below_any 12 (by omega) w1 HD1.out.cur).mono ?_
  rintro e w2 ⟨x, rfl, hx, hc2, hg2⟩
  have HD2 : Hid (DL B g len cap b off a z w (.slice va l.length vc) l w2) := HD1.out.call hc2 hg2
  clear hc2 hg2 HD1
  by_cases h0 : x = 0
  · subst h0
    go_wp2_with fail
    refine (pickInt_new w2 HD2.out.cur #[.int .i64 0, .int .i64 4, .int .i64 5, .int .i64 1] 4 (by omega) (by omega) (four_ints 0 4 5 1 (by omega) (by omega) (by omega) (by omega))).mono ?_
    rintro e w3 ⟨y, rfl, _, _, hc3, hg3⟩
    have hD3 := HD2.out.call hc3 hg3
    have HD3 : Hid (DL B g len cap b off a z w (.slice va l.length vc) l w3) := hD3
    have hown := hD3.own
    have hsz := hD3.size
    clear hc3 hg3 hD3 HD2
    go_wp2_with (at_builtin; refine wpList_app_int rfl _ _ rfl w.heap.size _ l rfl hown _ rfl (by first | omega | simp) hsz ?_; intro v' w4 hown2 hgrow)
    have HD4 : Hid (DL B g len cap b off a z w v' (l ++ [y]) w4) := (HD3.out.alloc _).app hgrow hown2
    clear hown2 hgrow hown
    go_wp2
    go_ret
    exact ⟨v', l ++ [y], rfl, by simp; omega, HD4.out⟩
  · by_cases h1 : x = 1
    · subst h1
      have HN : Hid (DL B g len cap b off a z w (.slice (some ⟨w2.heap.size, 0, none⟩) 0 0) [] (w2.alloc (.cells #[] 3))) := by
        have h := HD2.out.alloc (.cells #[] 3)
        exact ⟨h.cur, own_mono (World.ownsRow_made w2 #[] 0 (Nat.le_refl _) (by unfold maxLen; omega) rfl) HD2.out.size, h.gr, h.lt⟩
      go_wp2
      go_ret
      exact ⟨_, [], rfl, by simp, HN.out⟩
    · go_wp2
      go_ret
      exact ⟨_, l, rfl, by omega, HD2.out⟩
end Go.Proofs.YtimacmijinblmaaGreat
