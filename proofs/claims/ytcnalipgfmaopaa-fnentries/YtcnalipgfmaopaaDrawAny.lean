/- The call of l07AnyConf, walked. -/
import Derived.Test.YtcnalipgfmaopaaDrawConf
namespace Go.Proofs.Ytcnalipgfmaopaa
open Go.RowKit
set_option linter.unusedVariables false

theorem four_ints (p q r s : Int) (hp : -9223372036854775808 ≤ p ∧ p ≤ 9223372036854775807) (hq : -9223372036854775808 ≤ q ∧ q ≤ 9223372036854775807) (hr : -9223372036854775808 ≤ r ∧ r ≤ 9223372036854775807) (hs : -9223372036854775808 ≤ s ∧ s ≤ 9223372036854775807) :
    ∀ j, j < 4 → ∃ v : Int, (#[Value.int .i64 p, .int .i64 q, .int .i64 r, .int .i64 s] : Array Value)[j]? = some (.int .i64 v) ∧ -9223372036854775808 ≤ v ∧ v ≤ 9223372036854775807 := by
  intro j hj
  match j, hj with
  | 0, _ => exact ⟨p, rfl, hp⟩
  | 1, _ => exact ⟨q, rfl, hq⟩
  | 2, _ => exact ⟨r, rfl, hr⟩
  | 3, _ => exact ⟨s, rfl, hs⟩
theorem three_ints (p q r : Int) (hp : -9223372036854775808 ≤ p ∧ p ≤ 9223372036854775807) (hq : -9223372036854775808 ≤ q ∧ q ≤ 9223372036854775807) (hr : -9223372036854775808 ≤ r ∧ r ≤ 9223372036854775807) :
    ∀ j, j < 3 → ∃ v : Int, (#[Value.int .i64 p, .int .i64 q, .int .i64 r] : Array Value)[j]? = some (.int .i64 v) ∧ -9223372036854775808 ≤ v ∧ v ≤ 9223372036854775807 := by
  intro j hj
  match j, hj with
  | 0, _ => exact ⟨p, rfl, hp⟩
  | 1, _ => exact ⟨q, rfl, hq⟩
  | 2, _ => exact ⟨r, rfl, hr⟩
set_option maxHeartbeats 2000000 in
set_option maxRecDepth 100000 in
theorem anyConf_any {B g len cap b off : Nat} {a : Option Addr} {z : Nat → Int} (w : World) (hc : Cur B w g a len cap b off z) :
    Calls Try.prog 52 #[.pointer (some ⟨g, 0, none⟩)] w (ListPost B g len cap b off a z w 6) := by
  have HC : Hid (Cur B w g a len cap b off z) := hc
  clear hc
  go_enter Try.func52, Try.ntmps52
  go_wp2_with fail
  refine (conf_any w HC.out).mono ?_
  rintro e w1 ⟨v, l, rfl, hl, hd⟩
  have HD1 : Hid (DL B g len cap b off a z w v l w1) := hd
  obtain ⟨va, vc, hv⟩ := own_slice hd.own
  subst hv
  clear hd
  go_wp2_with fail
  refine (below_any 12 (by omega) w1 HD1.out.cur).mono ?_
  rintro e w2 ⟨x, rfl, hx, hc2, hg2⟩
  have HD2 : Hid (DL B g len cap b off a z w (.slice va l.length vc) l w2) := HD1.out.call hc2 hg2
  clear hc2 hg2 HD1
  by_cases h0 : x = 0
  · subst h0
    go_wp2_with fail
    refine (pickInt_new w2 HD2.out.cur #[.int .i64 0, .int .i64 4, .int .i64 5, .int .i64 1] 4 (by omega) (by omega) (four_ints 0 4 5 1 (by omega) (by omega) (by omega) (by omega))).mono ?_
    rintro e w3 ⟨y, rfl, _, _, hc3, hg3⟩
    have hD3 := HD2.out.call hc3 hg3
    have HD3 : Hid (DL B g len cap b off a z w (.slice va l.length vc) l w3) := hD3
    have hown := hD3.own
    have hsz := hD3.size
    clear hc3 hg3 hD3 HD2
    go_wp2_with (at_builtin; refine wpList_app_int rfl _ _ rfl w.heap.size _ l rfl hown _ rfl (by first | omega | simp) hsz ?_; intro v' w4 hown2 hgrow)
    have HD4 : Hid (DL B g len cap b off a z w v' (l ++ [y]) w4) := (HD3.out.alloc _).app hgrow hown2
    clear hown2 hgrow hown
    go_wp2
    go_ret
    exact ⟨v', l ++ [y], rfl, by simp; omega, HD4.out⟩
  · by_cases h1 : x = 1
    · subst h1
      have HN : Hid (DL B g len cap b off a z w (.slice (some ⟨w2.heap.size, 0, none⟩) 0 0) [] (w2.alloc (.cells #[] 3))) := by
        have h := HD2.out.alloc (.cells #[] 3)
        exact ⟨h.cur, own_mono (World.ownsRow_made w2 #[] 0 (Nat.le_refl _) (by unfold maxLen; omega) rfl) HD2.out.size, h.gr, h.lt⟩
      go_wp2
      go_ret
      exact ⟨_, [], rfl, by simp, HN.out⟩
    · go_wp2
      go_ret
      exact ⟨_, l, rfl, by omega, HD2.out⟩
end Go.Proofs.Ytcnalipgfmaopaa
