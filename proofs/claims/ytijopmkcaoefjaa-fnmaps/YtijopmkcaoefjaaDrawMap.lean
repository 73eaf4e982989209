/- Maps are drawn, walked: l05KeyOf, l06Right, DrawRightMaps: what comes is right, and short. -/
import Derived.Test.YtijopmkcaoefjaaDrawMore
namespace Go.Proofs.Ytijopmkcaoefjaa
open Go.RowKit
set_option linter.unusedVariables false

def keys7 : Array Value := #[.string ⟨#[107, 97]⟩, .string ⟨#[107, 98]⟩, .string ⟨#[107, 99]⟩, .string ⟨#[110]⟩, .string ⟨#[115, 49]⟩, .string ⟨#[115, 50]⟩, .string ⟨#[107, 100]⟩]
theorem keys7_ok : ∀ j, j < 7 → ∃ S : ByteArray, keys7[j]? = some (.string S) ∧ (1 ≤ S.size ∧ S.size ≤ 10) := by
  intro j hj
  have hc : j = 0 ∨ j = 1 ∨ j = 2 ∨ j = 3 ∨ j = 4 ∨ j = 5 ∨ j = 6 := by omega
  rcases hc with rfl | rfl | rfl | rfl | rfl | rfl | rfl <;> exact ⟨_, rfl, by simp [ByteArray.size], by simp [ByteArray.size]⟩
set_option maxHeartbeats 1000000 in
set_option maxRecDepth 100000 in
theorem keyOf_any {B g len cap b off : Nat} {a : Option Addr} {z : Nat → Int} (w : World) (hc : Cur B w g a len cap b off z) :
    Calls Try.prog 63 #[.pointer (some ⟨g, 0, none⟩)] w fun e w' => ∃ S : ByteArray, e = .returned (.string S) ∧ (1 ≤ S.size ∧ S.size ≤ 10) ∧ Cur B w' g a len cap b off z ∧ w.grownBy w' (some g) := by
  have HC : Hid (Cur B w g a len cap b off z) := hc
  clear hc
  go_enter Try.func63, Try.ntmps63
  go_wp2_with fail
  refine (pick_new (fun S => 1 ≤ S.size ∧ S.size ≤ 10) w HC.out keys7 7 (by omega) (by omega) keys7_ok).mono ?_
  rintro e w2 ⟨S, rfl, hs, hc2, hg2⟩
  have HS : Hid (1 ≤ S.size ∧ S.size ≤ 10) := hs
  clear hs
  go_wp2
  go_ret
  exact ⟨S, rfl, HS.out, hc2, hg2⟩
namespace Maps
theorem cut_ok {m : List PairL} (h : ok m) (K : ByteArray) : ok (cutK m K) ∧ (cutK m K).length ≤ m.length := by
  obtain ⟨h1, h2, h3⟩ := (ok_iff m).1 h
  have hl : (cutK m K).length ≤ m.length := List.length_filter_le _ m
  exact ⟨(ok_iff _).2 ⟨by omega, fun p hp => h2 p (List.mem_filter.1 hp).1, h3.sublist List.filter_sublist⟩, hl⟩
theorem put_ok {m : List PairL} (h : ok m) {K V : ByteArray} (hK : 1 ≤ K.size ∧ K.size ≤ 10) (hV : V.size ≤ 40) (hl : m.length < 60) : ok (putK m K V) ∧ (putK m K V).length ≤ m.length + 1 := by
  obtain ⟨h1, h2, h3⟩ := (ok_iff m).1 h
  have e : putK m K V = stepC m ⟨K, V, false⟩ := rfl
  have hn := stepC_len m ⟨K, V, false⟩
  rw [e]
  exact ⟨(ok_iff _).2 ⟨by omega, stepC_ok h2 ⟨hK.1, hK.2, hV, fun q => by cases q⟩, stepC_asc m _ h3⟩, hn⟩
end Maps
theorem Cur.blk {B g len cap b off : Nat} {a : Option Addr} {z : Nat → Int} {W : World} (h : Cur B W g a len cap b off z) : ∃ cs, W.heap[g]? = some (.cells cs 91 (0, 0)) := by
  obtain ⟨_, _, _, _, i, hh, _, hb⟩ := h
  exact ⟨_, hb⟩
theorem Cur.below {B g len cap b off : Nat} {a : Option Addr} {z : Nat → Int} {w w' : World} (h : Cur B w g a len cap b off z) (hb : Below w.heap.size w w') : Cur B w' g a len cap b off z :=
  h.kept (row := none) ⟨hb.os, hb.tape, hb.output, hb.size, fun k hk _ => hb.block k hk⟩ (fun r e => by cases e) (hb.block _ h.lt)
/-- What a drawing of a map holds. -/
structure MSt (B g len cap b off : Nat) (a : Option Addr) (z : Nat → Int) (w : World) (v : Value) (pre : List PairL) (W : World) : Prop where
  cur : Cur B W g a len cap b off z
  own : W.ownsRow w.heap.size 40 2 v pre.length (cellsPair pre)
  grown : w.grownBy W (some g)
section
variable {B g len cap b off : Nat} {a : Option Addr} {z : Nat → Int} {w W W' : World} {v : Value} {pre : List PairL}
theorem MSt.call (h : MSt B g len cap b off a z w v pre W) (hc : Cur B W' g a len cap b off z) (hg : W.grownBy W' (some g)) : MSt B g len cap b off a z w v pre W' := by
  obtain ⟨cs, hcs⟩ := h.cur.blk
  exact ⟨hc, h.own.kept hg (Or.inr (own_not h.own hcs (by decide))), h.grown.trans hg⟩
theorem MSt.row (h : MSt B g len cap b off a z w v pre W) {v' : Value} {L : List PairL} (hb : Below W.heap.size W W') (ho : W'.ownsRow W.heap.size 40 2 v' L.length (cellsPair L)) : MSt B g len cap b off a z w v' L W' :=
  ⟨h.cur.below hb, own_mono ho h.grown.size, h.grown.trans (own_below' hb)⟩
end
set_option maxHeartbeats 2000000 in
set_option maxRecDepth 100000 in
theorem right_any {B g len cap b off : Nat} {a : Option Addr} {z : Nat → Int} (w : World) (hc : Cur B w g a len cap b off z) :
    Calls Try.prog 36 #[.pointer (some ⟨g, 0, none⟩)] w fun e w' => ∃ (v : Value) (m : List PairL), e = .returned v ∧ w'.ownsRow w.heap.size 40 2 v m.length (cellsPair m) ∧ Maps.ok m ∧ m.length ≤ 6 ∧ Cur B w' g a len cap b off z ∧ w.grownBy w' (some g) := by
  have HS0 : Hid (MSt B g len cap b off a z w (.slice (some ⟨w.heap.size, 0, none⟩) 0 0) [] (w.alloc (Obj.cells #[] 40))) :=
    ⟨hc.below ((Below.refl _ _).alloc (Nat.le_refl _) _), own_empty (heap_alloc_new w _) (Nat.le_refl _), own_below' ((Below.refl _ _).alloc (Nat.le_refl _) _)⟩
  clear hc
  go_enter Try.func36, Try.ntmps36
  go_wp2
  go_loopw [3, 4] (fun u i wr => ∃ (k : Nat) (v : Value) (pre : List PairL), k ≤ 6 ∧ i = .int .i64 (k : Int) ∧ v = u ∧ pre.length ≤ k ∧ Maps.ok pre ∧ MSt B g len cap b off a z w v pre wr)
    (fun _ i _ => 6 - (intOf i).toNat)
  case atStart => exact ⟨0, _, [], Nat.zero_le _, rfl, rfl, Nat.le_refl _, ⟨Nat.zero_le _, fun j hj => absurd hj (Nat.not_lt_zero _)⟩, HS0.out⟩
  case round =>
    obtain ⟨k, v, pre, hk, rfl, rfl, hpk0, hok, hst⟩ := hrel
    have HS : Hid (MSt B g len cap b off a z w v pre wr) := hst
    have HOK : Hid (Maps.ok pre) := hok
    have HPK : Hid (pre.length ≤ k) := hpk0
    clear hst hok hpk0 HS0
    obtain ⟨va, vc, rfl⟩ := own_slice HS.out.own
    go_wp2_with fail
    refine (below_any 6 (by omega) _ HS.out.cur).mono ?_
    rintro e w1 ⟨x, rfl, hx, hc1, hg1⟩
    have hx6 := hx.2.2 (by omega)
    have hx0 := hx.1
    have HS1 : Hid (MSt B g len cap b off a z w (.slice va pre.length vc) pre w1) := HS.out.call hc1 hg1
    clear hx hc1 hg1 HS
    by_cases hlt : (k : Int) < x
    · obtain ⟨_, gL, _, eL, hAt⟩ := cellsPair_slice HS1.out.own
      cases eL
      have HAT : Hid (PairAt w1 va gL 0 pre) := hAt
      clear hAt
      go_wp2_with fail
      refine (l06Cut_is pre (by have := HPK.out; omega) ⟨#[]⟩ w1 HAT.out).mono ?_
      rintro e w2 ⟨v2, rfl, ho2, hb2⟩
      obtain ⟨L, hL⟩ : ∃ L, L = Maps.cutK pre ⟨#[]⟩ := ⟨_, rfl⟩
      rw [← hL] at ho2
      obtain ⟨a2, c2, rfl⟩ := own_slice ho2
      have HS2 : Hid (MSt B g len cap b off a z w (.slice a2 L.length c2) L w2) := HS1.out.row hb2 ho2
      have HL : Hid (Maps.ok L ∧ L.length ≤ k) := by
        have h1 := Maps.cut_ok HOK.out ⟨#[]⟩
        rw [← hL] at h1
        exact ⟨h1.1, Nat.le_trans h1.2 HPK.out⟩
      clear ho2 hb2 hL HS1 HAT HOK HPK
      go_wp2_with fail
      refine (keyOf_any _ HS2.out.cur).mono ?_
      rintro e w3 ⟨K, rfl, hK, hc3, hg3⟩
      have HK : Hid (1 ≤ K.size ∧ K.size ≤ 10) := hK
      have HS3 : Hid (MSt B g len cap b off a z w (.slice a2 L.length c2) L w3) := HS2.out.call hc3 hg3
      clear hK hc3 hg3 HS2
      go_wp2_with fail
      refine (below_any 4 (by omega) _ HS3.out.cur).mono ?_
      rintro e w4 ⟨y, rfl, hy, hc4, hg4⟩
      have hy4 := hy.2.2 (by omega)
      have hy0 := hy.1
      obtain ⟨n, rfl⟩ : ∃ n : Nat, y = (n : Int) := ⟨y.toNat, by omega⟩
      have HS4 : Hid (MSt B g len cap b off a z w (.slice a2 L.length c2) L w4) := HS3.out.call hc4 hg4
      clear hy hc4 hg4 HS3
      go_wp2_with fail
      refine (text_any n (by omega) _ HS4.out.cur).mono ?_
      rintro e w5 ⟨V, rfl, hV, hc5, hg5⟩
      have HV : Hid (V.size ≤ 40) := by show _ ≤ _; omega
      have HS5 : Hid (MSt B g len cap b off a z w (.slice a2 L.length c2) L w5) := HS4.out.call hc5 hg5
      clear hV hc5 hg5 HS4
      obtain ⟨_, gM, _, eM, hAt⟩ := cellsPair_slice HS5.out.own
      cases eM
      have HAT : Hid (PairAt w5 a2 gM 0 L) := hAt
      clear hAt
      go_wp2_with fail
      refine (l06Put_is L (by have := HL.out.2; omega) K V w5 HAT.out).mono ?_
      rintro e w6 ⟨v6, rfl, ho6, hb6⟩
      have HS6 : Hid (MSt B g len cap b off a z w v6 (Maps.putK L K V) w6) := HS5.out.row hb6 ho6
      have HP : Hid (Maps.ok (Maps.putK L K V) ∧ (Maps.putK L K V).length ≤ k + 1) := by
        have h1 := Maps.put_ok HL.out.1 HK.out HV.out (by have := HL.out.2; omega)
        exact ⟨h1.1, Nat.le_trans h1.2 (by have := HL.out.2; omega)⟩
      clear ho6 hb6 HS5 HAT
      go_wp2
      go_roundw
      case rel => exact ⟨k + 1, _, Maps.putK L K V, by omega, by go_num, rfl, HP.out.2, HP.out.1, HS6.out⟩
      case measure => simp [intOf]; omega
    · go_wp2
      go_ret
      exact ⟨_, pre, rfl, HS1.out.own, HOK.out, by have := HPK.out; omega, HS1.out.cur, HS1.out.grown⟩
set_option maxHeartbeats 1000000 in
theorem drawMaps_any {len cap b off : Nat} {a : Option Addr} {z : Nat → Int} (w : World) (hc : Code w.heap.size w a len b off z) :
    Calls Try.prog 10 #[.slice a len cap] w fun e w' => ∃ (v u : Value) (m n : List PairL), e = .returned (.tuple #[v, u]) ∧ w'.ownsRow w.heap.size 40 2 v m.length (cellsPair m) ∧ w'.ownsRow w.heap.size 40 2 u n.length (cellsPair n) ∧ (Maps.ok m ∧ m.length ≤ 6) ∧ (Maps.ok n ∧ n.length ≤ 6) ∧ Below w.heap.size w w' := by
  have HC : Hid (Code w.heap.size w a len b off z) := hc
  clear hc
  go_enter Try.func10, Try.ntmps10
  go_wp2_with fail
  refine (new_any w (Nat.le_refl _) HC.out).mono ?_
  rintro e w1 ⟨rfl, hc1, hb1⟩
  obtain ⟨g, hg⟩ : ∃ g, g = w.heap.size := ⟨_, rfl⟩
  rw [← hg] at hc1 ⊢
  have HGE : Hid (w.heap.size ≤ g) := by show _ ≤ _; rw [hg]; exact Nat.le_refl _
  clear hg
  go_wp2_with fail
  refine (right_any _ hc1).mono ?_
  rintro e w2 ⟨v, m, rfl, ho2, hm, hl2, hc2, hg2⟩
  have HM : Hid (Maps.ok m ∧ m.length ≤ 6) := ⟨hm, hl2⟩
  have HO : Hid (w2.ownsRow w.heap.size 40 2 v m.length (cellsPair m)) := own_mono ho2 hb1.size
  have HB : Hid (Below w.heap.size w w2) := hb1.grown hg2 hb1.size (fun j e => by cases e; exact HGE.out)
  clear hm hl2 ho2 hg2 hb1 hc1
  obtain ⟨va, vc, rfl⟩ := own_slice HO.out
  go_wp2_with fail
  refine (right_any _ hc2).mono ?_
  rintro e w3 ⟨u, n, rfl, ho3, hn, hl3, hc3, hg3⟩
  obtain ⟨cs, hcs⟩ := hc2.blk
  have HN : Hid (Maps.ok n ∧ n.length ≤ 6) := ⟨hn, hl3⟩
  have HO3 : Hid (w3.ownsRow w.heap.size 40 2 (.slice va m.length vc) m.length (cellsPair m)) := HO.out.kept hg3 (Or.inr (own_not HO.out hcs (by decide)))
  have HU3 : Hid (w3.ownsRow w.heap.size 40 2 u n.length (cellsPair n)) := own_mono ho3 HB.out.size
  have HB3 : Hid (Below w.heap.size w w3) := HB.out.grown hg3 HB.out.size (fun j e => by cases e; exact HGE.out)
  clear hn hl3 ho3 hg3 hc3 hc2 hcs
  go_wp2
  go_ret2
  exact ⟨_, _, m, n, rfl, HO3.out, HU3.out, HM.out, HN.out, HB3.out⟩
end Go.Proofs.Ytijopmkcaoefjaa
