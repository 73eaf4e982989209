/- szNode of the laws, walked: what does not pass the measure is small. Made by program. -/
import Derived.Test.YtiifjhalkihlbaaNodeA
import Derived.Test.YtiifjhalkihlbaaLogArg
namespace Go.Proofs.Ytiifjhalkihlbaa
open Go.RowKit
set_option linter.unusedVariables false
set_option linter.unusedSimpArgs false
def SmallN (n : NodeL) : Prop := NodeS n ∧ ∀ e ∈ n.log.ents, e.data.size ≤ 1048576
def SzN (n : NodeL) (x : Int) : Prop := 0 ≤ x → SmallN n
theorem szIntN_is {a : Option Addr} {cap n left : Nat} (hn : n ≤ maxLen) (hl : left ≤ 1048576) (w : World) :
    Calls Try.prog 20 #[.slice a n cap, .int .i64 (left : Int)] w fun e w' => ∃ x : Int, e = .returned (.int .i64 x) ∧ Left left n x ∧ Below w.heap.size w w' := by
  unfold maxLen at hn
  by_cases h0 : left < n
  · have h1 : (left : Int) - (n : Int) < 0 := by omega
    go_enter Try.func20, Try.ntmps20
    go_wp2
    go_ret
    exact ⟨_, rfl, Or.inr ⟨by omega, rfl⟩, Below.refl _ _⟩
  · have h1 : ¬ (left : Int) - (n : Int) < 0 := by omega
    go_enter Try.func20, Try.ntmps20
    go_wp2
    go_ret
    exact ⟨_, rfl, Or.inl ⟨by omega, by omega⟩, Below.refl _ _⟩
theorem szPeS_is {a : Option Addr} {cap n left : Nat} (hn : n ≤ maxLen) (hl : left ≤ 1048576) (w : World) :
    Calls Try.prog 22 #[.slice a n cap, .int .i64 (left : Int)] w fun e w' => ∃ x : Int, e = .returned (.int .i64 x) ∧ Left left n x ∧ Below w.heap.size w w' := by
  unfold maxLen at hn
  by_cases h0 : left < n
  · have h1 : (left : Int) - (n : Int) < 0 := by omega
    go_enter Try.func22, Try.ntmps22
    go_wp2
    go_ret
    exact ⟨_, rfl, Or.inr ⟨by omega, rfl⟩, Below.refl _ _⟩
  · have h1 : ¬ (left : Int) - (n : Int) < 0 := by omega
    go_enter Try.func22, Try.ntmps22
    go_wp2
    go_ret
    exact ⟨_, rfl, Or.inl ⟨by omega, by omega⟩, Below.refl _ _⟩
set_option maxHeartbeats 8000000 in
set_option maxRecDepth 100000 in
theorem szNode_any {ca ea va pa : Option Addr} {cc ec vc pc gc oc ge oe gv ov gp op : Nat} (n : NodeL) (h1 : n.conf.length ≤ maxLen) (h2 : n.log.ents.length ≤ maxLen) (h3 : ∀ r ∈ n.log.ents, smallEn maxLen r) (h4 : n.votes.length ≤ maxLen) (h5 : n.peers.length ≤ maxLen) (w : World) (hR : NodeR w n ca gc oc ea ge oe va gv ov pa gp op) :
    Calls Try.prog 6 #[.agg #[.int .i64 n.id, .int .i64 n.term, .int .i64 n.vote, .int .i64 n.role, .int .i64 n.lead, .slice ca n.conf.length cc, .int .i64 n.log.start, .int .i64 n.log.sterm, .slice ea n.log.ents.length ec, .int .i64 n.commit, .int .i64 n.clock, .int .i64 n.limit, .slice va n.votes.length vc, .slice pa n.peers.length pc], .int .i64 1048576] w fun e w' => ∃ x : Int, e = .returned (.int .i64 x) ∧ SzN n x ∧ Below w.heap.size w w' := by
  obtain ⟨W, hW⟩ : ∃ W, W = w.alloc (.cells #[.int .i64 n.id, .int .i64 n.term, .int .i64 n.vote, .int .i64 n.role, .int .i64 n.lead, .slice ca n.conf.length cc, .int .i64 n.log.start, .int .i64 n.log.sterm, .slice ea n.log.ents.length ec, .int .i64 n.commit, .int .i64 n.clock, .int .i64 n.limit, .slice va n.votes.length vc, .slice pa n.peers.length pc] 28) := ⟨_, rfl⟩
  have hb : Below w.heap.size w W := by rw [hW]; exact (Below.refl _ _).alloc (Nat.le_refl _) _
  have hn0 : NodeAt W w.heap.size n ca cc ea ec va vc pa pc := by rw [hW]; exact NodeAt.new w n ca cc ea ec va vc pa pc 28
  have HB : Hid (Below w.heap.size w W) := hb
  have HX : Hid (∀ w', Below W.heap.size W w' → NodeAt w' w.heap.size n ca cc ea ec va vc pa pc ∧ NodeR w' n ca gc oc ea ge oe va gv ov pa gp op) := fun w' h => ⟨hn0.kept h, (hR.kept hb).kept h⟩
  have HS : Hid (n.conf.length ≤ maxLen ∧ n.log.ents.length ≤ maxLen ∧ (∀ r ∈ n.log.ents, smallEn maxLen r) ∧ n.votes.length ≤ maxLen ∧ n.peers.length ≤ maxLen) := ⟨h1, h2, h3, h4, h5⟩
  have H0 : Hid (Below W.heap.size W W) := Below.refl _ _
  obtain ⟨p0, p1, p2, p3, p4, p5, p6, p7, p8, p9, p10, p11, p12, p13⟩ := hn0
  rw [hW] at p0 p1 p2 p3 p4 p5 p6 p7 p8 p9 p10 p11 p12 p13
  clear hR hb h1 h2 h3 h4 h5
  go_enter Try.func6, Try.ntmps6
  go_wp2_with fail
  rw [← hW]
  clear hW p0 p1 p2 p3 p4 p5 p6 p7 p8 p9 p10 p11 p12 p13
  refine Calls.mono (szIntN_is (left := 1048576) HS.out.1 (by decide) W) ?_
  rintro e w1 ⟨x1, rfl, hx1, hb1⟩
  have H1 : Hid (Below W.heap.size W w1) := H0.out.trans (hb1.mono H0.out.size)
  clear hb1
  rcases hx1 with ⟨hx1, hx2⟩ | ⟨hx1, hx2⟩
  case inr =>
    have hn : x1 < 0 := by omega
    obtain ⟨p0, p1, p2, p3, p4, p5, p6, p7, p8, p9, p10, p11, p12, p13⟩ := (HX.out _ H1.out).1
    clear hx1 hx2
    clear HX
    go_wp2
    go_ret
    exact ⟨-1, rfl, fun h => by omega, HB.out.trans (H1.out.mono HB.out.size)⟩
  obtain ⟨l1, hl1⟩ : ∃ l : Nat, l = 1048576 - n.conf.length := ⟨_, rfl⟩
  have HL1 : Hid (n.conf.length ≤ 1048576) := hx1
  rw [← hl1] at hx2
  subst hx2
  have hq1 : ¬ (l1 : Int) < 0 := by omega
  have hm1 : l1 ≤ 1048576 := by omega
  clear hl1 hx1
  obtain ⟨p0, p1, p2, p3, p4, p5, p6, p7, p8, p9, p10, p11, p12, p13⟩ := (HX.out _ H1.out).1
  go_wp2_with fail
  clear p0 p1 p2 p3 p4 p5 p6 p7 p8 p9 p10 p11 p12 p13
  refine Calls.mono (szLog_any (cap := ec) n.log HS.out.2.1 HS.out.2.2.1 l1 (by omega) w1 (HX.out _ H1.out).2.ents) ?_
  rintro e w2 ⟨x2, rfl, hx2, hb2⟩
  have H2 : Hid (Below W.heap.size W w2) := H1.out.trans (hb2.mono H1.out.size)
  clear hb2
  rcases hx2 with ⟨hx1, hx2⟩ | ⟨hx1, hx2⟩
  case inr =>
    have hn : x2 < 0 := by omega
    obtain ⟨p0, p1, p2, p3, p4, p5, p6, p7, p8, p9, p10, p11, p12, p13⟩ := (HX.out _ H2.out).1
    clear hx1 hx2
    clear HX
    go_wp2
    go_ret
    exact ⟨-1, rfl, fun h => by omega, HB.out.trans (H2.out.mono HB.out.size)⟩
  obtain ⟨l2, hl2⟩ : ∃ l : Nat, l = l1 - totEn n.log.ents := ⟨_, rfl⟩
  have HL2 : Hid (totEn n.log.ents ≤ l1) := hx1
  rw [← hl2] at hx2
  subst hx2
  have hq2 : ¬ (l2 : Int) < 0 := by omega
  have hm2 : l2 ≤ 1048576 := by omega
  clear hl2 hx1
  obtain ⟨p0, p1, p2, p3, p4, p5, p6, p7, p8, p9, p10, p11, p12, p13⟩ := (HX.out _ H2.out).1
  go_wp2_with fail
  clear p0 p1 p2 p3 p4 p5 p6 p7 p8 p9 p10 p11 p12 p13
  refine Calls.mono (szIntN_is (left := l2) HS.out.2.2.2.1 (by omega) w2) ?_
  rintro e w3 ⟨x3, rfl, hx3, hb3⟩
  have H3 : Hid (Below W.heap.size W w3) := H2.out.trans (hb3.mono H2.out.size)
  clear hb3
  rcases hx3 with ⟨hx1, hx2⟩ | ⟨hx1, hx2⟩
  case inr =>
    have hn : x3 < 0 := by omega
    obtain ⟨p0, p1, p2, p3, p4, p5, p6, p7, p8, p9, p10, p11, p12, p13⟩ := (HX.out _ H3.out).1
    clear hx1 hx2
    clear HX
    go_wp2
    go_ret
    exact ⟨-1, rfl, fun h => by omega, HB.out.trans (H3.out.mono HB.out.size)⟩
  obtain ⟨l3, hl3⟩ : ∃ l : Nat, l = l2 - n.votes.length := ⟨_, rfl⟩
  have HL3 : Hid (n.votes.length ≤ l2) := hx1
  rw [← hl3] at hx2
  subst hx2
  have hq3 : ¬ (l3 : Int) < 0 := by omega
  have hm3 : l3 ≤ 1048576 := by omega
  clear hl3 hx1
  obtain ⟨p0, p1, p2, p3, p4, p5, p6, p7, p8, p9, p10, p11, p12, p13⟩ := (HX.out _ H3.out).1
  go_wp2_with fail
  clear p0 p1 p2 p3 p4 p5 p6 p7 p8 p9 p10 p11 p12 p13
  refine Calls.mono (szPeS_is (left := l3) HS.out.2.2.2.2 (by omega) w3) ?_
  rintro e w4 ⟨x4, rfl, hx4, hb4⟩
  have H4 : Hid (Below W.heap.size W w4) := H3.out.trans (hb4.mono H3.out.size)
  clear hb4
  rcases hx4 with ⟨hx1, hx2⟩ | ⟨hx1, hx2⟩
  case inr =>
    have hn : x4 < 0 := by omega
    obtain ⟨p0, p1, p2, p3, p4, p5, p6, p7, p8, p9, p10, p11, p12, p13⟩ := (HX.out _ H4.out).1
    clear hx1 hx2
    clear HX
    go_wp2
    go_ret
    exact ⟨-1, rfl, fun h => by omega, HB.out.trans (H4.out.mono HB.out.size)⟩
  obtain ⟨l4, hl4⟩ : ∃ l : Nat, l = l3 - n.peers.length := ⟨_, rfl⟩
  have HL4 : Hid (n.peers.length ≤ l3) := hx1
  rw [← hl4] at hx2
  subst hx2
  have hq4 : ¬ (l4 : Int) < 0 := by omega
  have hm4 : l4 ≤ 1048576 := by omega
  clear hl4 hx1
  have HF : Hid (SmallN n) := by
    have a1 := HL1.out
    have a2 := HL2.out
    have a3 := HL3.out
    have a4 := HL4.out
    obtain ⟨b1, b2⟩ := totEn_small (Nat.le_trans a2 hm1)
    exact ⟨⟨a1, b1, Nat.le_trans a3 hm2, Nat.le_trans a4 hm3⟩, fun e he => b2 e he⟩
  obtain ⟨p0, p1, p2, p3, p4, p5, p6, p7, p8, p9, p10, p11, p12, p13⟩ := (HX.out _ H4.out).1
  clear HX
  go_wp2
  go_ret
  exact ⟨_, rfl, fun _ => HF.out, HB.out.trans (H4.out.mono HB.out.size)⟩
end Go.Proofs.Ytiifjhalkihlbaa
