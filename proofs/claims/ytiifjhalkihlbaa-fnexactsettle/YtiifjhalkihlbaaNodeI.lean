/- The program's peersOk, roleOk and NodeOk, walked at any node. Made by program. -/
import Derived.Test.YtiifjhalkihlbaaPeersI
namespace Go.Proofs.Ytiifjhalkihlbaa
open Go.RowKit Go.Lib
open Ents (okB confOf)
open Logs (okL)
set_option linter.unusedVariables false
set_option linter.unusedSimpArgs false
set_option maxHeartbeats 8000000 in
set_option maxRecDepth 100000 in
theorem peersOk_is {ca ea va pa : Option Addr} {cc ec vc pc gc oc ge oe gv ov gp op : Nat} (n : NodeL) (hs : NodeS n) (hok : okL n.log = true) (hcf : Mans.confOk n.conf = true) (hec : n.log.ents.length ≤ ec) (hecm : ec ≤ 9223372036854775807) (R : Bool) (hRR : R = true ↔ PeersN (lastN n.log) n.peers (othersL (confL n.conf n.log.ents) n.id)) (w : World) (hR : NodeR w n ca gc oc ea ge oe va gv ov pa gp op) :
    Calls Try.prog 63 #[.agg #[.int .i64 n.id, .int .i64 n.term, .int .i64 n.vote, .int .i64 n.role, .int .i64 n.lead, .slice ca n.conf.length cc, .int .i64 n.log.start, .int .i64 n.log.sterm, .slice ea n.log.ents.length ec, .int .i64 n.commit, .int .i64 n.clock, .int .i64 n.limit, .slice va n.votes.length vc, .slice pa n.peers.length pc]] w fun e w' => e = .returned (.bool R) ∧ Below w.heap.size w w' := by
  obtain ⟨W, hW⟩ : ∃ W, W = w.alloc (.cells #[.int .i64 n.id, .int .i64 n.term, .int .i64 n.vote, .int .i64 n.role, .int .i64 n.lead, .slice ca n.conf.length cc, .int .i64 n.log.start, .int .i64 n.log.sterm, .slice ea n.log.ents.length ec, .int .i64 n.commit, .int .i64 n.clock, .int .i64 n.limit, .slice va n.votes.length vc, .slice pa n.peers.length pc] 36) := ⟨_, rfl⟩
  have hb : Below w.heap.size w W := by rw [hW]; exact (Below.refl _ _).alloc (Nat.le_refl _) _
  have hn0 : NodeAt W w.heap.size n ca cc ea ec va vc pa pc := by rw [hW]; exact NodeAt.new w n ca cc ea ec va vc pa pc 36
  have HB : Hid (Below w.heap.size w W) := hb
  have HX : Hid (∀ w', Below W.heap.size W w' → NodeAt w' w.heap.size n ca cc ea ec va vc pa pc ∧ NodeR w' n ca gc oc ea ge oe va gv ov pa gp op) := fun w' h => ⟨hn0.kept h, (hR.kept hb).kept h⟩
  have hol : (othersL (confL n.conf n.log.ents) n.id).length ≤ 1048576 := Nat.le_trans (othersL_len _ _) (confL_len hs.conf (okL_mem hok))
  have HO : Hid (∀ X, Below W.heap.size W X → Calls Try.prog 83 #[.agg #[.int .i64 n.id, .int .i64 n.term, .int .i64 n.vote, .int .i64 n.role, .int .i64 n.lead, .slice ca n.conf.length cc, .int .i64 n.log.start, .int .i64 n.log.sterm, .slice ea n.log.ents.length ec, .int .i64 n.commit, .int .i64 n.clock, .int .i64 n.limit, .slice va n.votes.length vc, .slice pa n.peers.length pc]] X fun e w' => ∃ a g c, e = .returned (.slice a (othersL (confL n.conf n.log.ents) n.id).length c) ∧ IntAt w' a g 0 (othersL (confL n.conf n.log.ents) n.id) ∧ Below X.heap.size X w') := fun X h => others_is n hs hok hcf hec hecm X (HX.out X h).2
  have HE : Hid (∀ X, Below W.heap.size W X → ∀ a g c, IntAt X a g 0 (othersL (confL n.conf n.log.ents) n.id) → Calls Try.prog 82 #[.slice pa n.peers.length pc, .slice a (othersL (confL n.conf n.log.ents) n.id).length c, .func (.func 79) #[] #[.pointer (some ⟨w.heap.size, 0, none⟩)]] X fun e w' => e = .returned (.bool R) ∧ Below X.heap.size X w') :=
    fun X h a g c hi => equalFunc_is n hs hok _ hol R hRR w.heap.size X (HX.out X h).1 (HX.out X h).2 hi
  obtain ⟨L, hL⟩ : ∃ L, L = othersL (confL n.conf n.log.ents) n.id := ⟨_, rfl⟩
  rw [← hL] at HO HE
  obtain ⟨p0, p1, p2, p3, p4, p5, p6, p7, p8, p9, p10, p11, p12, p13⟩ := hn0
  rw [hW] at p0 p1 p2 p3 p4 p5 p6 p7 p8 p9 p10 p11 p12 p13
  clear hR hb hs hok hcf hec hecm hRR hol hL
  go_enter Try.func63, Try.ntmps63
  go_wp2_with fail
  rw [← hW]
  clear hW p0 p1 p2 p3 p4 p5 p6 p7 p8 p9 p10 p11 p12 p13
  have HXC : Hid (∀ w', Below W.heap.size W w' → w'.cell? ⟨w.heap.size, 0, none⟩ = some (.int .i64 n.id) ∧ w'.cell? ⟨w.heap.size, 1, none⟩ = some (.int .i64 n.term) ∧ w'.cell? ⟨w.heap.size, 2, none⟩ = some (.int .i64 n.vote) ∧ w'.cell? ⟨w.heap.size, 3, none⟩ = some (.int .i64 n.role) ∧ w'.cell? ⟨w.heap.size, 4, none⟩ = some (.int .i64 n.lead) ∧ w'.cell? ⟨w.heap.size, 5, none⟩ = some (.slice ca n.conf.length cc) ∧ w'.cell? ⟨w.heap.size, 6, none⟩ = some (.int .i64 n.log.start) ∧ w'.cell? ⟨w.heap.size, 7, none⟩ = some (.int .i64 n.log.sterm) ∧ w'.cell? ⟨w.heap.size, 8, none⟩ = some (.slice ea n.log.ents.length ec) ∧ w'.cell? ⟨w.heap.size, 9, none⟩ = some (.int .i64 n.commit) ∧ w'.cell? ⟨w.heap.size, 10, none⟩ = some (.int .i64 n.clock) ∧ w'.cell? ⟨w.heap.size, 11, none⟩ = some (.int .i64 n.limit) ∧ w'.cell? ⟨w.heap.size, 12, none⟩ = some (.slice va n.votes.length vc) ∧ w'.cell? ⟨w.heap.size, 13, none⟩ = some (.slice pa n.peers.length pc)) := fun w' h => by
    have hh := (HX.out w' h).1
    exact ⟨hh.c0, hh.c1, hh.c2, hh.c3, hh.c4, hh.c5, hh.c6, hh.c7, hh.c8, hh.c9, hh.c10, hh.c11, hh.c12, hh.c13⟩
  clear HX
  obtain ⟨p0, p1, p2, p3, p4, p5, p6, p7, p8, p9, p10, p11, p12, p13⟩ := HXC.out W (Below.refl _ _)
  go_region_held3 (fun w' => w'.cell? ⟨w.heap.size, 0, none⟩ = some (.int .i64 n.id) ∧ w'.cell? ⟨w.heap.size, 1, none⟩ = some (.int .i64 n.term) ∧ w'.cell? ⟨w.heap.size, 2, none⟩ = some (.int .i64 n.vote) ∧ w'.cell? ⟨w.heap.size, 3, none⟩ = some (.int .i64 n.role) ∧ w'.cell? ⟨w.heap.size, 4, none⟩ = some (.int .i64 n.lead) ∧ w'.cell? ⟨w.heap.size, 5, none⟩ = some (.slice ca n.conf.length cc) ∧ w'.cell? ⟨w.heap.size, 6, none⟩ = some (.int .i64 n.log.start) ∧ w'.cell? ⟨w.heap.size, 7, none⟩ = some (.int .i64 n.log.sterm) ∧ w'.cell? ⟨w.heap.size, 8, none⟩ = some (.slice ea n.log.ents.length ec) ∧ w'.cell? ⟨w.heap.size, 9, none⟩ = some (.int .i64 n.commit) ∧ w'.cell? ⟨w.heap.size, 10, none⟩ = some (.int .i64 n.clock) ∧ w'.cell? ⟨w.heap.size, 11, none⟩ = some (.int .i64 n.limit) ∧ w'.cell? ⟨w.heap.size, 12, none⟩ = some (.slice va n.votes.length vc) ∧ w'.cell? ⟨w.heap.size, 13, none⟩ = some (.slice pa n.peers.length pc)) (first | go_keep | exact HXC.out _ (below_undrew hb7) | exact HXC.out _ ((below_undrew hb7).trans (hb8.mono hb7.size)))
    (first | (go_at_call 83; refine Calls.mono (HO.out _ ((Below.refl _ _).drew)) ?_; rintro e w7 ⟨a7, g7, c7, rfl, i7, hb7⟩) | (go_at_call 82; refine Calls.mono (HE.out _ (below_undrew hb7) _ _ _ i7) ?_; rintro e w8 ⟨rfl, hb8⟩) | fail)
  have HB8 : Hid (Below w.heap.size w w8) := HB.out.trans (((below_undrew hb7).trans (hb8.mono hb7.size)).mono HB.out.size)
  clear hb7 hb8 i7 HXC HO HE p0 p1 p2 p3 p4 p5 p6 p7 p8 p9 p10 p11 p12 p13
  go_wp2
  go_ret
  exact ⟨rfl, HB8.out⟩
def RoleN (n : NodeL) : Prop := (n.role = 0 ∧ n.votes.length = 0 ∧ n.peers.length = 0) ∨ (n.role = 1 ∧ Mans.asc 1 4 n.votes = true ∧ n.peers.length = 0) ∨ (n.role = 2 ∧ n.votes.length = 0 ∧ PeersN (lastN n.log) n.peers (othersL (confL n.conf n.log.ents) n.id))
set_option maxHeartbeats 8000000 in
set_option maxRecDepth 100000 in
theorem role_is {ca ea va pa : Option Addr} {cc ec vc pc gc oc ge oe gv ov gp op : Nat} (n : NodeL) (hs : NodeS n) (hok : okL n.log = true) (hcf : Mans.confOk n.conf = true) (hec : n.log.ents.length ≤ ec) (hecm : ec ≤ 9223372036854775807) (R : Bool) (hRR : R = true ↔ RoleN n) (w : World) (hR : NodeR w n ca gc oc ea ge oe va gv ov pa gp op) :
    Calls Try.prog 36 #[.agg #[.int .i64 n.id, .int .i64 n.term, .int .i64 n.vote, .int .i64 n.role, .int .i64 n.lead, .slice ca n.conf.length cc, .int .i64 n.log.start, .int .i64 n.log.sterm, .slice ea n.log.ents.length ec, .int .i64 n.commit, .int .i64 n.clock, .int .i64 n.limit, .slice va n.votes.length vc, .slice pa n.peers.length pc]] w fun e w' => e = .returned (.bool R) ∧ Below w.heap.size w w' := by
  obtain ⟨W, hW⟩ : ∃ W, W = w.alloc (.cells #[.int .i64 n.id, .int .i64 n.term, .int .i64 n.vote, .int .i64 n.role, .int .i64 n.lead, .slice ca n.conf.length cc, .int .i64 n.log.start, .int .i64 n.log.sterm, .slice ea n.log.ents.length ec, .int .i64 n.commit, .int .i64 n.clock, .int .i64 n.limit, .slice va n.votes.length vc, .slice pa n.peers.length pc] 36) := ⟨_, rfl⟩
  have hb : Below w.heap.size w W := by rw [hW]; exact (Below.refl _ _).alloc (Nat.le_refl _) _
  have hn0 : NodeAt W w.heap.size n ca cc ea ec va vc pa pc := by rw [hW]; exact NodeAt.new w n ca cc ea ec va vc pa pc 36
  have HB : Hid (Below w.heap.size w W) := hb
  have HX : Hid (∀ w', Below W.heap.size W w' → NodeAt w' w.heap.size n ca cc ea ec va vc pa pc ∧ NodeR w' n ca gc oc ea ge oe va gv ov pa gp op) := fun w' h => ⟨hn0.kept h, (hR.kept hb).kept h⟩
  have HP : Hid (∀ R1 : Bool, (R1 = true ↔ PeersN (lastN n.log) n.peers (othersL (confL n.conf n.log.ents) n.id)) → ∀ X, Below W.heap.size W X → Calls Try.prog 63 #[.agg #[.int .i64 n.id, .int .i64 n.term, .int .i64 n.vote, .int .i64 n.role, .int .i64 n.lead, .slice ca n.conf.length cc, .int .i64 n.log.start, .int .i64 n.log.sterm, .slice ea n.log.ents.length ec, .int .i64 n.commit, .int .i64 n.clock, .int .i64 n.limit, .slice va n.votes.length vc, .slice pa n.peers.length pc]] X fun e w' => e = .returned (.bool R1) ∧ Below X.heap.size X w') := fun R1 h1 X h => peersOk_is n hs hok hcf hec hecm R1 h1 X (HX.out X h).2
  have HA : Hid (∀ R1 : Bool, Mans.asc 1 4 n.votes = R1 → Calls Try.prog 56 #[.slice va n.votes.length vc, .int .i64 1, .int .i64 4] W fun e w' => e = .returned (.bool R1) ∧ W = w') := fun R1 h1 => ascend_is n.votes hs.votes 1 4 (by decide) (by decide) R1 h1 W (HX.out W (Below.refl _ _)).2.votes
  have HYES : Hid (RoleN n → R = true) := hRR.2
  have HNO : Hid (¬ RoleN n → R = false) := fun h => by
    cases R with
    | false => rfl
    | true => exact (h (hRR.1 rfl)).elim
  have hvs := hs.votes
  have hps := hs.peers
  clear hR hb hs hok hcf hec hecm hRR
  by_cases h0 : n.role = 0
  · have H0 : Hid (n.role = 0) := h0
    obtain ⟨p0, p1, p2, p3, p4, p5, p6, p7, p8, p9, p10, p11, p12, p13⟩ := hn0
    rw [h0] at p3
    rw [hW] at p0 p1 p2 p3 p4 p5 p6 p7 p8 p9 p10 p11 p12 p13
    clear h0
    by_cases hv : n.votes.length = 0
    · have hvi : (n.votes.length : Int) = 0 := by omega
      by_cases hp : n.peers.length = 0
      · have hpi : (n.peers.length : Int) = 0 := by omega
        have HQ : Hid (((n.peers.length : Int) == 0) = true) := by show _ = _; rw [hpi]; rfl
        have HF : Hid (R = true) := HYES.out (Or.inl ⟨H0.out, hv, hp⟩)
        rw [hW] at HB
        clear HX HNO HYES HP HA hW hv hp
        go_enter Try.func36, Try.ntmps36
        go_wp2
        go_ret
        exact ⟨by rw [HF.out]; first | rfl | (show Ending.returned (.bool ((n.peers.length : Int) == 0)) = _; rw [HQ.out]), HB.out⟩
      · have hpi : ¬ (n.peers.length : Int) = 0 := by omega
        have HQ : Hid (((n.peers.length : Int) == 0) = false) := by show _ = _; exact beq_eq_false_iff_ne.2 hpi
        have HF : Hid (R = false) := HNO.out (fun h => by rcases h with ⟨_, _, h⟩ | ⟨h, _⟩ | ⟨h, _⟩ <;> (try exact hp h) <;> (have := H0.out; omega))
        rw [hW] at HB
        clear HX HNO HYES HP HA hW hv hp
        go_enter Try.func36, Try.ntmps36
        go_wp2
        go_ret
        exact ⟨by rw [HF.out]; first | rfl | (show Ending.returned (.bool ((n.peers.length : Int) == 0)) = _; rw [HQ.out]), HB.out⟩
    · have hvi : ¬ (n.votes.length : Int) = 0 := by omega
      have hvb : ((n.votes.length : Int) == 0) = false := beq_eq_false_iff_ne.2 hvi
      have hvd : decide ((n.votes.length : Int) = 0) = false := decide_eq_false hvi
      have HF : Hid (R = false) := HNO.out (fun h => by rcases h with ⟨_, h, _⟩ | ⟨h, _⟩ | ⟨h, _⟩ <;> (try exact hv h) <;> (have := H0.out; omega))
      rw [hW] at HB
      clear HX HNO HYES HP HA hW hv
      go_enter Try.func36, Try.ntmps36
      go_wp2
      go_ret
      exact ⟨by rw [HF.out]; first | rfl | (show Ending.returned (.bool ((n.peers.length : Int) == 0)) = _; rw [HQ.out]), HB.out⟩
  by_cases h1 : n.role = 1
  · have H1 : Hid (n.role = 1) := h1
    obtain ⟨p0, p1, p2, p3, p4, p5, p6, p7, p8, p9, p10, p11, p12, p13⟩ := hn0
    rw [h1] at p3
    rw [hW] at p0 p1 p2 p3 p4 p5 p6 p7 p8 p9 p10 p11 p12 p13
    clear h1 h0
    obtain ⟨RA, hRA⟩ : ∃ RA, Mans.asc 1 4 n.votes = RA := ⟨_, rfl⟩
    have HRA : Hid (Mans.asc 1 4 n.votes = RA) := hRA
    have HC : Hid _ := HA.out RA hRA
    clear hRA
    go_enter Try.func36, Try.ntmps36
    go_wp2_with fail
    rw [← hW]
    refine Calls.mono HC.out ?_
    clear p0 p1 p2 p3 p4 p5 p6 p7 p8 p9 p10 p11 p12 p13
    rintro e w1 ⟨rfl, hw1⟩
    subst hw1
    clear hW
    obtain ⟨⟨p0, p1, p2, p3, p4, p5, p6, p7, p8, p9, p10, p11, p12, p13⟩, _⟩ := HX.out _ (Below.refl _ _)
    rw [H1.out] at p3
    cases RA with
    | false =>
      have HF : Hid (R = false) := HNO.out (fun h => by rcases h with ⟨h, _⟩ | ⟨_, h, _⟩ | ⟨h, _⟩ <;> (try (have := H1.out; omega)); rw [HRA.out] at h; cases h)
      clear HX HNO HYES HP HA HC
      go_wp2
      go_ret
      exact ⟨by rw [HF.out]; rfl, HB.out⟩
    | true =>
      by_cases hp : n.peers.length = 0
      · have hpi : (n.peers.length : Int) = 0 := by omega
        have HQ : Hid (((n.peers.length : Int) == 0) = true) := by show _ = _; rw [hpi]; rfl
        have HF : Hid (R = true) := HYES.out (Or.inr (Or.inl ⟨H1.out, HRA.out, hp⟩))
        clear HX HNO HYES HP HA HC hp
        go_wp2
        go_ret
        exact ⟨by rw [HF.out]; first | rfl | (show Ending.returned (.bool ((n.peers.length : Int) == 0)) = _; rw [HQ.out]), HB.out⟩
      · have hpi : ¬ (n.peers.length : Int) = 0 := by omega
        have HQ : Hid (((n.peers.length : Int) == 0) = false) := by show _ = _; exact beq_eq_false_iff_ne.2 hpi
        have HF : Hid (R = false) := HNO.out (fun h => by rcases h with ⟨h, _⟩ | ⟨_, _, h⟩ | ⟨h, _⟩ <;> (try exact hp h) <;> (have := H1.out; omega))
        clear HX HNO HYES HP HA HC hp
        go_wp2
        go_ret
        exact ⟨by rw [HF.out]; first | rfl | (show Ending.returned (.bool ((n.peers.length : Int) == 0)) = _; rw [HQ.out]), HB.out⟩
  by_cases h2 : n.role = 2
  · have H2 : Hid (n.role = 2) := h2
    by_cases hv : n.votes.length = 0
    · have hvi : (n.votes.length : Int) = 0 := by omega
      obtain ⟨R1, hR1⟩ : ∃ R1 : Bool, R1 = true ↔ PeersN (lastN n.log) n.peers (othersL (confL n.conf n.log.ents) n.id) := by
        by_cases h : PeersN (lastN n.log) n.peers (othersL (confL n.conf n.log.ents) n.id)
        · exact ⟨true, by simp [h]⟩
        · exact ⟨false, by simp [h]⟩
      have HF : Hid (R = R1) := by
        show R = R1
        cases R1 with
        | true => exact HYES.out (Or.inr (Or.inr ⟨h2, hv, hR1.1 rfl⟩))
        | false => exact HNO.out (fun h => by
            rcases h with ⟨h, _⟩ | ⟨h, _⟩ | ⟨_, _, h⟩
            · omega
            · omega
            · have := hR1.2 h; cases this)
      have HC := HP.out R1 hR1 W (Below.refl _ _)
      rw [h2] at HC hW ⊢
      obtain ⟨p0, p1, p2, p3, p4, p5, p6, p7, p8, p9, p10, p11, p12, p13⟩ := hn0
      rw [h2] at p3
      rw [hW] at p0 p1 p2 p3 p4 p5 p6 p7 p8 p9 p10 p11 p12 p13
      have HC : Hid _ := HC
      clear HX HNO HYES HP HA hR1 hv h0 h1 h2
      go_enter Try.func36, Try.ntmps36
      go_wp2_with fail
      rw [← hW]
      clear hW
      refine Calls.mono HC.out ?_
      clear p0 p1 p2 p3 p4 p5 p6 p7 p8 p9 p10 p11 p12 p13
      rintro e w1 ⟨rfl, hb1⟩
      have HB1 : Hid (Below w.heap.size w w1) := HB.out.trans (hb1.mono HB.out.size)
      clear hb1 HC
      go_wp2
      go_ret
      exact ⟨by rw [HF.out]; rfl, HB1.out⟩
    · have hvi : ¬ (n.votes.length : Int) = 0 := by omega
      have hvb : ((n.votes.length : Int) == 0) = false := beq_eq_false_iff_ne.2 hvi
      have hvd : decide ((n.votes.length : Int) = 0) = false := decide_eq_false hvi
      have HF : Hid (R = false) := HNO.out (fun h => by rcases h with ⟨h, _⟩ | ⟨h, _⟩ | ⟨_, h, _⟩ <;> (try exact hv h) <;> (have := H2.out; omega))
      obtain ⟨p0, p1, p2, p3, p4, p5, p6, p7, p8, p9, p10, p11, p12, p13⟩ := hn0
      rw [h2] at p3
      rw [hW] at p0 p1 p2 p3 p4 p5 p6 p7 p8 p9 p10 p11 p12 p13
      rw [hW] at HB
      clear HX HNO HYES HP HA hW hv h2 h0 h1
      go_enter Try.func36, Try.ntmps36
      go_wp2
      go_ret
      exact ⟨by rw [HF.out]; rfl, HB.out⟩
  have HF : Hid (R = false) := HNO.out (fun h => by rcases h with ⟨h, _⟩ | ⟨h, _⟩ | ⟨h, _⟩ <;> contradiction)
  obtain ⟨p0, p1, p2, p3, p4, p5, p6, p7, p8, p9, p10, p11, p12, p13⟩ := hn0
  rw [hW] at p0 p1 p2 p3 p4 p5 p6 p7 p8 p9 p10 p11 p12 p13
  rw [hW] at HB
  clear HX HNO HYES HP HA hW
  go_enter Try.func36, Try.ntmps36
  go_wp2
  go_ret
  exact ⟨by rw [HF.out]; first | rfl | (show Ending.returned (.bool ((n.peers.length : Int) == 0)) = _; rw [HQ.out]), HB.out⟩
theorem implLogOk_r {a : Option Addr} {g off cap : Nat} (l : LogL) (hlen : l.ents.length ≤ 1048576) (hd : ∀ e ∈ l.ents, e.data.size ≤ 1048576) (R : Bool) (hR : okL l = R) (w : World) (hf : EnAt w a g off l.ents) :
    Calls Try.prog 34 #[.agg #[.int .i64 l.start, .int .i64 l.sterm, .slice a l.ents.length cap]] w fun e w' => e = .returned (.bool R) ∧ Below w.heap.size w w' := by
  rw [← hR]; exact implLogOk_is l hlen hd w hf
theorem lastT_nonneg {l : LogL} (h : okL l = true) : 0 ≤ Logs.lastT l := by
  have hf := (Logs.okL_iff.1 h).1
  rcases Nat.eq_zero_or_pos l.ents.length with q | q
  · rw [Logs.lastT_nil q]; exact hf.t0
  · obtain ⟨n, hn⟩ : ∃ n, l.ents.length = n + 1 := ⟨l.ents.length - 1, by omega⟩
    rw [Logs.lastT_some hn (by omega)]
    exact (Ents.okB_iff.1 (okL_mem h _ (List.getElem_mem _))).1.1
theorem okN_iff (n : NodeL) : OkN n ↔ (1 ≤ n.id ∧ n.id ≤ 4) ∧ Mans.confOk n.conf = true ∧ okL n.log = true ∧ StandN n ∧ RoleN n := by
  constructor
  · intro h
    refine ⟨h.id, h.conf, h.log, ⟨⟨h.lterm, h.term.2⟩, h.vote, h.lead, h.commit, h.clock, h.limit⟩, ?_⟩
    have hr := h.role
    have hv := h.vrole
    have hp := h.plen
    by_cases h2 : n.role = 2
    · refine Or.inr (Or.inr ⟨h2, by omega, ?_⟩)
      have ho : othN n = othersL (confL n.conf n.log.ents) n.id := by unfold othN; rw [if_pos h2]
      have h3 := h.peers
      rw [ho] at hp
      refine ⟨hp, fun k h1 h2 => ?_⟩
      have h4 := h3 k h1 (by rw [ho]; exact h2)
      simpa only [ho] using h4
    · have ho : othN n = [] := by unfold othN; rw [if_neg h2]
      rw [ho] at hp
      by_cases h1 : n.role = 1
      · exact Or.inr (Or.inl ⟨h1, h.votes, hp⟩)
      · exact Or.inl ⟨by omega, by omega, hp⟩
  · rintro ⟨h1, h2, h3, ⟨⟨h4, h5⟩, h6, h7, h8, h9, h10⟩, h11⟩
    have hok := h3
    have ht : 0 ≤ Logs.lastT n.log := lastT_nonneg h3
    rcases h11 with ⟨r, v, p⟩ | ⟨r, v, p⟩ | ⟨r, v, p⟩
    · have ho : othN n = [] := by unfold othN; rw [if_neg (by omega)]
      refine ⟨h1, h2, h3, ⟨by omega, h5⟩, h6, h7, by omega, h4, h8, h9, h10, ?_, by omega, by rw [ho]; exact p, fun k q1 q2 => by omega⟩
      have : n.votes = [] := List.length_eq_zero_iff.1 v
      rw [this]; rfl
    · have ho : othN n = [] := by unfold othN; rw [if_neg (by omega)]
      exact ⟨h1, h2, h3, ⟨by omega, h5⟩, h6, h7, by omega, h4, h8, h9, h10, v, by omega, by rw [ho]; exact p, fun k q1 q2 => by omega⟩
    · have ho : othN n = othersL (confL n.conf n.log.ents) n.id := by unfold othN; rw [if_pos r]
      refine ⟨h1, h2, h3, ⟨by omega, h5⟩, h6, h7, by omega, h4, h8, h9, h10, ?_, by omega, by rw [ho]; exact p.1, fun k q1 q2 => ?_⟩
      · have : n.votes = [] := List.length_eq_zero_iff.1 v
        rw [this]; rfl
      · have h12 := p.2 k q1 (by rw [ho] at q2; exact q2)
        simpa only [ho] using h12
set_option maxHeartbeats 8000000 in
set_option maxRecDepth 100000 in
theorem implNodeOk_is {ca ea va pa : Option Addr} {cc ec vc pc gc oc ge oe gv ov gp op : Nat} (n : NodeL) (hs : NodeS n) (hd : ∀ e ∈ n.log.ents, e.data.size ≤ 1048576) (hec : n.log.ents.length ≤ ec) (hecm : ec ≤ 9223372036854775807) (O : Bool) (hO : O = true ↔ OkN n) (w : World) (hR : NodeR w n ca gc oc ea ge oe va gv ov pa gp op) :
    Calls Try.prog 9 #[.agg #[.int .i64 n.id, .int .i64 n.term, .int .i64 n.vote, .int .i64 n.role, .int .i64 n.lead, .slice ca n.conf.length cc, .int .i64 n.log.start, .int .i64 n.log.sterm, .slice ea n.log.ents.length ec, .int .i64 n.commit, .int .i64 n.clock, .int .i64 n.limit, .slice va n.votes.length vc, .slice pa n.peers.length pc]] w fun e w' => e = .returned (.bool O) ∧ Below w.heap.size w w' := by
  obtain ⟨W, hW⟩ : ∃ W, W = w.alloc (.cells #[.int .i64 n.id, .int .i64 n.term, .int .i64 n.vote, .int .i64 n.role, .int .i64 n.lead, .slice ca n.conf.length cc, .int .i64 n.log.start, .int .i64 n.log.sterm, .slice ea n.log.ents.length ec, .int .i64 n.commit, .int .i64 n.clock, .int .i64 n.limit, .slice va n.votes.length vc, .slice pa n.peers.length pc] 36) := ⟨_, rfl⟩
  have hb : Below w.heap.size w W := by rw [hW]; exact (Below.refl _ _).alloc (Nat.le_refl _) _
  have hn0 : NodeAt W w.heap.size n ca cc ea ec va vc pa pc := by rw [hW]; exact NodeAt.new w n ca cc ea ec va vc pa pc 36
  have HB : Hid (Below w.heap.size w W) := hb
  have HX : Hid (∀ w', Below W.heap.size W w' → NodeAt w' w.heap.size n ca cc ea ec va vc pa pc ∧ NodeR w' n ca gc oc ea ge oe va gv ov pa gp op) := fun w' h => ⟨hn0.kept h, (hR.kept hb).kept h⟩
  have HS : Hid (NodeS n) := hs
  have HD : Hid (∀ e ∈ n.log.ents, e.data.size ≤ 1048576) := hd
  have HEC : Hid (n.log.ents.length ≤ ec ∧ ec ≤ 9223372036854775807) := ⟨hec, hecm⟩
  rw [okN_iff] at hO
  have HYES : Hid ((1 ≤ n.id ∧ n.id ≤ 4) ∧ Mans.confOk n.conf = true ∧ okL n.log = true ∧ StandN n ∧ RoleN n → O = true) := hO.2
  have HNO : Hid (¬ ((1 ≤ n.id ∧ n.id ≤ 4) ∧ Mans.confOk n.conf = true ∧ okL n.log = true ∧ StandN n ∧ RoleN n) → O = false) := fun h => by
    cases O with
    | false => rfl
    | true => exact (h (hO.1 rfl)).elim
  have H0 : Hid (Below W.heap.size W W) := Below.refl _ _
  obtain ⟨p0, p1, p2, p3, p4, p5, p6, p7, p8, p9, p10, p11, p12, p13⟩ := hn0
  rw [hW] at p0 p1 p2 p3 p4 p5 p6 p7 p8 p9 p10 p11 p12 p13
  clear hR hb hs hd hec hecm hO
  go_enter Try.func9, Try.ntmps9
  go_wp2_with fail
  rw [← hW]
  clear hW p0 p1 p2 p3 p4 p5 p6 p7 p8 p9 p10 p11 p12 p13
  by_cases hid : 1 ≤ n.id ∧ n.id ≤ 4
  case neg =>
    have HF : Hid (O = false) := HNO.out (fun h => hid h.1)
    refine Calls.mono (idOk_no n.id hid W) ?_
    rintro e w1 ⟨rfl, hw⟩
    subst hw
    clear HX HNO HYES hid
    go_wp2
    go_ret
    exact ⟨by rw [HF.out]; rfl, HB.out⟩
  refine Calls.mono (idOk_q n.id hid.1 hid.2 W) ?_
  have HID : Hid (1 ≤ n.id ∧ n.id ≤ 4) := hid
  clear hid
  rintro e w1 ⟨rfl, hb1⟩
  have H1 : Hid (Below W.heap.size W w1) := hb1
  clear hb1 H0
  obtain ⟨p0, p1, p2, p3, p4, p5, p6, p7, p8, p9, p10, p11, p12, p13⟩ := (HX.out _ H1.out).1
  go_wp2_with fail
  clear p0 p1 p2 p3 p4 p5 p6 p7 p8 p9 p10 p11 p12 p13
  obtain ⟨R1, hR1⟩ : ∃ R, Mans.confOk n.conf = R := ⟨_, rfl⟩
  refine Calls.mono (implConf_q n.conf HS.out.conf R1 hR1 w1 (HX.out _ H1.out).2.conf) ?_
  rintro e w2 ⟨rfl, hb2⟩
  have H2 : Hid (Below W.heap.size W w2) := H1.out.trans (hb2.mono H1.out.size)
  clear hb2
  cases R1 with
  | false =>
    have HF : Hid (O = false) := HNO.out (fun h => by have := hR1.symm.trans h.2.1; cases this)
    obtain ⟨p0, p1, p2, p3, p4, p5, p6, p7, p8, p9, p10, p11, p12, p13⟩ := (HX.out _ H2.out).1
    clear HX HNO HYES hR1
    go_wp2
    go_ret
    exact ⟨by rw [HF.out]; rfl, HB.out.trans (H2.out.mono HB.out.size)⟩
  | true =>
  have F1 : Hid (Mans.confOk n.conf = true) := hR1
  clear hR1
  obtain ⟨p0, p1, p2, p3, p4, p5, p6, p7, p8, p9, p10, p11, p12, p13⟩ := (HX.out _ H2.out).1
  go_wp2_with fail
  clear p0 p1 p2 p3 p4 p5 p6 p7 p8 p9 p10 p11 p12 p13
  obtain ⟨R2, hR2⟩ : ∃ R, okL n.log = R := ⟨_, rfl⟩
  refine Calls.mono (implLogOk_r n.log HS.out.ents HD.out R2 hR2 w2 (HX.out _ H2.out).2.ents) ?_
  rintro e w3 ⟨rfl, hb3⟩
  have H3 : Hid (Below W.heap.size W w3) := H2.out.trans (hb3.mono H2.out.size)
  clear hb3
  cases R2 with
  | false =>
    have HF : Hid (O = false) := HNO.out (fun h => by have := hR2.symm.trans h.2.2.1; cases this)
    obtain ⟨p0, p1, p2, p3, p4, p5, p6, p7, p8, p9, p10, p11, p12, p13⟩ := (HX.out _ H3.out).1
    clear HX HNO HYES hR2
    go_wp2
    go_ret
    exact ⟨by rw [HF.out]; rfl, HB.out.trans (H3.out.mono HB.out.size)⟩
  | true =>
  have F2 : Hid (okL n.log = true) := hR2
  clear hR2
  obtain ⟨p0, p1, p2, p3, p4, p5, p6, p7, p8, p9, p10, p11, p12, p13⟩ := (HX.out _ H3.out).1
  go_wp2_with fail
  clear p0 p1 p2 p3 p4 p5 p6 p7 p8 p9 p10 p11 p12 p13
  obtain ⟨R3, hR3⟩ : ∃ R : Bool, R = true ↔ StandN n := by
    by_cases h : StandN n
    · exact ⟨true, by simp [h]⟩
    · exact ⟨false, by simp [h]⟩
  refine Calls.mono (standing_is n HS.out F2.out R3 hR3 w3 (HX.out _ H3.out).2) ?_
  rintro e w4 ⟨rfl, hb4⟩
  have H4 : Hid (Below W.heap.size W w4) := H3.out.trans (hb4.mono H3.out.size)
  clear hb4
  cases R3 with
  | false =>
    have HF : Hid (O = false) := HNO.out (fun h => by have := hR3.2 h.2.2.2.1; cases this)
    obtain ⟨p0, p1, p2, p3, p4, p5, p6, p7, p8, p9, p10, p11, p12, p13⟩ := (HX.out _ H4.out).1
    clear HX HNO HYES hR3
    go_wp2
    go_ret
    exact ⟨by rw [HF.out]; rfl, HB.out.trans (H4.out.mono HB.out.size)⟩
  | true =>
  have F3 : Hid (StandN n) := hR3.1 rfl
  clear hR3
  obtain ⟨p0, p1, p2, p3, p4, p5, p6, p7, p8, p9, p10, p11, p12, p13⟩ := (HX.out _ H4.out).1
  go_wp2_with fail
  clear p0 p1 p2 p3 p4 p5 p6 p7 p8 p9 p10 p11 p12 p13
  obtain ⟨R4, hR4⟩ : ∃ R : Bool, R = true ↔ RoleN n := by
    by_cases h : RoleN n
    · exact ⟨true, by simp [h]⟩
    · exact ⟨false, by simp [h]⟩
  refine Calls.mono (role_is n HS.out F2.out F1.out HEC.out.1 HEC.out.2 R4 hR4 w4 (HX.out _ H4.out).2) ?_
  rintro e w5 ⟨rfl, hb5⟩
  have H5 : Hid (Below W.heap.size W w5) := H4.out.trans (hb5.mono H4.out.size)
  clear hb5
  cases R4 with
  | false =>
    have HF : Hid (O = false) := HNO.out (fun h => by have := hR4.2 h.2.2.2.2; cases this)
    obtain ⟨p0, p1, p2, p3, p4, p5, p6, p7, p8, p9, p10, p11, p12, p13⟩ := (HX.out _ H5.out).1
    clear HX HNO HYES hR4
    go_wp2
    go_ret
    exact ⟨by rw [HF.out]; rfl, HB.out.trans (H5.out.mono HB.out.size)⟩
  | true =>
  have F4 : Hid (RoleN n) := hR4.1 rfl
  clear hR4
  have HF : Hid (O = true) := HYES.out ⟨HID.out, F1.out, F2.out, F3.out, F4.out⟩
  obtain ⟨p0, p1, p2, p3, p4, p5, p6, p7, p8, p9, p10, p11, p12, p13⟩ := (HX.out _ H5.out).1
  clear HX HNO HYES
  go_wp2
  go_ret
  exact ⟨by rw [HF.out]; rfl, HB.out.trans (H5.out.mono HB.out.size)⟩
end Go.Proofs.Ytiifjhalkihlbaa
