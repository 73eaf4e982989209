/- A right node, in plain words; spec.NodeOk, walked. Made by program. -/
import Derived.Test.YtiifjhalkihlbaaOthersS
namespace Go.Proofs.Ytiifjhalkihlbaa
open Go.RowKit
open Ents (okB confOf)
open Logs (okL)
set_option linter.unusedVariables false
set_option linter.unusedSimpArgs false
def lastN (l : LogL) : Int := l.start + (l.ents.length : Int)
def peer1 (last : Int) (p : PeerL) (o : Int) : Prop := p.id = o ∧ (1 ≤ p.next ∧ p.next ≤ last + 1) ∧ (0 ≤ p.mat ∧ p.mat ≤ p.next - 1) ∧ (0 ≤ p.sent ∧ p.sent ≤ 20000)
def othN (n : NodeL) : List Int := if n.role = 2 then othersL (confL n.conf n.log.ents) n.id else []
structure OkN (n : NodeL) : Prop where
  id : 1 ≤ n.id ∧ n.id ≤ 4
  conf : Mans.confOk n.conf = true
  log : okL n.log = true
  term : 0 ≤ n.term ∧ n.term ≤ 100000
  vote : 0 ≤ n.vote ∧ n.vote ≤ 4
  lead : 0 ≤ n.lead ∧ n.lead ≤ 4
  role : 0 ≤ n.role ∧ n.role ≤ 2
  lterm : Logs.lastT n.log ≤ n.term
  commit : n.log.start ≤ n.commit ∧ n.commit ≤ lastN n.log
  clock : 0 ≤ n.clock ∧ n.clock ≤ 20
  limit : 1 ≤ n.limit ∧ n.limit ≤ 20
  votes : Mans.asc 1 4 n.votes = true
  vrole : ¬ (0 < n.votes.length ∧ n.role ≠ 1)
  plen : n.peers.length = (othN n).length
  peers : ∀ (k : Nat) (h1 : k < n.peers.length) (h2 : k < (othN n).length), peer1 (lastN n.log) n.peers[k] (othN n)[k]
theorem last_ok {l : LogL} (h : okL l = true) : (if l.ents.length = 0 then l.start else lastI l) = lastN l := by
  have := okL_num h
  unfold lastN lastI wrap64
  split <;> omega
theorem below_undrew {w w' : World} (h : Below w.drew.heap.size w.drew w') : Below w.heap.size w w' := ((Below.refl _ _).drew).trans h
theorem in_r (n lo hi : Int) (R : Bool) (h : R = true ↔ lo ≤ n ∧ n ≤ hi) (X : World) : Calls Try.prog 23 #[.int .i64 n, .int .i64 lo, .int .i64 hi] X fun e w' => e = .returned (.bool R) ∧ Below X.heap.size X w' := (in_is n lo hi R h X).mono (by rintro e w' ⟨rfl, rfl⟩; exact ⟨rfl, Below.refl _ _⟩)
theorem in_b (n lo hi : Int) (w : World) : ∃ R : Bool, (R = true ↔ lo ≤ n ∧ n ≤ hi) ∧ Calls Try.prog 23 #[.int .i64 n, .int .i64 lo, .int .i64 hi] w fun e w' => e = .returned (.bool R) ∧ w' = w :=
  ⟨decide (lo ≤ n ∧ n ≤ hi), by simp, in_is n lo hi _ (by simp) w⟩
set_option maxHeartbeats 8000000 in
set_option maxRecDepth 100000 in
theorem specNodeOk_is {ca ea va pa : Option Addr} {cc ec vc pc gc oc ge oe gv ov gp op : Nat} (n : NodeL) (hs : NodeS n) (hd : ∀ e ∈ n.log.ents, e.data.size ≤ 1048576) (hnil : ca = none → cc = 0) (O : Bool) (hO : O = true ↔ OkN n) (w : World) (hR : NodeR w n ca gc oc ea ge oe va gv ov pa gp op) :
    Calls Try.prog 7 #[.agg #[.int .i64 n.id, .int .i64 n.term, .int .i64 n.vote, .int .i64 n.role, .int .i64 n.lead, .slice ca n.conf.length cc, .int .i64 n.log.start, .int .i64 n.log.sterm, .slice ea n.log.ents.length ec, .int .i64 n.commit, .int .i64 n.clock, .int .i64 n.limit, .slice va n.votes.length vc, .slice pa n.peers.length pc]] w fun e w' => e = .returned (.bool O) ∧ Below w.heap.size w w' := by
  obtain ⟨W, hW⟩ : ∃ W, W = w.alloc (.cells #[.int .i64 n.id, .int .i64 n.term, .int .i64 n.vote, .int .i64 n.role, .int .i64 n.lead, .slice ca n.conf.length cc, .int .i64 n.log.start, .int .i64 n.log.sterm, .slice ea n.log.ents.length ec, .int .i64 n.commit, .int .i64 n.clock, .int .i64 n.limit, .slice va n.votes.length vc, .slice pa n.peers.length pc] 36) := ⟨_, rfl⟩
  have hb : Below w.heap.size w W := by rw [hW]; exact (Below.refl _ _).alloc (Nat.le_refl _) _
  have hn0 : NodeAt W w.heap.size n ca cc ea ec va vc pa pc := by rw [hW]; exact NodeAt.new w n ca cc ea ec va vc pa pc 36
  have N0 : W.heap[w.heap.size]? = some (.cells #[.int .i64 n.id, .int .i64 n.term, .int .i64 n.vote, .int .i64 n.role, .int .i64 n.lead, .slice ca n.conf.length cc, .int .i64 n.log.start, .int .i64 n.log.sterm, .slice ea n.log.ents.length ec, .int .i64 n.commit, .int .i64 n.clock, .int .i64 n.limit, .slice va n.votes.length vc, .slice pa n.peers.length pc] 36 (0, 0)) := by rw [hW]; exact heap_alloc_new w _
  have HX : Hid (∀ w', Below W.heap.size W w' → NodeAt w' w.heap.size n ca cc ea ec va vc pa pc ∧ NodeR w' n ca gc oc ea ge oe va gv ov pa gp op ∧ Below w.heap.size w w' ∧ w'.heap[w.heap.size]? = some (.cells #[.int .i64 n.id, .int .i64 n.term, .int .i64 n.vote, .int .i64 n.role, .int .i64 n.lead, .slice ca n.conf.length cc, .int .i64 n.log.start, .int .i64 n.log.sterm, .slice ea n.log.ents.length ec, .int .i64 n.commit, .int .i64 n.clock, .int .i64 n.limit, .slice va n.votes.length vc, .slice pa n.peers.length pc] 36 (0, 0))) := fun w' h => ⟨hn0.kept h, (hR.kept hb).kept h, hb.trans (h.mono hb.size), (h.block _ (Array.getElem?_eq_some_iff.1 N0).1).trans N0⟩
  have HS : Hid (NodeS n) := hs
  have HD : Hid (∀ e ∈ n.log.ents, e.data.size ≤ 1048576) := hd
  have HN : Hid (ca = none → cc = 0) := hnil
  have HO : Hid (O = true ↔ OkN n) := hO
  have HNO : Hid (¬ OkN n → O = false) := fun h => by cases O with | false => rfl | true => exact (h (hO.1 rfl)).elim
  have HYES : Hid (OkN n → O = true) := hO.2
  obtain ⟨p0, p1, p2, p3, p4, p5, p6, p7, p8, p9, p10, p11, p12, p13⟩ := hn0
  rw [hW] at p0 p1 p2 p3 p4 p5 p6 p7 p8 p9 p10 p11 p12 p13
  clear hR hb hs hd hnil hO N0 HO
  go_enter Try.func7, Try.ntmps7
  go_wp2_with fail
  rw [← hW]
  clear hW p0 p1 p2 p3 p4 p5 p6 p7 p8 p9 p10 p11 p12 p13
  have H0 : Hid (Below W.heap.size W W) := Below.refl _ _
  obtain ⟨R0, hR0, hC0⟩ := in_b (n.id) (1) (4) W
  refine Calls.mono hC0 ?_
  clear hC0
  rintro e w' ⟨rfl, hw⟩
  rw [hw]
  clear hw w'
  cases R0 with
  | false =>
    have HFF : Hid (O = false) := HNO.out (fun h => by have := hR0.2 (h.id); cases this)
    clear hR0 HNO HYES
    go_wp2
    go_ret
    exact ⟨by rw [HFF.out]; rfl, (HX.out _ H0.out).2.2.1⟩
  | true =>
  have Fid : Hid (1 ≤ n.id ∧ n.id ≤ 4) := hR0.1 rfl
  clear hR0
  obtain ⟨p0, p1, p2, p3, p4, p5, p6, p7, p8, p9, p10, p11, p12, p13⟩ := (HX.out _ H0.out).1
  go_wp2_with fail
  clear p0 p1 p2 p3 p4 p5 p6 p7 p8 p9 p10 p11 p12 p13
  have RR := (HX.out _ H0.out).2.1
  have hC : ∃ R : Bool, R = Mans.confOk n.conf ∧ Calls Try.prog 24 #[.slice ca n.conf.length cc] W fun e w' => e = .returned (.bool R) ∧ Below W.heap.size W w' := ⟨_, rfl, specConf_is n.conf HS.out.conf _ rfl W RR.conf⟩
  obtain ⟨R, hRR, hC⟩ := hC
  refine Calls.mono hC ?_
  clear hC RR
  rintro e w1 ⟨rfl, hb⟩
  have H1 : Hid (Below W.heap.size W w1) := H0.out.trans (hb.mono H0.out.size)
  clear hb H0
  cases R with
  | false =>
    have HFF : Hid (O = false) := HNO.out (fun h => by have := hRR.trans (h.conf); cases this)
    clear hRR HNO HYES
    go_wp2
    go_ret
    exact ⟨by rw [HFF.out]; rfl, (HX.out _ H1.out).2.2.1⟩
  | true =>
  have Fconf : Hid (Mans.confOk n.conf = true) := hRR.symm
  clear hRR
  obtain ⟨p0, p1, p2, p3, p4, p5, p6, p7, p8, p9, p10, p11, p12, p13⟩ := (HX.out _ H1.out).1
  go_wp2_with fail
  clear p0 p1 p2 p3 p4 p5 p6 p7 p8 p9 p10 p11 p12 p13
  have RR := (HX.out _ H1.out).2.1
  have hC : ∃ R : Bool, R = okL n.log ∧ Calls Try.prog 25 #[.agg #[.int .i64 n.log.start, .int .i64 n.log.sterm, .slice ea n.log.ents.length ec]] w1 fun e w' => e = .returned (.bool R) ∧ Below w1.heap.size w1 w' := ⟨_, rfl, specLogOk_is n.log HS.out.ents HD.out w1 RR.ents⟩
  obtain ⟨R, hRR, hC⟩ := hC
  refine Calls.mono hC ?_
  clear hC RR
  rintro e w2 ⟨rfl, hb⟩
  have H2 : Hid (Below W.heap.size W w2) := H1.out.trans (hb.mono H1.out.size)
  clear hb H1
  cases R with
  | false =>
    have HFF : Hid (O = false) := HNO.out (fun h => by have := hRR.trans (h.log); cases this)
    clear hRR HNO HYES
    go_wp2
    go_ret
    exact ⟨by rw [HFF.out]; rfl, (HX.out _ H2.out).2.2.1⟩
  | true =>
  have Flog : Hid (okL n.log = true) := hRR.symm
  clear hRR
  obtain ⟨p0, p1, p2, p3, p4, p5, p6, p7, p8, p9, p10, p11, p12, p13⟩ := (HX.out _ H2.out).1
  go_wp2_with fail
  clear p0 p1 p2 p3 p4 p5 p6 p7 p8 p9 p10 p11 p12 p13
  obtain ⟨R2, hR2, hC2⟩ := in_b (n.term) (0) (100000) w2
  refine Calls.mono hC2 ?_
  clear hC2
  rintro e w' ⟨rfl, hw⟩
  rw [hw]
  clear hw w'
  cases R2 with
  | false =>
    have HFF : Hid (O = false) := HNO.out (fun h => by have := hR2.2 (h.term); cases this)
    clear hR2 HNO HYES
    go_wp2
    go_ret
    exact ⟨by rw [HFF.out]; rfl, (HX.out _ H2.out).2.2.1⟩
  | true =>
  have Fterm : Hid (0 ≤ n.term ∧ n.term ≤ 100000) := hR2.1 rfl
  clear hR2
  obtain ⟨p0, p1, p2, p3, p4, p5, p6, p7, p8, p9, p10, p11, p12, p13⟩ := (HX.out _ H2.out).1
  go_wp2_with fail
  clear p0 p1 p2 p3 p4 p5 p6 p7 p8 p9 p10 p11 p12 p13
  obtain ⟨R2, hR2, hC2⟩ := in_b (n.vote) (0) (4) w2
  refine Calls.mono hC2 ?_
  clear hC2
  rintro e w' ⟨rfl, hw⟩
  rw [hw]
  clear hw w'
  cases R2 with
  | false =>
    have HFF : Hid (O = false) := HNO.out (fun h => by have := hR2.2 (h.vote); cases this)
    clear hR2 HNO HYES
    go_wp2
    go_ret
    exact ⟨by rw [HFF.out]; rfl, (HX.out _ H2.out).2.2.1⟩
  | true =>
  have Fvote : Hid (0 ≤ n.vote ∧ n.vote ≤ 4) := hR2.1 rfl
  clear hR2
  obtain ⟨p0, p1, p2, p3, p4, p5, p6, p7, p8, p9, p10, p11, p12, p13⟩ := (HX.out _ H2.out).1
  go_wp2_with fail
  clear p0 p1 p2 p3 p4 p5 p6 p7 p8 p9 p10 p11 p12 p13
  obtain ⟨R2, hR2, hC2⟩ := in_b (n.lead) (0) (4) w2
  refine Calls.mono hC2 ?_
  clear hC2
  rintro e w' ⟨rfl, hw⟩
  rw [hw]
  clear hw w'
  cases R2 with
  | false =>
    have HFF : Hid (O = false) := HNO.out (fun h => by have := hR2.2 (h.lead); cases this)
    clear hR2 HNO HYES
    go_wp2
    go_ret
    exact ⟨by rw [HFF.out]; rfl, (HX.out _ H2.out).2.2.1⟩
  | true =>
  have Flead : Hid (0 ≤ n.lead ∧ n.lead ≤ 4) := hR2.1 rfl
  clear hR2
  obtain ⟨p0, p1, p2, p3, p4, p5, p6, p7, p8, p9, p10, p11, p12, p13⟩ := (HX.out _ H2.out).1
  go_wp2_with fail
  clear p0 p1 p2 p3 p4 p5 p6 p7 p8 p9 p10 p11 p12 p13
  obtain ⟨R2, hR2, hC2⟩ := in_b (n.role) (0) (2) w2
  refine Calls.mono hC2 ?_
  clear hC2
  rintro e w' ⟨rfl, hw⟩
  rw [hw]
  clear hw w'
  cases R2 with
  | false =>
    have HFF : Hid (O = false) := HNO.out (fun h => by have := hR2.2 (h.role); cases this)
    clear hR2 HNO HYES
    go_wp2
    go_ret
    exact ⟨by rw [HFF.out]; rfl, (HX.out _ H2.out).2.2.1⟩
  | true =>
  have Frole : Hid (0 ≤ n.role ∧ n.role ≤ 2) := hR2.1 rfl
  clear hR2
  obtain ⟨p0, p1, p2, p3, p4, p5, p6, p7, p8, p9, p10, p11, p12, p13⟩ := (HX.out _ H2.out).1
  go_wp2_with fail
  clear p0 p1 p2 p3 p4 p5 p6 p7 p8 p9 p10 p11 p12 p13
  have hC := specLast_is (cap := ec) n.log HS.out.ents w2 (HX.out _ H2.out).2.1.ents
  rw [last_ok Flog.out] at hC
  refine Calls.mono hC ?_
  clear hC
  rintro e w3 ⟨rfl, hb⟩
  have H3 : Hid (Below W.heap.size W w3) := H2.out.trans (hb.mono H2.out.size)
  clear hb H2
  obtain ⟨LT, hLT⟩ : ∃ LT, LT = Logs.lastT n.log := ⟨_, rfl⟩
  have HLT : Hid (LT = Logs.lastT n.log) := hLT
  rw [← hLT]
  clear hLT
  obtain ⟨LN, hLN⟩ : ∃ LN, LN = lastN n.log := ⟨_, rfl⟩
  have HLN : Hid (LN = lastN n.log) := hLN
  rw [← hLN]
  clear hLN
  by_cases hlt : n.term < LT
  · have HFF : Hid (O = false) := HNO.out (fun h => by have := h.lterm; rw [← HLT.out] at this; omega)
    obtain ⟨p0, p1, p2, p3, p4, p5, p6, p7, p8, p9, p10, p11, p12, p13⟩ := (HX.out _ H3.out).1
    clear HNO HYES
    go_wp2
    go_ret
    exact ⟨by rw [HFF.out]; rfl, (HX.out _ H3.out).2.2.1⟩
  obtain ⟨p0, p1, p2, p3, p4, p5, p6, p7, p8, p9, p10, p11, p12, p13⟩ := (HX.out _ H3.out).1
  go_wp2_with fail
  clear p0 p1 p2 p3 p4 p5 p6 p7 p8 p9 p10 p11 p12 p13
  obtain ⟨R3, hR3, hC3⟩ := in_b (n.commit) (n.log.start) (LN) w3
  refine Calls.mono hC3 ?_
  clear hC3
  rintro e w' ⟨rfl, hw⟩
  rw [hw]
  clear hw w'
  cases R3 with
  | false =>
    have HFF : Hid (O = false) := HNO.out (fun h => by have := hR3.2 ((by rw [HLN.out]; exact h.commit)); cases this)
    clear hR3 HNO HYES
    go_wp2
    go_ret
    exact ⟨by rw [HFF.out]; rfl, (HX.out _ H3.out).2.2.1⟩
  | true =>
  have Fcommit : Hid (n.log.start ≤ n.commit ∧ n.commit ≤ LN) := hR3.1 rfl
  clear hR3
  obtain ⟨p0, p1, p2, p3, p4, p5, p6, p7, p8, p9, p10, p11, p12, p13⟩ := (HX.out _ H3.out).1
  go_wp2_with fail
  clear p0 p1 p2 p3 p4 p5 p6 p7 p8 p9 p10 p11 p12 p13
  obtain ⟨R3, hR3, hC3⟩ := in_b (n.clock) (0) (20) w3
  refine Calls.mono hC3 ?_
  clear hC3
  rintro e w' ⟨rfl, hw⟩
  rw [hw]
  clear hw w'
  cases R3 with
  | false =>
    have HFF : Hid (O = false) := HNO.out (fun h => by have := hR3.2 (h.clock); cases this)
    clear hR3 HNO HYES
    go_wp2
    go_ret
    exact ⟨by rw [HFF.out]; rfl, (HX.out _ H3.out).2.2.1⟩
  | true =>
  have Fclock : Hid (0 ≤ n.clock ∧ n.clock ≤ 20) := hR3.1 rfl
  clear hR3
  obtain ⟨p0, p1, p2, p3, p4, p5, p6, p7, p8, p9, p10, p11, p12, p13⟩ := (HX.out _ H3.out).1
  go_wp2_with fail
  clear p0 p1 p2 p3 p4 p5 p6 p7 p8 p9 p10 p11 p12 p13
  obtain ⟨R3, hR3, hC3⟩ := in_b (n.limit) (1) (20) w3
  refine Calls.mono hC3 ?_
  clear hC3
  rintro e w' ⟨rfl, hw⟩
  rw [hw]
  clear hw w'
  cases R3 with
  | false =>
    have HFF : Hid (O = false) := HNO.out (fun h => by have := hR3.2 (h.limit); cases this)
    clear hR3 HNO HYES
    go_wp2
    go_ret
    exact ⟨by rw [HFF.out]; rfl, (HX.out _ H3.out).2.2.1⟩
  | true =>
  have Flimit : Hid (1 ≤ n.limit ∧ n.limit ≤ 20) := hR3.1 rfl
  clear hR3
  obtain ⟨p0, p1, p2, p3, p4, p5, p6, p7, p8, p9, p10, p11, p12, p13⟩ := (HX.out _ H3.out).1
  go_wp2_with fail
  clear p0 p1 p2 p3 p4 p5 p6 p7 p8 p9 p10 p11 p12 p13
  have RR := (HX.out _ H3.out).2.1
  have hC : ∃ R : Bool, R = Mans.asc 1 4 n.votes ∧ Calls Try.prog 27 #[.slice va n.votes.length vc, .int .i64 1, .int .i64 4] w3 fun e w' => e = .returned (.bool R) ∧ Below w3.heap.size w3 w' := ⟨_, rfl, rise_is n.votes HS.out.votes 1 4 _ rfl w3 RR.votes⟩
  obtain ⟨R, hRR, hC⟩ := hC
  refine Calls.mono hC ?_
  clear hC RR
  rintro e w4 ⟨rfl, hb⟩
  have H4 : Hid (Below W.heap.size W w4) := H3.out.trans (hb.mono H3.out.size)
  clear hb H3
  cases R with
  | false =>
    have HFF : Hid (O = false) := HNO.out (fun h => by have := hRR.trans (h.votes); cases this)
    clear hRR HNO HYES
    go_wp2
    go_ret
    exact ⟨by rw [HFF.out]; rfl, (HX.out _ H4.out).2.2.1⟩
  | true =>
  have Fvotes : Hid (Mans.asc 1 4 n.votes = true) := hRR.symm
  clear hRR
  have Hlt : Hid (LT ≤ n.term) := by show _ ≤ _; omega
  clear hlt
  have hvs := HS.out.votes
  have hps := HS.out.peers
  by_cases hv : 0 < n.votes.length
  · have hvi : (0 : Int) < (n.votes.length : Int) := by omega
    by_cases hr1 : n.role = 1
    · have HR2 : Hid (¬ n.role = 2) := by show ¬ _; omega
      have HR1 : Hid (n.role = 1) := hr1
      have hr2 : ¬ n.role = 2 := by omega
      have hr3 : ¬ (n.role ≠ 1) := by omega
      have HOT : Hid (othN n = []) := by show _ = _; unfold othN; rw [if_neg HR2.out]
      obtain ⟨p0, p1, p2, p3, p4, p5, p6, p7, p8, p9, p10, p11, p12, p13⟩ := (HX.out _ H4.out).1
      obtain ⟨q0, q1, q2, q3, q4, q5, q6, q7, q8, q9, q10, q11, q12, q13⟩ := (HX.out (w4.alloc (.cells #[] 3)) (H4.out.alloc (by have := H4.out.size; omega) _)).1
      have HBZ : Hid (Below w.heap.size w (w4.alloc (.cells #[] 3))) := (HX.out _ (H4.out.alloc (by have := H4.out.size; omega) _)).2.2.1
      by_cases hpl : n.peers.length = 0
      · have HYY : Hid (O = true) := HYES.out ⟨Fid.out, Fconf.out, Flog.out, Fterm.out, Fvote.out, Flead.out, Frole.out, (by rw [← HLT.out]; exact Hlt.out), (by rw [← HLN.out]; exact Fcommit.out), Fclock.out, Flimit.out, Fvotes.out, (fun h => h.2 HR1.out), (by rw [HOT.out, hpl]; rfl), (fun k h1 _ => by omega)⟩
        have hpi : ¬ ((n.peers.length : Int) ≠ 0) := by omega
        have hpe : (n.peers.length : Int) = 0 := by omega
        clear HNO HYES HX
        go_wp2
        refine wp_loop_rounds 1 ?_
        rw [rounds_succ]
        go_wp2
        go_ret
        exact ⟨by rw [HYY.out]; rfl, HBZ.out⟩
      · have HFF : Hid (O = false) := HNO.out (fun h => hpl (by have := h.plen; rw [HOT.out] at this; simpa using this))
        have hpi : (n.peers.length : Int) ≠ 0 := by omega
        clear HNO HYES HX
        go_wp2
        go_ret
        exact ⟨by rw [HFF.out]; rfl, HBZ.out⟩
    · have HFF : Hid (O = false) := HNO.out (fun h => h.vrole ⟨hv, hr1⟩)
      have hne : (n.role != (1 : Int)) = true := by simp [hr1]
      clear hr1
      obtain ⟨p0, p1, p2, p3, p4, p5, p6, p7, p8, p9, p10, p11, p12, p13⟩ := (HX.out _ H4.out).1
      clear HNO HYES
      go_wp2
      go_ret
      exact ⟨by rw [HFF.out]; rfl, (HX.out _ H4.out).2.2.1⟩
  · have hvi : ¬ (0 : Int) < (n.votes.length : Int) := by omega
    have HV0 : Hid (¬ 0 < n.votes.length) := hv
    by_cases hr2 : n.role = 2
    · have HR2 : Hid (n.role = 2) := hr2
      have HOT : Hid (othN n = othersL (confL n.conf n.log.ents) n.id) := by show _ = _; unfold othN; rw [if_pos HR2.out]
      obtain ⟨Z, hZ⟩ : ∃ Z, Z = w4.alloc (.cells #[] 3) := ⟨_, rfl⟩
      have HZ : Hid (Below W.heap.size W Z) := by show Below _ _ _; rw [hZ]; exact H4.out.alloc (by have := H4.out.size; omega) _
      obtain ⟨p0, p1, p2, p3, p4, p5, p6, p7, p8, p9, p10, p11, p12, p13⟩ := (HX.out _ H4.out).1
      obtain ⟨q0, q1, q2, q3, q4, q5, q6, q7, q8, q9, q10, q11, q12, q13⟩ := (HX.out Z HZ.out).1
      have NZ : Hid (Z.heap[w.heap.size]? = some (.cells #[.int .i64 n.id, .int .i64 n.term, .int .i64 n.vote, .int .i64 n.role, .int .i64 n.lead, .slice ca n.conf.length cc, .int .i64 n.log.start, .int .i64 n.log.sterm, .slice ea n.log.ents.length ec, .int .i64 n.commit, .int .i64 n.clock, .int .i64 n.limit, .slice va n.votes.length vc, .slice pa n.peers.length pc] 36 (0, 0))) := (HX.out Z HZ.out).2.2.2
      rw [hr2] at p3 q3
      rw [hZ] at q0 q1 q2 q3 q4 q5 q6 q7 q8 q9 q10 q11 q12 q13 NZ
      go_wp2_with fail
      rw [← hZ]
      clear p0 p1 p2 p3 p4 p5 p6 p7 p8 p9 p10 p11 p12 p13 q0 q1 q2 q3 q4 q5 q6 q7 q8 q9 q10 q11 q12 q13 NZ hZ H4 hr2
      have HXC : Hid (∀ w', Below Z.heap.size Z w' → w'.cell? ⟨w.heap.size, 0, none⟩ = some (.int .i64 n.id) ∧ w'.cell? ⟨w.heap.size, 1, none⟩ = some (.int .i64 n.term) ∧ w'.cell? ⟨w.heap.size, 2, none⟩ = some (.int .i64 n.vote) ∧ w'.cell? ⟨w.heap.size, 3, none⟩ = some (.int .i64 n.role) ∧ w'.cell? ⟨w.heap.size, 4, none⟩ = some (.int .i64 n.lead) ∧ w'.cell? ⟨w.heap.size, 5, none⟩ = some (.slice ca n.conf.length cc) ∧ w'.cell? ⟨w.heap.size, 6, none⟩ = some (.int .i64 n.log.start) ∧ w'.cell? ⟨w.heap.size, 7, none⟩ = some (.int .i64 n.log.sterm) ∧ w'.cell? ⟨w.heap.size, 8, none⟩ = some (.slice ea n.log.ents.length ec) ∧ w'.cell? ⟨w.heap.size, 9, none⟩ = some (.int .i64 n.commit) ∧ w'.cell? ⟨w.heap.size, 10, none⟩ = some (.int .i64 n.clock) ∧ w'.cell? ⟨w.heap.size, 11, none⟩ = some (.int .i64 n.limit) ∧ w'.cell? ⟨w.heap.size, 12, none⟩ = some (.slice va n.votes.length vc) ∧ w'.cell? ⟨w.heap.size, 13, none⟩ = some (.slice pa n.peers.length pc)) := fun w' h => by
        have hh := (HX.out w' (HZ.out.trans (h.mono HZ.out.size))).1
        exact ⟨hh.c0, hh.c1, hh.c2, hh.c3, hh.c4, hh.c5, hh.c6, hh.c7, hh.c8, hh.c9, hh.c10, hh.c11, hh.c12, hh.c13⟩
      have HCO : Hid (∀ X, Below W.heap.size W X → Calls Try.prog 29 #[.agg #[.int .i64 n.id, .int .i64 n.term, .int .i64 n.vote, .int .i64 n.role, .int .i64 n.lead, .slice ca n.conf.length cc, .int .i64 n.log.start, .int .i64 n.log.sterm, .slice ea n.log.ents.length ec, .int .i64 n.commit, .int .i64 n.clock, .int .i64 n.limit, .slice va n.votes.length vc, .slice pa n.peers.length pc]] X fun e w' => ∃ v, e = .returned v ∧ w'.ownsRow X.heap.size 3 1 v (confL n.conf n.log.ents).length (cellsI (confL n.conf n.log.ents)) ∧ Below X.heap.size X w') := fun X h => specConfOf_is n Flog.out HS.out.conf HN.out X (HX.out X h).2.1.conf (HX.out X h).2.1.ents
      have HCL : Hid ((confL n.conf n.log.ents).length ≤ 1048576) := confL_len HS.out.conf (okL_mem Flog.out)
      obtain ⟨p0, p1, p2, p3, p4, p5, p6, p7, p8, p9, p10, p11, p12, p13⟩ := HXC.out Z (Below.refl _ _)
      go_region_held3 (fun w' => w'.cell? ⟨w.heap.size, 0, none⟩ = some (.int .i64 n.id) ∧ w'.cell? ⟨w.heap.size, 1, none⟩ = some (.int .i64 n.term) ∧ w'.cell? ⟨w.heap.size, 2, none⟩ = some (.int .i64 n.vote) ∧ w'.cell? ⟨w.heap.size, 3, none⟩ = some (.int .i64 n.role) ∧ w'.cell? ⟨w.heap.size, 4, none⟩ = some (.int .i64 n.lead) ∧ w'.cell? ⟨w.heap.size, 5, none⟩ = some (.slice ca n.conf.length cc) ∧ w'.cell? ⟨w.heap.size, 6, none⟩ = some (.int .i64 n.log.start) ∧ w'.cell? ⟨w.heap.size, 7, none⟩ = some (.int .i64 n.log.sterm) ∧ w'.cell? ⟨w.heap.size, 8, none⟩ = some (.slice ea n.log.ents.length ec) ∧ w'.cell? ⟨w.heap.size, 9, none⟩ = some (.int .i64 n.commit) ∧ w'.cell? ⟨w.heap.size, 10, none⟩ = some (.int .i64 n.clock) ∧ w'.cell? ⟨w.heap.size, 11, none⟩ = some (.int .i64 n.limit) ∧ w'.cell? ⟨w.heap.size, 12, none⟩ = some (.slice va n.votes.length vc) ∧ w'.cell? ⟨w.heap.size, 13, none⟩ = some (.slice pa n.peers.length pc)) (first | go_keep | exact HXC.out _ (below_undrew hb7) | exact HXC.out _ ((below_undrew hb7).trans (hb8.mono hb7.size)))
        (first | (go_at_call 29; refine Calls.mono (HCO.out _ HZ.out.drew) ?_; rintro e w7 ⟨v7, rfl, ho7, hb7⟩; obtain ⟨a7, g7, c7, hv7, i7⟩ := cellsI_slice ho7; subst hv7) | (go_at_call 28; refine Calls.mono (specOthers_is _ HCL.out n.id _ i7) ?_; rintro e w8 ⟨v8, rfl, ho8, hb8⟩) | fail)
      obtain ⟨a8, g8, c8, hv8, i8⟩ := cellsI_slice ho8
      subst hv8
      have h87 : Below W.heap.size W w7 := HZ.out.trans ((below_undrew hb7).mono HZ.out.size)
      have H8 : Hid (Below W.heap.size W w8) := h87.trans (hb8.mono h87.size)
      obtain ⟨oth, hoth⟩ : ∃ oth, oth = othersL (confL n.conf n.log.ents) n.id := ⟨_, rfl⟩
      rw [← hoth] at i8 HOT ⊢
      have hol : oth.length ≤ 1048576 := by rw [hoth]; exact Nat.le_trans (othersL_len _ _) HCL.out
      have HI8 : Hid (∀ X, Below w8.heap.size w8 X → IntAt X a8 g8 0 oth) := fun X h => i8.kept h
      have HLB : Hid (0 ≤ LN ∧ LN ≤ 100000) := by show _ ∧ _; rw [HLN.out]; have := okL_num Flog.out; unfold lastN; omega
      clear ho8 ho7 i7 i8 hb7 hb8 h87 hoth HXC HCO HCL p0 p1 p2 p3 p4 p5 p6 p7 p8 p9 p10 p11 p12 p13 HZ
      obtain ⟨p0, p1, p2, p3, p4, p5, p6, p7, p8, p9, p10, p11, p12, p13⟩ := (HX.out w8 H8.out).1
      by_cases hpl : n.peers.length = oth.length
      · have hpi : ¬ ((n.peers.length : Int) ≠ (oth.length : Int)) := by omega
        have hpe : (n.peers.length : Int) = (oth.length : Int) := by omega
        have HPL : Hid (n.peers.length = oth.length) := hpl
        clear hpl
        go_wp2_with fail
        clear hpi hpe p0 p1 p2 p3 p4 p5 p6 p7 p8 p9 p10 p11 p12 p13
        go_loopw [6] (fun i wr => ∃ j : Nat, j ≤ oth.length ∧ i = .int .i64 (j : Int) ∧ Hid (Below w8.heap.size w8 wr) ∧ Hid (∀ (k : Nat) (h1 : k < n.peers.length) (h2 : k < oth.length), k < j → peer1 (lastN n.log) n.peers[k] oth[k]))
          (fun i _ => oth.length - (intOf i).toNat)
        case atStart => exact ⟨0, Nat.zero_le _, rfl, Below.refl _ _, fun k h1 h2 h3 => by omega⟩
        case round =>
          obtain ⟨j, hj, rfl, HBW, HPR⟩ := hrel
          have HWW : Hid (Below W.heap.size W wr) := H8.out.trans (HBW.out.mono H8.out.size)
          by_cases hlt : j < oth.length
          · have hjp : j < n.peers.length := by rw [HPL.out]; exact hlt
            have hk0 : (0 : Int) ≤ (j : Int) := by omega
            have hk1 : (j : Int) < (oth.length : Int) := by omega
            have hk2 : (j : Int) < (n.peers.length : Int) := by omega
            have DP := (HX.out wr HWW.out).2.1.peers
            obtain ⟨d0, d1, d2, d3⟩ := DP.2 j hjp
            have epa := DP.1 (by omega)
            have ci := (HI8.out wr HBW.out).2 j hlt
            have eia := (HI8.out wr HBW.out).1 (by omega)
            have r13 := (HX.out wr HWW.out).1.c13
            subst epa
            subst eia
            rw [Nat.zero_add] at ci
            have ci2 := fun o : Obj => (HI8.out _ (HBW.out.alloc HBW.out.size o)).2 j hlt
            have hlb := HLB.out
            obtain ⟨pp, hpp⟩ : ∃ pp, pp = n.peers[j] := ⟨_, rfl⟩
            obtain ⟨oo, hoo⟩ : ∃ oo, oo = oth[j] := ⟨_, rfl⟩
            have HJ : Hid (OkN n → peer1 LN pp oo) := fun h => by
              have h3 := h.peers j hjp (by rw [HOT.out]; exact hlt)
              rw [hpp, hoo, HLN.out]
              simpa only [HOT.out] using h3
            have HPP : Hid (pp = n.peers[j]) := hpp
            have HOO : Hid (oo = oth[j]) := hoo
            rw [← hpp] at d0 d1 d2 d3
            rw [← hoo] at ci ci2
            clear hpp hoo
            simp only [Nat.zero_add] at ci2
            obtain ⟨X, hX⟩ : ∃ X, X = wr.alloc (.cells #[.int .i64 pp.id, .int .i64 pp.next, .int .i64 pp.mat, .int .i64 pp.sent] 60) := ⟨_, rfl⟩
            have HBX : Hid (Below w8.heap.size w8 X) := by show Below _ _ _; rw [hX]; exact HBW.out.alloc HBW.out.size _
            have HWX : Hid (Below W.heap.size W X) := H8.out.trans (HBX.out.mono H8.out.size)
            have x0 : X.cell? ⟨wr.heap.size, 0, none⟩ = some (.int .i64 pp.id) := by rw [hX]; exact cell_of_row _ _ 0 _ _ _ (heap_alloc_new wr _)
            have x1 : X.cell? ⟨wr.heap.size, 1, none⟩ = some (.int .i64 pp.next) := by rw [hX]; exact cell_of_row _ _ 1 _ _ _ (heap_alloc_new wr _)
            have x2 : X.cell? ⟨wr.heap.size, 2, none⟩ = some (.int .i64 pp.mat) := by rw [hX]; exact cell_of_row _ _ 2 _ _ _ (heap_alloc_new wr _)
            have x3 : X.cell? ⟨wr.heap.size, 3, none⟩ = some (.int .i64 pp.sent) := by rw [hX]; exact cell_of_row _ _ 3 _ _ _ (heap_alloc_new wr _)
            have HXS : Hid (X.cell? ⟨wr.heap.size, 0, none⟩ = some (.int .i64 pp.id) ∧ X.cell? ⟨g8, j, none⟩ = some (.int .i64 oo) ∧ X.cell? ⟨wr.heap.size, 1, none⟩ = some (.int .i64 pp.next) ∧ X.cell? ⟨wr.heap.size, 2, none⟩ = some (.int .i64 pp.mat) ∧ X.cell? ⟨wr.heap.size, 3, none⟩ = some (.int .i64 pp.sent)) := ⟨x0, by rw [hX]; exact ci2 _, x1, x2, x3⟩
            rw [hX] at x0 x1 x2 x3
            have ci3 := ci2 (.cells #[.int .i64 pp.id, .int .i64 pp.next, .int .i64 pp.mat, .int .i64 pp.sent] 60)
            clear ci ci2
            by_cases hid : pp.id = oo
            · have HID : Hid (pp.id = oo) := hid
              have hidn : (pp.id != oo) = false := by simp [hid]
              clear hid
              by_cases gn : 1 ≤ pp.next ∧ pp.next ≤ LN + 1
              · have HQN : Hid (∀ X : World, Calls Try.prog 23 #[.int .i64 pp.next, .int .i64 1, .int .i64 (LN + 1)] X fun e w' => e = .returned (.bool true) ∧ Below X.heap.size X w') := fun X => in_r _ _ _ true (by simp [gn]) X
                have Gn : Hid (1 ≤ pp.next ∧ pp.next ≤ LN + 1) := gn
                obtain ⟨gn1, gn2⟩ := gn
                by_cases gm : 0 ≤ pp.mat ∧ pp.mat ≤ pp.next - 1
                · have HQM : Hid (∀ X : World, Calls Try.prog 23 #[.int .i64 pp.mat, .int .i64 0, .int .i64 (pp.next - 1)] X fun e w' => e = .returned (.bool true) ∧ Below X.heap.size X w') := fun X => in_r _ _ _ true (by simp [gm]) X
                  have Gm : Hid (0 ≤ pp.mat ∧ pp.mat ≤ pp.next - 1) := gm
                  clear gm
                  by_cases gs : 0 ≤ pp.sent ∧ pp.sent ≤ 20000
                  · have HQS : Hid (∀ X : World, Calls Try.prog 23 #[.int .i64 pp.sent, .int .i64 0, .int .i64 20000] X fun e w' => e = .returned (.bool true) ∧ Below X.heap.size X w') := fun X => in_r _ _ _ true (by simp [gs]) X
                    have HNEW : Hid (peer1 LN pp oo) := ⟨HID.out, Gn.out, Gm.out, gs⟩
                    clear gs
                    go_wp2_with fail
                    rw [← hX]
                    clear hX x0 x1 x2 x3 ci3 d0 d1 d2 d3 r13
                    obtain ⟨y0, y4, y1, y2, y3⟩ := HXS.out
                    have NE := Abv.ne X
                    have C0 := fun x : Abv X => x.cell y0
                    have C1 := fun x : Abv X => x.cell y1
                    have C2 := fun x : Abv X => x.cell y2
                    have C3 := fun x : Abv X => x.cell y3
                    have C4 := fun x : Abv X => x.cell y4
                    clear y0 y1 y2 y3 y4
                    refine wp_region_above (by kernel_rfl) (by kernel_rfl) ?_
                    repeat (go_big_quiet_step (first | (go_at_call 23; (first | (with_reducible exact calls_above (HQN.out _)) | (with_reducible exact calls_above (HQM.out _)) | (with_reducible exact calls_above (HQS.out _)) | fail)) | fail))
                    refine wpQuiet_nil ?_
                    rintro w9 ⟨⟨_, hb9⟩, rfl⟩
                    clear NE C0 C1 C2 C3 C4
                    go_wp2
                    go_roundw
                    case rel => exact ⟨j + 1, by omega, by go_num, HBX.out.trans (hb9.mono HBX.out.size), fun k h1 h2 h3 => by
                      rcases Nat.lt_or_ge k j with q | q
                      · exact HPR.out k h1 h2 q
                      · obtain rfl : k = j := by omega
                        have := HNEW.out
                        rwa [HPP.out, HOO.out, HLN.out] at this⟩
                    case measure => simp [intOf]; omega
                  · have HQS : Hid (∀ X : World, Calls Try.prog 23 #[.int .i64 pp.sent, .int .i64 0, .int .i64 20000] X fun e w' => e = .returned (.bool false) ∧ Below X.heap.size X w') := fun X => in_r _ _ _ false (by simp only [Bool.false_eq_true, false_iff]; exact gs) X
                    have HFF : Hid (O = false) := HNO.out (fun h => gs (HJ.out h).2.2.2)
                    clear gs
                    go_wp2_with fail
                    rw [← hX]
                    clear hX x0 x1 x2 x3 ci3 d0 d1 d2 d3 r13
                    obtain ⟨y0, y4, y1, y2, y3⟩ := HXS.out
                    have NE := Abv.ne X
                    have C0 := fun x : Abv X => x.cell y0
                    have C1 := fun x : Abv X => x.cell y1
                    have C2 := fun x : Abv X => x.cell y2
                    have C3 := fun x : Abv X => x.cell y3
                    have C4 := fun x : Abv X => x.cell y4
                    clear y0 y1 y2 y3 y4
                    refine wp_region_above (by kernel_rfl) (by kernel_rfl) ?_
                    repeat (go_big_quiet_step (first | (go_at_call 23; (first | (with_reducible exact calls_above (HQN.out _)) | (with_reducible exact calls_above (HQM.out _)) | (with_reducible exact calls_above (HQS.out _)) | fail)) | fail))
                    refine wpQuiet_nil ?_
                    rintro w9 ⟨⟨_, hb9⟩, rfl⟩
                    clear NE C0 C1 C2 C3 C4
                    clear HNO HYES
                    go_wp2
                    go_ret
                    exact ⟨by rw [HFF.out]; rfl, (HX.out _ (HWX.out.trans (hb9.mono HWX.out.size))).2.2.1⟩
                · have HQM : Hid (∀ X : World, Calls Try.prog 23 #[.int .i64 pp.mat, .int .i64 0, .int .i64 (pp.next - 1)] X fun e w' => e = .returned (.bool false) ∧ Below X.heap.size X w') := fun X => in_r _ _ _ false (by simp only [Bool.false_eq_true, false_iff]; exact gm) X
                  have HQS := HQM
                  have HFF : Hid (O = false) := HNO.out (fun h => gm (HJ.out h).2.2.1)
                  clear gm
                  go_wp2_with fail
                  rw [← hX]
                  clear hX x0 x1 x2 x3 ci3 d0 d1 d2 d3 r13
                  obtain ⟨y0, y4, y1, y2, y3⟩ := HXS.out
                  have NE := Abv.ne X
                  have C0 := fun x : Abv X => x.cell y0
                  have C1 := fun x : Abv X => x.cell y1
                  have C2 := fun x : Abv X => x.cell y2
                  have C3 := fun x : Abv X => x.cell y3
                  have C4 := fun x : Abv X => x.cell y4
                  clear y0 y1 y2 y3 y4
                  refine wp_region_above (by kernel_rfl) (by kernel_rfl) ?_
                  repeat (go_big_quiet_step (first | (go_at_call 23; (first | (with_reducible exact calls_above (HQN.out _)) | (with_reducible exact calls_above (HQM.out _)) | (with_reducible exact calls_above (HQS.out _)) | fail)) | fail))
                  refine wpQuiet_nil ?_
                  rintro w9 ⟨⟨_, hb9⟩, rfl⟩
                  clear NE C0 C1 C2 C3 C4
                  clear HNO HYES
                  go_wp2
                  go_ret
                  exact ⟨by rw [HFF.out]; rfl, (HX.out _ (HWX.out.trans (hb9.mono HWX.out.size))).2.2.1⟩
              · have HQN : Hid (∀ X : World, Calls Try.prog 23 #[.int .i64 pp.next, .int .i64 1, .int .i64 (LN + 1)] X fun e w' => e = .returned (.bool false) ∧ Below X.heap.size X w') := fun X => in_r _ _ _ false (by simp only [Bool.false_eq_true, false_iff]; exact gn) X
                have HQS := HQN
                have HQM := HQN
                have HFF : Hid (O = false) := HNO.out (fun h => gn (HJ.out h).2.1)
                clear gn
                go_wp2_with fail
                rw [← hX]
                clear hX x0 x1 x2 x3 ci3 d0 d1 d2 d3 r13
                obtain ⟨y0, y4, y1, y2, y3⟩ := HXS.out
                have NE := Abv.ne X
                have C0 := fun x : Abv X => x.cell y0
                have C1 := fun x : Abv X => x.cell y1
                have C2 := fun x : Abv X => x.cell y2
                have C3 := fun x : Abv X => x.cell y3
                have C4 := fun x : Abv X => x.cell y4
                clear y0 y1 y2 y3 y4
                refine wp_region_above (by kernel_rfl) (by kernel_rfl) ?_
                repeat (go_big_quiet_step (first | (go_at_call 23; (first | (with_reducible exact calls_above (HQN.out _)) | (with_reducible exact calls_above (HQM.out _)) | (with_reducible exact calls_above (HQS.out _)) | fail)) | fail))
                refine wpQuiet_nil ?_
                rintro w9 ⟨⟨_, hb9⟩, rfl⟩
                clear NE C0 C1 C2 C3 C4
                clear HNO HYES
                go_wp2
                go_ret
                exact ⟨by rw [HFF.out]; rfl, (HX.out _ (HWX.out.trans (hb9.mono HWX.out.size))).2.2.1⟩
            · have HFF : Hid (O = false) := HNO.out (fun h => hid (HJ.out h).1)
              have hidn : (pp.id != oo) = true := by simp [hid]
              have HQN : Hid (∀ X : World, Calls Try.prog 23 #[.int .i64 0, .int .i64 0, .int .i64 0] X fun e w' => e = .returned (.bool true) ∧ Below X.heap.size X w') := fun X => in_r _ _ _ true (by simp) X
              have HQM := HQN
              have HQS := HQN
              clear hid
              go_wp2_with fail
              rw [← hX]
              clear hX x0 x1 x2 x3 ci3 d0 d1 d2 d3 r13
              obtain ⟨y0, y4, y1, y2, y3⟩ := HXS.out
              have NE := Abv.ne X
              have C0 := fun x : Abv X => x.cell y0
              have C1 := fun x : Abv X => x.cell y1
              have C2 := fun x : Abv X => x.cell y2
              have C3 := fun x : Abv X => x.cell y3
              have C4 := fun x : Abv X => x.cell y4
              clear y0 y1 y2 y3 y4
              refine wp_region_above (by kernel_rfl) (by kernel_rfl) ?_
              repeat (go_big_quiet_step (first | (go_at_call 23; (first | (with_reducible exact calls_above (HQN.out _)) | (with_reducible exact calls_above (HQM.out _)) | (with_reducible exact calls_above (HQS.out _)) | fail)) | fail))
              refine wpQuiet_nil ?_
              rintro w9 ⟨⟨_, hb9⟩, rfl⟩
              clear NE C0 C1 C2 C3 C4
              clear HNO HYES
              go_wp2
              go_ret
              exact ⟨by rw [HFF.out]; rfl, (HX.out _ (HWX.out.trans (hb9.mono HWX.out.size))).2.2.1⟩
          · have hk1 : ¬ (j : Int) < (oth.length : Int) := by omega
            have HYY : Hid (O = true) := HYES.out ⟨Fid.out, Fconf.out, Flog.out, Fterm.out, Fvote.out, Flead.out, Frole.out, (by rw [← HLT.out]; exact Hlt.out), (by rw [← HLN.out]; exact Fcommit.out), Fclock.out, Flimit.out, Fvotes.out, (fun h => HV0.out h.1), (by rw [HOT.out]; exact HPL.out), (fun k h1 h2 => by have h3 := HPR.out k h1 (by rw [HOT.out] at h2; exact h2) (by rw [HOT.out] at h2; omega); simpa only [HOT.out] using h3)⟩
            clear HNO HYES
            go_wp2
            go_ret
            exact ⟨by rw [HYY.out]; rfl, (HX.out _ HWW.out).2.2.1⟩
      · have HFF : Hid (O = false) := HNO.out (fun h => hpl (by have := h.plen; rw [HOT.out] at this; exact this))
        have hpi : (n.peers.length : Int) ≠ (oth.length : Int) := by omega
        clear HNO HYES
        go_wp2
        go_ret
        exact ⟨by rw [HFF.out]; rfl, (HX.out _ H8.out).2.2.1⟩
    · have HR2 : Hid (¬ n.role = 2) := hr2
      have HOT : Hid (othN n = []) := by show _ = _; unfold othN; rw [if_neg HR2.out]
      obtain ⟨p0, p1, p2, p3, p4, p5, p6, p7, p8, p9, p10, p11, p12, p13⟩ := (HX.out _ H4.out).1
      obtain ⟨q0, q1, q2, q3, q4, q5, q6, q7, q8, q9, q10, q11, q12, q13⟩ := (HX.out (w4.alloc (.cells #[] 3)) (H4.out.alloc (by have := H4.out.size; omega) _)).1
      have HBZ : Hid (Below w.heap.size w (w4.alloc (.cells #[] 3))) := (HX.out _ (H4.out.alloc (by have := H4.out.size; omega) _)).2.2.1
      by_cases hpl : n.peers.length = 0
      · have HYY : Hid (O = true) := HYES.out ⟨Fid.out, Fconf.out, Flog.out, Fterm.out, Fvote.out, Flead.out, Frole.out, (by rw [← HLT.out]; exact Hlt.out), (by rw [← HLN.out]; exact Fcommit.out), Fclock.out, Flimit.out, Fvotes.out, (fun h => HV0.out h.1), (by rw [HOT.out, hpl]; rfl), (fun k h1 _ => by omega)⟩
        have hpi : ¬ ((n.peers.length : Int) ≠ 0) := by omega
        have hpe : (n.peers.length : Int) = 0 := by omega
        clear HNO HYES HX
        go_wp2
        refine wp_loop_rounds 1 ?_
        rw [rounds_succ]
        go_wp2
        go_ret
        exact ⟨by rw [HYY.out]; rfl, HBZ.out⟩
      · have HFF : Hid (O = false) := HNO.out (fun h => hpl (by have := h.plen; rw [HOT.out] at this; simpa using this))
        have hpi : (n.peers.length : Int) ≠ 0 := by omega
        clear HNO HYES HX
        go_wp2
        go_ret
        exact ⟨by rw [HFF.out]; rfl, HBZ.out⟩
end Go.Proofs.Ytiifjhalkihlbaa
