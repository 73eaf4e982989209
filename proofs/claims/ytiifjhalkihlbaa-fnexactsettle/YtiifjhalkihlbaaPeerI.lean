/- The program's last, peerOk and standingOk, walked. Made by program. -/
import Derived.Test.YtiifjhalkihlbaaImplStand
namespace Go.Proofs.Ytiifjhalkihlbaa
open Go.RowKit
open Logs (okL)
set_option linter.unusedVariables false
set_option linter.unusedSimpArgs false
set_option maxHeartbeats 4000000 in
set_option maxRecDepth 100000 in
theorem last_is {ca ea va pa : Option Addr} {cc ec vc pc gc oc ge oe gv ov gp op : Nat} (n : NodeL) (hs : NodeS n) (hok : okL n.log = true) (w : World) (hR : NodeR w n ca gc oc ea ge oe va gv ov pa gp op) :
    Calls Try.prog 81 #[.agg #[.int .i64 n.id, .int .i64 n.term, .int .i64 n.vote, .int .i64 n.role, .int .i64 n.lead, .slice ca n.conf.length cc, .int .i64 n.log.start, .int .i64 n.log.sterm, .slice ea n.log.ents.length ec, .int .i64 n.commit, .int .i64 n.clock, .int .i64 n.limit, .slice va n.votes.length vc, .slice pa n.peers.length pc]] w fun e w' => e = .returned (.int .i64 (lastN n.log)) ∧ Below w.heap.size w w' := by
  obtain ⟨W, hW⟩ : ∃ W, W = w.alloc (.cells #[.int .i64 n.id, .int .i64 n.term, .int .i64 n.vote, .int .i64 n.role, .int .i64 n.lead, .slice ca n.conf.length cc, .int .i64 n.log.start, .int .i64 n.log.sterm, .slice ea n.log.ents.length ec, .int .i64 n.commit, .int .i64 n.clock, .int .i64 n.limit, .slice va n.votes.length vc, .slice pa n.peers.length pc] 36) := ⟨_, rfl⟩
  have hb : Below w.heap.size w W := by rw [hW]; exact (Below.refl _ _).alloc (Nat.le_refl _) _
  have hn0 : NodeAt W w.heap.size n ca cc ea ec va vc pa pc := by rw [hW]; exact NodeAt.new w n ca cc ea ec va vc pa pc 36
  have HB : Hid (Below w.heap.size w W) := hb
  have hC := implLast_is (cap := ec) n.log hs.ents W (hR.kept hb).ents
  rw [last_ok hok] at hC
  have HC : Hid (Calls Try.prog 60 #[logV n.log ea ec] W fun en w' => en = .returned (.tuple #[.int .i64 (lastN n.log), .int .i64 (Logs.lastT n.log)]) ∧ Below W.heap.size W w') := hC
  obtain ⟨LN, hLN⟩ : ∃ LN, LN = lastN n.log := ⟨_, rfl⟩
  rw [← hLN] at HC ⊢
  obtain ⟨p0, p1, p2, p3, p4, p5, p6, p7, p8, p9, p10, p11, p12, p13⟩ := hn0
  rw [hW] at p0 p1 p2 p3 p4 p5 p6 p7 p8 p9 p10 p11 p12 p13
  clear hR hb hs hok hC hLN
  go_enter Try.func81, Try.ntmps81
  go_wp2_with fail
  rw [← hW]
  clear hW p0 p1 p2 p3 p4 p5 p6 p7 p8 p9 p10 p11 p12 p13
  refine Calls.mono HC.out ?_
  rintro e w1 ⟨rfl, hb1⟩
  have HB1 : Hid (Below w.heap.size w w1) := HB.out.trans (hb1.mono HB.out.size)
  clear hb1 HB HC
  go_wp2
  go_ret
  exact ⟨rfl, HB1.out⟩
def okP (last : Int) (p : PeerL) : Prop := (1 ≤ p.next ∧ p.next ≤ last + 1) ∧ (0 ≤ p.mat ∧ p.mat < p.next) ∧ (0 ≤ p.sent ∧ p.sent ≤ 20000)
theorem okP_peer1 {last o : Int} {p : PeerL} : peer1 last p o ↔ p.id = o ∧ okP last p := by
  unfold peer1 okP
  constructor <;> rintro ⟨h1, h2, h3, h4⟩ <;> refine ⟨h1, h2, ?_, h4⟩ <;> omega
set_option maxHeartbeats 4000000 in
set_option maxRecDepth 100000 in
theorem peerOk_is (p : PeerL) (last : Int) (hl : 0 ≤ last ∧ last ≤ 1000000) (R : Bool) (hR : R = true ↔ okP last p) (w : World) :
    Calls Try.prog 80 #[.agg #[.int .i64 p.id, .int .i64 p.next, .int .i64 p.mat, .int .i64 p.sent], .int .i64 last] w fun e w' => e = .returned (.bool R) ∧ Below w.heap.size w w' := by
  obtain ⟨W, hW⟩ : ∃ W, W = w.alloc (.cells #[.int .i64 p.id, .int .i64 p.next, .int .i64 p.mat, .int .i64 p.sent] 60) := ⟨_, rfl⟩
  have HB : Hid (Below w.heap.size w W) := by show Below _ _ _; rw [hW]; exact (Below.refl _ _).alloc (Nat.le_refl _) _
  have p1 : W.cell? ⟨w.heap.size, 1, none⟩ = some (.int .i64 p.next) := by rw [hW]; exact cell_of_row _ _ 1 _ _ _ (heap_alloc_new w _)
  have p2 : W.cell? ⟨w.heap.size, 2, none⟩ = some (.int .i64 p.mat) := by rw [hW]; exact cell_of_row _ _ 2 _ _ _ (heap_alloc_new w _)
  have p3 : W.cell? ⟨w.heap.size, 3, none⟩ = some (.int .i64 p.sent) := by rw [hW]; exact cell_of_row _ _ 3 _ _ _ (heap_alloc_new w _)
  rw [hW] at p1 p2 p3
  rw [hW] at HB
  obtain ⟨x1, hx1⟩ : ∃ x, x = p.next := ⟨_, rfl⟩
  obtain ⟨x2, hx2⟩ : ∃ x, x = p.mat := ⟨_, rfl⟩
  obtain ⟨x3, hx3⟩ : ∃ x, x = p.sent := ⟨_, rfl⟩
  have HYES : Hid ((1 ≤ x1 ∧ x1 ≤ last + 1 ∧ 0 ≤ x2 ∧ x2 < x1 ∧ 0 ≤ x3 ∧ x3 ≤ 20000) → R = true) := by
    show _ → _; rw [hx1, hx2, hx3]; rintro ⟨a, b, c, d, e, f⟩; exact hR.2 ⟨⟨a, b⟩, ⟨c, d⟩, e, f⟩
  have HNO : Hid (¬ (1 ≤ x1 ∧ x1 ≤ last + 1 ∧ 0 ≤ x2 ∧ x2 < x1 ∧ 0 ≤ x3 ∧ x3 ≤ 20000) → R = false) := by
    show _ → _; rw [hx1, hx2, hx3]; intro h
    cases R with
    | false => rfl
    | true => obtain ⟨⟨a, b⟩, ⟨c, d⟩, e, f⟩ := hR.1 rfl; exact (h ⟨a, b, c, d, e, f⟩).elim
  rw [← hx1, ← hx2, ← hx3] at p1 p2 p3 HB ⊢
  clear hx1 hx2 hx3 hR hW
  obtain ⟨hl0, hl1⟩ := hl
  by_cases h0 : 1 ≤ x1
  case neg =>
    have HF : Hid (R = false) := HNO.out (fun h => h0 h.1)
    clear HYES HNO
    go_enter Try.func80, Try.ntmps80
    go_wp2
    go_ret
    exact ⟨by rw [HF.out]; rfl, HB.out⟩
  by_cases h1 : x1 ≤ last + 1
  case neg =>
    have HF : Hid (R = false) := HNO.out (fun h => h1 h.2.1)
    clear HYES HNO
    go_enter Try.func80, Try.ntmps80
    go_wp2
    go_ret
    exact ⟨by rw [HF.out]; rfl, HB.out⟩
  by_cases h2 : 0 ≤ x2
  case neg =>
    have HF : Hid (R = false) := HNO.out (fun h => h2 h.2.2.1)
    clear HYES HNO
    go_enter Try.func80, Try.ntmps80
    go_wp2
    go_ret
    exact ⟨by rw [HF.out]; rfl, HB.out⟩
  by_cases h3 : x2 < x1
  case neg =>
    have HF : Hid (R = false) := HNO.out (fun h => h3 h.2.2.2.1)
    clear HYES HNO
    go_enter Try.func80, Try.ntmps80
    go_wp2
    go_ret
    exact ⟨by rw [HF.out]; rfl, HB.out⟩
  by_cases h4 : 0 ≤ x3
  case neg =>
    have HF : Hid (R = false) := HNO.out (fun h => h4 h.2.2.2.2.1)
    clear HYES HNO
    go_enter Try.func80, Try.ntmps80
    go_wp2
    go_ret
    exact ⟨by rw [HF.out]; rfl, HB.out⟩
  by_cases h5 : x3 ≤ 20000
  · have HF : Hid (R = true) := HYES.out ⟨h0, h1, h2, h3, h4, h5⟩
    clear HYES HNO
    go_enter Try.func80, Try.ntmps80
    go_wp2
    go_ret
    exact ⟨by rw [HF.out]; rfl, HB.out⟩
  · have HF : Hid (R = false) := HNO.out (fun h => h5 h.2.2.2.2.2)
    clear HYES HNO
    go_enter Try.func80, Try.ntmps80
    go_wp2
    go_ret
    exact ⟨by rw [HF.out]; rfl, HB.out⟩
def StandN (n : NodeL) : Prop := (Logs.lastT n.log ≤ n.term ∧ n.term ≤ 100000) ∧ (0 ≤ n.vote ∧ n.vote ≤ 4) ∧ (0 ≤ n.lead ∧ n.lead ≤ 4) ∧ (n.log.start ≤ n.commit ∧ n.commit ≤ lastN n.log) ∧ (0 ≤ n.clock ∧ n.clock ≤ 20) ∧ (1 ≤ n.limit ∧ n.limit ≤ 20)
theorem none_q (x : Int) (R : Bool) (hR : R = true ↔ 0 ≤ x ∧ x ≤ 4) (w : World) : Calls Try.prog 61 #[.int .i64 x] w fun e w' => e = .returned (.bool R) ∧ Below w.heap.size w w' := noneOk_is x R hR w
theorem lim_q (x : Int) (R : Bool) (hR : R = true ↔ 1 ≤ x ∧ x ≤ 20) (w : World) : Calls Try.prog 62 #[.int .i64 x] w fun e w' => e = .returned (.bool R) ∧ Below w.heap.size w w' := by
  cases R with
  | true => exact limitOk_yes x (hR.1 rfl).1 (hR.1 rfl).2 w
  | false => exact limitOk_no x (fun h => by have := hR.2 h; cases this) w
set_option maxHeartbeats 8000000 in
set_option maxRecDepth 100000 in
theorem standing_is {ca ea va pa : Option Addr} {cc ec vc pc gc oc ge oe gv ov gp op : Nat} (n : NodeL) (hs : NodeS n) (hok : okL n.log = true) (O : Bool) (hO : O = true ↔ StandN n) (w : World) (hR : NodeR w n ca gc oc ea ge oe va gv ov pa gp op) :
    Calls Try.prog 35 #[.agg #[.int .i64 n.id, .int .i64 n.term, .int .i64 n.vote, .int .i64 n.role, .int .i64 n.lead, .slice ca n.conf.length cc, .int .i64 n.log.start, .int .i64 n.log.sterm, .slice ea n.log.ents.length ec, .int .i64 n.commit, .int .i64 n.clock, .int .i64 n.limit, .slice va n.votes.length vc, .slice pa n.peers.length pc]] w fun e w' => e = .returned (.bool O) ∧ Below w.heap.size w w' := by
  obtain ⟨W, hW⟩ : ∃ W, W = w.alloc (.cells #[.int .i64 n.id, .int .i64 n.term, .int .i64 n.vote, .int .i64 n.role, .int .i64 n.lead, .slice ca n.conf.length cc, .int .i64 n.log.start, .int .i64 n.log.sterm, .slice ea n.log.ents.length ec, .int .i64 n.commit, .int .i64 n.clock, .int .i64 n.limit, .slice va n.votes.length vc, .slice pa n.peers.length pc] 36) := ⟨_, rfl⟩
  have hb : Below w.heap.size w W := by rw [hW]; exact (Below.refl _ _).alloc (Nat.le_refl _) _
  have hn0 : NodeAt W w.heap.size n ca cc ea ec va vc pa pc := by rw [hW]; exact NodeAt.new w n ca cc ea ec va vc pa pc 36
  have HB : Hid (Below w.heap.size w W) := hb
  have HX : Hid (∀ w', Below W.heap.size W w' → NodeAt w' w.heap.size n ca cc ea ec va vc pa pc) := fun w' h => hn0.kept h
  have hC := implLast_is (cap := ec) n.log hs.ents W (hR.kept hb).ents
  rw [last_ok hok] at hC
  have HC : Hid (Calls Try.prog 60 #[logV n.log ea ec] W fun en w' => en = .returned (.tuple #[.int .i64 (lastN n.log), .int .i64 (Logs.lastT n.log)]) ∧ Below W.heap.size W w') := hC
  unfold StandN at hO
  obtain ⟨LN, hLN⟩ : ∃ LN, LN = lastN n.log := ⟨_, rfl⟩
  obtain ⟨LT, hLT⟩ : ∃ LT, LT = Logs.lastT n.log := ⟨_, rfl⟩
  rw [← hLN, ← hLT] at HC hO
  obtain ⟨p0, p1, p2, p3, p4, p5, p6, p7, p8, p9, p10, p11, p12, p13⟩ := hn0
  rw [hW] at p0 p1 p2 p3 p4 p5 p6 p7 p8 p9 p10 p11 p12 p13
  have HO : Hid (O = true ↔ (LT ≤ n.term ∧ n.term ≤ 100000) ∧ (0 ≤ n.vote ∧ n.vote ≤ 4) ∧ (0 ≤ n.lead ∧ n.lead ≤ 4) ∧ (n.log.start ≤ n.commit ∧ n.commit ≤ LN) ∧ (0 ≤ n.clock ∧ n.clock ≤ 20) ∧ (1 ≤ n.limit ∧ n.limit ≤ 20)) := hO
  have HNO : Hid (¬ ((LT ≤ n.term ∧ n.term ≤ 100000) ∧ (0 ≤ n.vote ∧ n.vote ≤ 4) ∧ (0 ≤ n.lead ∧ n.lead ≤ 4) ∧ (n.log.start ≤ n.commit ∧ n.commit ≤ LN) ∧ (0 ≤ n.clock ∧ n.clock ≤ 20) ∧ (1 ≤ n.limit ∧ n.limit ≤ 20)) → O = false) := fun h => by
    cases O with
    | false => rfl
    | true => exact (h (hO.1 rfl)).elim
  clear hR hb hs hok hC hLN hLT hO
  go_enter Try.func35, Try.ntmps35
  go_wp2_with fail
  rw [← hW]
  clear hW p0 p1 p2 p3 p4 p5 p6 p7 p8 p9 p10 p11 p12 p13
  refine Calls.mono HC.out ?_
  rintro e w1 ⟨rfl, hb1⟩
  have H1 : Hid (Below W.heap.size W w1) := hb1
  clear hb1 HC
  by_cases h0 : LT ≤ n.term
  case neg =>
    have HF : Hid (O = false) := HNO.out (fun h => h0 h.1.1)
    obtain ⟨p0, p1, p2, p3, p4, p5, p6, p7, p8, p9, p10, p11, p12, p13⟩ := HX.out _ H1.out
    clear HX HNO
    go_wp2
    go_ret
    exact ⟨by rw [HF.out]; rfl, HB.out.trans (H1.out.mono HB.out.size)⟩
  by_cases h1 : n.term ≤ 100000
  case neg =>
    have HF : Hid (O = false) := HNO.out (fun h => h1 h.1.2)
    obtain ⟨p0, p1, p2, p3, p4, p5, p6, p7, p8, p9, p10, p11, p12, p13⟩ := HX.out _ H1.out
    clear HX HNO
    go_wp2
    go_ret
    exact ⟨by rw [HF.out]; rfl, HB.out.trans (H1.out.mono HB.out.size)⟩
  obtain ⟨R2, hR2⟩ : ∃ R : Bool, R = true ↔ 0 ≤ n.vote ∧ n.vote ≤ 4 := ⟨decide (0 ≤ n.vote ∧ n.vote ≤ 4), by simp⟩
  have HR2 : Hid (R2 = true ↔ 0 ≤ n.vote ∧ n.vote ≤ 4) := hR2
  clear hR2
  obtain ⟨p0, p1, p2, p3, p4, p5, p6, p7, p8, p9, p10, p11, p12, p13⟩ := HX.out _ H1.out
  go_wp2_with fail
  clear p0 p1 p2 p3 p4 p5 p6 p7 p8 p9 p10 p11 p12 p13
  refine Calls.mono (none_q n.vote R2 HR2.out _) ?_
  rintro e w2 ⟨rfl, hb⟩
  have H2 : Hid (Below W.heap.size W w2) := H1.out.trans (hb.mono H1.out.size)
  clear hb H1
  cases R2 with
  | false =>
    have HF : Hid (O = false) := HNO.out (fun h => by have := HR2.out.2 h.2.1; cases this)
    obtain ⟨p0, p1, p2, p3, p4, p5, p6, p7, p8, p9, p10, p11, p12, p13⟩ := HX.out _ H2.out
    clear HX HNO
    go_wp2
    go_ret
    exact ⟨by rw [HF.out]; rfl, HB.out.trans (H2.out.mono HB.out.size)⟩
  | true =>
  obtain ⟨R3, hR3⟩ : ∃ R : Bool, R = true ↔ 0 ≤ n.lead ∧ n.lead ≤ 4 := ⟨decide (0 ≤ n.lead ∧ n.lead ≤ 4), by simp⟩
  have HR3 : Hid (R3 = true ↔ 0 ≤ n.lead ∧ n.lead ≤ 4) := hR3
  clear hR3
  obtain ⟨p0, p1, p2, p3, p4, p5, p6, p7, p8, p9, p10, p11, p12, p13⟩ := HX.out _ H2.out
  go_wp2_with fail
  clear p0 p1 p2 p3 p4 p5 p6 p7 p8 p9 p10 p11 p12 p13
  refine Calls.mono (none_q n.lead R3 HR3.out _) ?_
  rintro e w3 ⟨rfl, hb⟩
  have H3 : Hid (Below W.heap.size W w3) := H2.out.trans (hb.mono H2.out.size)
  clear hb H2
  cases R3 with
  | false =>
    have HF : Hid (O = false) := HNO.out (fun h => by have := HR3.out.2 h.2.2.1; cases this)
    obtain ⟨p0, p1, p2, p3, p4, p5, p6, p7, p8, p9, p10, p11, p12, p13⟩ := HX.out _ H3.out
    clear HX HNO
    go_wp2
    go_ret
    exact ⟨by rw [HF.out]; rfl, HB.out.trans (H3.out.mono HB.out.size)⟩
  | true =>
  by_cases h4 : n.log.start ≤ n.commit
  case neg =>
    have HF : Hid (O = false) := HNO.out (fun h => h4 h.2.2.2.1.1)
    obtain ⟨p0, p1, p2, p3, p4, p5, p6, p7, p8, p9, p10, p11, p12, p13⟩ := HX.out _ H3.out
    clear HX HNO
    go_wp2
    go_ret
    exact ⟨by rw [HF.out]; rfl, HB.out.trans (H3.out.mono HB.out.size)⟩
  by_cases h5 : n.commit ≤ LN
  case neg =>
    have HF : Hid (O = false) := HNO.out (fun h => h5 h.2.2.2.1.2)
    obtain ⟨p0, p1, p2, p3, p4, p5, p6, p7, p8, p9, p10, p11, p12, p13⟩ := HX.out _ H3.out
    clear HX HNO
    go_wp2
    go_ret
    exact ⟨by rw [HF.out]; rfl, HB.out.trans (H3.out.mono HB.out.size)⟩
  by_cases h6 : 0 ≤ n.clock
  case neg =>
    have HF : Hid (O = false) := HNO.out (fun h => h6 h.2.2.2.2.1.1)
    obtain ⟨p0, p1, p2, p3, p4, p5, p6, p7, p8, p9, p10, p11, p12, p13⟩ := HX.out _ H3.out
    clear HX HNO
    go_wp2
    go_ret
    exact ⟨by rw [HF.out]; rfl, HB.out.trans (H3.out.mono HB.out.size)⟩
  by_cases h7 : n.clock ≤ 20
  case neg =>
    have HF : Hid (O = false) := HNO.out (fun h => h7 h.2.2.2.2.1.2)
    obtain ⟨p0, p1, p2, p3, p4, p5, p6, p7, p8, p9, p10, p11, p12, p13⟩ := HX.out _ H3.out
    clear HX HNO
    go_wp2
    go_ret
    exact ⟨by rw [HF.out]; rfl, HB.out.trans (H3.out.mono HB.out.size)⟩
  obtain ⟨R8, hR8⟩ : ∃ R : Bool, R = true ↔ 1 ≤ n.limit ∧ n.limit ≤ 20 := ⟨decide (1 ≤ n.limit ∧ n.limit ≤ 20), by simp⟩
  have HR8 : Hid (R8 = true ↔ 1 ≤ n.limit ∧ n.limit ≤ 20) := hR8
  clear hR8
  obtain ⟨p0, p1, p2, p3, p4, p5, p6, p7, p8, p9, p10, p11, p12, p13⟩ := HX.out _ H3.out
  go_wp2_with fail
  clear p0 p1 p2 p3 p4 p5 p6 p7 p8 p9 p10 p11 p12 p13
  refine Calls.mono (lim_q n.limit R8 HR8.out _) ?_
  rintro e w4 ⟨rfl, hb⟩
  have H4 : Hid (Below W.heap.size W w4) := H3.out.trans (hb.mono H3.out.size)
  clear hb H3
  cases R8 with
  | false =>
    have HF : Hid (O = false) := HNO.out (fun h => by have := HR8.out.2 h.2.2.2.2.2; cases this)
    obtain ⟨p0, p1, p2, p3, p4, p5, p6, p7, p8, p9, p10, p11, p12, p13⟩ := HX.out _ H4.out
    clear HX HNO
    go_wp2
    go_ret
    exact ⟨by rw [HF.out]; rfl, HB.out.trans (H4.out.mono HB.out.size)⟩
  | true =>
  have HF : Hid (O = true) := HO.out.2 ⟨⟨h0, h1⟩, HR2.out.1 (by simp), HR3.out.1 (by simp), ⟨h4, h5⟩, ⟨h6, h7⟩, HR8.out.1 rfl⟩
  obtain ⟨p0, p1, p2, p3, p4, p5, p6, p7, p8, p9, p10, p11, p12, p13⟩ := HX.out _ H4.out
  clear HX HNO
  go_wp2
  go_ret
  exact ⟨by rw [HF.out]; rfl, HB.out.trans (H4.out.mono HB.out.size)⟩
end Go.Proofs.Ytiifjhalkihlbaa
