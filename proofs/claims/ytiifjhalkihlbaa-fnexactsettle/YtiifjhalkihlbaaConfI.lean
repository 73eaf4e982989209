/- The program's ConfAt, walked at an index of a right log. Made by program. -/
import Derived.Test.YtiifjhalkihlbaaNodeI
namespace Go.Proofs.Ytiifjhalkihlbaa
open Go.RowKit Go.Lib
open Ents (okB confOf)
open Logs (okL)
set_option linter.unusedVariables false
set_option linter.unusedSimpArgs false
set_option maxHeartbeats 2000000 in
set_option maxRecDepth 100000 in
theorem count_is {a : Option Addr} {cap : Nat} (l : LogL) (hlen : l.ents.length ≤ 1048576) (s0 : 0 ≤ l.start) (s1 : l.start ≤ 1000000) (k : Nat) (hk : k ≤ l.ents.length) (i : Int) (hi : i = l.start + (k : Int)) (w : World) :
    Calls Try.prog 74 #[.agg #[.int .i64 l.start, .int .i64 l.sterm, .slice a l.ents.length cap], .int .i64 i] w fun en w' => en = .returned (.int .i64 (k : Int)) ∧ Below w.heap.size w w' := by
  obtain ⟨W, hW⟩ : ∃ W, W = w.alloc (Obj.cells #[.int .i64 l.start, .int .i64 l.sterm, .slice a l.ents.length cap] 33) := ⟨_, rfl⟩
  have hb : Below w.heap.size w W := by rw [hW]; exact (Below.refl _ _).alloc (Nat.le_refl _) _
  have HB : Hid (Below w.heap.size w W) := hb
  have hla : LogAt W w.heap.size l a cap := by rw [hW]; exact LogAt.new w l a cap 33
  obtain ⟨c0, c1, c2⟩ := hla
  rw [hW] at c0 c1 c2
  rw [hW] at HB
  clear hb hW
  by_cases h0 : k = 0
  · subst h0
    obtain rfl : i = l.start := by omega
    clear hi hk
    go_enter Try.func74, Try.ntmps74
    go_wp2
    go_ret
    exact ⟨rfl, HB.out⟩
  · have h1 : ¬ i ≤ l.start := by omega
    have d0 : 0 ≤ i - l.start := by omega
    have d1 : i - l.start ≤ 9223372036854775807 := by omega
    have i0 : 0 ≤ i := by omega
    have i1 : i ≤ 9223372036854775807 := by omega
    have d2 : i - l.start ≤ (l.ents.length : Int) := by omega
    have HK : Hid (i - l.start = (k : Int)) := by show _ = _; omega
    clear hi h0 hk
    go_enter Try.func74, Try.ntmps74
    go_wp2
    go_ret
    exact ⟨by rw [← HK.out]; simp [Int.min_eq_left d2], HB.out⟩
set_option maxHeartbeats 8000000 in
set_option maxRecDepth 100000 in
theorem implConfAt_is {ca ea va pa : Option Addr} {cc ec vc pc gc oc ge oe gv ov gp op : Nat} (n : NodeL) (hs : NodeS n) (hok : okL n.log = true) (hec : n.log.ents.length ≤ ec) (hecm : ec ≤ 9223372036854775807) (k : Nat) (hk : k ≤ n.log.ents.length) (i : Int) (hi : i = n.log.start + (k : Int)) (w : World) (hR : NodeR w n ca gc oc ea ge oe va gv ov pa gp op) :
    Calls Try.prog 49 #[.agg #[.int .i64 n.id, .int .i64 n.term, .int .i64 n.vote, .int .i64 n.role, .int .i64 n.lead, .slice ca n.conf.length cc, .int .i64 n.log.start, .int .i64 n.log.sterm, .slice ea n.log.ents.length ec, .int .i64 n.commit, .int .i64 n.clock, .int .i64 n.limit, .slice va n.votes.length vc, .slice pa n.peers.length pc], .int .i64 i] w fun e w' => ∃ v, e = .returned v ∧ w'.ownsRow w.heap.size 3 1 v (confL n.conf (n.log.ents.take k)).length (cellsI (confL n.conf (n.log.ents.take k))) ∧ Below w.heap.size w w' := by
  obtain ⟨W, hW⟩ : ∃ W, W = w.alloc (.cells #[.int .i64 n.id, .int .i64 n.term, .int .i64 n.vote, .int .i64 n.role, .int .i64 n.lead, .slice ca n.conf.length cc, .int .i64 n.log.start, .int .i64 n.log.sterm, .slice ea n.log.ents.length ec, .int .i64 n.commit, .int .i64 n.clock, .int .i64 n.limit, .slice va n.votes.length vc, .slice pa n.peers.length pc] 36) := ⟨_, rfl⟩
  have hb : Below w.heap.size w W := by rw [hW]; exact (Below.refl _ _).alloc (Nat.le_refl _) _
  have hn0 : NodeAt W w.heap.size n ca cc ea ec va vc pa pc := by rw [hW]; exact NodeAt.new w n ca cc ea ec va vc pa pc 36
  have HB : Hid (Below w.heap.size w W) := hb
  have HX : Hid (∀ w', Below W.heap.size W w' → NodeAt w' w.heap.size n ca cc ea ec va vc pa pc ∧ NodeR w' n ca gc oc ea ge oe va gv ov pa gp op) := fun w' h => ⟨hn0.kept h, (hR.kept hb).kept h⟩
  have hnum := okL_num hok
  have hcl := hs.conf
  have HC : Hid (∀ X, Below W.heap.size W X → Calls Try.prog 74 #[.agg #[.int .i64 n.log.start, .int .i64 n.log.sterm, .slice ea n.log.ents.length ec], .int .i64 i] X fun en w' => en = .returned (.int .i64 (k : Int)) ∧ Below X.heap.size X w') := fun X h => count_is (cap := ec) n.log hs.ents hnum.1 (by omega) k hk i hi X
  have HF : Hid (∀ X, Below W.heap.size W X → Calls Try.prog 73 #[.agg #[.int .i64 n.id, .int .i64 n.term, .int .i64 n.vote, .int .i64 n.role, .int .i64 n.lead, .slice ca n.conf.length cc, .int .i64 n.log.start, .int .i64 n.log.sterm, .slice ea n.log.ents.length ec, .int .i64 n.commit, .int .i64 n.clock, .int .i64 n.limit, .slice va n.votes.length vc, .slice pa n.peers.length pc], .int .i64 (k : Int)] X fun e w' => ∃ v, e = .returned v ∧ w'.ownsRow X.heap.size 3 1 v (confL n.conf (n.log.ents.take k)).length (cellsI (confL n.conf (n.log.ents.take k))) ∧ Below X.heap.size X w') := fun X h => confFirst_ok n hok k hk hec hecm hcl X (HX.out X h).2.conf (HX.out X h).2.ents
  obtain ⟨L, hL⟩ : ∃ L, L = confL n.conf (n.log.ents.take k) := ⟨_, rfl⟩
  rw [← hL] at HF ⊢
  have HSZ : Hid (W.heap.size = w.heap.size + 1) := by show _ = _; rw [hW]; simp
  obtain ⟨p0, p1, p2, p3, p4, p5, p6, p7, p8, p9, p10, p11, p12, p13⟩ := hn0
  rw [hW] at p0 p1 p2 p3 p4 p5 p6 p7 p8 p9 p10 p11 p12 p13
  clear hR hb hs hok hec hecm hL hcl hnum hi hk
  go_enter Try.func49, Try.ntmps49
  go_wp2_with fail
  rw [← hW]
  clear hW p0 p1 p2 p3 p4 p5 p6 p7 p8 p9 p10 p11 p12 p13
  have HXC : Hid (∀ w', Below W.heap.size W w' → w'.cell? ⟨w.heap.size, 0, none⟩ = some (.int .i64 n.id) ∧ w'.cell? ⟨w.heap.size, 1, none⟩ = some (.int .i64 n.term) ∧ w'.cell? ⟨w.heap.size, 2, none⟩ = some (.int .i64 n.vote) ∧ w'.cell? ⟨w.heap.size, 3, none⟩ = some (.int .i64 n.role) ∧ w'.cell? ⟨w.heap.size, 4, none⟩ = some (.int .i64 n.lead) ∧ w'.cell? ⟨w.heap.size, 5, none⟩ = some (.slice ca n.conf.length cc) ∧ w'.cell? ⟨w.heap.size, 6, none⟩ = some (.int .i64 n.log.start) ∧ w'.cell? ⟨w.heap.size, 7, none⟩ = some (.int .i64 n.log.sterm) ∧ w'.cell? ⟨w.heap.size, 8, none⟩ = some (.slice ea n.log.ents.length ec) ∧ w'.cell? ⟨w.heap.size, 9, none⟩ = some (.int .i64 n.commit) ∧ w'.cell? ⟨w.heap.size, 10, none⟩ = some (.int .i64 n.clock) ∧ w'.cell? ⟨w.heap.size, 11, none⟩ = some (.int .i64 n.limit) ∧ w'.cell? ⟨w.heap.size, 12, none⟩ = some (.slice va n.votes.length vc) ∧ w'.cell? ⟨w.heap.size, 13, none⟩ = some (.slice pa n.peers.length pc)) := fun w' h => by
    have hh := (HX.out w' h).1
    exact ⟨hh.c0, hh.c1, hh.c2, hh.c3, hh.c4, hh.c5, hh.c6, hh.c7, hh.c8, hh.c9, hh.c10, hh.c11, hh.c12, hh.c13⟩
  clear HX
  obtain ⟨p0, p1, p2, p3, p4, p5, p6, p7, p8, p9, p10, p11, p12, p13⟩ := HXC.out W (Below.refl _ _)
  go_region_held3 (fun w' => w'.cell? ⟨w.heap.size, 0, none⟩ = some (.int .i64 n.id) ∧ w'.cell? ⟨w.heap.size, 1, none⟩ = some (.int .i64 n.term) ∧ w'.cell? ⟨w.heap.size, 2, none⟩ = some (.int .i64 n.vote) ∧ w'.cell? ⟨w.heap.size, 3, none⟩ = some (.int .i64 n.role) ∧ w'.cell? ⟨w.heap.size, 4, none⟩ = some (.int .i64 n.lead) ∧ w'.cell? ⟨w.heap.size, 5, none⟩ = some (.slice ca n.conf.length cc) ∧ w'.cell? ⟨w.heap.size, 6, none⟩ = some (.int .i64 n.log.start) ∧ w'.cell? ⟨w.heap.size, 7, none⟩ = some (.int .i64 n.log.sterm) ∧ w'.cell? ⟨w.heap.size, 8, none⟩ = some (.slice ea n.log.ents.length ec) ∧ w'.cell? ⟨w.heap.size, 9, none⟩ = some (.int .i64 n.commit) ∧ w'.cell? ⟨w.heap.size, 10, none⟩ = some (.int .i64 n.clock) ∧ w'.cell? ⟨w.heap.size, 11, none⟩ = some (.int .i64 n.limit) ∧ w'.cell? ⟨w.heap.size, 12, none⟩ = some (.slice va n.votes.length vc) ∧ w'.cell? ⟨w.heap.size, 13, none⟩ = some (.slice pa n.peers.length pc)) (first | go_keep | exact HXC.out _ (below_undrew hb7) | exact HXC.out _ ((below_undrew hb7).trans (hb8.mono hb7.size)))
    (first | (go_at_call 74; refine Calls.mono (HC.out _ ((Below.refl _ _).drew)) ?_; rintro e w7 ⟨rfl, hb7⟩) | (go_at_call 73; refine Calls.mono (HF.out _ (below_undrew hb7)) ?_; rintro e w8 ⟨v8, rfl, ho8, hb8⟩; obtain ⟨a8, g8, c8, hv8, i8⟩ := cellsI_slice ho8; subst hv8) | fail)
  have HO8 : Hid (w8.ownsRow w.heap.size 3 1 (.slice a8 L.length c8) L.length (cellsI L)) := own_mono ho8 (by have := HSZ.out; have := (below_undrew hb7).size; omega)
  have HB8 : Hid (Below w.heap.size w w8) := HB.out.trans (((below_undrew hb7).trans (hb8.mono hb7.size)).mono HB.out.size)
  clear hb7 hb8 i8 ho8 HXC HC HF p0 p1 p2 p3 p4 p5 p6 p7 p8 p9 p10 p11 p12 p13
  go_wp2
  go_ret
  exact ⟨_, rfl, HO8.out, HB8.out⟩
end Go.Proofs.Ytiifjhalkihlbaa
