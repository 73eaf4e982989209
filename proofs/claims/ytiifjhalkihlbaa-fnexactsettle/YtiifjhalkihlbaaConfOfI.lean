/- The program's ConfOf, walked at a right log. Made by program. -/
import Derived.Test.YtiifjhalkihlbaaConfAtI
namespace Go.Proofs.Ytiifjhalkihlbaa
open Go.RowKit Go.Shelf
open Ents (okB confOf)
open Logs (okL)
set_option linter.unusedVariables false
set_option linter.unusedSimpArgs false
def goodL : (l : List EntL) → (∀ e ∈ l, okB e = true) → List GoodE
  | [], _ => []
  | e :: r, h => ⟨e, h e (List.mem_cons_self ..)⟩ :: goodL r (fun x hx => h x (List.mem_cons_of_mem _ hx))
theorem goodL_map : ∀ (l : List EntL) (h : ∀ e ∈ l, okB e = true), (goodL l h).map (·.1) = l
  | [], _ => rfl
  | e :: r, h => by simp only [goodL, List.map_cons]; rw [goodL_map r]
theorem EnAt.take {w : World} {a : Option Addr} {g off : Nat} {l : List EntL} (h : EnAt w a g off l) (k : Nat) : EnAt w a g off (l.take k) := by
  refine ⟨fun hl => h.1 (by rw [List.length_take] at hl; omega), fun j hj => ?_⟩
  have hj' : j < l.length := by rw [List.length_take] at hj; omega
  rw [List.getElem_take]
  exact h.2 j hj'
theorem confFirst_ok {ca ea va pa : Option Addr} {cc ec vc pc gc oc ge oe : Nat} (n : NodeL) (hok : okL n.log = true) (K : Nat) (hK : K ≤ n.log.ents.length) (hec : n.log.ents.length ≤ ec) (hecm : ec ≤ 9223372036854775807) (hcl : n.conf.length ≤ 1048576) (w : World) (hc : IntAt w ca gc oc n.conf) (he : EnAt w ea ge oe n.log.ents) :
    Calls Try.prog 73 #[.agg #[.int .i64 n.id, .int .i64 n.term, .int .i64 n.vote, .int .i64 n.role, .int .i64 n.lead, .slice ca n.conf.length cc, .int .i64 n.log.start, .int .i64 n.log.sterm, .slice ea n.log.ents.length ec, .int .i64 n.commit, .int .i64 n.clock, .int .i64 n.limit, .slice va n.votes.length vc, .slice pa n.peers.length pc], .int .i64 (K : Int)] w fun e w' => ∃ v, e = .returned v ∧ w'.ownsRow w.heap.size 3 1 v (confL n.conf (n.log.ents.take K)).length (cellsI (confL n.conf (n.log.ents.take K))) ∧ Below w.heap.size w w' :=
  confFirst_is n (goodL (n.log.ents.take K) (fun e he => okL_mem hok e (List.mem_of_mem_take he))) K (goodL_map _ _) hK hec hecm (by have := okL_num hok; omega) hcl w hc (he.take K)
set_option maxHeartbeats 4000000 in
set_option maxRecDepth 100000 in
theorem confOf_is {ca ea va pa : Option Addr} {cc ec vc pc gc oc ge oe : Nat} (n : NodeL) (hok : okL n.log = true) (hec : n.log.ents.length ≤ ec) (hecm : ec ≤ 9223372036854775807) (hcl : n.conf.length ≤ 1048576) (w : World) (hc : IntAt w ca gc oc n.conf) (he : EnAt w ea ge oe n.log.ents) :
    Calls Try.prog 91 #[.agg #[.int .i64 n.id, .int .i64 n.term, .int .i64 n.vote, .int .i64 n.role, .int .i64 n.lead, .slice ca n.conf.length cc, .int .i64 n.log.start, .int .i64 n.log.sterm, .slice ea n.log.ents.length ec, .int .i64 n.commit, .int .i64 n.clock, .int .i64 n.limit, .slice va n.votes.length vc, .slice pa n.peers.length pc]] w fun e w' => ∃ v, e = .returned v ∧ w'.ownsRow w.heap.size 3 1 v (confL n.conf n.log.ents).length (cellsI (confL n.conf n.log.ents)) ∧ Below w.heap.size w w' := by
  obtain ⟨W, hW⟩ : ∃ W, W = w.alloc (.cells #[.int .i64 n.id, .int .i64 n.term, .int .i64 n.vote, .int .i64 n.role, .int .i64 n.lead, .slice ca n.conf.length cc, .int .i64 n.log.start, .int .i64 n.log.sterm, .slice ea n.log.ents.length ec, .int .i64 n.commit, .int .i64 n.clock, .int .i64 n.limit, .slice va n.votes.length vc, .slice pa n.peers.length pc] 36) := ⟨_, rfl⟩
  have hb : Below w.heap.size w W := by rw [hW]; exact (Below.refl _ _).alloc (Nat.le_refl _) _
  have hn0 : NodeAt W w.heap.size n ca cc ea ec va vc pa pc := by rw [hW]; exact NodeAt.new w n ca cc ea ec va vc pa pc 36
  have hlen : n.log.ents.length ≤ 1048576 := by have := okL_num hok; omega
  have HM : Hid (Calls Try.prog 73 #[.agg #[.int .i64 n.id, .int .i64 n.term, .int .i64 n.vote, .int .i64 n.role, .int .i64 n.lead, .slice ca n.conf.length cc, .int .i64 n.log.start, .int .i64 n.log.sterm, .slice ea n.log.ents.length ec, .int .i64 n.commit, .int .i64 n.clock, .int .i64 n.limit, .slice va n.votes.length vc, .slice pa n.peers.length pc], .int .i64 (n.log.ents.length : Int)] W fun e w' => ∃ v, e = .returned v ∧ w'.ownsRow W.heap.size 3 1 v (confL n.conf (n.log.ents.take n.log.ents.length)).length (cellsI (confL n.conf (n.log.ents.take n.log.ents.length))) ∧ Below W.heap.size W w') := confFirst_ok n hok _ (Nat.le_refl _) hec hecm hcl W (hc.kept hb) (he.kept hb)
  rw [List.take_length] at HM
  have HB : Hid (Below w.heap.size w W) := hb
  obtain ⟨p0, p1, p2, p3, p4, p5, p6, p7, p8, p9, p10, p11, p12, p13⟩ := hn0
  rw [hW] at p0 p1 p2 p3 p4 p5 p6 p7 p8 p9 p10 p11 p12 p13
  clear hc he hb hok hec
  go_enter Try.func91, Try.ntmps91
  go_wp2_with fail
  rw [← hW]
  clear hW p0 p1 p2 p3 p4 p5 p6 p7 p8 p9 p10 p11 p12 p13
  refine Calls.mono HM.out ?_
  rintro e w1 ⟨v, rfl, ho, hb1⟩
  have HO : Hid _ := own_mono ho HB.out.size
  have HB1 : Hid _ := HB.out.trans (hb1.mono HB.out.size)
  obtain ⟨a1, c1, rfl⟩ := own_slice ho
  clear ho hb1 HB HM
  go_wp2
  go_ret
  exact ⟨_, rfl, HO.out, HB1.out⟩
end Go.Proofs.Ytiifjhalkihlbaa
