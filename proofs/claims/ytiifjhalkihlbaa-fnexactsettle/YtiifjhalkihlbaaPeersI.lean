/- The program's peersOk, walked: the closure that holds a peer against a node, EqualFunc over it. Made by program. -/
import Derived.Test.YtiifjhalkihlbaaOthI
namespace Go.Proofs.Ytiifjhalkihlbaa
open Go.RowKit Go.Lib
open Ents (okB confOf)
open Logs (okL)
set_option linter.unusedVariables false
set_option linter.unusedSimpArgs false
set_option maxHeartbeats 8000000 in
set_option maxRecDepth 100000 in
theorem isOf_is {ca ea va pa : Option Addr} {cc ec vc pc gc oc ge oe gv ov gp op : Nat} (n : NodeL) (hs : NodeS n) (hok : okL n.log = true) (p : PeerL) (o : Int) (R : Bool) (hRR : R = true ↔ peer1 (lastN n.log) p o) (B : Nat) (w : World) (hN : NodeAt w B n ca cc ea ec va vc pa pc) (hR : NodeR w n ca gc oc ea ge oe va gv ov pa gp op) :
    Calls Try.prog 79 #[.agg #[.int .i64 p.id, .int .i64 p.next, .int .i64 p.mat, .int .i64 p.sent], .int .i64 o, .pointer (some ⟨B, 0, none⟩)] w fun e w' => e = .returned (.bool R) ∧ Below w.heap.size w w' := by
  obtain ⟨W, hW⟩ : ∃ W, W = w.alloc (.cells #[.int .i64 p.id, .int .i64 p.next, .int .i64 p.mat, .int .i64 p.sent] 60) := ⟨_, rfl⟩
  have hb : Below w.heap.size w W := by rw [hW]; exact (Below.refl _ _).alloc (Nat.le_refl _) _
  have HB : Hid (Below w.heap.size w W) := hb
  have x0 : W.cell? ⟨w.heap.size, 0, none⟩ = some (.int .i64 p.id) := by rw [hW]; exact cell_of_row _ _ 0 _ _ _ (heap_alloc_new w _)
  have x1 : W.cell? ⟨w.heap.size, 1, none⟩ = some (.int .i64 p.next) := by rw [hW]; exact cell_of_row _ _ 1 _ _ _ (heap_alloc_new w _)
  have x2 : W.cell? ⟨w.heap.size, 2, none⟩ = some (.int .i64 p.mat) := by rw [hW]; exact cell_of_row _ _ 2 _ _ _ (heap_alloc_new w _)
  have x3 : W.cell? ⟨w.heap.size, 3, none⟩ = some (.int .i64 p.sent) := by rw [hW]; exact cell_of_row _ _ 3 _ _ _ (heap_alloc_new w _)
  have HLN : Hid (0 ≤ lastN n.log ∧ lastN n.log ≤ 1000000) := by show _ ∧ _; have := okL_num hok; unfold lastN; omega
  have HQL : Hid (∀ X : Abv W, Calls Try.prog 81 #[.agg #[.int .i64 n.id, .int .i64 n.term, .int .i64 n.vote, .int .i64 n.role, .int .i64 n.lead, .slice ca n.conf.length cc, .int .i64 n.log.start, .int .i64 n.log.sterm, .slice ea n.log.ents.length ec, .int .i64 n.commit, .int .i64 n.clock, .int .i64 n.limit, .slice va n.votes.length vc, .slice pa n.peers.length pc]] X.w fun e w' => e = .returned (.int .i64 (lastN n.log)) ∧ Below X.w.heap.size X.w w') := fun X => last_is n hs hok X.w ((hR.kept hb).kept X.b)
  obtain ⟨p0, p1, p2, p3, p4, p5, p6, p7, p8, p9, p10, p11, p12, p13⟩ := hN.kept hb
  obtain ⟨LN, hLN⟩ : ∃ LN, LN = lastN n.log := ⟨_, rfl⟩
  rw [← hLN] at HQL HLN hRR
  have HRR : Hid (R = true ↔ peer1 LN p o) := hRR
  have HK : Hid (W.cell? ⟨B, 0, none⟩ = some (.int .i64 n.id) ∧ W.cell? ⟨B, 1, none⟩ = some (.int .i64 n.term) ∧ W.cell? ⟨B, 2, none⟩ = some (.int .i64 n.vote) ∧ W.cell? ⟨B, 3, none⟩ = some (.int .i64 n.role) ∧ W.cell? ⟨B, 4, none⟩ = some (.int .i64 n.lead) ∧ W.cell? ⟨B, 5, none⟩ = some (.slice ca n.conf.length cc) ∧ W.cell? ⟨B, 6, none⟩ = some (.int .i64 n.log.start) ∧ W.cell? ⟨B, 7, none⟩ = some (.int .i64 n.log.sterm) ∧ W.cell? ⟨B, 8, none⟩ = some (.slice ea n.log.ents.length ec) ∧ W.cell? ⟨B, 9, none⟩ = some (.int .i64 n.commit) ∧ W.cell? ⟨B, 10, none⟩ = some (.int .i64 n.clock) ∧ W.cell? ⟨B, 11, none⟩ = some (.int .i64 n.limit) ∧ W.cell? ⟨B, 12, none⟩ = some (.slice va n.votes.length vc) ∧ W.cell? ⟨B, 13, none⟩ = some (.slice pa n.peers.length pc) ∧ W.cell? ⟨w.heap.size, 0, none⟩ = some (.int .i64 p.id) ∧ W.cell? ⟨w.heap.size, 1, none⟩ = some (.int .i64 p.next) ∧ W.cell? ⟨w.heap.size, 2, none⟩ = some (.int .i64 p.mat) ∧ W.cell? ⟨w.heap.size, 3, none⟩ = some (.int .i64 p.sent)) := ⟨p0, p1, p2, p3, p4, p5, p6, p7, p8, p9, p10, p11, p12, p13, x0, x1, x2, x3⟩
  clear hR hN hb hLN hok hs hRR p0 p1 p2 p3 p4 p5 p6 p7 p8 p9 p10 p11 p12 p13 x0 x1 x2 x3
  go_enter Try.func79, Try.ntmps79
  go_wp2_with fail
  rw [← hW]
  clear hW
  obtain ⟨p0, p1, p2, p3, p4, p5, p6, p7, p8, p9, p10, p11, p12, p13, x0, x1, x2, x3⟩ := HK.out
  have NE := Abv.ne W
  have C0 := fun x : Abv W => x.cell p0
  have C1 := fun x : Abv W => x.cell p1
  have C2 := fun x : Abv W => x.cell p2
  have C3 := fun x : Abv W => x.cell p3
  have C4 := fun x : Abv W => x.cell p4
  have C5 := fun x : Abv W => x.cell p5
  have C6 := fun x : Abv W => x.cell p6
  have C7 := fun x : Abv W => x.cell p7
  have C8 := fun x : Abv W => x.cell p8
  have C9 := fun x : Abv W => x.cell p9
  have C10 := fun x : Abv W => x.cell p10
  have C11 := fun x : Abv W => x.cell p11
  have C12 := fun x : Abv W => x.cell p12
  have C13 := fun x : Abv W => x.cell p13
  have D0 := fun x : Abv W => x.cell x0
  have D1 := fun x : Abv W => x.cell x1
  have D2 := fun x : Abv W => x.cell x2
  have D3 := fun x : Abv W => x.cell x3
  clear p0 p1 p2 p3 p4 p5 p6 p7 p8 p9 p10 p11 p12 p13 x0 x1 x2 x3 HK
  by_cases hid : p.id = o
  · have HID : Hid (p.id = o) := hid
    have hde : (p.id == o) = true := by simp [hid]
    have hdd : decide (p.id = o) = true := by simp [hid]
    obtain ⟨R', hR'⟩ : ∃ R' : Bool, R' = true ↔ okP LN p := by
      by_cases h : okP LN p
      · exact ⟨true, by simp [h]⟩
      · exact ⟨false, by simp [h]⟩
    have HE : Hid (R = R') := by
      have h1 := HRR.out.trans okP_peer1
      show R = R'
      cases R <;> cases R' <;> simp_all
    have HQP : Hid (∀ X : World, Calls Try.prog 80 #[.agg #[.int .i64 p.id, .int .i64 p.next, .int .i64 p.mat, .int .i64 p.sent], .int .i64 LN] X fun e w' => e = .returned (.bool R') ∧ Below X.heap.size X w') := fun X => peerOk_is p LN HLN.out R' hR' X
    clear hid hR' HRR HLN
    refine wp_region_above (by kernel_rfl) (by kernel_rfl) ?_
    repeat (go_big_quiet_step (first | (go_at_call 81; with_reducible exact calls_above (HQL.out _)) | (go_at_call 80; with_reducible exact calls_above (HQP.out _)) | fail))
    refine wpQuiet_nil ?_
    rintro w9 ⟨⟨_, hb9⟩, rfl⟩
    clear NE C0 C1 C2 C3 C4 C5 C6 C7 C8 C9 C10 C11 C12 C13 D0 D1 D2 D3
    go_wp2
    go_ret
    exact ⟨by rw [HE.out]; rfl, HB.out.trans (hb9.mono HB.out.size)⟩
  · have hde : (p.id == o) = false := by simp [hid]
    have hdd : decide (p.id = o) = false := by simp [hid]
    have HE : Hid (R = false) := by
      have h1 := HRR.out.trans okP_peer1
      show R = false
      cases R <;> simp_all
    clear hid HRR HLN
    refine wp_region_above (by kernel_rfl) (by kernel_rfl) ?_
    repeat (go_big_quiet_step (first | (go_at_call 81; with_reducible exact calls_above (HQL.out _)) | fail))
    refine wpQuiet_nil ?_
    rintro w9 ⟨⟨_, hb9⟩, rfl⟩
    clear NE C0 C1 C2 C3 C4 C5 C6 C7 C8 C9 C10 C11 C12 C13 D0 D1 D2 D3
    go_wp2
    go_ret
    exact ⟨by rw [HE.out]; rfl, HB.out.trans (hb9.mono HB.out.size)⟩
def PeersN (last : Int) (ps : List PeerL) (os : List Int) : Prop := ps.length = os.length ∧ ∀ (k : Nat) (h1 : k < ps.length) (h2 : k < os.length), peer1 last ps[k] os[k]
set_option maxHeartbeats 8000000 in
set_option maxRecDepth 100000 in
theorem equalFunc_is {ca ea va pa : Option Addr} {cc ec vc pc gc oc ge oe gv ov gp op : Nat} {oa : Option Addr} {og occ : Nat} (n : NodeL) (hs : NodeS n) (hok : okL n.log = true) (os : List Int) (hol : os.length ≤ 1048576) (R : Bool) (hRR : R = true ↔ PeersN (lastN n.log) n.peers os) (B : Nat) (w : World) (hN : NodeAt w B n ca cc ea ec va vc pa pc) (hR : NodeR w n ca gc oc ea ge oe va gv ov pa gp op) (hO : IntAt w oa og 0 os) :
    Calls Try.prog 82 #[.slice pa n.peers.length pc, .slice oa os.length occ, .func (.func 79) #[] #[.pointer (some ⟨B, 0, none⟩)]] w fun e w' => e = .returned (.bool R) ∧ Below w.heap.size w w' := by
  have HX : Hid (∀ w', Below w.heap.size w w' → NodeAt w' B n ca cc ea ec va vc pa pc ∧ NodeR w' n ca gc oc ea ge oe va gv ov pa gp op ∧ IntAt w' oa og 0 os) := fun w' h => ⟨hN.kept h, hR.kept h, hO.kept h⟩
  have HY : Hid (PeersN (lastN n.log) n.peers os → R = true) := hRR.2
  have HNO : Hid (¬ PeersN (lastN n.log) n.peers os → R = false) := fun h => by
    cases R with
    | false => rfl
    | true => exact (h (hRR.1 rfl)).elim
  have HC : Hid (∀ (p : PeerL) (o : Int) (X : World), Below w.heap.size w X → ∃ R1 : Bool, (R1 = true ↔ peer1 (lastN n.log) p o) ∧ Calls Try.prog 79 #[.agg #[.int .i64 p.id, .int .i64 p.next, .int .i64 p.mat, .int .i64 p.sent], .int .i64 o, .pointer (some ⟨B, 0, none⟩)] X fun e w' => e = .returned (.bool R1) ∧ Below X.heap.size X w') := by
    intro p o X h
    obtain ⟨R1, h1⟩ : ∃ R1 : Bool, R1 = true ↔ peer1 (lastN n.log) p o := by
      by_cases h : peer1 (lastN n.log) p o
      · exact ⟨true, by simp [h]⟩
      · exact ⟨false, by simp [h]⟩
    exact ⟨R1, h1, isOf_is n hs hok p o R1 h1 B X (hN.kept h) (hR.kept h)⟩
  have hpl0 := hs.peers
  clear hN hR hO hRR hs hok
  by_cases hpl : n.peers.length = os.length
  case neg =>
    have HF : Hid (R = false) := HNO.out (fun h => hpl h.1)
    have hpi : ((n.peers.length : Int) != (os.length : Int)) = true := by simp; omega
    have hpj : ¬ (n.peers.length : Int) = (os.length : Int) := by omega
    clear HX HY HNO HC
    go_enter Try.func82, Try.ntmps82
    go_wp2
    go_ret
    exact ⟨by rw [HF.out]; rfl, Below.refl _ _⟩
  have HPL : Hid (n.peers.length = os.length) := hpl
  have hpi : ((n.peers.length : Int) != (os.length : Int)) = false := by simp; omega
  have hpj : (n.peers.length : Int) = (os.length : Int) := by omega
  clear hpl
  go_enter Try.func82, Try.ntmps82
  go_wp2
  clear hpi hpj
  go_loopw [17] (fun i wr => ∃ j : Nat, j ≤ os.length ∧ i = .int .i64 (j : Int) ∧ Hid (Below w.heap.size w wr) ∧ Hid (∀ (k : Nat) (h1 : k < n.peers.length) (h2 : k < os.length), k < j → peer1 (lastN n.log) n.peers[k] os[k]))
    (fun i _ => os.length - (intOf i).toNat)
  case atStart => exact ⟨0, Nat.zero_le _, rfl, Below.refl _ _, fun k h1 h2 h3 => by omega⟩
  case round =>
    obtain ⟨j, hj, rfl, HBW, HPR⟩ := hrel
    by_cases hlt : j < os.length
    · have hjp : j < n.peers.length := by rw [HPL.out]; exact hlt
      have hk1 : (j : Int) < (os.length : Int) := by omega
      have hk2 : (j : Int) < (n.peers.length : Int) := by omega
      obtain ⟨_, DR, DO⟩ := HX.out wr HBW.out
      obtain ⟨d0, d1, d2, d3⟩ := DR.peers.2 j hjp
      have epa := DR.peers.1 (by omega)
      have hoo := DO.1 (by omega)
      subst epa
      subst hoo
      obtain ⟨pp, hpp⟩ : ∃ pp, pp = n.peers[j] := ⟨_, rfl⟩
      obtain ⟨oo, hoo⟩ : ∃ oo, oo = os[j] := ⟨_, rfl⟩
      have HPP : Hid (pp = n.peers[j]) := hpp
      have HOO : Hid (oo = os[j]) := hoo
      rw [← hpp] at d0 d1 d2 d3
      obtain ⟨X, hX⟩ : ∃ X, X = wr.alloc (.cells #[.int .i64 pp.id, .int .i64 pp.next, .int .i64 pp.mat, .int .i64 pp.sent] 60) := ⟨_, rfl⟩
      have HBX : Hid (Below w.heap.size w X) := by show Below _ _ _; rw [hX]; exact HBW.out.alloc HBW.out.size _
      have ci : X.cell? ⟨og, 0 + j, none⟩ = some (.int .i64 oo) := by rw [hoo]; exact (HX.out X HBX.out).2.2.2 j hlt
      rw [Nat.zero_add] at ci
      obtain ⟨R1, hR1, hC⟩ := HC.out pp oo X HBX.out
      have HC1 : Hid (Calls Try.prog 79 #[.agg #[.int .i64 pp.id, .int .i64 pp.next, .int .i64 pp.mat, .int .i64 pp.sent], .int .i64 oo, .pointer (some ⟨B, 0, none⟩)] X fun e w' => e = .returned (.bool R1) ∧ Below X.heap.size X w') := hC
      have HR1 : Hid (R1 = true ↔ peer1 (lastN n.log) pp oo) := hR1
      rw [hX] at ci
      clear hpp hoo hC hR1 DR DO
      go_wp2_with fail
      rw [← hX]
      clear hX ci d0 d1 d2 d3
      refine Calls.mono HC1.out ?_
      rintro e w2 ⟨rfl, hb2⟩
      have HB2 : Hid (Below w.heap.size w w2) := HBX.out.trans (hb2.mono HBX.out.size)
      clear hb2 HC1
      cases R1 with
      | true =>
        have HNEW : Hid (peer1 (lastN n.log) pp oo) := HR1.out.1 rfl
        clear HR1
        go_wp2
        go_roundw
        case rel => exact ⟨j + 1, by omega, by go_num, HB2.out, fun k h1 h2 h3 => by
          rcases Nat.lt_or_ge k j with q | q
          · exact HPR.out k h1 h2 q
          · obtain rfl : k = j := by omega
            have := HNEW.out
            rwa [HPP.out, HOO.out] at this⟩
        case measure => simp [intOf]; omega
      | false =>
        have HF : Hid (R = false) := HNO.out (fun h => by
          have h3 := h.2 j hjp hlt
          rw [← HPP.out, ← HOO.out] at h3
          have := HR1.out.2 h3
          cases this)
        clear HR1
        go_wp2
        go_ret
        exact ⟨by rw [HF.out]; rfl, HB2.out⟩
    · have hk1 : ¬ (j : Int) < (os.length : Int) := by omega
      have hk2 : ¬ (j : Int) < (n.peers.length : Int) := by rw [HPL.out]; omega
      have HF : Hid (R = true) := HY.out ⟨HPL.out, fun k h1 h2 => HPR.out k h1 h2 (by omega)⟩
      go_wp2
      go_ret
      exact ⟨by rw [HF.out]; rfl, HBW.out⟩
end Go.Proofs.Ytiifjhalkihlbaa
