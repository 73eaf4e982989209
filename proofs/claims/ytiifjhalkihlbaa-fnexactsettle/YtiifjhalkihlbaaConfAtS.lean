/- The conf of a log's beginning, and spec.ConfAt, spec.ConfOf, spec.l16Others, walked. Made by program. -/
import Derived.Test.YtiifjhalkihlbaaNodeW
namespace Go.Proofs.Ytiifjhalkihlbaa
open Go.RowKit
open Ents (okB confOf)
open Logs (okL)
set_option linter.unusedVariables false
set_option linter.unusedSimpArgs false
/-- The conf that these entries leave. -/
def confL (c : List Int) : List EntL → List Int
  | [] => c
  | e :: r => confL (if e.kind = 2 then confOf e.data else c) r
theorem confL_snoc : ∀ (l : List EntL) (c : List Int) (e : EntL), confL c (l ++ [e]) = if e.kind = 2 then confOf e.data else confL c l
  | [], c, e => by simp [confL]
  | x :: r, c, e => by simp only [List.cons_append, confL]; exact confL_snoc r _ e
theorem confL_take {l : List EntL} {c : List Int} {k : Nat} (h : k < l.length) : confL c (l.take (k + 1)) = if l[k].kind = 2 then confOf l[k].data else confL c (l.take k) := by
  rw [List.take_succ_eq_append_getElem h, confL_snoc]
theorem conf_read {e : EntL} (h : okB e = true) (hk : e.kind = 2) : RCIs e.data (confOf e.data) true := by
  have h1 := (Ents.okB_iff.1 h).2
  unfold Ents.kindB at h1
  rw [if_neg (by omega), if_pos hk] at h1
  exact Or.inl ⟨by unfold Ents.readC; simp [h1], rfl⟩
theorem okL_mem {l : LogL} (h : okL l = true) : ∀ e ∈ l.ents, okB e = true := by
  unfold okL at h
  simp only [Bool.and_eq_true] at h
  exact fun e he => (Logs.rises_mem _ _ h.2 e he).1
theorem okL_num {l : LogL} (h : okL l = true) : 0 ≤ l.start ∧ l.start ≤ 100000 ∧ l.ents.length ≤ 120 ∧ l.start + (l.ents.length : Int) ≤ 100000 := by
  unfold okL Logs.inB at h
  simp only [Bool.and_eq_true, decide_eq_true_eq] at h
  omega
theorem confL_len {l : List EntL} {c : List Int} (hc : c.length ≤ 1048576) (hl : ∀ e ∈ l, okB e = true) : (confL c l).length ≤ 1048576 := by
  induction l generalizing c with
  | nil => exact hc
  | cons e r ih =>
    refine ih ?_ (fun x hx => hl x (List.mem_cons_of_mem _ hx))
    split
    · rw [Ents.confOf_len]; have := (Ents.kind_in (Ents.okB_iff.1 (hl e (List.mem_cons_self ..))).2).2; omega
    · exact hc
/-- How many entries of a log have an index of at most this. -/
def upTo (l : LogL) (i : Int) : Nat := if i ≤ l.start then 0 else min (i - l.start).toNat l.ents.length
theorem upTo_le (l : LogL) (i : Int) : upTo l i ≤ l.ents.length := by unfold upTo; split <;> omega
theorem upTo_lt {l : LogL} {i : Int} {k : Nat} (hk : k < l.ents.length) : l.start + 1 + (k : Int) ≤ i ↔ k < upTo l i := by unfold upTo; split <;> omega
set_option maxHeartbeats 4000000 in
set_option maxRecDepth 100000 in
theorem specConfAt_is {ca ea va pa : Option Addr} {cc ec vc pc gc oc ge oe : Nat} (n : NodeL) (hok : okL n.log = true) (hcl : n.conf.length ≤ 1048576) (hnil : ca = none → cc = 0) (index : Int) (w : World) (hc : IntAt w ca gc oc n.conf) (he : EnAt w ea ge oe n.log.ents) :
    Calls Try.prog 46 #[.agg #[.int .i64 n.id, .int .i64 n.term, .int .i64 n.vote, .int .i64 n.role, .int .i64 n.lead, .slice ca n.conf.length cc, .int .i64 n.log.start, .int .i64 n.log.sterm, .slice ea n.log.ents.length ec, .int .i64 n.commit, .int .i64 n.clock, .int .i64 n.limit, .slice va n.votes.length vc, .slice pa n.peers.length pc], .int .i64 index] w fun e w' => ∃ v, e = .returned v ∧ w'.ownsRow w.heap.size 3 1 v (confL n.conf (n.log.ents.take (upTo n.log index))).length (cellsI (confL n.conf (n.log.ents.take (upTo n.log index)))) ∧ Below w.heap.size w w' := by
  obtain ⟨W, hW⟩ : ∃ W, W = (w.alloc (.cells #[.int .i64 n.id, .int .i64 n.term, .int .i64 n.vote, .int .i64 n.role, .int .i64 n.lead, .slice ca n.conf.length cc, .int .i64 n.log.start, .int .i64 n.log.sterm, .slice ea n.log.ents.length ec, .int .i64 n.commit, .int .i64 n.clock, .int .i64 n.limit, .slice va n.votes.length vc, .slice pa n.peers.length pc] 36)).alloc (.cells #[] 3) := ⟨_, rfl⟩
  obtain ⟨q, hq⟩ : ∃ q, q = w.heap.size := ⟨_, rfl⟩
  have HQ : Hid (q = w.heap.size) := hq
  have hb : Below w.heap.size w W := by rw [hW]; exact ((Below.refl _ _).alloc (Nat.le_refl _) _).alloc (by simp) _
  have HB : Hid (Below w.heap.size w W) := hb
  have N0 : Hid (W.heap[w.heap.size]? = some (.cells #[.int .i64 n.id, .int .i64 n.term, .int .i64 n.vote, .int .i64 n.role, .int .i64 n.lead, .slice ca n.conf.length cc, .int .i64 n.log.start, .int .i64 n.log.sterm, .slice ea n.log.ents.length ec, .int .i64 n.commit, .int .i64 n.clock, .int .i64 n.limit, .slice va n.votes.length vc, .slice pa n.peers.length pc] 36 (0, 0))) := by
    show _ = _
    rw [hW, Below.heap_alloc _ _ _ (by simp)]; exact heap_alloc_new w _
  have OW : Hid (W.ownsRow (w.heap.size + 1) 3 1 (.slice (some ⟨w.heap.size + 1, 0, none⟩) 0 0) 0 []) := by
    show World.ownsRow _ _ _ _ _ _ _
    rw [hW]
    have ho := World.ownsRow_made (base := w.heap.size + 1) (e := 3) (size := 1) (w.alloc (.cells #[.int .i64 n.id, .int .i64 n.term, .int .i64 n.vote, .int .i64 n.role, .int .i64 n.lead, .slice ca n.conf.length cc, .int .i64 n.log.start, .int .i64 n.log.sterm, .slice ea n.log.ents.length ec, .int .i64 n.commit, .int .i64 n.clock, .int .i64 n.limit, .slice va n.votes.length vc, .slice pa n.peers.length pc] 36)) #[] 0 (by simp) (by unfold maxLen; omega) rfl
    simpa using ho
  have HF : Hid (IntAt W ca gc oc n.conf) := hc.kept hb
  have HE : Hid (∀ X, Below w.heap.size w X → EnAt X ea ge oe n.log.ents) := fun X h => he.kept h
  have HN : Hid (ca = none → cc = 0) := hnil
  have HM : Hid (∀ e ∈ n.log.ents, okB e = true) := okL_mem hok
  have HNU : Hid (0 ≤ n.log.start ∧ n.log.start ≤ 100000 ∧ n.log.ents.length ≤ 120 ∧ n.log.start + (n.log.ents.length : Int) ≤ 100000) := okL_num hok
  have p5 := cell_of_row _ _ 5 _ _ _ N0.out
  simp at p5
  have p5a : (w.alloc (.cells #[.int .i64 n.id, .int .i64 n.term, .int .i64 n.vote, .int .i64 n.role, .int .i64 n.lead, .slice ca n.conf.length cc, .int .i64 n.log.start, .int .i64 n.log.sterm, .slice ea n.log.ents.length ec, .int .i64 n.commit, .int .i64 n.clock, .int .i64 n.limit, .slice va n.votes.length vc, .slice pa n.peers.length pc] 36)).cell? ⟨w.heap.size, 5, none⟩ = some (.slice ca n.conf.length cc) := cell_of_row _ _ 5 _ _ _ (heap_alloc_new w _)
  rw [hW] at p5
  obtain ⟨K, hK⟩ : ∃ K, K = upTo n.log index := ⟨_, rfl⟩
  have HK : Hid (K = upTo n.log index) := hK
  rw [← hK]
  clear hb hc he hnil hok hK hq
  go_enter Try.func46, Try.ntmps46
  go_wp2_with (first | (refine wpList_appendI rfl _ _ rfl (w.heap.size + 1) _ 0 [] rfl (by rw [← hW]; exact OW.out) ca gc oc cc n.conf rfl (by rw [← hW]; exact HF.out) HN.out (by omega) (by simp) ?_; intro v1 w1 ho1 hg1; rw [Nat.zero_add, List.nil_append] at ho1; have HG : Hid (World.grownBy W w1 (some (w.heap.size + 1))) := (by show World.grownBy _ _ _; rw [hW]; exact hg1); clear hg1; have HO1 : Hid (World.ownsRow w1 (w.heap.size + 1) 3 1 v1 n.conf.length (cellsI n.conf)) := ho1; clear ho1) | fail)
  clear hW p5 p5a HF HN OW
  have hz := HG.out.block w.heap.size (Array.getElem?_eq_some_iff.1 N0.out).1 (by simp)
  have N1 : Hid (w1.heap[w.heap.size]? = some (.cells #[.int .i64 n.id, .int .i64 n.term, .int .i64 n.vote, .int .i64 n.role, .int .i64 n.lead, .slice ca n.conf.length cc, .int .i64 n.log.start, .int .i64 n.log.sterm, .slice ea n.log.ents.length ec, .int .i64 n.commit, .int .i64 n.clock, .int .i64 n.limit, .slice va n.votes.length vc, .slice pa n.peers.length pc] 36 (0, 0))) := hz.trans N0.out
  have HB1 : Hid (Below w.heap.size w w1) := HB.out.grown HG.out HB.out.size (fun j hj => by cases hj; omega)
  have O1 : Hid (w1.ownsRow w.heap.size 3 1 v1 (confL n.conf (n.log.ents.take 0)).length (cellsI (confL n.conf (n.log.ents.take 0)))) := own_mono HO1.out (by omega)
  clear hz HG N0 HB HO1
  go_loopw [5, 6] (fun v i wr => ∃ j : Nat, j ≤ K ∧ i = .int .i64 (j : Int) ∧ Hid (wr.ownsRow w.heap.size 3 1 v (confL n.conf (n.log.ents.take j)).length (cellsI (confL n.conf (n.log.ents.take j)))) ∧ Hid (Below w.heap.size w wr) ∧ Hid (wr.heap[w.heap.size]? = some (.cells #[.int .i64 n.id, .int .i64 n.term, .int .i64 n.vote, .int .i64 n.role, .int .i64 n.lead, .slice ca n.conf.length cc, .int .i64 n.log.start, .int .i64 n.log.sterm, .slice ea n.log.ents.length ec, .int .i64 n.commit, .int .i64 n.clock, .int .i64 n.limit, .slice va n.votes.length vc, .slice pa n.peers.length pc] 36 (0, 0))))
    (fun _ i _ => K - (intOf i).toNat)
  case atStart => exact ⟨0, Nat.zero_le _, rfl, O1, HB1, N1⟩
  case round =>
    clear O1 HB1 N1
    obtain ⟨j, hj, rfl, HOW, HBW, HNW⟩ := hrel
    have hKl : K ≤ n.log.ents.length := by rw [HK.out]; exact upTo_le _ _
    have r6 := cell_of_row _ _ 6 _ _ _ HNW.out
    have r8 := cell_of_row _ _ 8 _ _ _ HNW.out
    simp at r6 r8
    have hnu := HNU.out
    by_cases hlt : j < K
    · have hjl : j < n.log.ents.length := by omega
      have hidx : n.log.start + 1 + (j : Int) ≤ index := (upTo_lt hjl).2 (by rw [← HK.out]; exact hlt)
      have c := (HE.out _ HBW.out).2 j hjl
      have eea := (HE.out _ HBW.out).1 (by omega)
      obtain ⟨cT, cK, cD⟩ := c
      subst eea
      have hok1 := HM.out _ (List.getElem_mem hjl)
      have HNX : Hid (confL n.conf (n.log.ents.take (j + 1)) = if n.log.ents[j].kind = 2 then confOf n.log.ents[j].data else confL n.conf (n.log.ents.take j)) := confL_take hjl
      have hk0 : (0 : Int) ≤ (j : Int) := by omega
      have hk1 : (j : Int) < (n.log.ents.length : Int) := by omega
      by_cases hkind : n.log.ents[j].kind = 2
      · have HRC : Hid (RCIs n.log.ents[j].data (confOf n.log.ents[j].data) true) := conf_read hok1 hkind
        have HSZ : Hid (n.log.ents[j].data.size ≤ 1048576) := by have := (Ents.kind_in (Ents.okB_iff.1 hok1).2).2; show _ ≤ _; omega
        have HKD : Hid (n.log.ents[j].kind = 2) := hkind
        rw [hkind] at cK
        clear hok1 hkind cT
        go_wp2_with fail
        refine Calls.mono (specReadConf_is _ HSZ.out _ true HRC.out wr) ?_
        rintro e w2 ⟨v2, rfl, ho2, hb2⟩
        have HOW2 : Hid (w2.ownsRow w.heap.size 3 1 v2 (confOf n.log.ents[j].data).length (cellsI (confOf n.log.ents[j].data))) := own_mono ho2 HBW.out.size
        have HBW2 : Hid (Below w.heap.size w w2) := HBW.out.trans (hb2.mono HBW.out.size)
        have HNW2 : Hid (w2.heap[w.heap.size]? = some (.cells #[.int .i64 n.id, .int .i64 n.term, .int .i64 n.vote, .int .i64 n.role, .int .i64 n.lead, .slice ca n.conf.length cc, .int .i64 n.log.start, .int .i64 n.log.sterm, .slice (some ⟨ge, oe, none⟩) n.log.ents.length ec, .int .i64 n.commit, .int .i64 n.clock, .int .i64 n.limit, .slice va n.votes.length vc, .slice pa n.peers.length pc] 36 (0, 0))) := (hb2.block _ (Array.getElem?_eq_some_iff.1 HNW.out).1).trans HNW.out
        clear ho2 hb2 HRC HSZ HOW HBW HNW r6 r8 cK cD
        go_wp2
        go_roundw
        case rel => exact ⟨j + 1, by omega, by go_num, by rw [HNX.out, if_pos HKD.out]; exact HOW2, HBW2, HNW2⟩
        case measure => simp [intOf]; omega
      · have HKD : Hid (¬ n.log.ents[j].kind = 2) := hkind
        clear hok1 cT cD
        go_wp2
        go_roundw
        case rel => exact ⟨j + 1, by omega, by go_num, by rw [HNX.out, if_neg HKD.out]; exact HOW, HBW, HNW⟩
        case measure => simp [intOf]; omega
    · have HE2 : Hid (j = K) := by show _ = _; omega
      by_cases hjl : j < n.log.ents.length
      · have hk1 : (j : Int) < (n.log.ents.length : Int) := by omega
        have hidx : ¬ n.log.start + 1 + (j : Int) ≤ index := fun h => by have := (upTo_lt hjl).1 h; rw [← HK.out] at this; omega
        go_wp2
        go_ret
        exact ⟨_, rfl, by rw [← HE2.out]; exact HOW.out, HBW.out⟩
      · have hk1 : ¬ (j : Int) < (n.log.ents.length : Int) := by omega
        go_wp2
        go_ret
        exact ⟨_, rfl, by rw [← HE2.out]; exact HOW.out, HBW.out⟩
set_option maxHeartbeats 4000000 in
set_option maxRecDepth 100000 in
theorem specConfOf_is {ca ea va pa : Option Addr} {cc ec vc pc gc oc ge oe : Nat} (n : NodeL) (hok : okL n.log = true) (hcl : n.conf.length ≤ 1048576) (hnil : ca = none → cc = 0) (w : World) (hc : IntAt w ca gc oc n.conf) (he : EnAt w ea ge oe n.log.ents) :
    Calls Try.prog 29 #[.agg #[.int .i64 n.id, .int .i64 n.term, .int .i64 n.vote, .int .i64 n.role, .int .i64 n.lead, .slice ca n.conf.length cc, .int .i64 n.log.start, .int .i64 n.log.sterm, .slice ea n.log.ents.length ec, .int .i64 n.commit, .int .i64 n.clock, .int .i64 n.limit, .slice va n.votes.length vc, .slice pa n.peers.length pc]] w fun e w' => ∃ v, e = .returned v ∧ w'.ownsRow w.heap.size 3 1 v (confL n.conf n.log.ents).length (cellsI (confL n.conf n.log.ents)) ∧ Below w.heap.size w w' := by
  obtain ⟨W, hW⟩ : ∃ W, W = w.alloc (.cells #[.int .i64 n.id, .int .i64 n.term, .int .i64 n.vote, .int .i64 n.role, .int .i64 n.lead, .slice ca n.conf.length cc, .int .i64 n.log.start, .int .i64 n.log.sterm, .slice ea n.log.ents.length ec, .int .i64 n.commit, .int .i64 n.clock, .int .i64 n.limit, .slice va n.votes.length vc, .slice pa n.peers.length pc] 36) := ⟨_, rfl⟩
  have hb : Below w.heap.size w W := by rw [hW]; exact (Below.refl _ _).alloc (Nat.le_refl _) _
  have HB : Hid (Below w.heap.size w W) := hb
  have hu : upTo n.log 100120 = n.log.ents.length := by have := okL_num hok; unfold upTo; split <;> omega
  have HM := specConfAt_is (va := va) (pa := pa) (ec := ec) (vc := vc) (pc := pc) n hok hcl hnil 100120 W (hc.kept hb) (he.kept hb)
  rw [hu, List.take_length] at HM
  have HMM : Hid (Calls Try.prog 46 #[.agg #[.int .i64 n.id, .int .i64 n.term, .int .i64 n.vote, .int .i64 n.role, .int .i64 n.lead, .slice ca n.conf.length cc, .int .i64 n.log.start, .int .i64 n.log.sterm, .slice ea n.log.ents.length ec, .int .i64 n.commit, .int .i64 n.clock, .int .i64 n.limit, .slice va n.votes.length vc, .slice pa n.peers.length pc], .int .i64 100120] W fun e w' => ∃ v, e = .returned v ∧ w'.ownsRow W.heap.size 3 1 v (confL n.conf n.log.ents).length (cellsI (confL n.conf n.log.ents)) ∧ Below W.heap.size W w') := HM
  have NE : Hid ((w.alloc (.cells #[.int .i64 n.id, .int .i64 n.term, .int .i64 n.vote, .int .i64 n.role, .int .i64 n.lead, .slice ca n.conf.length cc, .int .i64 n.log.start, .int .i64 n.log.sterm, .slice ea n.log.ents.length ec, .int .i64 n.commit, .int .i64 n.clock, .int .i64 n.limit, .slice va n.votes.length vc, .slice pa n.peers.length pc] 36)).heap[w.heap.size]? = some (.cells #[.int .i64 n.id, .int .i64 n.term, .int .i64 n.vote, .int .i64 n.role, .int .i64 n.lead, .slice ca n.conf.length cc, .int .i64 n.log.start, .int .i64 n.log.sterm, .slice ea n.log.ents.length ec, .int .i64 n.commit, .int .i64 n.clock, .int .i64 n.limit, .slice va n.votes.length vc, .slice pa n.peers.length pc] 36 (0, 0))) := heap_alloc_new w _
  clear HM hu hb hc he hok hnil
  go_enter Try.func29, Try.ntmps29
  go_wp2_with (first | (refine wpList_loadA Try.isAgg36 Try.sizeOf36 rfl _ rfl (w.heap.size) #[.int .i64 n.id, .int .i64 n.term, .int .i64 n.vote, .int .i64 n.role, .int .i64 n.lead, .slice ca n.conf.length cc, .int .i64 n.log.start, .int .i64 n.log.sterm, .slice ea n.log.ents.length ec, .int .i64 n.commit, .int .i64 n.clock, .int .i64 n.limit, .slice va n.votes.length vc, .slice pa n.peers.length pc] 36 rfl NE.out rfl ?_) | fail)
  rw [← hW]
  clear hW NE
  refine Calls.mono HMM.out ?_
  rintro e w1 ⟨v1, rfl, ho, hb1⟩
  have HO : Hid (w1.ownsRow w.heap.size 3 1 v1 (confL n.conf n.log.ents).length (cellsI (confL n.conf n.log.ents))) := own_mono ho HB.out.size
  have HB1 : Hid (Below w.heap.size w w1) := HB.out.trans (hb1.mono HB.out.size)
  clear ho hb1 HMM
  go_wp2
  go_ret
  exact ⟨_, rfl, HO.out, HB1.out⟩
end Go.Proofs.Ytiifjhalkihlbaa
