/- The program's confOfFirst, walked. Made by program. -/
import Derived.Test.YtiifjhalkihlbaaBackw
import Derived.Test.YtiifjhalkihlbaaNodeW
import Derived.Test.YtiifjhalkihlbaaImplEntA
namespace Go.Proofs.Ytiifjhalkihlbaa
open Go.RowKit Go.Shelf
open Ents (okB confOf)
set_option linter.unusedVariables false
set_option linter.unusedSimpArgs false
attribute [local go_sem] Oper.semAt_some
def confP (pre : List NGood) : List Int := match pre.getLast? with | some x => confOf x.2.1.data | none => []
theorem confP_snoc (pre : List NGood) (x : NGood) : confP (pre ++ [x]) = confOf x.2.1.data := by simp [confP]
/-- The conf that a list leaves, read backward: none of the first k that come is a conf. -/
theorem confL_back {c : List Int} {zs : List GoodE} : ∀ {k : Nat}, k ≤ zs.length → (∀ p ∈ backL zs k, p.2.1.kind ≠ 2) → confL c (zs.map (·.1)) = confL c ((zs.map (·.1)).take (zs.length - k))
  | 0, _, _ => by rw [Nat.sub_zero, List.take_of_length_le (by simp)]
  | k + 1, hk, h => by
    rw [backL_succ (by omega)] at h
    rw [confL_back (k := k) (by omega) (fun p hp => h p (List.mem_append_left _ hp))]
    have e : zs.length - k = (zs.length - (k + 1)) + 1 := by omega
    have hl : zs.length - (k + 1) < (zs.map (·.1)).length := by simp; omega
    rw [e, confL_take hl, if_neg]
    have hq := h _ (List.mem_append_right _ (List.mem_singleton.2 rfl))
    have e2 : zs.length - 1 - k = zs.length - (k + 1) := by omega
    simp only [e2] at hq
    simpa using hq
theorem confL_back0 {c : List Int} {zs : List GoodE} (h : ∀ p ∈ backL zs zs.length, p.2.1.kind ≠ 2) : confL c (zs.map (·.1)) = c := by
  rw [confL_back (Nat.le_refl _) h]; simp [confL]
theorem confL_backx {c : List Int} {zs : List GoodE} {k : Nat} {ini : List NGood} {x : NGood} (hk : k ≤ zs.length) (he : backL zs k = ini ++ [x]) (h : ∀ p ∈ ini, p.2.1.kind ≠ 2) (hx : x.2.1.kind = 2) : confL c (zs.map (·.1)) = confOf x.2.1.data := by
  obtain ⟨k', rfl⟩ : ∃ k', k = k' + 1 := by
    cases k with
    | zero => simp [backL] at he
    | succ k' => exact ⟨k', rfl⟩
  rw [backL_succ (by omega)] at he
  obtain ⟨rfl, e5⟩ := List.append_inj' he rfl
  have e5 : (zs.length - 1 - k', zs[zs.length - 1 - k']'(by omega)) = x := by simpa using e5
  rw [confL_back (k := k') (by omega) h]
  have e : zs.length - k' = (zs.length - (k' + 1)) + 1 := by omega
  have hl : zs.length - (k' + 1) < (zs.map (·.1)).length := by simp; omega
  have e2 : zs.length - 1 - k' = zs.length - (k' + 1) := by omega
  rw [e, confL_take hl]
  rw [← e5] at hx ⊢
  simp only [e2] at hx ⊢
  rw [if_pos (by simpa using hx)]
  simp
theorem own_setB {W : World} {B base : Nat} {t : TypeId} {u u' v : Value} {k : Nat} {xs : List Value} (h : W.ownsRow base 3 1 v k xs) (hb : Boxed W B t u) (ht : t ≠ 3) : (W.setCell ⟨B, 0, none⟩ u').ownsRow base 3 1 v k xs :=
  h.kept (grownBy_setCell' W B u') (by
    rcases h.2 with ⟨rfl, _⟩ | ⟨g, cap, cur, rfl, _, hgb, _⟩
    · exact .inl rfl
    · exact .inr (fun e => (hb.not_row ht h) e.symm))
set_option maxHeartbeats 8000000 in
set_option maxRecDepth 100000 in
theorem confFirst_is {ca ea va pa : Option Addr} {cc ec vc pc gc oc ge oe : Nat} (n : NodeL) (zs : List GoodE) (K : Nat) (hz : zs.map (·.1) = n.log.ents.take K) (hK : K ≤ n.log.ents.length) (hec : n.log.ents.length ≤ ec) (hecm : ec ≤ 9223372036854775807) (hel : n.log.ents.length ≤ 1048576) (hcl : n.conf.length ≤ 1048576) (w : World) (hc : IntAt w ca gc oc n.conf) (he : EnAt w ea ge oe (n.log.ents.take K)) :
    Calls Try.prog 73 #[.agg #[.int .i64 n.id, .int .i64 n.term, .int .i64 n.vote, .int .i64 n.role, .int .i64 n.lead, .slice ca n.conf.length cc, .int .i64 n.log.start, .int .i64 n.log.sterm, .slice ea n.log.ents.length ec, .int .i64 n.commit, .int .i64 n.clock, .int .i64 n.limit, .slice va n.votes.length vc, .slice pa n.peers.length pc], .int .i64 (K : Int)] w fun e w' => ∃ v, e = .returned v ∧ w'.ownsRow w.heap.size 3 1 v (confL n.conf (n.log.ents.take K)).length (cellsI (confL n.conf (n.log.ents.take K))) ∧ Below w.heap.size w w' := by
  have hzl : zs.length = K := by have := congrArg List.length hz; simp at this; omega
  have HCL : Hid (confL n.conf (n.log.ents.take K) = confL n.conf (zs.map (·.1))) := by show _ = _; rw [hz]
  rw [HCL.out]
  rw [← hz] at he
  have HC : Hid (IntAt w ca gc oc n.conf) := hc
  have HE : Hid (EnAt w ea ge oe (zs.map (·.1))) := he
  have HZL : Hid (zs.length = K) := hzl
  clear hc he hz hzl HCL
  refine (callsIn_wide (n := 3)).1 ?_
  refine callsIn_of_wp_marks Try.func73 rfl trivial ?_ rfl
  simp only [Try.ntmps73, List.size_toArray, List.length_cons, List.length_nil, Nat.reduceAdd, Nat.reduceSub, Array.replicate_succ, Array.replicate_zero, List.push_toArray, List.append_toArray, List.nil_append, List.cons_append]
  gi_wp2_with fail
  refine ⟨trivial, ?_⟩
  refine (back_in Fence.wide 2 trivial rfl _ _ _ _).mono ?_
  rintro e w' ⟨rfl, rfl⟩
  gi_wp2
  obtain ⟨W0, hW0⟩ : ∃ W0, W0 = ((w.alloc (.cells #[.int .i64 n.id, .int .i64 n.term, .int .i64 n.vote, .int .i64 n.role, .int .i64 n.lead, .slice ca n.conf.length cc, .int .i64 n.log.start, .int .i64 n.log.sterm, .slice ea n.log.ents.length ec, .int .i64 n.commit, .int .i64 n.clock, .int .i64 n.limit, .slice va n.votes.length vc, .slice pa n.peers.length pc] 36)).alloc (.cells #[.slice none 0 0] 22)).alloc (.cells #[.slice ea K ec] 31) := ⟨_, rfl⟩
  have hb0 : Below w.heap.size w W0 := by rw [hW0]; exact (((Below.refl _ w).alloc (Nat.le_refl _) _).alloc (by simp) _).alloc (by simp; omega) _
  have hs0 : W0.heap.size = w.heap.size + 3 := by rw [hW0]; simp
  have hn5 : W0.cell? ⟨w.heap.size, 5, none⟩ = some (.slice ca n.conf.length cc) := by
    rw [hW0]
    exact ((NodeAt.new w n ca cc ea ec va vc pa pc 36).kept (((Below.refl _ _).alloc (Nat.le_refl _) _).alloc (by simp) _)).c5
  have hR : Boxed W0 (w.heap.size + 1) 22 (.slice none 0 0) := by
    rw [hW0]
    have := Boxed.new (w.alloc (.cells #[.int .i64 n.id, .int .i64 n.term, .int .i64 n.vote, .int .i64 n.role, .int .i64 n.lead, .slice ca n.conf.length cc, .int .i64 n.log.start, .int .i64 n.log.sterm, .slice ea n.log.ents.length ec, .int .i64 n.commit, .int .i64 n.clock, .int .i64 n.limit, .slice va n.votes.length vc, .slice pa n.peers.length pc] 36)) 22 (.slice none 0 0)
    rw [World.size_alloc] at this
    exact this.alloc _
  have hS : W0.cell? ⟨w.heap.size + 1 + 1, 0, none⟩ = some (.slice ea zs.length ec) := by
    rw [hW0, HZL.out]
    have := Boxed.new ((w.alloc (.cells #[.int .i64 n.id, .int .i64 n.term, .int .i64 n.vote, .int .i64 n.role, .int .i64 n.lead, .slice ca n.conf.length cc, .int .i64 n.log.start, .int .i64 n.log.sterm, .slice ea n.log.ents.length ec, .int .i64 n.commit, .int .i64 n.clock, .int .i64 n.limit, .slice va n.votes.length vc, .slice pa n.peers.length pc] 36)).alloc (.cells #[.slice none 0 0] 22)) 31 (.slice ea K ec)
    rw [World.size_alloc, World.size_alloc] at this
    exact this.cell
  rw [← hW0]
  clear hW0
  refine wpIn_rangeFunc_ownH (F := Fence.wide) (n := 3) rfl (by omega) (gf := 94) (lb := #[.pointer (some ⟨w.heap.size + 1 + 1, 0, none⟩)]) rfl trivial (enters_of Try.func94 (by kernel_rfl) rfl)
    (back_stops Fence.wide 2 trivial rfl (by omega) (w.heap.size + 1 + 1) ge oe ec ea zs (by have := HZL.out; omega) W0 hS (HE.out.kept hb0)) belowK_t (belowK_b (Nat.le_refl _)) (Below.refl _ _) (fun _ => rfl)
    (fun pre W => (∀ p ∈ pre, p.2.1.kind ≠ 2) ∧ Below W0.heap.size W0 W)
    (fun c pre W => (c = .ret ∧ ∃ ini x, pre = ini ++ [x] ∧ (∀ p ∈ ini, p.2.1.kind ≠ 2) ∧ x.2.1.kind = 2) ∧ (∃ v, Boxed W (w.heap.size + 1) 22 v ∧ W.ownsRow w.heap.size 3 1 v (confP pre).length (cellsI (confP pre)) ∧ True) ∧ Below w.heap.size w W)
    (OwnFrom.and (ownFrom_pure _ _) (ownFrom_below (Nat.le_refl _) (Nat.le_refl _)))
    (fun c => OwnFrom.and (ownFrom_pure _ _) (OwnFrom.and (Own.from (holdsRow_own _ _ _ _ _ (fun pre => (confP pre).length) (fun pre => cellsI (confP pre)) (fun _ _ => True)) _) (ownFrom_below (Nat.le_refl _) (by omega))))
    ⟨by simp, Below.refl _ _⟩
    (fun x a' W => ∃ Bx, W0.heap.size ≤ Bx ∧ W.heap[Bx]? = some (.cells #[.int .i64 x.2.1.term, .int .i64 x.2.1.kind, .string x.2.1.data] 74 (0, 0)) ∧ a' = { tmps := #[.agg #[.int .i64 n.id, .int .i64 n.term, .int .i64 n.vote, .int .i64 n.role, .int .i64 n.lead, .slice ca n.conf.length cc, .int .i64 n.log.start, .int .i64 n.log.sterm, .slice ea n.log.ents.length ec, .int .i64 n.commit, .int .i64 n.clock, .int .i64 n.limit, .slice va n.votes.length vc, .slice pa n.peers.length pc], .int .i64 (K : Int), .pointer (some ⟨w.heap.size, 0, none⟩), undef, .pointer (some ⟨w.heap.size + 1, 0, none⟩), undef, .pointer (some ⟨Bx, 0, none⟩), undef, undef, .pointer (some ⟨w.heap.size, 6, none⟩), .pointer (some ⟨w.heap.size, 8, none⟩), .slice ea n.log.ents.length ec, .int .i64 (K : Int), .slice ea K ec, .func (.func 94) #[] #[.pointer (some ⟨w.heap.size + 1 + 1, 0, none⟩)], .int .i64 (x.1 : Int), .agg #[.int .i64 x.2.1.term, .int .i64 x.2.1.kind, .string x.2.1.data], undef, undef, undef, undef, undef, undef, undef, undef, undef, undef, undef, undef, undef], defers := [] })
    (fun x a' _ A B row hs hg hr => by
      obtain ⟨Bx, h1, h2, h3⟩ := hs
      refine ⟨Bx, h1, (hg.block Bx (Array.getElem?_eq_some_iff.1 h2).1 (fun e => ?_)).trans h2, h3⟩
      obtain ⟨_, o, ho, hc⟩ := hr Bx e.symm
      rw [h2] at ho; cases ho; cases hc)
    ?assign ?body ?done ?stop
  case assign =>
    rintro l pre x W KK ⟨hi1, hi2⟩ hK
    have hxx : encG x = #[.int .i64 (x.1 : Int), .agg #[.int .i64 x.2.1.term, .int .i64 x.2.1.kind, .string x.2.1.data]] := rfl
    rw [hxx]
    have hsz := hi2.size
    gi_wp2
    refine hK _ _ ((KeepsOthers.alloc _ _).from _) ((Below.refl _ W).alloc hsz _) ⟨hi1, hi2.trans ((Below.refl _ W).alloc hsz _)⟩ ⟨W.heap.size, hsz, World.alloc_heap_new W _, rfl⟩
  case body =>
    rintro l pre x a' W hl ⟨r, hr⟩ ⟨hi1, hi2⟩ ⟨Bx, hBx, hx, rfl⟩ hlt
    have hbw : Below w.heap.size w W := hb0.trans (hi2.mono hb0.size)
    have c1 : W.cell? ⟨Bx, 1, none⟩ = some (.int .i64 x.2.1.kind) := cell_of_row _ _ 1 _ _ _ hx
    have c2 : W.cell? ⟨Bx, 2, none⟩ = some (.string x.2.1.data) := cell_of_row _ _ 2 _ _ _ hx
    have HI : Hid (∀ p ∈ pre, p.2.1.kind ≠ 2) := hi1
    have HR : Hid (Boxed W (w.heap.size + 1) 22 (.slice none 0 0)) := (hi2.block _ hR.lt).trans hR
    have HI2 : Hid (Below W0.heap.size W0 W) := hi2
    clear hi1 hi2 hr hl hR hn5 hS hx
    by_cases hk2 : x.2.1.kind = 2
    · have hok : okB x.2.1 = true := x.2.2
      have HRC : Hid (Calls Try.prog 88 #[.string x.2.1.data] W (RCPost W (confOf x.2.1.data) true)) := implReadConf_is x.2.1.data (by have := (Ents.kind_in (Ents.okB_iff.1 hok).2).2; omega) _ true (conf_read hok hk2) W
      have HK2 : Hid (x.2.1.kind = 2) := hk2
      rw [hk2] at c1
      clear hk2 hok
      gi_wp2_with fail
      refine ⟨trivial, ?_⟩
      refine (CallsIn.inRound l (callsIn_wide.2 HRC.out)).mono ?_
      rintro e w1 ⟨v, rfl, hown, hb1⟩
      have hr1 : Boxed w1 (w.heap.size + 1) 22 (.slice none 0 0) := (hb1.block _ HR.out.lt).trans HR.out
      obtain ⟨a1, cap1, rfl⟩ : ∃ a1 cap1, v = .slice a1 (confOf x.2.1.data).length cap1 := own_slice hown
      have hrc := hr1.cell
      have hrf := hr1.frozen
      have HO : Hid _ := hown
      have HB1 : Hid _ := hb1
      have HR1 : Hid _ := hr1
      clear hown hb1 hr1
      gi_wp2
      have hWs := hbw.size
      refine ⟨KeepsFrom.trans ⟨HB1.out.size, fun k o hk h0 ho => (HB1.out.block k (Array.getElem?_eq_some_iff.1 h0).1).trans h0⟩ ((KeepsOthers.setCell _ _ _).from _), ⟨rfl, pre, x, rfl, HI.out, HK2.out⟩, ⟨_, Boxed.set _ HR1.out, ?_, trivial⟩, ?_⟩
      · rw [confP_snoc]
        exact own_setB (own_mono HO.out hWs) HR1.out (by decide)
      · exact (hbw.trans (HB1.out.mono hWs)).setCell (p := ⟨w.heap.size + 1, 0, none⟩) (by simp) _
    · have HK2 : Hid (x.2.1.kind ≠ 2) := hk2
      gi_wp2
      refine ⟨KeepsFrom.refl _ _, Below.refl _ _, fun p hp => (List.mem_append.1 hp).elim (HI.out p) (fun e => by simp at e; subst e; exact HK2.out), HI2.out⟩
  case done =>
    rintro D xs W hD rfl ⟨hi1, hi2⟩ hKd
    have hbw : Below w.heap.size w W := hb0.trans (hi2.mono hb0.size)
    have h5 : W.cell? ⟨w.heap.size, 5, none⟩ = some (.slice ca n.conf.length cc) := (hi2.cell (p := ⟨w.heap.size, 5, none⟩) (by show w.heap.size < _; omega)).trans hn5
    have HR : Hid (Boxed W (w.heap.size + 1) 22 (.slice none 0 0)) := (hi2.block _ hR.lt).trans hR
    have HCL : Hid (Calls Try.prog 66 #[.slice ca n.conf.length cc] W fun e w' => ∃ v', e = .returned v' ∧ w'.ownsRow W.heap.size 3 1 v' n.conf.length (cellsI n.conf) ∧ Below W.heap.size W w') := cloneI_is n.conf hcl W (HC.out.kept hbw)
    have HI : Hid (confL n.conf (zs.map (·.1)) = n.conf) := confL_back0 hi1
    have HKD : Hid (W.heap[D]? = some (Obj.deferred (some []))) := hKd
    clear hi1 hi2 hR hn5 hS hKd
    gi_wp2_with fail
    refine ⟨trivial, ?_⟩
    refine (callsIn_wide.2 HCL.out).mono ?_
    rintro e w1 ⟨v, rfl, hown, hb1⟩
    have hr1 : Boxed w1 (w.heap.size + 1) 22 (.slice none 0 0) := (hb1.block _ HR.out.lt).trans HR.out
    obtain ⟨a1, cap1, rfl⟩ : ∃ a1 cap1, v = .slice a1 n.conf.length cap1 := own_slice hown
    have hrc := hr1.cell
    have hrf := hr1.frozen
    have HO : Hid _ := hown
    have HB1 : Hid _ := hb1
    have HR1 : Hid _ := hr1
    clear hown hb1 hr1
    gi_wp2
    have hWs := hbw.size
    have hK1 : w1.heap[D]? = some (Obj.deferred (some [])) := (HB1.out.block D (Array.getElem?_eq_some_iff.1 HKD.out).1).trans HKD.out
    have hK' := (KeepsOthers.setCell w1 ⟨w.heap.size + 1, 0, none⟩ (.slice a1 n.conf.length cap1)).same D _ hK1 rfl
    refine ⟨by simp, .inl ⟨_, _, rfl, run_takeDeferred hK', ?_⟩⟩
    have hc5 := cell_kept (Boxed.set (.slice a1 n.conf.length cap1) HR1.out).cell (grownBy_putObj' _ D (.deferred none)) (fun r e => by cases e; exact ⟨_, hK', rfl⟩)
    refine ⟨.slice a1 n.conf.length cap1, ?_, _, rfl, ?_, ?_⟩
    · simp [results, Try.f73, go_sem, hc5]
    · rw [HI.out]
      exact ownsRow_putObj (own_setB (own_mono HO.out hWs) HR1.out (by decide)) _ hK' rfl
    · exact ((hbw.trans (HB1.out.mono hWs)).setCell (p := ⟨w.heap.size + 1, 0, none⟩) (by simp) _).trans (belowK_b (w := w) (Nat.le_refl _) _ D _ _ (by omega) hK' rfl rfl)
  case stop =>
    rintro D c pre W hD ⟨k, hk, rfl⟩ ⟨⟨rfl, ini, x, he1, he2, he3⟩, ⟨v, hv, hown, _⟩, hB⟩ hKd
    have HI : Hid (confL n.conf (zs.map (·.1)) = confP (backL zs k)) := by show _ = _; rw [confL_backx hk he1 he2 he3, he1, confP_snoc]
    clear he1 he2 he3 hR hn5 hS
    gi_wp2
    refine ⟨by simp, .inl ⟨_, _, rfl, run_takeDeferred hKd, ?_⟩⟩
    have hc5 := cell_kept hv.cell (grownBy_putObj' _ D (.deferred none)) (fun r e => by cases e; exact ⟨_, hKd, rfl⟩)
    refine ⟨v, ?_, _, rfl, ?_, hB.trans (belowK_b (w := w) (Nat.le_refl _) W D _ _ (by omega) hKd rfl rfl)⟩
    · simp [results, Try.f73, go_sem, hc5]
    · rw [HI.out]
      exact ownsRow_putObj hown _ hKd rfl
end Go.Proofs.Ytiifjhalkihlbaa
