/- The law of a log that begins behind one of its entries, walked. -/
import Derived.Test.YtahpoemmlpbgdaaMathBeh
import Derived.Test.YtahpoemmlpbgdaaDrawPlaces
import Derived.Test.YtahpoemmlpbgdaaImplBehind
import Derived.Laws.StructEq
namespace Go.Proofs.Ytahpoemmlpbgdaa
open Go.RowKit
open Logs (okL lastT)
set_option linter.unusedVariables false
set_option linter.unusedSimpArgs false

set_option maxHeartbeats 1000000 in
theorem lastOf_is {a : Option Addr} {cap : Nat} (l : LogL) (h0 : 0 ≤ l.start) (h1 : l.start ≤ 1000) (h2 : l.ents.length ≤ 1000) (w : World) :
    Calls Try.prog 20 #[logV l a cap] w fun en w' => en = .returned (.int .i64 (l.start + (l.ents.length : Int))) ∧ Below w.heap.size w w' := by
  unfold logV
  have HB : Hid (Below w.heap.size w (w.alloc (Obj.cells #[.int .i64 l.start, .int .i64 l.sterm, .slice a l.ents.length cap] 29))) := (Below.refl _ _).alloc (Nat.le_refl _) _
  go_enter Try.func20, Try.ntmps20
  go_wp2
  go_ret
  exact ⟨rfl, HB.out⟩
/-- What the law holds: the log, the log behind, both in variables and rows of its own. -/
structure BS (w : World) (lb bb : Nat) (l : LogL) (va : Option Addr) (gl vc : Nat) (m : LogL) (ba : Option Addr) (gb bc : Nat) (W : World) : Prop where
  xl : W.heap[lb]? = some (.cells #[.int .i64 l.start, .int .i64 l.sterm, .slice va l.ents.length vc] 29 (0, 0))
  xb : W.heap[bb]? = some (.cells #[.int .i64 m.start, .int .i64 m.sterm, .slice ba m.ents.length bc] 29 (0, 0))
  el : EnAt W va gl 0 l.ents
  eb : EnAt W ba gb 0 m.ents
  bel : Below w.heap.size w W
theorem BS.same {w W W' : World} {lb bb gl vc gb bc : Nat} {l m : LogL} {va ba : Option Addr} (h : BS w lb bb l va gl vc m ba gb bc W) (hb : Below W.heap.size W W') : BS w lb bb l va gl vc m ba gb bc W' :=
  ⟨(hb.block _ (Array.getElem?_eq_some_iff.1 h.xl).1).trans h.xl, (hb.block _ (Array.getElem?_eq_some_iff.1 h.xb).1).trans h.xb, h.el.kept hb, h.eb.kept hb, h.bel.trans (hb.mono h.bel.size)⟩
theorem en_of {w : World} {base : Nat} {a : Option Addr} {c n : Nat} {es : List EntL} (h : w.ownsRow base 46 3 (.slice a n c) es.length (cellsEn es)) : ∃ g, EnAt w a g 0 es := by
  obtain ⟨a3, g3, c3, e3, h3⟩ := cellsEn_slice h
  simp only [Value.slice.injEq] at e3
  obtain ⟨rfl, _, rfl⟩ := e3
  exact ⟨g3, h3⟩
theorem cap_of {w : World} {base : Nat} {a : Option Addr} {c : Nat} {es : List EntL} (h : w.ownsRow base 46 3 (.slice a es.length c) es.length (cellsEn es)) : es.length ≤ c := by
  rcases h.2 with ⟨h1, h2⟩ | ⟨g, c', cur, h1, _, _, h2, _⟩
  · omega
  · simp at h1; omega
theorem step_call1R {P : Program} {ops : Array Oper} {o : Oper} {a : Act} {w : World} {K : Act → World → Prop} {Q : Exit → Act → World → Prop} {E : Prop} (hgd : o.guard = none) (f : Nat) (x : Operand) (t1 : TypeId)
    (ho : o.op = .call { callee := .value (.func f), args := #[x], argTypes := #[t1] }) (v1 : Value) (hx : a.eval x = v1) (R : Value → World → Prop) (hcf : ∀ w, (callFunc f #[v1]).run P w = .ok (.enter f #[v1]) w)
    (hc : Calls P f #[v1] w fun e w' => ∃ u, e = .returned u ∧ R u w') (h : ∀ u w', R u w' → K (a.put o.dst u) w') : if Region.wanted o (yielded ops a.tmps) = true then Oper.wp P o a w K Q else E := by
  have hw : Region.wanted o (yielded ops a.tmps) = true := by simp [Region.wanted, hgd]
  rw [if_pos hw]
  unfold Oper.wp
  have hf : a.eval (.func f) = .func (.func f) #[] #[] := rfl
  simp [execOp, ho, resolve, invoke, hf, hx, hcf, Deferred.ofValue, Oper.upon]
  refine hc.mono ?_
  rintro e w' ⟨u, rfl, hr⟩
  exact h u w' hr
/-- The fifth of twelve numbers, and what is left of it. -/
theorem place4 {w : World} {base : Nat} {pv : Value} {P : List Int} (n : Nat) (h1 : P.length = 12) (h2 : ∀ x ∈ P, 0 ≤ x ∧ x < 10000) (h3 : w.ownsRow base 3 1 pv 12 (cellsI P)) :
    ∃ (pg pc : Nat) (x : Int) (kk : Nat), pv = .slice (some ⟨pg, 0, none⟩) 12 pc ∧ w.cell? ⟨pg, 4, none⟩ = some (.int .i64 x) ∧ kk ≤ n ∧ x.tmod ((n : Int) + 1) = (kk : Int) ∧ 0 ≤ x ∧ x ≤ 10000 := by
  obtain ⟨pa, pc, rfl⟩ := own_slice h3
  obtain ⟨pg, hpg⟩ : ∃ pg : Nat, pa = some ⟨pg, 0, none⟩ := by
    rcases h3.2 with ⟨_, h⟩ | ⟨g, c, cur, h, _⟩
    · cases h
    · simp at h; exact ⟨g, h.1⟩
  subst hpg
  have h4 : 4 < P.length := by omega
  have hx := h2 P[4] (List.getElem_mem h4)
  obtain ⟨x, hxx⟩ : ∃ x, x = P[4] := ⟨_, rfl⟩
  rw [← hxx] at hx
  refine ⟨pg, pc, x, (x % ((n : Int) + 1)).toNat, rfl, ?_, ?_, ?_, hx.1, by omega⟩
  · have := h3.cellAt 4 (by omega)
    rw [this, hxx]
    simp [cellsI, h4]
  · have := Int.emod_lt_of_pos x (show (0 : Int) < (n : Int) + 1 by omega)
    have := Int.emod_nonneg x (show (n : Int) + 1 ≠ 0 by omega)
    omega
  · rw [Int.tmod_eq_emod_of_nonneg hx.1]
    have := Int.emod_nonneg x (show (n : Int) + 1 ≠ 0 by omega)
    omega
set_option maxHeartbeats 8000000 in
set_option maxRecDepth 100000 in
theorem lawBeh_any {cap len b off : Nat} {a : Option Addr} {z : Nat → Int} (w : World) (hc : Code w.heap.size w a len b off z) :
    Calls Try.prog 5 #[.slice a len cap] w fun en w' => en = .returned (.bool true) ∧ Below w.heap.size w w' := by
  have hl : len ≤ 1048576 := hc.2.1
  have HC : Hid (Calls Try.prog 16 #[.slice a len cap] w (LogsPost w)) := logs_any w (Nat.le_refl _) hc
  have HCD : Hid (Code w.heap.size w a len b off z) := hc
  clear hc
  go_enter Try.func5, Try.ntmps5
  go_wp2_with fail
  refine (big_no a len cap hl _).mono ?_
  rintro e w0 ⟨rfl, rfl⟩
  go_wp2_with fail
  refine Calls.mono HC.out ?_
  rintro e w1 ⟨F, R, l, m, v, u, rfl, _, hL, hM, ho, hu, hb1⟩
  obtain ⟨va, vc, rfl⟩ := own_slice ho
  obtain ⟨ua, uc, rfl⟩ := own_slice hu
  obtain ⟨lb, hlb⟩ : ∃ lb, lb = w1.heap.size := ⟨_, rfl⟩
  obtain ⟨W2, hW2⟩ : ∃ W2, W2 = (w1.alloc (Obj.cells #[.int .i64 l.start, .int .i64 l.sterm, .slice va l.ents.length vc] 29)).alloc (Obj.cells #[.int .i64 m.start, .int .i64 m.sterm, .slice ua m.ents.length uc] 29) := ⟨_, rfl⟩
  have hb2 : Below w1.heap.size w1 W2 := by rw [hW2]; exact ((Below.refl _ _).alloc (Nat.le_refl _) _).alloc (by simp) _
  have hx2 : W2.heap[lb]? = some (.cells #[.int .i64 l.start, .int .i64 l.sterm, .slice va l.ents.length vc] 29 (0, 0)) := by
    rw [hW2, hlb, Below.heap_alloc _ _ _ (by simp)]
    exact heap_alloc_new w1 _
  obtain ⟨gl, hen⟩ := en_of ho
  have hcap := cap_of ho
  have HL : Hid (LogIs l) := hL
  have HB2 : Hid (Below w.heap.size w W2) := hb1.trans (hb2.mono hb1.size)
  have HX2 : Hid (W2.heap[lb]? = some (.cells #[.int .i64 l.start, .int .i64 l.sterm, .slice va l.ents.length vc] 29 (0, 0))) := hx2
  have HE2 : Hid (EnAt W2 va gl 0 l.ents) := hen.kept hb2
  have hs := hL.1
  have hn := hL.2.2.1
  clear ho hu hb1 hb2 hx2 hen hL hM HC
  go_wp2_with fail
  rw [← hW2, ← hlb]
  clear hW2 hlb
  have HPL : Hid (∀ X, Below W2.heap.size W2 X → Calls Try.prog 17 #[.slice a len cap] X fun e w' => ∃ (pv : Value) (P : List Int), e = .returned pv ∧ P.length = 12 ∧ (∀ x ∈ P, 0 ≤ x ∧ x < 10000) ∧ w'.ownsRow X.heap.size 3 1 pv 12 (cellsI P) ∧ Below X.heap.size X w') := fun X h =>
    drawPlaces_any X (Nat.le_trans HB2.out.size h.size) (HCD.out.below (HB2.out.trans (h.mono HB2.out.size)))
  have HLA : Hid (∀ X, Below W2.heap.size W2 X → X.cell? ⟨lb, 0, none⟩ = some (.int .i64 l.start) ∧ X.cell? ⟨lb, 2, none⟩ = some (.slice va l.ents.length vc)) := fun X h => by
    have hx := (h.block _ (Array.getElem?_eq_some_iff.1 HX2.out).1).trans HX2.out
    exact ⟨cell_of_row _ _ 0 _ _ _ hx, cell_of_row _ _ 2 _ _ _ hx⟩
  have HK : Hid (∀ X X' : World, Below W2.heap.size W2 X → Below X.heap.size X X' → Below W2.heap.size W2 X') := fun X X' a b => a.trans (b.mono a.size)
  have BD : Below W2.heap.size W2 W2.drew := (Below.refl _ _).drew
  have n0 : (((l.ents.length : Int) + 1) == 0) = false := by simp; omega
  go_cut [6] (fun kv wx => ∃ kk : Nat, kk ≤ l.ents.length ∧ kv = .int .i64 (l.start + (kk : Int)) ∧ Below W2.heap.size W2 wx)
  case first =>
    have hS0 : W2.drew.heap[lb]? = some (.cells #[.int .i64 l.start, .int .i64 l.sterm, .slice va l.ents.length vc] 29 (0, 0)) := HX2.out
    refine wp_region_last (S := fun X => X.heap[lb]? = some (.cells #[.int .i64 l.start, .int .i64 l.sterm, .slice va l.ents.length vc] 29 (0, 0))) (by kernel_rfl) (by kernel_rfl) hS0 (fun _ => ?_)
    simp only [List.dropLast, List.length_cons, List.length_nil, Nat.zero_add, Nat.reduceAdd, Nat.add_one_sub_one, Nat.reduceSub]
    refine wpAnyH_take (i := 0) (v := .pointer (some ⟨lb, 0, none⟩)) rfl (by kernel_rfl) (by kernel_rfl) (by kernel_rfl) (fun _ _ _ h => h) (Or.inl ⟨by rfl, fun X hX => by go_simp⟩) hS0 ?_
    try simp only [Act.put, List.setIfInBounds_toArray, List.set_cons_zero, List.set_cons_succ, List.getElem_toArray, List.getElem_cons_zero, List.getElem_cons_succ]
    refine wpAnyH_take (i := 1) (v := .int .i64 l.start) rfl (by kernel_rfl) (by kernel_rfl) (by kernel_rfl) (fun _ _ _ h => h) (Or.inl ⟨by rfl, fun X hX => by have z0 := cell_of_row _ _ 0 _ _ _ hX; simp at z0; go_simp⟩) hS0 ?_
    try simp only [Act.put, List.setIfInBounds_toArray, List.set_cons_zero, List.set_cons_succ, List.getElem_toArray, List.getElem_cons_zero, List.getElem_cons_succ]
    refine wpAnyH_take (i := 2) (v := .slice a len cap) rfl (by kernel_rfl) (by kernel_rfl) (by kernel_rfl) (fun _ _ _ h => h) (Or.inl ⟨by rfl, fun X hX => by go_simp⟩) hS0 ?_
    try simp only [Act.put, List.setIfInBounds_toArray, List.set_cons_zero, List.set_cons_succ, List.getElem_toArray, List.getElem_cons_zero, List.getElem_cons_succ]
    refine wpAnyH_take (i := 6) (v := .pointer (some ⟨lb, 2, none⟩)) rfl (by kernel_rfl) (by kernel_rfl) (by kernel_rfl) (fun _ _ _ h => h) (Or.inl ⟨by rfl, fun X hX => by go_simp⟩) hS0 ?_
    try simp only [Act.put, List.setIfInBounds_toArray, List.set_cons_zero, List.set_cons_succ, List.getElem_toArray, List.getElem_cons_zero, List.getElem_cons_succ]
    refine wpAnyH_take (i := 7) (v := .slice va l.ents.length vc) rfl (by kernel_rfl) (by kernel_rfl) (by kernel_rfl) (fun _ _ _ h => h) (Or.inl ⟨by rfl, fun X hX => by have z2 := cell_of_row _ _ 2 _ _ _ hX; simp at z2; go_simp⟩) hS0 ?_
    try simp only [Act.put, List.setIfInBounds_toArray, List.set_cons_zero, List.set_cons_succ, List.getElem_toArray, List.getElem_cons_zero, List.getElem_cons_succ]
    refine wpAnyH_take (i := 8) (v := .int .i64 (l.ents.length : Int)) rfl (by kernel_rfl) (by kernel_rfl) (by kernel_rfl) (fun _ _ _ h => h) (Or.inl ⟨by rfl, fun X hX => by go_simp⟩) hS0 ?_
    try simp only [Act.put, List.setIfInBounds_toArray, List.set_cons_zero, List.set_cons_succ, List.getElem_toArray, List.getElem_cons_zero, List.getElem_cons_succ]
    refine wpAnyH_take (i := 9) (v := .int .i64 ((l.ents.length : Int) + 1)) rfl (by kernel_rfl) (by kernel_rfl) (by kernel_rfl) (fun _ _ _ h => h) (Or.inl ⟨by rfl, fun X hX => by go_simp; exact wrap_small (by omega) (by omega)⟩) hS0 ?_
    try simp only [Act.put, List.setIfInBounds_toArray, List.set_cons_zero, List.set_cons_succ, List.getElem_toArray, List.getElem_cons_zero, List.getElem_cons_succ]
    refine wpAnyH_ready (rs := [3]) (by kernel_rfl) (by simp) ?_
    refine AllReadyH.cons rfl (fun K hK => ?_) AllReadyH.nil
    refine step_call1R (by with_unfolding_all rfl) 17 _ 35 (by with_unfolding_all rfl) (.slice a len cap) (by with_unfolding_all rfl) (fun pv w' => ∃ (P : List Int), P.length = 12 ∧ (∀ x ∈ P, 0 ≤ x ∧ x < 10000) ∧ w'.ownsRow W2.drew.heap.size 3 1 pv 12 (cellsI P) ∧ Below W2.drew.heap.size W2.drew w') (fun w => by kernel_rfl) ((HPL.out _ BD).mono (fun e w' ⟨pv, P, q1, q2⟩ => ⟨_, q1, P, q2⟩)) ?_
    rintro pv w5 ⟨P, hp1, hp2, hp3, hb5⟩
    obtain ⟨pg, pc, x4, kk, hpv, hx4, hkk, hx5, hx6, hx7⟩ := place4 l.ents.length hp1 hp2 hp3
    subst hpv
    have HB5 : Hid (Below W2.heap.size W2 w5) := HK.out _ _ BD hb5
    have HX5 : Hid (w5.heap[lb]? = some (.cells #[.int .i64 l.start, .int .i64 l.sterm, .slice va l.ents.length vc] 29 (0, 0))) := (HB5.out.block _ (Array.getElem?_eq_some_iff.1 HX2.out).1).trans HX2.out
    clear hb5 hp1 hp2 hp3
    refine hK.out _ _ HX5.out (fun _ => ?_)
    clear hK K
    try simp only [Act.put, List.setIfInBounds_toArray, List.set_cons_zero, List.set_cons_succ, List.getElem_toArray, List.getElem_cons_zero, List.getElem_cons_succ]
    refine wpAnyH_ready (rs := [4]) (by kernel_rfl) (by simp) ?_
    refine AllReadyH.cons rfl (fun K hK => ?_) AllReadyH.nil
    go_simp
    refine hK.out _ _ HX5.out (fun _ => ?_)
    clear hK K
    try simp only [Act.put, List.setIfInBounds_toArray, List.set_cons_zero, List.set_cons_succ, List.getElem_toArray, List.getElem_cons_zero, List.getElem_cons_succ]
    refine wpAnyH_ready (rs := [5]) (by kernel_rfl) (by simp) ?_
    refine AllReadyH.cons rfl (fun K hK => ?_) AllReadyH.nil
    go_simp
    refine hK.out _ _ HX5.out (fun _ => ?_)
    clear hK K
    try simp only [Act.put, List.setIfInBounds_toArray, List.set_cons_zero, List.set_cons_succ, List.getElem_toArray, List.getElem_cons_zero, List.getElem_cons_succ]
    refine wpAnyH_ready (rs := [10]) (by kernel_rfl) (by simp) ?_
    refine AllReadyH.cons rfl (fun K hK => ?_) AllReadyH.nil
    go_simp
    refine hK.out _ _ HX5.out (fun _ => ?_)
    clear hK K
    try simp only [Act.put, List.setIfInBounds_toArray, List.set_cons_zero, List.set_cons_succ, List.getElem_toArray, List.getElem_cons_zero, List.getElem_cons_succ]
    refine wpAnyH_ready (rs := [11]) (by kernel_rfl) (by simp) ?_
    refine AllReadyH.cons rfl (fun K hK => ?_) AllReadyH.nil
    go_simp
    refine hK.out _ _ HX5.out (fun _ => ?_)
    clear hK K
    try simp only [Act.put, List.setIfInBounds_toArray, List.set_cons_zero, List.set_cons_succ, List.getElem_toArray, List.getElem_cons_zero, List.getElem_cons_succ]
    refine wpAnyH_done (by kernel_rfl) ?_ _
    dsimp only [NX]
    refine wpOp_step rfl (fun K hK => ?_)
    go_simp
    refine hK _ _ ?_
    clear hK K
    rw [wrap_small (x := l.start + (kk : Int)) (by omega) (by omega)]
    go_wp2_with fail
    go_meet
    case rel => exact ⟨kk, hkk, rfl, HB5.out⟩
  case rest =>
    obtain ⟨kk, hkk, rfl, hwc⟩ := hcut
    have HBC : Hid (Below W2.heap.size W2 wc) := hwc
    have HXC : Hid (wc.heap[lb]? = some (.cells #[.int .i64 l.start, .int .i64 l.sterm, .slice va l.ents.length vc] 29 (0, 0))) := (hwc.block _ (Array.getElem?_eq_some_iff.1 HX2.out).1).trans HX2.out
    have HEC : Hid (EnAt wc va gl 0 l.ents) := HE2.out.kept hwc
    have HBW : Hid (Below w.heap.size w wc) := HB2.out.trans (hwc.mono HB2.out.size)
    clear hwc HLA HPL HK BD HX2 HE2 HB2 HCD
    obtain ⟨T, hT⟩ : ∃ T, T = termAt l kk := ⟨_, rfl⟩
    obtain ⟨k, hk⟩ : ∃ k, k = l.start + (kk : Int) := ⟨_, rfl⟩
    obtain ⟨r, hr⟩ : ∃ r, r = l.ents.drop kk := ⟨_, rfl⟩
    have hrl : r.length = l.ents.length - kk := by rw [hr]; exact List.length_drop ..
    have hmB : behB l kk = ⟨k, T, r⟩ := by rw [hk, hT, hr]; rfl
    obtain ⟨⟨tt0, tt1⟩, td⟩ := termAt_in HL.out hkk
    rw [← hT] at tt0 tt1 td
    rw [← hr] at td
    have HTD : Hid (Drawn T 100 r) := td
    have HQ1 : Hid (∀ X, EnAt X va gl 0 l.ents → Calls Try.prog 9 #[.agg #[.int .i64 l.start, .int .i64 l.sterm, .slice va l.ents.length vc], .int .i64 k] X fun en w' => en = .returned (.int .i64 T) ∧ Below X.heap.size X w') := fun X h => by
      have := implTerm_is (cap := vc) l (by omega) hs.1 (by omega) k ⟨by omega, by omega⟩ X h
      rw [hk, termI_at hs.1 (by omega) (by omega) hkk, ← hT, ← hk] at this
      exact this
    have HQ2 : Hid (∀ X, EnAt X va gl 0 l.ents → Calls Try.prog 12 #[.agg #[.int .i64 l.start, .int .i64 l.sterm, .slice va l.ents.length vc], .int .i64 k, .int .i64 T] X (BehindPost X k T r)) := fun X h => by
      have := implBehind_is (cap := vc) l (by omega) hcap (fun e he => by have := HL.out.2.2.2.da e he; omega) k T ⟨by omega, by omega⟩ X h
      rw [show behindL l k T = r by rw [hk, hr]; exact behindL_at HL.out hkk T hT] at this
      exact this
    have HQ3 : Hid (∀ X, EnAt X va gl 0 l.ents → Calls Try.prog 12 #[.agg #[.int .i64 l.start, .int .i64 l.sterm, .slice va l.ents.length vc], .int .i64 k, .int .i64 (T + 1)] X (BehindPost X k (T + 1) [])) := fun X h => by
      have := implBehind_is (cap := vc) l (by omega) hcap (fun e he => by have := HL.out.2.2.2.da e he; omega) k (T + 1) ⟨by omega, by omega⟩ X h
      rw [show behindL l k (T + 1) = [] by rw [hk]; exact behindL_off HL.out hkk T hT] at this
      exact this
    obtain ⟨LX, hLX⟩ : ∃ x, x = (if l.ents.length = 0 then l.start else lastI l) := ⟨_, rfl⟩
    obtain ⟨LY, hLY⟩ : ∃ y, y = lastT l := ⟨_, rfl⟩
    have HQ4 : Hid (∀ X, EnAt X va gl 0 l.ents → Calls Try.prog 18 #[.agg #[.int .i64 l.start, .int .i64 l.sterm, .slice va l.ents.length vc]] X fun en w' => en = .returned (.tuple #[.int .i64 LX, .int .i64 LY]) ∧ Below X.heap.size X w') := fun X h => by
      rw [hLX, hLY]; exact implLast_is (cap := vc) l (by omega) X h
    have HQ5 : Hid (∀ X ba gb bc, EnAt X ba gb 0 r → Calls Try.prog 18 #[.agg #[.int .i64 k, .int .i64 T, .slice ba r.length bc]] X fun en w' => en = .returned (.tuple #[.int .i64 LX, .int .i64 LY]) ∧ Below X.heap.size X w') := fun X ba gb bc h => by
      have h1 := behB_last HL.out hkk
      have h2 := behB_lastT HL.out hkk
      rw [hmB] at h1 h2
      rw [hLX, hLY, ← h1, ← h2]
      exact implLast_is (cap := bc) ⟨k, T, r⟩ (by show r.length ≤ _; omega) X h
    have HQ6 : Hid (∀ X ba gb bc, EnAt X ba gb 0 r → Calls Try.prog 19 #[.agg #[.int .i64 k, .int .i64 T, .slice ba r.length bc]] X fun en w' => en = .returned (.bool true) ∧ Below X.heap.size X w') := fun X ba gb bc h => by
      have h1 := behB_ok HL.out hkk
      rw [hmB] at h1
      rw [← h1]
      exact implLogOk_is (cap := bc) ⟨k, T, r⟩ (by show r.length ≤ _; omega) (fun e he => by have := HTD.out.da e he; omega) X h
    have HQ7 : Hid (∀ X, EnAt X va gl 0 l.ents → Calls Try.prog 20 #[.agg #[.int .i64 l.start, .int .i64 l.sterm, .slice va l.ents.length vc]] X fun en w' => en = .returned (.int .i64 (l.start + (l.ents.length : Int))) ∧ Below X.heap.size X w') := fun X _ => lastOf_is l hs.1 (by omega) (by omega) X
    have HQ8 : Hid (∀ (j : Nat) (I : Int), I = l.start + (j : Int) → kk ≤ j → j ≤ l.ents.length → ∃ t : Int, ∀ X, EnAt X va gl 0 l.ents → (Calls Try.prog 9 #[.agg #[.int .i64 l.start, .int .i64 l.sterm, .slice va l.ents.length vc], .int .i64 I] X (fun en w' => en = .returned (.int .i64 t) ∧ Below X.heap.size X w') ∧ ∀ ba gb bc, EnAt X ba gb 0 r → Calls Try.prog 9 #[.agg #[.int .i64 k, .int .i64 T, .slice ba r.length bc], .int .i64 I] X (fun en w' => en = .returned (.int .i64 t) ∧ Below X.heap.size X w'))) := fun j I hI h1 h2 => by
      have ht := behB_term HL.out h1 h2
      rw [hmB] at ht
      refine ⟨termI l (l.start + (j : Int)), fun X h3 => ⟨?_, fun ba gb bc h4 => ?_⟩⟩
      · rw [hI]; exact implTerm_is (cap := vc) l (by omega) hs.1 (by omega) _ ⟨by omega, by omega⟩ X h3
      · rw [← ht, hI]
        exact implTerm_is (cap := bc) ⟨k, T, r⟩ (by show r.length ≤ _; omega) (by show 0 ≤ k; omega) (by show k ≤ _; omega) _ ⟨by omega, by omega⟩ X h4
    have HGE : Hid (∀ (j : Nat), kk < j → j ≤ l.ents.length → ∃ (h1 : j - kk - 1 < r.length) (h2 : j - 1 < l.ents.length), r[j - kk - 1] = l.ents[j - 1]) := fun j h1 h2 => by
      refine ⟨by omega, by omega, ?_⟩
      subst hr
      rw [List.getElem_drop]
      have e : kk + (j - kk - 1) = j - 1 := by omega
      simp only [e]
    have HKK : Hid (k = l.start + (kk : Int)) := hk
    rw [← hk]
    have HRL : Hid (r.length = l.ents.length - kk) := hrl
    clear hT hLX hLY hmB td hr hk hrl
    go_wp2_with (first | (refine wpList_loadA Try.isAgg29 Try.sizeOf29 rfl _ rfl lb #[.int .i64 l.start, .int .i64 l.sterm, .slice va l.ents.length vc] 29 rfl HXC.out rfl ?_) | fail)
    refine Calls.mono (HQ1.out _ HEC.out) ?_
    rintro e w6 ⟨rfl, hb6⟩
    have HX6 : Hid (w6.heap[lb]? = some (.cells #[.int .i64 l.start, .int .i64 l.sterm, .slice va l.ents.length vc] 29 (0, 0))) := (hb6.block _ (Array.getElem?_eq_some_iff.1 HXC.out).1).trans HXC.out
    have HE6 : Hid (EnAt w6 va gl 0 l.ents) := HEC.out.kept hb6
    have HB6 : Hid (Below w.heap.size w w6) := HBW.out.trans (hb6.mono HBW.out.size)
    clear hb6 HXC HEC HBW HBC HQ1
    go_wp2_with (first | (refine wpList_loadA Try.isAgg29 Try.sizeOf29 rfl _ rfl lb #[.int .i64 l.start, .int .i64 l.sterm, .slice va l.ents.length vc] 29 rfl HX6.out rfl ?_) | fail)
    refine Calls.mono (HQ2.out _ HE6.out) ?_
    rintro e w7 ⟨v7, rfl, ho7, hb7⟩
    obtain ⟨ba, bc, rfl⟩ := own_slice ho7
    obtain ⟨gb, hen7⟩ := en_of ho7
    obtain ⟨W8, hW8⟩ : ∃ W8, W8 = w7.alloc (Obj.cells #[.int .i64 k, .int .i64 T, .slice ba r.length bc] 29) := ⟨_, rfl⟩
    obtain ⟨bb, hbb⟩ : ∃ bb, bb = w7.heap.size := ⟨_, rfl⟩
    have HS8 : Hid (BS w lb bb l va gl vc ⟨k, T, r⟩ ba gb bc W8) := by
      have hb8 : Below w7.heap.size w7 W8 := by rw [hW8]; exact (Below.refl _ _).alloc (Nat.le_refl _) _
      have hb68 : Below w6.heap.size w6 W8 := hb7.trans (hb8.mono hb7.size)
      exact ⟨(hb68.block _ (Array.getElem?_eq_some_iff.1 HX6.out).1).trans HX6.out, by rw [hW8, hbb]; exact heap_alloc_new w7 _, HE6.out.kept hb68, hen7.kept hb8, HB6.out.trans (hb68.mono HB6.out.size)⟩
    have HX8 : Hid (W8.heap[lb]? = some (.cells #[.int .i64 l.start, .int .i64 l.sterm, .slice va l.ents.length vc] 29 (0, 0))) := HS8.out.xl
    rw [hW8] at HX8
    clear ho7 hb7 hen7 HX6 HE6 HB6 HQ2
    go_wp2_with (first | (refine wpList_loadA Try.isAgg29 Try.sizeOf29 rfl _ rfl lb #[.int .i64 l.start, .int .i64 l.sterm, .slice va l.ents.length vc] 29 rfl HX8.out rfl ?_) | fail)
    rw [← hW8, ← hbb]
    clear hW8 hbb HX8
    refine Calls.mono (HQ4.out _ HS8.out.el) ?_
    rintro e w9 ⟨rfl, hb9⟩
    have HS9 : Hid (BS w lb bb l va gl vc ⟨k, T, r⟩ ba gb bc w9) := HS8.out.same hb9
    clear hb9 HS8 HQ4
    go_wp2_with (first | (refine wpList_loadA Try.isAgg29 Try.sizeOf29 rfl _ rfl bb #[.int .i64 k, .int .i64 T, .slice ba r.length bc] 29 rfl HS9.out.xb rfl ?_) | fail)
    refine Calls.mono (HQ5.out _ _ _ _ HS9.out.eb) ?_
    rintro e w10 ⟨rfl, hb10⟩
    have HS10 : Hid (BS w lb bb l va gl vc ⟨k, T, r⟩ ba gb bc w10) := HS9.out.same hb10
    have x0 := cell_of_row _ _ 0 _ _ _ HS10.out.xb
    have x1 := cell_of_row _ _ 1 _ _ _ HS10.out.xb
    have x2 := cell_of_row _ _ 2 _ _ _ HS10.out.xb
    simp at x0 x1 x2
    clear hb10 HS9 HQ5
    go_wp2_with fail
    refine Calls.mono (HQ6.out _ _ _ _ HS10.out.eb) ?_
    rintro e w11 ⟨rfl, hb11⟩
    have HS11 : Hid (BS w lb bb l va gl vc ⟨k, T, r⟩ ba gb bc w11) := HS10.out.same hb11
    have tt2 : ¬ T < 0 := by omega
    clear hb11 HS10 HQ6 x0 x1 x2
    go_wp2_with fail
    go_loopw [13] (fun iv wr => ∃ (j : Nat) (I : Int), Hid (I = l.start + (j : Int)) ∧ kk ≤ j ∧ j ≤ l.ents.length + 1 ∧ iv = .int .i64 I ∧ (0 ≤ I ∧ I ≤ 100) ∧ Hid (BS w lb bb l va gl vc ⟨k, T, r⟩ ba gb bc wr)) (fun iv _ => (l.start + (l.ents.length : Int) + 2 - intOf iv).toNat)
    case atStart => exact ⟨kk, k, HKK, Nat.le_refl _, by omega, rfl, by have := HKK.out; omega, HS11⟩
    case round =>
      obtain ⟨j, I, HI, hj0, hj1, rfl, hIb, HS⟩ := hrel
      clear HS11
      go_wp2_with (first | (refine wpList_loadA Try.isAgg29 Try.sizeOf29 rfl _ rfl lb #[.int .i64 l.start, .int .i64 l.sterm, .slice va l.ents.length vc] 29 rfl HS.out.xl rfl ?_) | fail)
      refine Calls.mono (HQ7.out _ HS.out.el) ?_
      rintro e w12 ⟨rfl, hb12⟩
      have HS12 : Hid (BS w lb bb l va gl vc ⟨k, T, r⟩ ba gb bc w12) := HS.out.same hb12
      clear hb12 HS
      by_cases hlt : j ≤ l.ents.length
      · have hle : I ≤ l.start + (l.ents.length : Int) := by have := HI.out; omega
        obtain ⟨t, hqt⟩ := HQ8.out j I HI.out hj0 hlt
        have HQL : Hid (∀ X : Abv w12, Calls Try.prog 9 #[.agg #[.int .i64 l.start, .int .i64 l.sterm, .slice va l.ents.length vc], .int .i64 I] X.w (fun en w' => en = .returned (.int .i64 t) ∧ Below X.w.heap.size X.w w')) := fun X => (hqt X.w (HS12.out.el.kept X.b)).1
        have HQB : Hid (∀ X : Abv w12, Calls Try.prog 9 #[.agg #[.int .i64 k, .int .i64 T, .slice ba r.length bc], .int .i64 I] X.w (fun en w' => en = .returned (.int .i64 t) ∧ Below X.w.heap.size X.w w')) := fun X => (hqt X.w (HS12.out.el.kept X.b)).2 _ _ _ (HS12.out.eb.kept X.b)
        have x0 := cell_of_row _ _ 0 _ _ _ HS12.out.xl
        have x1 := cell_of_row _ _ 1 _ _ _ HS12.out.xl
        have x2 := cell_of_row _ _ 2 _ _ _ HS12.out.xl
        have y0 := cell_of_row _ _ 0 _ _ _ HS12.out.xb
        have y1 := cell_of_row _ _ 1 _ _ _ HS12.out.xb
        have y2 := cell_of_row _ _ 2 _ _ _ HS12.out.xb
        simp at x0 x1 x2 y0 y1 y2
        clear hqt
        by_cases hjk : j = kk
        · have hgt : ¬ k < I := by have := HI.out; have := HKK.out; omega
          have hgtd : decide (k < I) = false := by simp only [decide_eq_false_iff_not]; exact hgt
          go_wp2_with fail
          have NE := Abv.ne w12
          have X0 := fun x : Abv w12 => x.cell x0
          have X1 := fun x : Abv w12 => x.cell x1
          have X2 := fun x : Abv w12 => x.cell x2
          have Y0 := fun x : Abv w12 => x.cell y0
          have Y1 := fun x : Abv w12 => x.cell y1
          have Y2 := fun x : Abv w12 => x.cell y2
          refine wp_region_above (by kernel_rfl) (by kernel_rfl) ?_
          repeat (go_big_quiet_step (first | (go_at_call 9; (first | (with_reducible exact calls_above (HQB.out _)) | (with_reducible exact calls_above (HQL.out _)) | fail)) | fail))
          refine wpQuiet_nil ?_
          rintro w13 ⟨⟨_, hb13⟩, rfl⟩
          clear NE X0 X1 X2 Y0 Y1 Y2 x0 x1 x2 y0 y1 y2
          go_wp2
          go_roundw
          case rel => exact ⟨j + 1, I + 1, by have := HI.out; show _ = _; omega, by omega, by omega, by go_num, by omega, HS12.out.same hb13⟩
          case measure => simp [intOf]; omega
        · obtain ⟨g1, g2, g3⟩ := HGE.out j (by omega) hlt
          obtain ⟨d, hd⟩ : ∃ d : Nat, d = j - kk - 1 := ⟨_, rfl⟩
          obtain ⟨d2, hd2⟩ : ∃ d2 : Nat, d2 = j - 1 := ⟨_, rfl⟩
          obtain ⟨E, hE⟩ : ∃ E, E = l.ents[j - 1] := ⟨_, rfl⟩
          obtain ⟨a0, a1, a2⟩ := HS12.out.el.2 (j - 1) g2
          obtain ⟨b0, b1, b2⟩ := HS12.out.eb.2 (j - kk - 1) g1
          rw [← hE, ← hd2] at a0 a1 a2
          have hrE : (⟨k, T, r⟩ : LogL).ents[j - kk - 1] = E := by rw [hE]; exact g3
          rw [hrE, ← hd] at b0 b1 b2
          simp only [Nat.zero_add] at a0 a1 a2 b0 b1 b2
          have ea := HS12.out.el.1 (by omega)
          have eb := HS12.out.eb.1 (by show 0 < r.length; omega)
          subst ea eb
          have hgt : k < I := by have := HI.out; have := HKK.out; omega
          have i1 : I - k - 1 = (d : Int) := by have := HI.out; have := HKK.out; omega
          have i2 : I - l.start - 1 = (d2 : Int) := by have := HI.out; omega
          have i3 : 1 ≤ I - k ∧ I - k ≤ 1000 := by have := HI.out; have := HKK.out; omega
          have i4 : 1 ≤ I - l.start ∧ I - l.start ≤ 1000 := by have := HI.out; omega
          have k0 : (0 : Int) ≤ (d : Int) := by omega
          have k1 : (d : Int) < (r.length : Int) := by omega
          have k2 : (0 : Int) ≤ (d2 : Int) := by omega
          have k3 : (d2 : Int) < (l.ents.length : Int) := by omega
          have hkey : (E.data.toList == E.data.toList) = true := by simp
          clear hd hd2 hE hrE g1 g2 g3
          go_wp2_with fail
          have NE := Abv.ne w12
          have X0 := fun x : Abv w12 => x.cell x0
          have X1 := fun x : Abv w12 => x.cell x1
          have X2 := fun x : Abv w12 => x.cell x2
          have Y0 := fun x : Abv w12 => x.cell y0
          have Y1 := fun x : Abv w12 => x.cell y1
          have Y2 := fun x : Abv w12 => x.cell y2
          have A0 := fun x : Abv w12 => x.cell a0
          have A1 := fun x : Abv w12 => x.cell a1
          have A2 := fun x : Abv w12 => x.cell a2
          have B0 := fun x : Abv w12 => x.cell b0
          have B1 := fun x : Abv w12 => x.cell b1
          have B2 := fun x : Abv w12 => x.cell b2
          refine wp_region_above (by kernel_rfl) (by kernel_rfl) ?_
          repeat (go_big_quiet_step (first | (go_at_call 9; (first | (with_reducible exact calls_above (HQB.out _)) | (with_reducible exact calls_above (HQL.out _)) | fail)) | fail))
          refine wpQuiet_nil ?_
          rintro w13 ⟨⟨_, hb13⟩, rfl⟩
          clear NE X0 X1 X2 Y0 Y1 Y2 A0 A1 A2 B0 B1 B2 x0 x1 x2 y0 y1 y2 a0 a1 a2 b0 b1 b2
          go_wp2
          go_roundw
          case rel => exact ⟨j + 1, I + 1, by have := HI.out; show _ = _; omega, by omega, by omega, by go_num, by omega, HS12.out.same hb13⟩
          case measure => simp [intOf]; omega
      · have hle : ¬ I ≤ l.start + (l.ents.length : Int) := by have := HI.out; omega
        go_wp2_with (first | (refine wpList_loadA Try.isAgg29 Try.sizeOf29 rfl _ rfl lb #[.int .i64 l.start, .int .i64 l.sterm, .slice va l.ents.length vc] 29 rfl HS12.out.xl rfl ?_) | fail)
        refine Calls.mono (HQ3.out _ HS12.out.el) ?_
        rintro e w13 ⟨v13, rfl, ho13, hb13⟩
        obtain ⟨oa, oc, rfl⟩ := own_slice ho13
        have HB13 : Hid (Below w.heap.size w (w13.alloc (Obj.cells #[.int .i64 k, .int .i64 (T + 1), .slice oa ([] : List EntL).length oc] 29))) := (HS12.out.same hb13).bel.trans (((Below.refl _ _).alloc (Nat.le_refl _) _).mono (HS12.out.same hb13).bel.size)
        clear ho13 hb13 HS12
        simp only [List.length_nil] at HB13 ⊢
        go_wp2
        go_ret
        exact ⟨rfl, HB13.out⟩
set_option maxHeartbeats 1000000 in
theorem lawBeh_big {cap len : Nat} {a : Option Addr} (w : World) (hl : 1048576 < len) :
    Calls Try.prog 5 #[.slice a len cap] w fun en w' => en = .returned (.bool true) ∧ Below w.heap.size w w' := by
  go_enter Try.func5, Try.ntmps5
  go_wp2_with fail
  refine (big_yes a len cap hl _).mono ?_
  rintro e w0 ⟨rfl, rfl⟩
  go_wp2
  go_ret
  exact ⟨rfl, Below.refl _ _⟩
end Go.Proofs.Ytahpoemmlpbgdaa
