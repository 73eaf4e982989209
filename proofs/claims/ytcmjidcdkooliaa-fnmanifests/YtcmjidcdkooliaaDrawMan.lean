/- The call of l07Manifest, walked: some manifest of a few numbers. -/
import Derived.Test.YtcmjidcdkooliaaDrawAny
import Derived.Test.YtcmjidcdkooliaaMans
import Derived.Deep.Cut
import Derived.Deep.CutBlock
namespace Go.Proofs.Ytcmjidcdkooliaa
open Go.RowKit
set_option linter.unusedVariables false

/-- What l07Manifest holds: the cursor, the variable m, the result, both rows; those of Segs lie behind Conf's. -/
structure DM (B g len cap b off : Nat) (a : Option Addr) (z : Nat → Int) (w : World) (mb b1 : Nat) (v1 : Value) (l1 : List Int) (v2 : Value) (l2 : List Int) (C : Array Value) (W : World) : Prop where
  cur : Cur B W g a len cap b off z
  blk : W.heap[mb]? = some (.cells C 26 (0, 0))
  res : W.heap[w.heap.size]? = some (.cells #[.slice none 0 0, .int .i64 0, .int .i64 0, .int .i64 0, .slice none 0 0] 26 (0, 0))
  own1 : W.ownsRow b1 3 1 v1 l1.length (cellsI l1)
  own2 : W.ownsRow w.heap.size 3 1 v2 l2.length (cellsI l2)
  lo : ∀ q, v2.ownBlock = some q → q < b1
  gr : w.grownBy W (some g)
  up : g < w.heap.size ∧ w.heap.size < mb ∧ w.heap.size ≤ b1 ∧ b1 ≤ W.heap.size
section
variable {B g len cap b off : Nat} {a : Option Addr} {z : Nat → Int} {w W W' : World} {mb b1 : Nat} {v1 v1' v2 : Value} {l1 l2 : List Int} {C : Array Value}
theorem DM.call (h : DM B g len cap b off a z w mb b1 v1 l1 v2 l2 C W) (hc : Cur B W' g a len cap b off z) (hg : W.grownBy W' (some g)) : DM B g len cap b off a z w mb b1 v1 l1 v2 l2 C W' :=
  have hu := h.up
  ⟨hc, grown_keep h.blk hg (by omega), grown_keep h.res hg (by omega), h.own1.kept hg (Or.inr (h.cur.not h.own1)), h.own2.kept hg (Or.inr (h.cur.not h.own2)), h.lo, h.gr.trans hg, hu.1, hu.2.1, hu.2.2.1, Nat.le_trans hu.2.2.2 hg.size⟩
theorem DM.alloc (h : DM B g len cap b off a z w mb b1 v1 l1 v2 l2 C W) (o : Obj) : DM B g len cap b off a z w mb b1 v1 l1 v2 l2 C (W.alloc o) := h.call (h.cur.alloc o) (World.grownBy_alloc W o (some g))
theorem DM.drew (h : DM B g len cap b off a z w mb b1 v1 l1 v2 l2 C W) : DM B g len cap b off a z w mb b1 v1 l1 v2 l2 C W.drew := ⟨h.cur, h.blk, h.res, h.own1, h.own2, h.lo, grown_drew h.gr, h.up⟩
theorem DM.set (h : DM B g len cap b off a z w mb b1 v1 l1 v2 l2 C W) (j : Nat) (x : Value) : DM B g len cap b off a z w mb b1 v1 l1 v2 l2 (C.setIfInBounds j x) (W.setCell ⟨mb, j, none⟩ x) :=
  have hu := h.up
  have hs := grown_set W mb j x
  ⟨h.cur.kept hs (fun r e => by cases e; have := h.cur.low; omega) (Below.heap_setCell W ⟨mb, j, none⟩ x g (by simp; omega)), heap_setCell_same W mb j _ 26 x h.blk, set_far h.res (by omega) _ _, own_set h.own1 _ _ _ (own_not h.own1 h.blk (by decide)), own_set h.own2 _ _ _ (own_not h.own2 h.blk (by decide)), h.lo, grown_new h.gr (by omega) _ _, hu.1, hu.2.1, hu.2.2.1, Nat.le_trans hu.2.2.2 (by simp [World.setCell])⟩
theorem DM.app (h : DM B g len cap b off a z w mb b1 v1 l1 v2 l2 C W) {c : Int} (hg : W.grownBy W' v1.ownBlock) (hown : W'.ownsRow b1 3 1 v1' (l1.length + 1) (cellsI l1 ++ [.int .i64 c])) : DM B g len cap b off a z w mb b1 v1' (l1 ++ [c]) v2 l2 C W' := by
  have hu := h.up
  have hlo := h.cur.low
  have e1 : ∀ {q : Nat} {cs : Array Value} {ty : TypeId}, W.heap[q]? = some (.cells cs ty (0, 0)) → 3 ≠ ty → W'.heap[q]? = some (.cells cs ty (0, 0)) := fun {q cs ty} hq hne => grown_keep' hq hg (own_not h.own1 hq hne)
  have hk2 : W'.ownsRow w.heap.size 3 1 v2 l2.length (cellsI l2) := h.own2.kept hg (by
    cases e : v2.ownBlock with
    | none => exact Or.inl rfl
    | some r => exact Or.inr (fun e2 => by have := h.lo r e; have := (h.own1.lt r e2.symm).1; omega))
  exact ⟨h.cur.kept hg (fun r e => Or.inl (by have := (h.own1.lt r e).1; omega)) (hg.block g h.cur.lt (fun e => h.cur.not h.own1 e.symm)), e1 h.blk (by decide), e1 h.res (by decide), ownI_snoc hown, hk2, h.lo, h.gr.andThen hg (fun r e => Or.inl (by have := (h.own1.lt r e).1; omega)), hu.1, hu.2.1, hu.2.2.1, Nat.le_trans hu.2.2.2 hg.size⟩
end
theorem step_call2 {P : Program} {ops : Array Oper} {o : Oper} {a : Act} {w : World} {K : Act → World → Prop} {Q : Exit → Act → World → Prop} {E : Prop} (hgd : o.guard = none) (f : Nat) (x y : Operand) (t s : TypeId)
    (ho : o.op = .call { callee := .value (.func f), args := #[x, y], argTypes := #[t, s] }) (v u : Value) (hx : a.eval x = v) (hy : a.eval y = u) {α : Type} (ans : α → Value) (R : α → World → Prop) (hcf : ∀ w, (callFunc f #[v, u]).run P w = .ok (.enter f #[v, u]) w)
    (hc : Calls P f #[v, u] w fun e w' => ∃ r, e = .returned (ans r) ∧ R r w') (h : ∀ r w', R r w' → K (a.put o.dst (ans r)) w') : if Region.wanted o (yielded ops a.tmps) = true then Oper.wp P o a w K Q else E := by
  have hw : Region.wanted o (yielded ops a.tmps) = true := by simp [Region.wanted, hgd]
  rw [if_pos hw]
  unfold Oper.wp
  have hf : a.eval (.func f) = .func (.func f) #[] #[] := rfl
  simp [execOp, ho, resolve, invoke, hf, hx, hy, hcf, Deferred.ofValue, Oper.upon]
  refine hc.mono ?_
  rintro e w' ⟨r, rfl, hr⟩
  exact h r w' hr
/-- The manifest is drawn. -/
structure DF (B g len cap b off : Nat) (a : Option Addr) (z : Nat → Int) (w : World) (mb : Nat) (v1 : Value) (l1 : List Int) (x y t : Int) (v2 : Value) (l2 : List Int) (W : World) : Prop where
  cur : Cur B W g a len cap b off z
  blk : W.heap[mb]? = some (.cells #[v1, .int .i64 x, .int .i64 y, .int .i64 t, v2] 26 (0, 0))
  res : W.heap[w.heap.size]? = some (.cells #[.slice none 0 0, .int .i64 0, .int .i64 0, .int .i64 0, .slice none 0 0] 26 (0, 0))
  own1 : W.ownsRow w.heap.size 3 1 v1 l1.length (cellsI l1)
  own2 : W.ownsRow w.heap.size 3 1 v2 l2.length (cellsI l2)
  gr : w.grownBy W (some g)
  up : g < w.heap.size ∧ w.heap.size < mb
  len1 : l1.length ≤ 20
  len2 : l2.length ≤ 20
theorem DM.done {B g len cap b off : Nat} {a : Option Addr} {z : Nat → Int} {w W : World} {mb b1 : Nat} {v1 v2 : Value} {l1 l2 : List Int} {x y t : Int} (h : DM B g len cap b off a z w mb b1 v1 l1 v2 l2 #[v1, .int .i64 x, .int .i64 y, .int .i64 t, v2] W) (h1 : l1.length ≤ 20) (h2 : l2.length ≤ 20) : DF B g len cap b off a z w mb v1 l1 x y t v2 l2 W :=
  have hu := h.up
  ⟨h.cur, h.blk, h.res, own_mono h.own1 hu.2.2.1, h.own2, h.gr, ⟨hu.1, hu.2.1⟩, h1, h2⟩
/-- Some manifest of a few numbers. -/
def ManPost (B g len cap b off : Nat) (a : Option Addr) (z : Nat → Int) (w : World) (e : Ending) (w' : World) : Prop :=
  ∃ (m : ManL) (v1 v2 : Value), e = .returned (.agg #[v1, .int .i64 m.next, .int .i64 m.base, .int .i64 m.term, v2]) ∧ m.segs.length ≤ 20 ∧ m.conf.length ≤ 20 ∧ w'.ownsRow w.heap.size 3 1 v1 m.segs.length (cellsI m.segs) ∧ w'.ownsRow w.heap.size 3 1 v2 m.conf.length (cellsI m.conf) ∧ w.grownBy w' (some g)
set_option maxHeartbeats 8000000 in
set_option maxRecDepth 100000 in
theorem drawMan_any {B g len cap b off : Nat} {a : Option Addr} {z : Nat → Int} (w : World) (hc : Cur B w g a len cap b off z) :
    Calls Try.prog 27 #[.pointer (some ⟨g, 0, none⟩)] w (ManPost B g len cap b off a z w) := by
  have hglt := hc.lt
  have HC : Hid (Cur B (w.alloc (.cells #[.slice none 0 0, .int .i64 0, .int .i64 0, .int .i64 0, .slice none 0 0] 26)) g a len cap b off z) := hc.alloc _
  have HZ : Hid ((w.alloc (.cells #[.slice none 0 0, .int .i64 0, .int .i64 0, .int .i64 0, .slice none 0 0] 26)).heap[w.heap.size]? = some (.cells #[.slice none 0 0, .int .i64 0, .int .i64 0, .int .i64 0, .slice none 0 0] 26 (0, 0))) := heap_alloc_new w _
  have HG : Hid (w.grownBy (w.alloc (.cells #[.slice none 0 0, .int .i64 0, .int .i64 0, .int .i64 0, .slice none 0 0] 26)) (some g)) := World.grownBy_alloc _ _ _
  clear hc
  go_enter Try.func27, Try.ntmps27
  go_wp2_with fail
  refine (below_any 9 (by omega) _ HC.out).mono ?_
  rintro e w1 ⟨nx, rfl, hx1, hc1, hg1⟩
  have HC1 : Hid (Cur B w1 g a len cap b off z) := hc1
  have HG1 : Hid (w.grownBy w1 (some g)) := HG.out.trans hg1
  have HZ1 : Hid (_ = _) := grown_keep HZ.out hg1 (by omega)
  obtain ⟨hx10, _, hx12⟩ := hx1
  have hx13 := hx12 (by omega)
  clear hc1 hg1 hx12 HC HG HZ
  go_wp2_with fail
  refine (below_any 40 (by omega) _ HC1.out).mono ?_
  rintro e w2 ⟨bs, rfl, _, hc2, hg2⟩
  have HC2 : Hid (Cur B w2 g a len cap b off z) := hc2
  have HG2 : Hid (w.grownBy w2 (some g)) := HG1.out.trans hg2
  have HZ2 : Hid (_ = _) := grown_keep HZ1.out hg2 (by omega)
  clear hc2 hg2 HC1 HG1 HZ1
  go_wp2_with fail
  refine (below_any 9 (by omega) _ HC2.out).mono ?_
  rintro e w3 ⟨tm, rfl, _, hc3, hg3⟩
  have HC3 : Hid (Cur B w3 g a len cap b off z) := hc3
  have HG3 : Hid (w.grownBy w3 (some g)) := HG2.out.trans hg3
  have HZ3 : Hid (_ = _) := grown_keep HZ2.out hg3 (by omega)
  clear hc3 hg3 HC2 HG2 HZ2
  go_wp2_with fail
  refine (conf_any _ HC3.out).mono ?_
  rintro e w4 ⟨v2, l2, rfl, hl2, hd4⟩
  obtain ⟨va2, vc2, hv2⟩ := own_slice hd4.own
  subst hv2
  have hz4 := grown_keep HZ3.out hd4.gr (by omega)
  have hG4 := HG3.out.trans hd4.gr
  have hlt4 : w.heap.size < w4.heap.size := (Array.getElem?_eq_some_iff.1 hz4).1
  have hsz3 := HG3.out.size
  have HM0 : Hid (DM B g len cap b off a z w w4.heap.size (w4.heap.size + 1) (.slice none 0 0) [] (.slice va2 l2.length vc2) l2 (#[.slice none 0 0, .int .i64 (1 + nx), .int .i64 bs, .int .i64 tm, .slice va2 l2.length vc2]) (w4.alloc (.cells #[.slice none 0 0, .int .i64 (1 + nx), .int .i64 bs, .int .i64 tm, .slice va2 l2.length vc2] 26))) := by
    have hbel : Below w4.heap.size w4 (w4.alloc (.cells #[.slice none 0 0, .int .i64 (1 + nx), .int .i64 bs, .int .i64 tm, .slice va2 l2.length vc2] 26)) := (Below.refl _ _).alloc (Nat.le_refl _) _
    refine ⟨hd4.cur.alloc _, heap_alloc_new w4 _, (hbel.block _ hlt4).trans hz4, World.ownsRow_nil _ _ _ _, own_mono (own_kept hd4.own hbel) hsz3, fun q e => by have := (hd4.own.lt q e).2; omega, hG4.trans (World.grownBy_alloc _ _ _), hglt, hlt4, by omega, by simp⟩
  obtain ⟨mb, hmb⟩ : ∃ mb, mb = w4.heap.size := ⟨_, rfl⟩
  obtain ⟨b1, hb1⟩ : ∃ b1, b1 = mb + 1 := ⟨_, rfl⟩
  obtain ⟨W4, hW4⟩ : ∃ W4, W4 = w4.alloc (.cells #[.slice none 0 0, .int .i64 (1 + nx), .int .i64 bs, .int .i64 tm, .slice va2 l2.length vc2] 26) := ⟨_, rfl⟩
  rw [← hmb, ← hb1, ← hW4] at HM0
  clear hz4 hG4 hlt4 hd4 HZ3 HG3 HC3 hsz3
  go_wp2_with fail
  rw [← hW4, ← hmb]
  clear hW4 hb1 hmb
  obtain ⟨N, hN⟩ : ∃ N : Nat, (N : Int) = 1 + nx := ⟨(1 + nx).toNat, by omega⟩
  have hN9 : N ≤ 9 := by omega
  go_loopw [4] (fun i wr => ∃ (k : Nat) (v1 : Value) (l1 : List Int), k ≤ N ∧ i = .int .i64 (k : Int) ∧ l1.length ≤ k ∧ DM B g len cap b off a z w mb b1 v1 l1 (.slice va2 l2.length vc2) l2 (#[v1, .int .i64 (1 + nx), .int .i64 bs, .int .i64 tm, .slice va2 l2.length vc2]) wr) (fun i _ => N - (intOf i).toNat)
  case atStart => exact ⟨0, _, [], Nat.zero_le _, rfl, Nat.le_refl _, HM0.out⟩
  case round =>
    obtain ⟨k, v1, l1, hk, rfl, hll, hd⟩ := hrel
    have HM : Hid (DM B g len cap b off a z w mb b1 v1 l1 (.slice va2 l2.length vc2) l2 (#[v1, .int .i64 (1 + nx), .int .i64 bs, .int .i64 tm, .slice va2 l2.length vc2]) wr) := hd
    obtain ⟨va1, vc1, hv1⟩ := own_slice hd.own1
    subst hv1
    have c1 : wr.cell? ⟨mb, 1, none⟩ = some (.int .i64 (1 + nx)) := cell_of_row _ _ 1 _ _ _ hd.blk
    have c0 : wr.cell? ⟨mb, 0, none⟩ = some (.slice va1 l1.length vc1) := cell_of_row _ _ 0 _ _ _ hd.blk
    clear hd HM0
    by_cases hlt : k < N
    · have hk1 : (k : Int) < 1 + nx := by omega
      clear hN
      go_wp2_with fail
      refine (once_any 2 (by omega) _ HM.out.cur).mono ?_
      rintro e w5 ⟨q, rfl, hc5, hg5⟩
      have hD5 := HM.out.call hc5 hg5
      have HM5 : Hid (DM B g len cap b off a z w mb b1 (.slice va1 l1.length vc1) l1 (.slice va2 l2.length vc2) l2 (#[.slice va1 l1.length vc1, .int .i64 (1 + nx), .int .i64 bs, .int .i64 tm, .slice va2 l2.length vc2]) w5) := hD5
      have hown := hD5.own1
      have hsz := hD5.up.2.2.2
      have d0 : w5.cell? ⟨mb, 0, none⟩ = some (.slice va1 l1.length vc1) := cell_of_row _ _ 0 _ _ _ hD5.blk
      have e0 : ∀ o : Obj, (w5.alloc o).cell? ⟨mb, 0, none⟩ = some (.slice va1 l1.length vc1) := fun o => cell_of_row _ _ 0 _ _ _ (hD5.alloc o).blk
      clear hc5 hg5 hD5 c0 c1
      cases hx : (q == 0) with
      | false =>
        go_wp2_with fail
        go_roundw
        case rel => exact ⟨k + 1, _, l1, by omega, by go_num, by omega, HM5.out⟩
        case measure => simp [intOf]; omega
      | true =>
        by_cases hl8 : l1.length < 8
        · have hl8' : (l1.length : Int) < 8 := by omega
          go_wp2_with (at_builtin; refine wpList_app_int rfl _ _ rfl b1 _ l1 rfl hown _ rfl (by omega) hsz ?_; intro v' w6 hown2 hgrow; obtain ⟨va3, vc3, hv3⟩ := own_slice hown2; subst hv3; have hD6 := (HM5.out.alloc _).app hgrow hown2; have f0 : w6.cell? ⟨mb, 0, none⟩ = some (.slice va1 l1.length vc1) := cell_of_row _ _ 0 _ _ _ hD6.blk; have ff0 : w6.frozen? ⟨mb, 0, none⟩ = false := frozen_of_row _ _ 0 _ _ hD6.blk; have HM6 : Hid (DM B g len cap b off a z w mb b1 (.slice va3 (l1.length + 1) vc3) (l1 ++ [_]) (.slice va2 l2.length vc2) l2 (#[.slice va3 (l1.length + 1) vc3, .int .i64 (1 + nx), .int .i64 bs, .int .i64 tm, .slice va2 l2.length vc2]) (w6.setCell ⟨mb, 0, none⟩ (.slice va3 (l1.length + 1) vc3))) := hD6.set 0 _; clear hown2 hgrow hown hD6 d0 e0)
          go_roundw
          case rel => exact ⟨k + 1, _, l1 ++ [_], by omega, by go_num, by simp; omega, HM6.out⟩
          case measure => simp [intOf]; omega
        · have hl8' : ¬ (l1.length : Int) < 8 := by omega
          go_wp2_with fail
          go_roundw
          case rel => exact ⟨k + 1, _, l1, by omega, by go_num, by omega, HM5.out⟩
          case measure => simp [intOf]; omega
    · have hk1 : ¬ (k : Int) < 1 + nx := by omega
      clear hN
      go_upto_if 38 with fail
      go_cut [] (fun wx => ∃ (sa : Option Addr) (sc : Nat) (lS : List Int), lS.length ≤ 10 ∧ DM B g len cap b off a z w mb b1 (.slice sa lS.length sc) lS (.slice va2 l2.length vc2) l2 (#[.slice sa lS.length sc, .int .i64 (1 + nx), .int .i64 bs, .int .i64 tm, .slice va2 l2.length vc2]) wx)
      case first =>
        by_cases hl0 : l1.length = 0
        · obtain rfl : l1 = [] := List.length_eq_zero_iff.1 hl0
          have hown := HM.out.own1
          have hsz := HM.out.up.2.2.2
          have e0 : ∀ o : Obj, (wr.alloc o).cell? ⟨mb, 0, none⟩ = some (.slice va1 ([] : List Int).length vc1) := fun o => cell_of_row _ _ 0 _ _ _ (HM.out.alloc o).blk
          go_wp2_with (at_builtin; refine wpList_app_int rfl _ _ rfl b1 _ [] rfl hown _ rfl (by simp) hsz ?_; intro v' w6 hown2 hgrow; obtain ⟨va3, vc3, hv3⟩ := own_slice hown2; subst hv3; have hD6 := (HM.out.alloc _).app hgrow hown2; have f0 : w6.cell? ⟨mb, 0, none⟩ = some (.slice va1 ([] : List Int).length vc1) := cell_of_row _ _ 0 _ _ _ hD6.blk; have ff0 : w6.frozen? ⟨mb, 0, none⟩ = false := frozen_of_row _ _ 0 _ _ hD6.blk; have HM6 : Hid (DM B g len cap b off a z w mb b1 (.slice va3 1 vc3) [0] (.slice va2 l2.length vc2) l2 (#[.slice va3 1 vc3, .int .i64 (1 + nx), .int .i64 bs, .int .i64 tm, .slice va2 l2.length vc2]) (w6.setCell ⟨mb, 0, none⟩ (.slice va3 1 vc3))) := hD6.set 0 _; clear hown2 hgrow hown hD6 e0)
          go_meet
          case rel => exact ⟨va3, vc3, [0], by simp, HM6.out⟩
        · have hl1 : ¬ (l1.length : Int) = 0 := by omega
          go_wp2_with fail
          go_meet
          case rel => exact ⟨va1, vc1, l1, by omega, HM.out⟩
      case rest =>
        obtain ⟨sa, sc, lS, hlS, hMS⟩ := hcut
        have HMS : Hid (DM B g len cap b off a z w mb b1 (.slice sa lS.length sc) lS (.slice va2 l2.length vc2) l2 (#[.slice sa lS.length sc, .int .i64 (1 + nx), .int .i64 bs, .int .i64 tm, .slice va2 l2.length vc2]) wc) := hMS
        obtain ⟨WS, hWS⟩ : ∃ WS, WS = wc := ⟨_, rfl⟩
        rw [← hWS] at HMS
        clear hMS HM c0 c1
        go_wp2_with fail
        rw [← hWS]
        clear hWS
        refine (below_any 30 (by omega) WS HMS.out.cur).mono ?_
        rintro e w7 ⟨sx, rfl, _, hc7, hg7⟩
        have hM7 := HMS.out.call hc7 hg7
        have HM7 : Hid (DM B g len cap b off a z w mb b1 (.slice sa lS.length sc) lS (.slice va2 l2.length vc2) l2 (#[.slice sa lS.length sc, .int .i64 (1 + nx), .int .i64 bs, .int .i64 tm, .slice va2 l2.length vc2]) w7) := hM7
        have m0 := cell_of_row _ _ 0 _ _ _ hM7.blk
        have m1 := cell_of_row _ _ 1 _ _ _ hM7.blk
        have m2 := cell_of_row _ _ 2 _ _ _ hM7.blk
        have m3 := cell_of_row _ _ 3 _ _ _ hM7.blk
        have m4 := cell_of_row _ _ 4 _ _ _ hM7.blk
        have mf0 := frozen_of_row _ _ 0 _ _ hM7.blk
        have mf1 := frozen_of_row _ _ 1 _ _ hM7.blk
        have mf2 := frozen_of_row _ _ 2 _ _ hM7.blk
        have mf3 := frozen_of_row _ _ 3 _ _ hM7.blk
        have mf4 := frozen_of_row _ _ 4 _ _ hM7.blk
        simp at m0 m1 m2 m3 m4
        clear hc7 hg7 HMS
        go_upto_block 2 with fail
        go_cut [] (fun wx => ∃ (v1 : Value) (l1 : List Int) (x y t : Int) (v2 : Value) (l2 : List Int), DF B g len cap b off a z w mb v1 l1 x y t v2 l2 wx)
        case first => as_aux_lemma =>
          by_cases h0 : sx = 0
          · subst h0
            obtain ⟨i0, hi, hz0, hz1, hz2⟩ := info_parts Try.info3
            have HCF : Hid (∀ wx : World, (callFunc 52 #[.pointer (some ⟨g, 0, none⟩), .slice (some ⟨w7.heap.size, 0, none⟩) 4 4]).run Try.prog wx = .ok (.enter 52 #[.pointer (some ⟨g, 0, none⟩), .slice (some ⟨w7.heap.size, 0, none⟩) 4 4]) wx) := fun _ => by kernel_rfl
            have cA : ∀ o, ((w7.alloc o).drew).cell? ⟨mb, 0, none⟩ = some (.slice sa lS.length sc) := fun o => cell_of_row _ _ 0 _ _ _ (HM7.out.drew.alloc o).blk
            have HPK : Hid (Calls Try.prog 52 #[.pointer (some ⟨g, 0, none⟩), .slice (some ⟨w7.heap.size, 0, none⟩) 4 4] (w7.alloc (.cells #[.int .i64 (-1), .int .i64 (1 + nx), .int .i64 nx, .int .i64 999] 3)).drew fun e w' => ∃ y : Int, e = .returned (.int .i64 y) ∧ (Cur B w' g a len cap b off z ∧ w7.drew.grownBy w' (some g))) :=
              (pickInt_new w7.drew HM7.out.drew.cur #[.int .i64 (-1), .int .i64 (1 + nx), .int .i64 nx, .int .i64 999] 4 (by omega) (by omega) (four_ints (-1) (1 + nx) nx 999 (by omega) (by omega) (by omega) (by omega))).mono fun e w' ⟨y, h1, _, _, h4, h5⟩ => ⟨y, h1, h4, h5⟩
            have hwr : IntKind.i64.wrap (1 + nx - 1) = nx := by rw [IntWalk.i64_in _ (by omega)]; omega
            go_wp2_with fail
            go_region_law (first | (refine step_call2 (by rfl) 52 _ _ _ _ (by rfl) (.pointer (some ⟨g, 0, none⟩)) (.slice (some ⟨w7.heap.size, 0, none⟩) 4 4) (by rfl) (by rfl) (fun y : Int => .int .i64 y) _ HCF.out HPK.out ?_; rintro y wa ⟨hca, hga⟩; have HSa : Hid (DM B g len cap b off a z w mb b1 (.slice sa lS.length sc) lS (.slice va2 l2.length vc2) l2 (#[.slice sa lS.length sc, .int .i64 (1 + nx), .int .i64 bs, .int .i64 tm, .slice va2 l2.length vc2]) wa) := HM7.out.drew.call hca hga; have cRa : wa.cell? ⟨mb, 0, none⟩ = some (.slice sa lS.length sc) := cell_of_row _ _ 0 _ _ _ HSa.out.blk; have cRb : ∀ o, (wa.alloc o).cell? ⟨mb, 0, none⟩ = some (.slice sa lS.length sc) := fun o => cell_of_row _ _ 0 _ _ _ (HSa.out.alloc o).blk; clear hca hga) | (refine step_append_lies _ (by rfl) _ _ _ (by rfl) b1 3 i0 _ 1 8 Try.underlying24 hi hz0 hz1 hz2 rfl (Nat.zero_lt_succ _) _ lS.length (cellsI lS) (by rfl) ((HSa.out.alloc _).own1) ⟨wa.heap.size, 0, none⟩ 1 1 [.int .i64 y] (by rfl) (by rfl) (news_int wa y) (one_int y) (Nat.zero_lt_succ _) (by unfold maxLen; omega) (by omega) (by have h2 := HSa.out.up; simp; omega) (wa.heap.size + 1) (Array.size_push ..) ?_; intro g2 cap2 w8 hown8 hgrow hat hlt8; have hB8 := (HSa.out.alloc _).app hgrow hown8; have cR8 : w8.cell? ⟨mb, 0, none⟩ = some (.slice sa lS.length sc) := cell_of_row _ _ 0 _ _ _ hB8.blk; have fR8 : w8.frozen? ⟨mb, 0, none⟩ = false := frozen_of_row _ _ 0 _ _ hB8.blk))
            all_goals
              have HM9 : Hid (DM B g len cap b off a z w mb b1 (.slice (some ⟨g2, 0, none⟩) (lS.length + 1) cap2) (lS ++ [y]) (.slice va2 l2.length vc2) l2 (#[.slice (some ⟨g2, 0, none⟩) (lS.length + 1) cap2, .int .i64 (1 + nx), .int .i64 bs, .int .i64 tm, .slice va2 l2.length vc2]) (w8.setCell ⟨mb, 0, none⟩ (.slice (some ⟨g2, 0, none⟩) (lS.length + 1) cap2))) := hB8.set 0 _
              clear hown8 hgrow hat hlt8 hB8
              go_wp2_with fail
              go_meet
              case rel => exact ⟨_, _, _, _, _, _, _, DM.done HM9.out (by simp; omega) (by omega)⟩
          by_cases h1 : sx = 1
          · subst h1
            go_wp2_with fail
            refine (pickInt_new w7 HM7.out.cur #[.int .i64 (-1), .int .i64 0, .int .i64 1000, .int .i64 1001] 4 (by omega) (by omega) (four_ints (-1) (0) (1000) (1001) (by omega) (by omega) (by omega) (by omega))).mono ?_
            rintro e w8 ⟨y, rfl, _, _, hc8, hg8⟩
            have hM8 := HM7.out.call hc8 hg8
            have q0 : w8.cell? ⟨mb, 1, none⟩ = some (.int .i64 (1 + nx)) := cell_of_row _ _ 1 _ _ _ hM8.blk
            have qf : w8.frozen? ⟨mb, 1, none⟩ = false := frozen_of_row _ _ 1 _ _ hM8.blk
            have HM8 : Hid (DM B g len cap b off a z w mb b1 (.slice sa lS.length sc) lS (.slice va2 l2.length vc2) l2 (#[.slice sa lS.length sc, .int .i64 y, .int .i64 bs, .int .i64 tm, .slice va2 l2.length vc2]) (w8.setCell ⟨mb, 1, none⟩ (.int .i64 y))) := hM8.set 1 _
            clear hc8 hg8 hM8
            go_wp2_with fail
            go_meet
            case rel => exact ⟨_, _, _, _, _, _, _, DM.done HM8.out (by omega) (by omega)⟩
          by_cases h2 : sx = 2
          · subst h2
            go_wp2_with fail
            refine (pickInt_new w7 HM7.out.cur #[.int .i64 (-1), .int .i64 100000, .int .i64 100001] 3 (by omega) (by omega) (three_ints (-1) (100000) (100001) (by omega) (by omega) (by omega))).mono ?_
            rintro e w8 ⟨y, rfl, _, _, hc8, hg8⟩
            have hM8 := HM7.out.call hc8 hg8
            have q0 : w8.cell? ⟨mb, 2, none⟩ = some (.int .i64 bs) := cell_of_row _ _ 2 _ _ _ hM8.blk
            have qf : w8.frozen? ⟨mb, 2, none⟩ = false := frozen_of_row _ _ 2 _ _ hM8.blk
            have HM8 : Hid (DM B g len cap b off a z w mb b1 (.slice sa lS.length sc) lS (.slice va2 l2.length vc2) l2 (#[.slice sa lS.length sc, .int .i64 (1 + nx), .int .i64 y, .int .i64 tm, .slice va2 l2.length vc2]) (w8.setCell ⟨mb, 2, none⟩ (.int .i64 y))) := hM8.set 2 _
            clear hc8 hg8 hM8
            go_wp2_with fail
            go_meet
            case rel => exact ⟨_, _, _, _, _, _, _, DM.done HM8.out (by omega) (by omega)⟩
          by_cases h3 : sx = 3
          · subst h3
            go_wp2_with fail
            refine (pickInt_new w7 HM7.out.cur #[.int .i64 (-1), .int .i64 100000, .int .i64 100001] 3 (by omega) (by omega) (three_ints (-1) (100000) (100001) (by omega) (by omega) (by omega))).mono ?_
            rintro e w8 ⟨y, rfl, _, _, hc8, hg8⟩
            have hM8 := HM7.out.call hc8 hg8
            have q0 : w8.cell? ⟨mb, 3, none⟩ = some (.int .i64 tm) := cell_of_row _ _ 3 _ _ _ hM8.blk
            have qf : w8.frozen? ⟨mb, 3, none⟩ = false := frozen_of_row _ _ 3 _ _ hM8.blk
            have HM8 : Hid (DM B g len cap b off a z w mb b1 (.slice sa lS.length sc) lS (.slice va2 l2.length vc2) l2 (#[.slice sa lS.length sc, .int .i64 (1 + nx), .int .i64 bs, .int .i64 y, .slice va2 l2.length vc2]) (w8.setCell ⟨mb, 3, none⟩ (.int .i64 y))) := hM8.set 3 _
            clear hc8 hg8 hM8
            go_wp2_with fail
            go_meet
            case rel => exact ⟨_, _, _, _, _, _, _, DM.done HM8.out (by omega) (by omega)⟩
          by_cases h4 : sx = 4
          · subst h4
            go_wp2_with fail
            refine (anyConf_any w7 HM7.out.cur).mono ?_
            rintro e w8 ⟨v9, l9, rfl, hl9, hd9⟩
            obtain ⟨va9, vc9, hv9⟩ := own_slice hd9.own
            subst hv9
            have hM8 := HM7.out.call hd9.cur hd9.gr
            have q0 : w8.cell? ⟨mb, 4, none⟩ = some (.slice va2 l2.length vc2) := cell_of_row _ _ 4 _ _ _ hM8.blk
            have qf : w8.frozen? ⟨mb, 4, none⟩ = false := frozen_of_row _ _ 4 _ _ hM8.blk
            have HM8 : Hid (DF B g len cap b off a z w mb (.slice sa lS.length sc) lS (1 + nx) bs tm (.slice va9 l9.length vc9) l9 (w8.setCell ⟨mb, 4, none⟩ (.slice va9 l9.length vc9))) := by
              have h := hM8.set 4 (.slice va9 l9.length vc9)
              have hu := h.up
              exact ⟨h.cur, h.blk, h.res, own_mono h.own1 hu.2.2.1, own_mono (own_set hd9.own _ _ _ (own_not hd9.own hM8.blk (by decide))) (HM7.out.gr.size), h.gr, ⟨hu.1, hu.2.1⟩, by omega, by omega⟩
            clear hd9 hM8
            go_wp2_with fail
            go_meet
            case rel => exact ⟨_, _, _, _, _, _, _, HM8.out⟩
          by_cases h5 : sx = 5
          · subst h5
            have HM8 : Hid (DF B g len cap b off a z w mb (.slice (some ⟨w7.heap.size, 0, none⟩) 0 0) [] (1 + nx) bs tm (.slice va2 l2.length vc2) l2 ((w7.alloc (.cells #[] 3)).setCell ⟨mb, 0, none⟩ (.slice (some ⟨w7.heap.size, 0, none⟩) 0 0))) := by
              have h := (HM7.out.alloc (.cells #[] 3)).set 0 (.slice (some ⟨w7.heap.size, 0, none⟩) 0 0)
              have hu := h.up
              have ho : (w7.alloc (.cells #[] 3)).ownsRow w7.heap.size 3 1 (.slice (some ⟨w7.heap.size, 0, none⟩) 0 0) 0 [] := World.ownsRow_made w7 #[] 0 (Nat.le_refl _) (by unfold maxLen; omega) rfl
              exact ⟨h.cur, h.blk, h.res, own_mono (own_set ho _ _ _ (own_not ho (HM7.out.alloc (.cells #[] 3)).blk (by decide))) HM7.out.gr.size, h.own2, h.gr, ⟨hu.1, hu.2.1⟩, by simp, by omega⟩
            have q0 : ∀ o : Obj, (w7.alloc o).cell? ⟨mb, 0, none⟩ = some (.slice sa lS.length sc) := fun o => cell_of_row _ _ 0 _ _ _ (HM7.out.alloc o).blk
            have qf : ∀ o : Obj, (w7.alloc o).frozen? ⟨mb, 0, none⟩ = false := fun o => frozen_of_row _ _ 0 _ _ (HM7.out.alloc o).blk
            go_wp2_with fail
            go_meet
            case rel => exact ⟨_, _, _, _, _, _, _, HM8.out⟩
          go_wp2_with fail
          go_meet
          case rel => exact ⟨_, _, _, _, _, _, _, DM.done HM7.out (by omega) (by omega)⟩
        case rest =>
          obtain ⟨f1, g1, x, y, t, f2, g2, hDF⟩ := hcut
          obtain ⟨fa1, fc1, hv1⟩ := own_slice hDF.own1
          obtain ⟨fa2, fc2, hv2⟩ := own_slice hDF.own2
          subst hv1 hv2
          have HDF : Hid (DF B g len cap b off a z w mb (.slice fa1 g1.length fc1) g1 x y t (.slice fa2 g2.length fc2) g2 wc) := hDF
          have fb0 := cell_of_row _ _ 0 _ _ _ hDF.blk
          have fb1 := cell_of_row _ _ 1 _ _ _ hDF.blk
          have fb2 := cell_of_row _ _ 2 _ _ _ hDF.blk
          have fb3 := cell_of_row _ _ 3 _ _ _ hDF.blk
          have fb4 := cell_of_row _ _ 4 _ _ _ hDF.blk
          simp at fb0 fb1 fb2 fb3 fb4
          have fr0 := cell_of_row _ _ 0 _ _ _ hDF.res
          have fr1 := cell_of_row _ _ 1 _ _ _ hDF.res
          have fr2 := cell_of_row _ _ 2 _ _ _ hDF.res
          have fr3 := cell_of_row _ _ 3 _ _ _ hDF.res
          have fr4 := cell_of_row _ _ 4 _ _ _ hDF.res
          have frf0 := frozen_of_row _ _ 0 _ _ hDF.res
          have frf1 := frozen_of_row _ _ 1 _ _ hDF.res
          have frf2 := frozen_of_row _ _ 2 _ _ hDF.res
          have frf3 := frozen_of_row _ _ 3 _ _ hDF.res
          have frf4 := frozen_of_row _ _ 4 _ _ hDF.res
          simp at fr0 fr1 fr2 fr3 fr4
          have hup := hDF.up
          clear hDF
          go_wp2
          obtain ⟨k0, k1, k2, k3, k4⟩ := five_cell HDF.out.res (.slice fa1 g1.length fc1) (.int .i64 x) (.int .i64 y) (.int .i64 t) (.slice fa2 g2.length fc2)
          have n1 := own_not HDF.out.own1 HDF.out.res (by decide)
          have n2 := own_not HDF.out.own2 HDF.out.res (by decide)
          refine bodyPost_ret (v := .agg #[.slice fa1 g1.length fc1, .int .i64 x, .int .i64 y, .int .i64 t, .slice fa2 g2.length fc2]) (by simp [results, Try.results27, go_sem, k0, k1, k2, k3, k4]) rfl ⟨⟨g1, x, y, t, g2⟩, _, _, rfl, HDF.out.len1, HDF.out.len2, ?_, ?_, ?_⟩
          · exact own_set (own_set (own_set (own_set (own_set HDF.out.own1 _ _ _ n1) _ _ _ n1) _ _ _ n1) _ _ _ n1) _ _ _ n1
          · exact own_set (own_set (own_set (own_set (own_set HDF.out.own2 _ _ _ n2) _ _ _ n2) _ _ _ n2) _ _ _ n2) _ _ _ n2
          · exact grown_new (grown_new (grown_new (grown_new (grown_new HDF.out.gr (k := w.heap.size) (Nat.le_refl _) 0 _) (k := w.heap.size) (Nat.le_refl _) 1 _) (k := w.heap.size) (Nat.le_refl _) 2 _) (k := w.heap.size) (Nat.le_refl _) 3 _) (k := w.heap.size) (Nat.le_refl _) 4 _
end Go.Proofs.Ytcmjidcdkooliaa
