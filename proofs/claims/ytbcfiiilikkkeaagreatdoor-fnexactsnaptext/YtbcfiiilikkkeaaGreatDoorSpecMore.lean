/- The call of the specification's l08More, walked. -/
import Derived.Test.YtbcfiiilikkkeaaGreatDoorRdDir
import Derived.Test.YtbcfiiilikkkeaaGreatDoorMathAt
import Derived.Test.YtbcfiiilikkkeaaGreatDoorSpecDirOk
namespace Go.Proofs.YtbcfiiilikkkeaaGreatDoor
open Go.RowKit
set_option linter.unusedVariables false
set_option linter.unusedSimpArgs false

/-- What a round of l08More holds: the directory so far, the spot x in its block, the next directory. -/
structure N1 (w : World) (xb : Nat) (X : Array Value) (v : Value) (L : List SpotL) (v' : Value) (pre : List SpotL) (W : World) : Prop where
  out : W.ownsRow w.heap.size 134 4 v L.length (cellsSpot L)
  lo : ∀ g, v.ownBlock = some g → g < xb
  nxt : W.ownsRow (xb + 1) 134 4 v' pre.length (cellsSpot pre)
  blk : W.heap[xb]? = some (.cells X 134 (0, 0))
  bel : Below w.heap.size w W
  up : w.heap.size ≤ xb
section
variable {w W W' : World} {xb : Nat} {X : Array Value} {v v' v'' : Value} {L pre : List SpotL}
theorem N1.same (h : N1 w xb X v L v' pre W) (hb : Below W.heap.size W W') : N1 w xb X v L v' pre W' :=
  ⟨own_kept h.out hb, h.lo, own_kept h.nxt hb, (hb.block xb (Array.getElem?_eq_some_iff.1 h.blk).1).trans h.blk, h.bel.trans (hb.mono h.bel.size), h.up⟩
theorem N1.alloc (h : N1 w xb X v L v' pre W) (o : Obj) : N1 w xb X v L v' pre (W.alloc o) := h.same ((Below.refl _ _).alloc (Nat.le_refl _) _)
theorem N1.app (h : N1 w xb X v L v' pre W) {c : SpotL} (hg : W.grownBy W' v'.ownBlock) (hown : W'.ownsRow (xb + 1) 134 4 v'' (pre.length + 1) (cellsSpot pre ++ cellsSpot [c])) : N1 w xb X v L v'' (pre ++ [c]) W' := by
  refine ⟨h.out.kept hg ?_, h.lo, ?_, ?_, h.bel.grown hg h.bel.size (fun k e => by have := (h.nxt.lt k e).1; have := h.up; omega), h.up⟩
  · cases e : v.ownBlock with
    | none => exact Or.inl rfl
    | some g => exact Or.inr (fun e2 => by have := h.lo g e; have := (h.nxt.lt g e2.symm).1; omega)
  · rw [cellsSpot_app, List.length_append]; exact hown
  · exact (hg.block xb (Array.getElem?_eq_some_iff.1 h.blk).1 (fun e => by have := (h.nxt.lt xb e.symm).1; omega)).trans h.blk
end
theorem filter_step {p : SpotL → Bool} {l : List SpotL} {k : Nat} (hk : k < l.length) : (l.take (k + 1)).filter p = (l.take k).filter p ++ (if p l[k] then [l[k]] else []) := by
  rw [List.take_succ_eq_append_getElem hk, List.filter_append]
  congr 1
  rw [List.filter_cons, List.filter_nil]
theorem gt_yes {A E : ByteArray} (h : Op.bytesLess A.toList E.toList = true) : Op.bytesLess E.toList A.toList = false ∧ (E.toList == A.toList) = false := by
  have := le_of_lt (S := A) (A := E) h
  rw [Bool.or_eq_false_iff] at this
  exact this
theorem gt_no {A E : ByteArray} (h : Op.bytesLess A.toList E.toList = false) : Op.bytesLess E.toList A.toList = true ∨ (Op.bytesLess E.toList A.toList = false ∧ (E.toList == A.toList) = true) := by
  have := le_of_not (S := A) (A := E) (by unfold Batches.lt; rw [h]; simp)
  cases e : Op.bytesLess E.toList A.toList
  · rw [e, Bool.false_or] at this
    exact Or.inr ⟨rfl, this⟩
  · exact Or.inl rfl
theorem filter_take_len {p : SpotL → Bool} {l : List SpotL} (k : Nat) : ((l.take k).filter p).length ≤ k := by
  have h1 := List.length_filter_le p (l.take k)
  rw [List.length_take] at h1
  omega
set_option maxHeartbeats 8000000 in
set_option maxRecDepth 100000 in
theorem l08More_is {a a2 : Option Addr} {g off cap g2 off2 cap2 : Nat} (l xs : List SpotL) (hlen : l.length + xs.length ≤ 2097000) (w : World) (hf : SpotAt w a g off l) (hf2 : SpotAt w a2 g2 off2 xs) (hnil : a = none → cap = 0) :
    Calls Tryz.prog 185 #[.slice a l.length cap, .slice a2 xs.length cap2] w fun e w' => ∃ v, e = .returned v ∧ w'.ownsRow w.heap.size 134 4 v (Dirs.more l xs).length (cellsSpot (Dirs.more l xs)) ∧ Below w.heap.size w w' := by
  have HF : Hid (SpotAt w a g off l) := hf
  have HX : Hid (SpotAt w a2 g2 off2 xs) := hf2
  have HNL : Hid (a = none → cap = 0) := hnil
  clear hf hf2 hnil
  have h0 := World.ownsRow_made (base := w.heap.size) (e := 134) (size := 4) w #[] 0 (Nat.le_refl _) (by unfold maxLen; omega) rfl
  have hb0 : Below w.heap.size w (w.alloc (Obj.cells #[] 134)) := (Below.refl _ _).alloc (Nat.le_refl _) _
  go_enter Tryz.func185, Tryz.ntmps185
  go_wp2_with (at_builtin; refine wpList_appendSpot rfl _ _ rfl w.heap.size _ 0 [] rfl h0 a g off cap l rfl (HF.out.kept hb0) HNL.out (by omega) hb0.size ?_)
  intro v0 w0 hown0 hg0
  have hown0' : w0.ownsRow w.heap.size 134 4 v0 l.length (cellsSpot l) := by simpa using hown0
  have hB0 : Below w.heap.size w w0 := hb0.grown hg0 hb0.size (fun k e => (h0.lt k e).1)
  have HO0 : Hid (w0.ownsRow w.heap.size 134 4 v0 (Dirs.more l (xs.take 0)).length (cellsSpot (Dirs.more l (xs.take 0)))) := hown0'
  clear hown0 hg0 h0 hb0 hown0'
  go_wp2_with fail
  go_loopw [5, 6] (fun v i wr => ∃ k : Nat, k ≤ xs.length ∧ i = .int .i64 (k : Int) ∧ Hid (wr.ownsRow w.heap.size 134 4 v (Dirs.more l (xs.take k)).length (cellsSpot (Dirs.more l (xs.take k)))) ∧ Below w.heap.size w wr)
    (fun _ i _ => xs.length - (intOf i).toNat)
  case atStart => exact ⟨0, Nat.zero_le _, rfl, HO0, hB0⟩
  case round =>
    obtain ⟨k, hk, rfl, HO, hbel⟩ := hrel
    by_cases hlt : k < xs.length
    · obtain ⟨c0, c1, c2, c3⟩ := (HX.out.kept hbel).2 k hlt
      have ea := HX.out.1 (by omega)
      subst ea
      have HAA0 : Hid (∃ c, c = xs[k] ∧ xs[k] = c) := ⟨_, rfl, rfl⟩
      obtain ⟨c, hc, hc'⟩ := HAA0.out
      rw [← hc] at c0 c1 c2 c3
      have HST : Hid (Dirs.more l (xs.take (k + 1)) = Dirs.put1 (Dirs.more l (xs.take k)) c) := by show _ = _; rw [Dirs.more_take hlt, hc']
      clear HAA0 hc hc'
      obtain ⟨L, hL⟩ : ∃ L, L = Dirs.more l (xs.take k) := ⟨_, rfl⟩
      have hLn : L.length ≤ 2097000 := by rw [hL]; exact Nat.le_trans (Dirs.more_take_len k) hlen
      rw [← hL] at HO HST
      clear hL
      obtain ⟨A, G, P, Z⟩ := c
      simp only at c0 c1 c2 c3
      have hk0 : (0 : Int) ≤ (k : Int) := by omega
      have hk1 : (k : Int) < (xs.length : Int) := by omega
      obtain ⟨va, vc, hva⟩ := own_slice HO.out
      subst hva
      obtain ⟨xb, hxb⟩ : ∃ xb, xb = wr.heap.size := ⟨_, rfl⟩
      have HN0 : Hid (N1 w xb #[Value.string A, Value.int .i64 G, Value.int .i64 P, Value.int .i64 Z] (.slice va L.length vc) L (.slice (some ⟨xb + 1, 0, none⟩) 0 0) [] ((wr.alloc (Obj.cells #[Value.string A, Value.int .i64 G, Value.int .i64 P, Value.int .i64 Z] 134)).alloc (Obj.cells #[] 134))) := by
        have b1 : Below wr.heap.size wr (wr.alloc (Obj.cells #[Value.string A, Value.int .i64 G, Value.int .i64 P, Value.int .i64 Z] 134)) := (Below.refl _ _).alloc (Nat.le_refl _) _
        have b2 : Below wr.heap.size wr ((wr.alloc (Obj.cells #[Value.string A, Value.int .i64 G, Value.int .i64 P, Value.int .i64 Z] 134)).alloc (Obj.cells #[] 134)) := b1.alloc b1.size _
        have hz : (wr.alloc (Obj.cells #[Value.string A, Value.int .i64 G, Value.int .i64 P, Value.int .i64 Z] 134)).heap.size = xb + 1 := by rw [hxb]; simp
        refine ⟨own_kept HO.out b2, fun q e => by rw [hxb]; exact (HO.out.lt q e).2, ?_, ?_, hbel.trans (b2.mono hbel.size), by rw [hxb]; exact hbel.size⟩
        · have := World.ownsRow_made (base := xb + 1) (e := 134) (size := 4) (wr.alloc (Obj.cells #[Value.string A, Value.int .i64 G, Value.int .i64 P, Value.int .i64 Z] 134)) #[] 0 (by rw [hz]; exact Nat.le_refl _) (by unfold maxLen; omega) rfl
          rw [hz] at this
          exact this
        · rw [Below.heap_alloc _ _ _ (by rw [hz]; omega), hxb]; exact heap_alloc_new wr _
      have hz1 : (wr.alloc (Obj.cells #[Value.string A, Value.int .i64 G, Value.int .i64 P, Value.int .i64 Z] 134)).heap.size = xb + 1 := by rw [hxb]; simp
      go_wp2_with fail
      obtain ⟨W1, hW1⟩ : ∃ W1, W1 = (wr.alloc (Obj.cells #[Value.string A, Value.int .i64 G, Value.int .i64 P, Value.int .i64 Z] 134)).alloc (Obj.cells #[] 134) := ⟨_, rfl⟩
      rw [← hxb]
      clear c0 c1 c2 c3 hz1 hW1 hxb hbel HO
      go_loopw [8, 9] (fun v i wq => ∃ (j : Nat) (pre : List SpotL), j ≤ L.length ∧ i = .int .i64 (j : Int) ∧ Hid (pre = (L.take j).filter (fun y => Batches.lt y.key A)) ∧ Hid (N1 w xb #[Value.string A, Value.int .i64 G, Value.int .i64 P, Value.int .i64 Z] (.slice va L.length vc) L v pre wq))
        (fun _ i _ => L.length - (intOf i).toNat)
      case atStart => exact ⟨0, [], Nat.zero_le _, rfl, by show _ = _; simp, HN0⟩
      case round =>
        obtain ⟨j, pre, hj, rfl, HP, HN⟩ := hrel
        have hpl : pre.length ≤ j := by rw [HP.out]; exact filter_take_len j
        have x0 := cell_of_row _ _ 0 _ _ _ HN.out.blk
        have x1 := cell_of_row _ _ 1 _ _ _ HN.out.blk
        have x2 := cell_of_row _ _ 2 _ _ _ HN.out.blk
        have x3 := cell_of_row _ _ 3 _ _ _ HN.out.blk
        simp at x0 x1 x2 x3
        by_cases hjl : j < L.length
        · obtain ⟨_, gg, _, eS, hAt⟩ := cellsSpot_slice HN.out.out
          cases eS
          obtain ⟨e0, e1, e2, e3⟩ := hAt.2 j hjl
          have ea := hAt.1 (by omega)
          subst ea
          have HBB0 : Hid (∃ c, c = L[j] ∧ L[j] = c) := ⟨_, rfl, rfl⟩
          obtain ⟨c, hc, hc'⟩ := HBB0.out
          rw [← hc] at e0 e1 e2 e3
          clear HBB0 hAt
          obtain ⟨E, G', P', Z'⟩ := c
          have HE : Hid (L[j] = ⟨E, G', P', Z'⟩) := hc'
          clear hc hc'
          simp only at e0 e1 e2 e3
          simp only [Nat.zero_add] at e0 e1 e2 e3
          have hj0 : (0 : Int) ≤ (j : Int) := by omega
          have hj1 : (j : Int) < (L.length : Int) := by omega
          cases hb : Op.bytesLess E.toList A.toList
          case false =>
            have HPN : Hid (pre = (L.take (j + 1)).filter (fun y => Batches.lt y.key A)) := by
              show _ = _
              rw [filter_step hjl, HE.out, if_neg (by simpa [Batches.lt] using hb), List.append_nil]
              exact HP.out
            go_wp2_with fail
            have NE := Abv.ne wr
            have F0 := fun x : Abv wr => x.cell e0
            have F1 := fun x : Abv wr => x.cell x0
            refine wp_region_above (by kernel_rfl) (by kernel_rfl) ?_
            repeat (go_big_quiet_step (fail))
            refine wpQuiet_nil ?_
            rintro w1 ⟨⟨_, hb1⟩, rfl⟩
            have HN1 : Hid (N1 w xb #[Value.string A, Value.int .i64 G, Value.int .i64 P, Value.int .i64 Z] (.slice (some ⟨gg, 0, none⟩) L.length vc) L u8 pre w1) := HN.out.same hb1
            clear NE F0 F1 hb1
            go_wp2
            go_roundw
            case rel => exact ⟨j + 1, pre, by omega, by go_num, HPN, HN1⟩
            case measure => simp [intOf]; omega
          case true =>
            have HPN : Hid (pre ++ [⟨E, G', P', Z'⟩] = (L.take (j + 1)).filter (fun y => Batches.lt y.key A)) := by
              show _ = _
              rw [filter_step hjl, HE.out, if_pos (by simpa [Batches.lt] using hb)]
              exact congrArg (· ++ [(⟨E, G', P', Z'⟩ : SpotL)]) HP.out
            go_wp2_with fail
            have NE := Abv.ne wr
            have F0 := fun x : Abv wr => x.cell e0
            have F1 := fun x : Abv wr => x.cell x0
            refine wp_region_above (by kernel_rfl) (by kernel_rfl) ?_
            repeat (go_big_quiet_step (fail))
            refine wpQuiet_nil ?_
            rintro w1 ⟨⟨_, hb1⟩, rfl⟩
            have HN1 : Hid (N1 w xb #[Value.string A, Value.int .i64 G, Value.int .i64 P, Value.int .i64 Z] (.slice (some ⟨gg, 0, none⟩) L.length vc) L u8 pre w1) := HN.out.same hb1
            obtain ⟨_, gg2, _, eS, hAt⟩ := cellsSpot_slice HN1.out.out
            cases eS
            obtain ⟨d0, d1, d2, d3⟩ := hAt.2 j hjl
            rw [HE.out] at d0 d1 d2 d3
            simp only at d0 d1 d2 d3
            have eg := Option.some.inj (hAt.1 (by omega))
            cases eg
            simp only [Nat.zero_add] at d0 d1 d2 d3
            have hA7 := spotAt_new w1 ⟨E, G', P', Z'⟩
            have hown := (HN1.out.alloc (Obj.cells #[Value.string E, Value.int .i64 G', Value.int .i64 P', Value.int .i64 Z'] 134)).nxt
            have hbz : xb + 1 ≤ (w1.alloc (Obj.cells #[Value.string E, Value.int .i64 G', Value.int .i64 P', Value.int .i64 Z'] 134)).heap.size := by
              have := (Array.getElem?_eq_some_iff.1 HN1.out.blk).1
              simp; omega
            clear NE F0 F1 hb1 hAt
            go_wp2_with (at_builtin; refine wpList_appendSpot rfl _ _ rfl (xb + 1) u8 _ _ rfl hown (some ⟨w1.heap.size, 0, none⟩) w1.heap.size 0 1 [⟨E, G', P', Z'⟩] rfl hA7 (by simp) (by simp; omega) hbz ?_)
            intro v' w8 hown8 hgrow
            have HN8 : Hid (N1 w xb #[Value.string A, Value.int .i64 G, Value.int .i64 P, Value.int .i64 Z] (.slice (some ⟨gg, 0, none⟩) L.length vc) L v' (pre ++ [⟨E, G', P', Z'⟩]) w8) := (HN1.out.alloc _).app hgrow hown8
            clear hown8 hgrow hown hA7 hbz d0 d1 d2 d3
            go_wp2
            go_roundw
            case rel => exact ⟨j + 1, pre ++ [⟨E, G', P', Z'⟩], by omega, by go_num, HPN, HN8⟩
            case measure => simp [intOf]; omega
        · have hj1 : ¬ (j : Int) < (L.length : Int) := by omega
          have HP1 : Hid (pre = L.filter (fun y => Batches.lt y.key A)) := by show _ = _; rw [HP.out, List.take_of_length_le (by omega)]
          clear HP
          by_cases hz : Z = -1
          case pos =>
            subst hz
            have HN9 := HN
            go_wp2_with fail
            clear x0 x1 x2 x3
            go_loopw [8, 10] (fun v i wq => ∃ (j : Nat) (pre : List SpotL), j ≤ L.length ∧ i = .int .i64 (j : Int) ∧ Hid (pre = (L.filter (fun y => Batches.lt y.key A)) ++ (L.take j).filter (fun y => Batches.lt A y.key)) ∧ Hid (N1 w xb #[Value.string A, Value.int .i64 G, Value.int .i64 P, Value.int .i64 (-1)] (.slice va L.length vc) L v pre wq))
              (fun _ i _ => L.length - (intOf i).toNat)
            case atStart => exact ⟨0, pre, Nat.zero_le _, rfl, by show _ = _; rw [HP1.out]; simp, HN9⟩
            case round =>
              clear HN HN9 HP1
              obtain ⟨j, pre, hj, rfl, HP, HN⟩ := hrel
              have hpl : pre.length ≤ 2097000 + 1 + j := by
                have h1 := filter_take_len (p := fun y => Batches.lt A y.key) (l := L) j
                have h2 := List.length_filter_le (fun y => Batches.lt y.key A) L
                rw [HP.out]
                simp only [List.length_append, List.length_cons, List.length_nil]
                omega
              have hpl2 : pre.length ≤ 2097001 := by
                have h1 := Dirs.two_filter ⟨A, G, P, -1⟩ L
                have h3 : ((L.take j).filter (fun y => Batches.lt A y.key)).length ≤ (L.filter (fun y => Batches.lt A y.key)).length := ((List.take_sublist j L).filter _).length_le
                rw [HP.out]
                simp only [List.length_append, List.length_cons, List.length_nil]
                simp only at h1
                omega
              clear hpl
              have x0 := cell_of_row _ _ 0 _ _ _ HN.out.blk
              simp at x0
              by_cases hjl : j < L.length
              · obtain ⟨_, gg, _, eS, hAt⟩ := cellsSpot_slice HN.out.out
                cases eS
                obtain ⟨e0, e1, e2, e3⟩ := hAt.2 j hjl
                have ea := hAt.1 (by omega)
                subst ea
                have HBB0 : Hid (∃ c, c = L[j] ∧ L[j] = c) := ⟨_, rfl, rfl⟩
                obtain ⟨c, hc, hc'⟩ := HBB0.out
                rw [← hc] at e0 e1 e2 e3
                clear HBB0 hAt
                obtain ⟨E, G', P', Z'⟩ := c
                have HE : Hid (L[j] = ⟨E, G', P', Z'⟩) := hc'
                clear hc hc'
                simp only at e0 e1 e2 e3
                simp only [Nat.zero_add] at e0 e1 e2 e3
                have hj0 : (0 : Int) ≤ (j : Int) := by omega
                have hj1 : (j : Int) < (L.length : Int) := by omega
                cases hb : Op.bytesLess A.toList E.toList
                case false =>
                  rcases gt_no hb with hq1 | ⟨hq1, hq2⟩
                  all_goals
                    have HPN : Hid (pre = (L.filter (fun y => Batches.lt y.key A)) ++ (L.take (j + 1)).filter (fun y => Batches.lt A y.key)) := by
                      show _ = _
                      rw [filter_step hjl, HE.out, if_neg (by simpa [Batches.lt] using hb), List.append_nil]
                      exact HP.out
                    go_wp2_with fail
                    have NE := Abv.ne wr
                    have F0 := fun x : Abv wr => x.cell e0
                    have F1 := fun x : Abv wr => x.cell x0
                    refine wp_region_above (by kernel_rfl) (by kernel_rfl) ?_
                    repeat (go_big_quiet_step (fail))
                    refine wpQuiet_nil ?_
                    rintro w1 ⟨⟨_, hb1⟩, rfl⟩
                    have HN1 : Hid (N1 w xb #[Value.string A, Value.int .i64 G, Value.int .i64 P, Value.int .i64 (-1)] (.slice (some ⟨gg, 0, none⟩) L.length vc) L u8 pre w1) := HN.out.same hb1
                    clear NE F0 F1 hb1
                    go_wp2
                    go_roundw
                    case rel => exact ⟨j + 1, pre, by omega, by go_num, HPN, HN1⟩
                    case measure => simp [intOf]; omega
                case true =>
                  obtain ⟨hq1, hq2⟩ := gt_yes hb
                  have HPN : Hid (pre ++ [⟨E, G', P', Z'⟩] = (L.filter (fun y => Batches.lt y.key A)) ++ (L.take (j + 1)).filter (fun y => Batches.lt A y.key)) := by
                    show _ = _
                    rw [filter_step hjl, HE.out, if_pos (by simpa [Batches.lt] using hb), ← List.append_assoc]
                    exact congrArg (· ++ [(⟨E, G', P', Z'⟩ : SpotL)]) HP.out
                  go_wp2_with fail
                  have NE := Abv.ne wr
                  have F0 := fun x : Abv wr => x.cell e0
                  have F1 := fun x : Abv wr => x.cell x0
                  refine wp_region_above (by kernel_rfl) (by kernel_rfl) ?_
                  repeat (go_big_quiet_step (fail))
                  refine wpQuiet_nil ?_
                  rintro w1 ⟨⟨_, hb1⟩, rfl⟩
                  have HN1 : Hid (N1 w xb #[Value.string A, Value.int .i64 G, Value.int .i64 P, Value.int .i64 (-1)] (.slice (some ⟨gg, 0, none⟩) L.length vc) L u8 pre w1) := HN.out.same hb1
                  obtain ⟨_, gg2, _, eS, hAt⟩ := cellsSpot_slice HN1.out.out
                  cases eS
                  obtain ⟨d0, d1, d2, d3⟩ := hAt.2 j hjl
                  rw [HE.out] at d0 d1 d2 d3
                  simp only at d0 d1 d2 d3
                  have eg := Option.some.inj (hAt.1 (by omega))
                  cases eg
                  simp only [Nat.zero_add] at d0 d1 d2 d3
                  have hA7 := spotAt_new w1 ⟨E, G', P', Z'⟩
                  have hown := (HN1.out.alloc (Obj.cells #[Value.string E, Value.int .i64 G', Value.int .i64 P', Value.int .i64 Z'] 134)).nxt
                  have hbz : xb + 1 ≤ (w1.alloc (Obj.cells #[Value.string E, Value.int .i64 G', Value.int .i64 P', Value.int .i64 Z'] 134)).heap.size := by
                    have := (Array.getElem?_eq_some_iff.1 HN1.out.blk).1
                    simp; omega
                  clear NE F0 F1 hb1 hAt
                  go_wp2_with (at_builtin; refine wpList_appendSpot rfl _ _ rfl (xb + 1) u8 _ _ rfl hown (some ⟨w1.heap.size, 0, none⟩) w1.heap.size 0 1 [⟨E, G', P', Z'⟩] rfl hA7 (by simp) (by simp; omega) hbz ?_)
                  intro v' w8 hown8 hgrow
                  have HN8 : Hid (N1 w xb #[Value.string A, Value.int .i64 G, Value.int .i64 P, Value.int .i64 (-1)] (.slice (some ⟨gg, 0, none⟩) L.length vc) L v' (pre ++ [⟨E, G', P', Z'⟩]) w8) := (HN1.out.alloc _).app hgrow hown8
                  clear hown8 hgrow hown hA7 hbz d0 d1 d2 d3
                  go_wp2
                  go_roundw
                  case rel => exact ⟨j + 1, pre ++ [⟨E, G', P', Z'⟩], by omega, by go_num, HPN, HN8⟩
                  case measure => simp [intOf]; omega
              · have hj1 : ¬ (j : Int) < (L.length : Int) := by omega
                have HFN : Hid (wr.ownsRow w.heap.size 134 4 u8 (Dirs.more l (xs.take (k + 1))).length (cellsSpot (Dirs.more l (xs.take (k + 1))))) := by
                  have e : pre = Dirs.more l (xs.take (k + 1)) := by
                    rw [HST.out, HP.out, List.take_of_length_le (by omega)]
                    unfold Dirs.put1
                    rw [if_pos rfl]; simp
                  rw [← e]
                  exact own_mono HN.out.nxt (by have := HN.out.up; omega)
                have hbN := HN.out.bel
                clear HN HP
                go_wp2
                go_roundw
                case rel => exact ⟨k + 1, by omega, by go_num, HFN, hbN⟩
                case measure => simp [intOf]; omega
          case neg =>
            have hA7 := spotAt_new wr ⟨A, G, P, Z⟩
            have hown := (HN.out.alloc (Obj.cells #[Value.string A, Value.int .i64 G, Value.int .i64 P, Value.int .i64 Z] 134)).nxt
            have hbz : xb + 1 ≤ (wr.alloc (Obj.cells #[Value.string A, Value.int .i64 G, Value.int .i64 P, Value.int .i64 Z] 134)).heap.size := by
              have := (Array.getElem?_eq_some_iff.1 HN.out.blk).1
              simp; omega
            go_wp2_with (at_builtin; refine wpList_appendSpot rfl _ _ rfl (xb + 1) u8 _ _ rfl hown (some ⟨wr.heap.size, 0, none⟩) wr.heap.size 0 1 [⟨A, G, P, Z⟩] rfl hA7 (by simp) (by simp; omega) hbz ?_)
            intro v9 w9 hown9 hgrow9
            have HN9 : Hid (N1 w xb #[Value.string A, Value.int .i64 G, Value.int .i64 P, Value.int .i64 Z] (.slice va L.length vc) L v9 (pre ++ [⟨A, G, P, Z⟩]) w9) := (HN.out.alloc _).app hgrow9 hown9
            clear hown9 hgrow9 hown hA7 hbz x0 x1 x2 x3
            go_wp2_with fail
            go_loopw [8, 10] (fun v i wq => ∃ (j : Nat) (pre : List SpotL), j ≤ L.length ∧ i = .int .i64 (j : Int) ∧ Hid (pre = (L.filter (fun y => Batches.lt y.key A) ++ [⟨A, G, P, Z⟩]) ++ (L.take j).filter (fun y => Batches.lt A y.key)) ∧ Hid (N1 w xb #[Value.string A, Value.int .i64 G, Value.int .i64 P, Value.int .i64 Z] (.slice va L.length vc) L v pre wq))
              (fun _ i _ => L.length - (intOf i).toNat)
            case atStart => exact ⟨0, pre ++ [⟨A, G, P, Z⟩], Nat.zero_le _, rfl, by show _ = _; rw [HP1.out]; simp, HN9⟩
            case round =>
              clear HN HN9 HP1
              obtain ⟨j, pre, hj, rfl, HP, HN⟩ := hrel
              have hpl : pre.length ≤ 2097000 + 1 + j := by
                have h1 := filter_take_len (p := fun y => Batches.lt A y.key) (l := L) j
                have h2 := List.length_filter_le (fun y => Batches.lt y.key A) L
                rw [HP.out]
                simp only [List.length_append, List.length_cons, List.length_nil]
                omega
              have hpl2 : pre.length ≤ 2097001 := by
                have h1 := Dirs.two_filter ⟨A, G, P, Z⟩ L
                have h3 : ((L.take j).filter (fun y => Batches.lt A y.key)).length ≤ (L.filter (fun y => Batches.lt A y.key)).length := ((List.take_sublist j L).filter _).length_le
                rw [HP.out]
                simp only [List.length_append, List.length_cons, List.length_nil]
                simp only at h1
                omega
              clear hpl
              have x0 := cell_of_row _ _ 0 _ _ _ HN.out.blk
              simp at x0
              by_cases hjl : j < L.length
              · obtain ⟨_, gg, _, eS, hAt⟩ := cellsSpot_slice HN.out.out
                cases eS
                obtain ⟨e0, e1, e2, e3⟩ := hAt.2 j hjl
                have ea := hAt.1 (by omega)
                subst ea
                have HBB0 : Hid (∃ c, c = L[j] ∧ L[j] = c) := ⟨_, rfl, rfl⟩
                obtain ⟨c, hc, hc'⟩ := HBB0.out
                rw [← hc] at e0 e1 e2 e3
                clear HBB0 hAt
                obtain ⟨E, G', P', Z'⟩ := c
                have HE : Hid (L[j] = ⟨E, G', P', Z'⟩) := hc'
                clear hc hc'
                simp only at e0 e1 e2 e3
                simp only [Nat.zero_add] at e0 e1 e2 e3
                have hj0 : (0 : Int) ≤ (j : Int) := by omega
                have hj1 : (j : Int) < (L.length : Int) := by omega
                cases hb : Op.bytesLess A.toList E.toList
                case false =>
                  rcases gt_no hb with hq1 | ⟨hq1, hq2⟩
                  all_goals
                    have HPN : Hid (pre = (L.filter (fun y => Batches.lt y.key A) ++ [⟨A, G, P, Z⟩]) ++ (L.take (j + 1)).filter (fun y => Batches.lt A y.key)) := by
                      show _ = _
                      rw [filter_step hjl, HE.out, if_neg (by simpa [Batches.lt] using hb), List.append_nil]
                      exact HP.out
                    go_wp2_with fail
                    have NE := Abv.ne wr
                    have F0 := fun x : Abv wr => x.cell e0
                    have F1 := fun x : Abv wr => x.cell x0
                    refine wp_region_above (by kernel_rfl) (by kernel_rfl) ?_
                    repeat (go_big_quiet_step (fail))
                    refine wpQuiet_nil ?_
                    rintro w1 ⟨⟨_, hb1⟩, rfl⟩
                    have HN1 : Hid (N1 w xb #[Value.string A, Value.int .i64 G, Value.int .i64 P, Value.int .i64 Z] (.slice (some ⟨gg, 0, none⟩) L.length vc) L u8 pre w1) := HN.out.same hb1
                    clear NE F0 F1 hb1
                    go_wp2
                    go_roundw
                    case rel => exact ⟨j + 1, pre, by omega, by go_num, HPN, HN1⟩
                    case measure => simp [intOf]; omega
                case true =>
                  obtain ⟨hq1, hq2⟩ := gt_yes hb
                  have HPN : Hid (pre ++ [⟨E, G', P', Z'⟩] = (L.filter (fun y => Batches.lt y.key A) ++ [⟨A, G, P, Z⟩]) ++ (L.take (j + 1)).filter (fun y => Batches.lt A y.key)) := by
                    show _ = _
                    rw [filter_step hjl, HE.out, if_pos (by simpa [Batches.lt] using hb), ← List.append_assoc]
                    exact congrArg (· ++ [(⟨E, G', P', Z'⟩ : SpotL)]) HP.out
                  go_wp2_with fail
                  have NE := Abv.ne wr
                  have F0 := fun x : Abv wr => x.cell e0
                  have F1 := fun x : Abv wr => x.cell x0
                  refine wp_region_above (by kernel_rfl) (by kernel_rfl) ?_
                  repeat (go_big_quiet_step (fail))
                  refine wpQuiet_nil ?_
                  rintro w1 ⟨⟨_, hb1⟩, rfl⟩
                  have HN1 : Hid (N1 w xb #[Value.string A, Value.int .i64 G, Value.int .i64 P, Value.int .i64 Z] (.slice (some ⟨gg, 0, none⟩) L.length vc) L u8 pre w1) := HN.out.same hb1
                  obtain ⟨_, gg2, _, eS, hAt⟩ := cellsSpot_slice HN1.out.out
                  cases eS
                  obtain ⟨d0, d1, d2, d3⟩ := hAt.2 j hjl
                  rw [HE.out] at d0 d1 d2 d3
                  simp only at d0 d1 d2 d3
                  have eg := Option.some.inj (hAt.1 (by omega))
                  cases eg
                  simp only [Nat.zero_add] at d0 d1 d2 d3
                  have hA7 := spotAt_new w1 ⟨E, G', P', Z'⟩
                  have hown := (HN1.out.alloc (Obj.cells #[Value.string E, Value.int .i64 G', Value.int .i64 P', Value.int .i64 Z'] 134)).nxt
                  have hbz : xb + 1 ≤ (w1.alloc (Obj.cells #[Value.string E, Value.int .i64 G', Value.int .i64 P', Value.int .i64 Z'] 134)).heap.size := by
                    have := (Array.getElem?_eq_some_iff.1 HN1.out.blk).1
                    simp; omega
                  clear NE F0 F1 hb1 hAt
                  go_wp2_with (at_builtin; refine wpList_appendSpot rfl _ _ rfl (xb + 1) u8 _ _ rfl hown (some ⟨w1.heap.size, 0, none⟩) w1.heap.size 0 1 [⟨E, G', P', Z'⟩] rfl hA7 (by simp) (by simp; omega) hbz ?_)
                  intro v' w8 hown8 hgrow
                  have HN8 : Hid (N1 w xb #[Value.string A, Value.int .i64 G, Value.int .i64 P, Value.int .i64 Z] (.slice (some ⟨gg, 0, none⟩) L.length vc) L v' (pre ++ [⟨E, G', P', Z'⟩]) w8) := (HN1.out.alloc _).app hgrow hown8
                  clear hown8 hgrow hown hA7 hbz d0 d1 d2 d3
                  go_wp2
                  go_roundw
                  case rel => exact ⟨j + 1, pre ++ [⟨E, G', P', Z'⟩], by omega, by go_num, HPN, HN8⟩
                  case measure => simp [intOf]; omega
              · have hj1 : ¬ (j : Int) < (L.length : Int) := by omega
                have HFN : Hid (wr.ownsRow w.heap.size 134 4 u8 (Dirs.more l (xs.take (k + 1))).length (cellsSpot (Dirs.more l (xs.take (k + 1))))) := by
                  have e : pre = Dirs.more l (xs.take (k + 1)) := by
                    rw [HST.out, HP.out, List.take_of_length_le (by omega)]
                    unfold Dirs.put1
                    rw [if_neg hz]; simp
                  rw [← e]
                  exact own_mono HN.out.nxt (by have := HN.out.up; omega)
                have hbN := HN.out.bel
                clear HN HP
                go_wp2
                go_roundw
                case rel => exact ⟨k + 1, by omega, by go_num, HFN, hbN⟩
                case measure => simp [intOf]; omega
    · have hk1 : ¬ (k : Int) < (xs.length : Int) := by omega
      have HE : Hid (wr.ownsRow w.heap.size 134 4 u5 (Dirs.more l xs).length (cellsSpot (Dirs.more l xs))) := by
        have := HO.out
        rw [List.take_of_length_le (by omega)] at this
        exact this
      go_wp2
      go_ret
      exact ⟨_, rfl, HE.out, hbel⟩
end Go.Proofs.YtbcfiiilikkkeaaGreatDoor
