/- The program's table of spots told as a directory: its keys collected, sorted, and the spots copied in their order. The call of the program's DirOk, walked. The calls of DirMore, the specification's and the program's, walked. -/
import Derived.Test.YtbcfiiilikkkeaaGreatDoorSTable
import Derived.Test.YtbcfiiilikkkeaaGreatDoorRdDir
import Derived.Test.YtbcfiiilikkkeaaGreatDoorKit
import Derived.Sort.OwnSorted
import Derived.Sort.KeysCollected
import Derived.Deep.AppendLies
import Derived.Deep.RegionHeld3
import Derived.Test.YtbcfiiilikkkeaaGreatDoorWhole2
import Derived.Test.YtbcfiiilikkkeaaGreatDoorSpecMore
namespace Go.Proofs.YtbcfiiilikkkeaaGreatDoor
open Go.RowKit Go.Maps Go.Sort
set_option linter.unusedVariables false

/-- The keys of a directory that ascends, sorted. -/
theorem sorted_skeys {l : List SpotL} (h : Dirs.asc l) {ss : List (List UInt8)} (hp : ss.Perm (l.map fun f => Batches.by_ f.key)) : ss.mergeSort (fun x y => decide (x ≤ y)) = l.map fun f => Batches.by_ f.key := by
  have e := mergeSort_of_perm hp
  unfold leB at e
  rw [e]
  refine List.mergeSort_of_pairwise (List.pairwise_map.2 (List.Pairwise.imp (fun {a b} hab => ?_) h))
  simp only [decide_eq_true_eq]
  exact List.le_of_lt ((Batches.lt_iff _ _).1 hab)
theorem senc_key (s : ByteArray) : encStr (Batches.by_ s) = .string s := by
  show Value.string ⟨(Batches.by_ s).toArray⟩ = .string s
  exact congrArg Value.string (Batches.by_inj (by simp [Batches.by_]))
/-- What stands while the spots are copied: those that are, the keys, the table. -/
structure ToldS (B g cap b : Nat) (l : List SpotL) (W0 wr : World) (v : Value) (k : Nat) : Prop where
  row : wr.ownsRow B 134 4 v k (cellsSpot (l.take k))
  names : wr.ownsRow B 9 1 (.slice (some ⟨g, 0, none⟩) l.length cap) l.length (l.map fun f => Value.string f.key)
  tab : STable wr b l
  below : Below B W0 wr
  up : B ≤ wr.heap.size
theorem ToldS.same {B g cap b : Nat} {l : List SpotL} {W0 wr w' : World} {v : Value} {k : Nat} (h : ToldS B g cap b l W0 wr v k) (hb : Below wr.heap.size wr w') : ToldS B g cap b l W0 w' v k :=
  ⟨own_kept h.row hb, own_kept h.names hb, h.tab.below hb, h.below.trans (hb.mono h.up), Nat.le_trans h.up hb.size⟩
theorem ToldS.far {B g cap b : Nat} {l : List SpotL} {W0 wr : World} {v : Value} {k : Nat} (h : ToldS B g cap b l W0 wr v k) {q : Nat} (h1 : b < q) (h2 : g < q) (h3 : ∀ r, v.ownBlock = some r → r < q) (h4 : B ≤ q) (j : Nat) (x : Value) : ToldS B g cap b l W0 (wr.setCell ⟨q, j, none⟩ x) v k :=
  ⟨own_set h.row _ _ _ (fun e => by have := h3 q e; omega), own_set h.names _ _ _ (fun e => (by have q9 : g = q := (by simpa [Value.ownBlock] using e); omega)), h.tab.set (by simp; omega) _, h.below.setCell (by simp; omega) _, by have := h.up; simpa [World.setCell] using this⟩
theorem ToldS.app {B g cap b : Nat} {l : List SpotL} {W0 wr w8 : World} {v v' : Value} {k : Nat} (h : ToldS B g cap b l W0 wr v k) (hbB : b < B) (hg : wr.grownBy w8 v.ownBlock) (hown : w8.ownsRow B 134 4 v' (k + 1) (cellsSpot (l.take (k + 1)))) : ToldS B g cap b l W0 w8 v' (k + 1) := by
  have hne : some b ≠ v.ownBlock := fun e => by have := (h.row.lt b e.symm).1; omega
  refine ⟨hown, h.names.kept hg (Or.inr ?_), h.tab.kept hg hne, h.below.grown hg h.up (fun j hj => (h.row.lt j hj).1), Nat.le_trans h.up hg.size⟩
  intro e
  rcases h.names.2 with ⟨q, _⟩ | ⟨g', cap', cur', q1, _, q2, _⟩
  · cases q
  · cases q1
    exact own_not h.row q2 (by decide) e.symm
set_option maxHeartbeats 4000000 in
set_option maxRecDepth 100000 in
theorem told_is (l : List SpotL) (hasc : Dirs.asc l) (hl : l.length ≤ 2097151) (hsz : ∀ c ∈ l, smallSpot 2097152 c) (b : Nat) (w : World) (hT : STable w b l) :
    Calls Tryz.prog 249 #[.map (some b)] w fun e w' => ∃ v, e = .returned v ∧ w'.ownsRow w.heap.size 134 4 v l.length (cellsSpot l) ∧ Below w.heap.size w w' := by
  obtain ⟨i0, hi, hz0, hz1, hz2⟩ := info_parts Tryz.info9
  obtain ⟨j0, hj, hy0, hy1, hy2⟩ := info_parts Tryz.info134
  have HSM : Hid (∀ c ∈ l, smallSpot 2097152 c) := hsz
  have HA : Hid (Dirs.asc l) := hasc
  obtain ⟨D0, hown, htab⟩ := hT
  have hsz0 : Maps.size D0 ≤ 2097151 := by rw [stab_size hasc hown htab]; exact hl
  have HK : Hid ((l.map fun f => Batches.by_ f.key).Perm (strKeys D0)) := stab_keys hasc hown htab
  have HTB : Hid (STabIs l D0) := htab
  have hbl := hown.lt
  clear hasc hsz htab
  obtain ⟨n, hn⟩ : ∃ n, n = Maps.size D0 := ⟨_, rfl⟩
  have hn30 : n ≤ 2097151 := by omega
  rw [← hn] at hown
  have HN : Hid (n = Maps.size D0) := hn
  clear hn
  go_enter Tryz.func249, Tryz.ntmps249
  go_wp2_with (first
    | (at_len; refine wpList_len_own _ rfl _ 305 rfl 9 134 Tryz.underlying305 _ b n _ rfl hown ?_)
    | (at_make; refine wpList_make_own _ rfl _ _ 158 rfl w.heap.size 9 i0 (.string ⟨#[]⟩) 1 Tryz.underlying158 hi hz0 hz1 _ _ _ (Maps.size D0) rfl rfl rfl (by rw [hz2]; omega) (by unfold maxLen; omega) (Nat.le_refl _) ?_; intro w1 hrow1 hg1)
    | (at_range; refine wpList_range_own _ rfl _ 305 rfl 9 134 strK Tryz.underlying305 _ b n _ rfl (hown.kept hg1 (by simp)) ?_; intro w0 hrg0 hg0 hs0)
    | fail)
  go_frame
  have hrow1' : w1.ownsRow w.heap.size 9 1 (.slice (some ⟨w.heap.size, 0, none⟩) 0 (size D0)) 0 [] := by simpa using hrow1
  have hgz1 := hg1.size
  clear hrow1
  go_loopw [3] (fun v wr => ∃ (left : Lit → Bool) (cnt : Nat) (ss : List (List UInt8)), wr.ranges Tryz.prog 9 spotElem b w1.heap.size n D0 left cnt ∧ ss.length + cnt ≤ Maps.size D0 ∧
      wr.ownsRow w.heap.size 9 1 v ss.length (ss.map encStr) ∧ v ≠ .slice none 0 0 ∧ Collected D0 left ss ∧ Below w.heap.size w wr)
    (fun _ wr => wr.rangeLeft b w1.heap.size)
  case atStart =>
    exact ⟨_, _, [], hrg0, by simp, hrow1'.kept hg0 (Or.inr (by simp [Value.ownBlock])), by simp, Collected.start D0,
      ((Below.refl _ _).grown hg1 (Nat.le_refl _) (fun j hj => by cases hj)).grown hg0 hgz1 (fun j hj => by cases hj)⟩
  case round =>
    obtain ⟨left, cnt, ss, hrg, hcs, hrow, hnn, hC, hnx⟩ := hrel
    have hnz := hnx.size
    go_wp2_with (first
      | (at_next; refine wpList_next_ranges _ rfl _ rfl 9 strK spotElem encStr spotV (fun key kl hk => by obtain ⟨x, hx, _⟩ := Maps.keyOf_str Tryz.underlying9 hk; exact ⟨x, hx⟩) (fun v y hv => by obtain ⟨c, rfl, _⟩ := spotElem_inv hv; exact ⟨c, rfl⟩) b w1.heap.size n _ _ _ rfl hrg ?_ ?_)
      | fail)
    · intro hc0 hl0
      rcases hrow.2 with ⟨hnil, _⟩ | ⟨g, cap, cur, rfl, hbase, hb, h1, h2, h3, h4⟩
      · exact absurd hnil hnn
      have hH : Holds encStr wr g 0 ss.toArray := holds_of_block hb (by simpa using h4)
      have hgl : g < wr.heap.size := (Array.getElem?_eq_some_iff.1 hb).1
      have hc := Tryz.slices_Sort_string g 0 cap ss wr hH hgl (by omega)
      have hperm := (hC.perm (w := wr) hrg.owns strK Tryz.underlying9 hl0).trans HK.out.symm
      have hsrt := sorted_skeys HA.out hperm
      have hlen : ss.length = l.length := by rw [hperm.length_eq]; simp
      have HRS : ∀ nn os, Hid ((grow (putRow encStr (Sort.ahead wr nn) g 0 (ss.mergeSort fun x y => decide (x ≤ y)).toArray) os).ownsRow w.heap.size 9 1 (.slice (some ⟨g, 0, none⟩) l.length cap) l.length ((l.map fun f => Batches.by_ f.key).map encStr)) := fun nn os => by
        show World.ownsRow _ _ _ _ _ _ _
        rw [← hsrt, ← hlen]
        exact ownsRow_sorted (by simp) hbase hb h1 h2 h3
      have HGS : ∀ nn os, Hid (wr.grownBy (grow (putRow encStr (Sort.ahead wr nn) g 0 (ss.mergeSort fun x y => decide (x ≤ y)).toArray) os) (some g)) := fun nn os => grownBy_sorted _
      have HTW : Hid (STable wr b l) := ⟨D0, sown_tight hrg.owns, HTB.out⟩
      have hgb : b ≠ g := by omega
      rw [hlen] at hc ⊢
      clear hrow hnn hC hrg hH hb h3 h4 hsrt hperm hrg0 hlen
      go_wp2_with fail
      refine hc.mono ?_
      rintro e w5 ⟨rfl, nn, os, rfl⟩
      have R5 := HRS nn os
      have G5 := HGS nn os
      clear HRS HGS hc
      obtain ⟨w5, hw5⟩ : ∃ w5, w5 = grow (putRow encStr (Sort.ahead wr nn) g 0 (ss.mergeSort fun x y => decide (x ≤ y)).toArray) os := ⟨_, rfl⟩
      rw [← hw5] at R5 G5 ⊢
      clear hw5
      have T5 : Hid (STable w5 b l) := HTW.out.kept G5.out (by simp; omega)
      have B5 : Hid (Below w.heap.size w w5) := hnx.grown G5.out hnz (fun j hj => by cases hj; omega)
      have hz5 : w.heap.size ≤ w5.heap.size := Nat.le_trans hnz G5.out.size
      have hg5 : g < w5.heap.size := Nat.lt_of_lt_of_le hgl G5.out.size
      clear G5 HTW hnx
      go_wp2_with (first
        | (at_make; refine wpList_make_own _ rfl _ _ 38 rfl w.heap.size 134 j0 (.agg #[.string ByteArray.empty, .int .i64 0, .int .i64 0, .int .i64 0]) 4 Tryz.underlying38 hj hy0 hy1 _ _ _ l.length rfl rfl rfl (by rw [hy2]; omega) (by unfold maxLen; omega) hz5 ?_; intro w6 hrow6 hg6)
        | fail)
      have TA : Hid (ToldS w.heap.size g cap b l w w6 (.slice (some ⟨w5.heap.size, 0, none⟩) 0 l.length) 0) :=
        ⟨hrow6, by have := R5.out.kept hg6 (Or.inr (by simp [Value.ownBlock])); simpa [List.map_map, Function.comp_def, senc_key] using this, T5.out.kept hg6 (by simp), B5.out.grown hg6 hz5 (fun j hj => by cases hj), Nat.le_trans hz5 hg6.size⟩
      clear hrow6 hg6 R5 T5 B5 hg1 hg0 hs0 hrow1' hcs hc0 hl0 h1 hbase
      go_loopw [5, 29] (fun v i wq => ∃ k : Nat, k ≤ l.length ∧ i = .int .i64 (k : Int) ∧ Hid (ToldS w.heap.size g cap b l w wq v k))
        (fun _ i _ => l.length - (intOf i).toNat)
      case atStart => exact ⟨0, Nat.zero_le _, rfl, TA⟩
      case round =>
        obtain ⟨k, hk, rfl, TQ⟩ := hrel
        by_cases hlt : k < l.length
        · have c0 : wr.cell? ⟨g, k, none⟩ = some (.string l[k].key) := by rw [TQ.out.names.cellAt k (by omega)]; simp [hlt]
          have HAA0 : Hid (∃ c, c = l[k] ∧ l[k] = c) := ⟨_, rfl, rfl⟩
          obtain ⟨c, hc, hc'⟩ := HAA0.out
          have hsk : c.key.size ≤ 2097152 := by rw [hc]; exact HSM.out l[k] (List.getElem_mem hlt)
          have hget : (Instr.lookup 305 (.map (some b)) (.string c.key) false).run Tryz.prog wr = .ok (spotV c) wr := stab_get TQ.out.tab (by rw [hc]; exact List.getElem_mem hlt) (by unfold maxLen; omega)
          have HAT : Hid (cellsSpot (l.take k) ++ cellsSpot [c] = cellsSpot (l.take (k + 1))) := by
            show _ = _
            rw [List.take_succ_eq_append_getElem hlt, cellsSpot_app, hc]
          rw [← hc] at c0
          clear HAA0 hc hc'
          have hk0 : (0 : Int) ≤ (k : Int) := by omega
          have hk1 : (k : Int) < (l.length : Int) := by omega
          obtain ⟨A, G, P, Z⟩ := c
          unfold spotV at hget
          simp only at c0 hsk hget
          obtain ⟨q, hq⟩ : ∃ q, q = wr.heap.size := ⟨_, rfl⟩
          have hq1 : b < q := by rw [hq]; exact TQ.out.tab.lt
          have hq2 : g < q := by rw [hq]; exact (TQ.out.names.lt g rfl).2
          have hq3 : ∀ r, u5.ownBlock = some r → r < q := fun r e => by rw [hq]; exact (TQ.out.row.lt r e).2
          have hq4 : w.heap.size ≤ q := by rw [hq]; exact TQ.out.up
          obtain ⟨W3, hW3⟩ : ∃ W3, W3 = wr.alloc (Obj.cells #[Value.string A, Value.int .i64 G, Value.int .i64 P, Value.int .i64 Z] 134) := ⟨_, rfl⟩
          have HS3 : Hid (ToldS w.heap.size g cap b l w W3 u5 k) := by rw [hW3]; exact TQ.out.same ((Below.refl _ _).alloc (Nat.le_refl _) _)
          have HX3 : Hid (W3.heap[q]? = some (.cells #[Value.string A, Value.int .i64 G, Value.int .i64 P, Value.int .i64 Z] 134 (0, 0))) := by rw [hW3, hq]; exact heap_alloc_new wr _
          go_wp2_with fail
          rw [← hW3, ← hq]
          clear hW3 hq TQ hget
          refine (clone_any A (by omega) W3).mono ?_
          rintro e w7 ⟨rfl, hb7⟩
          have hx7 : w7.heap[q]? = some (.cells #[Value.string A, Value.int .i64 G, Value.int .i64 P, Value.int .i64 Z] 134 (0, 0)) := (hb7.block q (Array.getElem?_eq_some_iff.1 HX3.out).1).trans HX3.out
          have hy7 : (w7.setCell ⟨q, 0, none⟩ (.string A)).heap[q]? = some (.cells #[Value.string A, Value.int .i64 G, Value.int .i64 P, Value.int .i64 Z] 134 (0, 0)) := by
            have := heap_setCell_same w7 q 0 _ 134 (.string A) hx7
            simpa using this
          have HS7 : Hid (ToldS w.heap.size g cap b l w (w7.setCell ⟨q, 0, none⟩ (.string A)) u5 k) := (HS3.out.same hb7).far hq1 hq2 hq3 hq4 _ _
          have x0 := cell_of_row _ _ 0 _ _ _ hx7
          have xf0 := frozen_of_row _ _ 0 _ _ hx7
          have y0 := cell_of_row _ _ 0 _ _ _ hy7
          have y1 := cell_of_row _ _ 1 _ _ _ hy7
          have y2 := cell_of_row _ _ 2 _ _ _ hy7
          have y3 := cell_of_row _ _ 3 _ _ _ hy7
          simp at x0 y0 y1 y2 y3
          have hown := (HS7.out.same ((Below.refl _ _).alloc (Nat.le_refl _) (Obj.cells #[Value.string A, Value.int .i64 G, Value.int .i64 P, Value.int .i64 Z] 134))).row
          have hbz := (HS7.out.same ((Below.refl _ _).alloc (Nat.le_refl _) (Obj.cells #[Value.string A, Value.int .i64 G, Value.int .i64 P, Value.int .i64 Z] 134))).up
          have hA7 := spotAt_new (w7.setCell ⟨q, 0, none⟩ (.string A)) ⟨A, G, P, Z⟩
          have hsz7 : (w7.setCell ⟨q, 0, none⟩ (.string A)).heap.size = w7.heap.size := by simp [World.setCell]
          rw [hsz7] at hA7
          clear hx7 hy7 hb7 HS3 HX3
          go_wp2_with (at_builtin; refine wpList_appendSpot rfl _ _ rfl w.heap.size u5 k _ rfl hown (some ⟨w7.heap.size, 0, none⟩) w7.heap.size 0 1 [⟨A, G, P, Z⟩] rfl hA7 (by simp) (by simp; omega) hbz ?_)
          intro v' w8 hown8 hgrow
          have TN : Hid (ToldS w.heap.size g cap b l w w8 v' (k + 1)) := (HS7.out.same ((Below.refl _ _).alloc (Nat.le_refl _) _)).app (by omega) hgrow (by rw [← HAT.out]; exact hown8)
          clear hown8 hgrow hown hA7 hbz hsz7 x0 xf0 y0 y1 y2 y3 HS7
          go_wp2
          go_roundw
          case rel => exact ⟨k + 1, by omega, by go_num, TN⟩
          case measure => simp [intOf]; omega
        · have hk1 : ¬ (k : Int) < (l.length : Int) := by omega
          have HR : Hid (wr.ownsRow w.heap.size 134 4 u5 l.length (cellsSpot l)) := by
            show World.ownsRow _ _ _ _ _ _ _
            have := TQ.out.row
            rw [List.take_of_length_le (by omega)] at this
            rwa [show k = l.length by omega] at this
          go_wp2
          go_ret
          exact ⟨_, rfl, HR.out, TQ.out.below⟩
    · intro x cn kl yd yp w2 cnt2 hkey hlk hv hat hrg2 hlt hg2 hs2 hen
      obtain ⟨x', ex, rfl, _⟩ := Maps.keyOf_str Tryz.underlying9 hkey
      obtain rfl : x = x' := encStr_inj ex
      have hrow2 := hrow.kept hg2 (Or.inr (row_ne_iter hrow hrg).symm)
      have hg2z := hg2.size
      clear hs2
      go_wp2_with (first
        | (at_builtin; refine wpList_append_own _ rfl _ _ 158 rfl w.heap.size 9 i0 (.string ⟨#[]⟩) 1 16 Tryz.underlying158 hi hz0 hz1 hz2 rfl (by decide) _ _ _ rfl (hrow2.alloc _) ⟨w2.heap.size, 0, none⟩ 1 1 [encStr x] rfl rfl (cell_one_new _ _ _) (by simp [Value.oneCell', encStr]) (by unfold maxLen at *; omega) (by omega) (by simp; omega) ?_; intro v' w3 hown' hg3 hnil3; go_frame)
        | fail)
      have hrg3 := (hrg2.alloc _).kept hg3 (row_ne_low hrow2 (by omega)) (row_ne_iter hrow2 hrg2)
      go_roundw
      case rel =>
        refine ⟨_, cnt2, ss ++ [x], hrg3, by simp; omega, by simpa using hown', fun hv' => by have := (hnil3.1 hv').2; omega, hC.step hlk hat, ?_⟩
        exact ((hnx.grown hg2 hnz (fun j hj => by cases hj; omega)).alloc (by omega) _).grown hg3 (by simp; omega) (fun j hj => (hrow2.lt j hj).1)
      case measure => rw [hrg3.left_eq, hrg.left_eq]; exact hlt
end Go.Proofs.YtbcfiiilikkkeaaGreatDoor
namespace Go.Proofs.YtbcfiiilikkkeaaGreatDoor
open Go.RowKit
set_option linter.unusedVariables false
set_option maxHeartbeats 1000000 in
theorem spotOk_is (c : SpotL) (hk : c.key.size ≤ 2097152) (R : Bool) (hR : R = true ↔ Dirs.spotOk c) (w : World) :
    Calls Tryz.prog 156 #[spotV c] w fun e w' => e = .returned (.bool R) ∧ Below w.heap.size w w' := by
  obtain ⟨A, S, P, Z⟩ := c
  unfold spotV
  unfold Dirs.spotOk at hR
  simp only at hR hk
  by_cases h1 : 1 ≤ A.size ∧ A.size ≤ 10
  · skip
    by_cases k0 : 0 ≤ S
    case neg =>
      obtain rfl : R = false := ans_no hR (fun h => k0 h.2.1.1)
      clear hR
      go_enter Tryz.func156, Tryz.ntmps156
      go_wp2_with (first | (go_at_call 199; refine (keyOk_is A (by omega) true (by simp [h1]) _).mono ?_; rintro e w1 ⟨rfl, rfl⟩))
      go_ret
      exact ⟨by first | rfl | (rw [decide_eq_false (show ¬ Z ≤ 40 by omega)]; rfl) | (rw [decide_eq_true (show Z ≤ 40 by omega)]; rfl), (Below.refl _ _).alloc (Nat.le_refl _) _⟩
    case pos =>
    by_cases k1 : S ≤ 999
    case neg =>
      obtain rfl : R = false := ans_no hR (fun h => k1 h.2.1.2)
      clear hR
      go_enter Tryz.func156, Tryz.ntmps156
      go_wp2_with (first | (go_at_call 199; refine (keyOk_is A (by omega) true (by simp [h1]) _).mono ?_; rintro e w1 ⟨rfl, rfl⟩))
      go_ret
      exact ⟨by first | rfl | (rw [decide_eq_false (show ¬ Z ≤ 40 by omega)]; rfl) | (rw [decide_eq_true (show Z ≤ 40 by omega)]; rfl), (Below.refl _ _).alloc (Nat.le_refl _) _⟩
    case pos =>
    by_cases k2 : 0 ≤ P
    case neg =>
      obtain rfl : R = false := ans_no hR (fun h => k2 h.2.2.1.1)
      clear hR
      go_enter Tryz.func156, Tryz.ntmps156
      go_wp2_with (first | (go_at_call 199; refine (keyOk_is A (by omega) true (by simp [h1]) _).mono ?_; rintro e w1 ⟨rfl, rfl⟩))
      go_ret
      exact ⟨by first | rfl | (rw [decide_eq_false (show ¬ Z ≤ 40 by omega)]; rfl) | (rw [decide_eq_true (show Z ≤ 40 by omega)]; rfl), (Below.refl _ _).alloc (Nat.le_refl _) _⟩
    case pos =>
    by_cases k3 : P ≤ 20000
    case neg =>
      obtain rfl : R = false := ans_no hR (fun h => k3 h.2.2.1.2)
      clear hR
      go_enter Tryz.func156, Tryz.ntmps156
      go_wp2_with (first | (go_at_call 199; refine (keyOk_is A (by omega) true (by simp [h1]) _).mono ?_; rintro e w1 ⟨rfl, rfl⟩))
      go_ret
      exact ⟨by first | rfl | (rw [decide_eq_false (show ¬ Z ≤ 40 by omega)]; rfl) | (rw [decide_eq_true (show Z ≤ 40 by omega)]; rfl), (Below.refl _ _).alloc (Nat.le_refl _) _⟩
    case pos =>
    by_cases k4 : 0 ≤ Z
    case neg =>
      obtain rfl : R = false := ans_no hR (fun h => k4 h.2.2.2.1)
      clear hR
      go_enter Tryz.func156, Tryz.ntmps156
      go_wp2_with (first | (go_at_call 199; refine (keyOk_is A (by omega) true (by simp [h1]) _).mono ?_; rintro e w1 ⟨rfl, rfl⟩))
      go_ret
      exact ⟨by first | rfl | (rw [decide_eq_false (show ¬ Z ≤ 40 by omega)]; rfl) | (rw [decide_eq_true (show Z ≤ 40 by omega)]; rfl), (Below.refl _ _).alloc (Nat.le_refl _) _⟩
    case pos =>
    by_cases k5 : Z ≤ 40
    case neg =>
      obtain rfl : R = false := ans_no hR (fun h => k5 h.2.2.2.2)
      clear hR
      go_enter Tryz.func156, Tryz.ntmps156
      go_wp2_with (first | (go_at_call 199; refine (keyOk_is A (by omega) true (by simp [h1]) _).mono ?_; rintro e w1 ⟨rfl, rfl⟩))
      go_ret
      exact ⟨by first | rfl | (rw [decide_eq_false (show ¬ Z ≤ 40 by omega)]; rfl) | (rw [decide_eq_true (show Z ≤ 40 by omega)]; rfl), (Below.refl _ _).alloc (Nat.le_refl _) _⟩
    case pos =>
      obtain rfl : R = true := hR.2 ⟨h1, ⟨k0, k1⟩, ⟨k2, k3⟩, ⟨k4, k5⟩⟩
      clear hR
      go_enter Tryz.func156, Tryz.ntmps156
      go_wp2_with (first | (go_at_call 199; refine (keyOk_is A (by omega) true (by simp [h1]) _).mono ?_; rintro e w1 ⟨rfl, rfl⟩))
      go_ret
      exact ⟨by first | rfl | (rw [decide_eq_false (show ¬ Z ≤ 40 by omega)]; rfl) | (rw [decide_eq_true (show Z ≤ 40 by omega)]; rfl), (Below.refl _ _).alloc (Nat.le_refl _) _⟩
  · skip
    obtain rfl : R = false := ans_no hR (fun h => h1 h.1)
    clear hR
    go_enter Tryz.func156, Tryz.ntmps156
    go_wp2_with (first | (go_at_call 199; refine (keyOk_is A (by omega) false (by simp [h1]) _).mono ?_; rintro e w1 ⟨rfl, rfl⟩))
    go_ret
    exact ⟨by first | rfl | (rw [decide_eq_false (show ¬ Z ≤ 40 by omega)]; rfl) | (rw [decide_eq_true (show Z ≤ 40 by omega)]; rfl), (Below.refl _ _).alloc (Nat.le_refl _) _⟩
/-- The key ahead of the k-th. -/
def PrevD (l : List SpotL) (k : Nat) (S : ByteArray) : Prop := (k = 0 ∧ S = ⟨#[]⟩) ∨ (0 < k ∧ ∃ h : k - 1 < l.length, S = l[k - 1].key)
theorem prevD_okAt {l : List SpotL} {k : Nat} {S A : ByteArray} (hk : k < l.length) (hp : PrevD l k S) (hA : A = l[k].key) : Dirs.okAt l k ↔ Dirs.spotOk l[k] ∧ Batches.lt S A = true := by
  subst hA
  rcases hp with ⟨h0, rfl⟩ | ⟨h0, h1, rfl⟩
  · constructor
    · rintro ⟨_, h2, _⟩
      refine ⟨h2, (Batches.lt_iff _ _).2 ?_⟩
      have h3 := h2.1.1
      rw [← Words.size_list] at h3
      show ([] : List UInt8) < _
      cases e : l[k].key.data.toList with
      | nil => rw [e] at h3; simp at h3
      | cons x r => rw [Batches.by_, e]; exact List.nil_lt_cons _ _
    · rintro ⟨h2, _⟩
      exact ⟨hk, h2, fun h => absurd h (by omega)⟩
  · constructor
    · rintro ⟨_, h2, h3⟩
      exact ⟨h2, (h3 h0).2⟩
    · rintro ⟨h2, h3⟩
      exact ⟨hk, h2, fun _ => ⟨h1, h3⟩⟩
set_option maxHeartbeats 1000000 in
set_option maxRecDepth 100000 in
theorem implDirOk_any (R : Bool) {a : Option Addr} {g off cap : Nat} (l : List SpotL) (hlen : l.length ≤ 2097152) (w : World) (hf : SpotAt w a g off l) (hsz : ∀ c ∈ l, smallSpot 2097152 c) (hR : R = true ↔ Dirs.ok l) :
    Calls Tryz.prog 93 #[.slice a l.length cap] w fun e w' => e = .returned (.bool R) ∧ Below w.heap.size w w' := by
  have HR : Hid (R = true ↔ Dirs.ok l) := hR
  clear hR
  have HF : Hid (SpotAt w a g off l) := hf
  have HS : Hid (∀ c ∈ l, smallSpot 2097152 c) := hsz
  clear hf hsz
  by_cases h60 : 60 < l.length
  · have h1 : (60 : Int) < (l.length : Int) := by omega
    go_enter Tryz.func93, Tryz.ntmps93
    go_wp2
    go_ret
    exact ⟨by rw [ans_no HR.out (fun h => by have := h.1; omega)]; rfl, Below.refl _ _⟩
  · have h1 : ¬ (60 : Int) < (l.length : Int) := by omega
    go_enter Tryz.func93, Tryz.ntmps93
    go_wp2
    go_loopw [3, 11] (fun x i wr => ∃ (k : Nat) (S : ByteArray), k ≤ l.length ∧ i = .int .i64 (k : Int) ∧ x = .string S ∧ PrevD l k S ∧ (∀ j, j < k → Dirs.okAt l j) ∧ Below w.heap.size w wr)
      (fun _ i _ => l.length - (intOf i).toNat)
    case atStart => exact ⟨0, ⟨#[]⟩, Nat.zero_le _, rfl, rfl, Or.inl ⟨rfl, rfl⟩, fun j hj => absurd hj (Nat.not_lt_zero _), Below.refl _ _⟩
    case round =>
      obtain ⟨k, S, hk, rfl, rfl, hprev, hall, hbel⟩ := hrel
      have HP : Hid (PrevD l k S) := hprev
      have HA : Hid (∀ j, j < k → Dirs.okAt l j) := hall
      clear hall hprev
      by_cases hlt : k < l.length
      · obtain ⟨c0, c1, c2, c3⟩ := (HF.out.kept hbel).2 k hlt
        have ea := HF.out.1 (by omega)
        subst ea
        have s0 := HS.out l[k] (List.getElem_mem _)
        have HAA0 : Hid (∃ c, c = l[k] ∧ l[k] = c) := ⟨_, rfl, rfl⟩
        obtain ⟨c, hc, hc'⟩ := HAA0.out
        rw [← hc] at c0 c1 c2 c3 s0
        clear HAA0
        obtain ⟨A, S0, P, Z⟩ := c
        simp only at c0 c1 c2 c3
        unfold smallSpot at s0
        simp only at s0
        have HAA : Hid (A = l[k].key) := by show _ = _; rw [← hc]
        have HE : Hid (l[k] = ⟨A, S0, P, Z⟩) := hc'
        clear hc hc'
        have hk0 : (0 : Int) ≤ (k : Int) := by omega
        have hk1 : (k : Int) < (l.length : Int) := by omega
        go_wp2_with fail
        obtain ⟨W1, hW1⟩ : ∃ W1, W1 = wr.alloc (Obj.cells #[Value.string A, Value.int .i64 S0, Value.int .i64 P, Value.int .i64 Z] 134) := ⟨_, rfl⟩
        rw [← hW1]
        have hB1 : Below wr.heap.size wr W1 := by rw [hW1]; exact (Below.refl _ _).alloc (Nat.le_refl _) _
        have f0 : W1.cell? ⟨wr.heap.size, 0, none⟩ = some (.string A) := by rw [hW1]; exact cell_of_row _ _ 0 _ _ _ (heap_alloc_new wr _)
        have hz1 : wr.heap.size < W1.heap.size := World.block_lt_of_cell? W1 _ f0
        have hw1 : Below w.heap.size w W1 := hbel.trans (hB1.mono hbel.size)
        clear hW1 c0 c1 c2 c3
        by_cases hch : Dirs.spotOk ⟨A, S0, P, Z⟩
        · refine (spotOk_is ⟨A, S0, P, Z⟩ s0 true (by simp [hch]) W1).mono ?_
          rintro e w2 ⟨rfl, hb2⟩
          have hw2 : Below w.heap.size w w2 := hw1.trans (hb2.mono hw1.size)
          have f2 : w2.cell? ⟨wr.heap.size, 0, none⟩ = some (.string A) := (hb2.cell (p := ⟨wr.heap.size, 0, none⟩) hz1).trans f0
          clear f0 hw1 hb2 hB1 hz1
          by_cases hls : Batches.lt S A = true
          · have hle := le_of_lt hls
            have HN : Hid (Dirs.okAt l k) := (prevD_okAt hlt HP.out HAA.out).2 ⟨by rw [HE.out]; exact hch, hls⟩
            clear hls hch
            go_wp2
            go_roundw
            case rel => exact ⟨k + 1, A, by omega, by go_num, rfl, Or.inr ⟨by omega, hlt, HAA.out⟩, Dirs.ok_step HA.out HN.out, hw2⟩
            case measure => simp [intOf]; omega
          · have hle := le_of_not hls
            have HN : Hid (¬ Dirs.okAt l k) := fun h => hls ((prevD_okAt hlt HP.out HAA.out).1 h).2
            clear hls hch
            go_wp2
            go_ret
            exact ⟨by rw [ans_no HR.out (Dirs.not_ok hlt HN.out)]; rfl, hw2⟩
        · refine (spotOk_is ⟨A, S0, P, Z⟩ s0 false (by simp [hch]) W1).mono ?_
          rintro e w2 ⟨rfl, hb2⟩
          have hw2 : Below w.heap.size w w2 := hw1.trans (hb2.mono hw1.size)
          have HN : Hid (¬ Dirs.okAt l k) := fun h => hch (by have := h.2.1; rw [HE.out] at this; exact this)
          clear hch
          go_wp2
          go_ret
          exact ⟨by rw [ans_no HR.out (Dirs.not_ok hlt HN.out)]; rfl, hw2⟩
      · have hk1 : ¬ (k : Int) < (l.length : Int) := by omega
        go_wp2
        go_ret
        exact ⟨by rw [HR.out.2 ⟨by omega, fun j hj => HA.out j (by omega)⟩]; rfl, hbel⟩
end Go.Proofs.YtbcfiiilikkkeaaGreatDoor
namespace Go.Proofs.YtbcfiiilikkkeaaGreatDoor
open Go.RowKit
set_option linter.unusedVariables false

def MoreR (l xs cs : List SpotL) (R : Bool) : Prop := Dirs.MoreIs l xs cs R
theorem moreR_ex (l xs : List SpotL) : ∃ cs R, MoreR l xs cs R := by
  by_cases h : Dirs.ok l ∧ Dirs.ok (Dirs.more l xs)
  · exact ⟨_, _, Or.inl ⟨h.1, h.2, rfl, rfl⟩⟩
  · exact ⟨_, _, Or.inr ⟨h, rfl, rfl⟩⟩
def MorePost (w : World) (l : List SpotL) (R : Bool) (en : Ending) (w' : World) : Prop := ∃ v, en = .returned (.tuple #[v, .bool R]) ∧ w'.ownsRow w.heap.size 134 4 v l.length (cellsSpot l) ∧ Below w.heap.size w w'
theorem small_up {l : List SpotL} (h : ∀ r ∈ l, smallSpot 1048576 r) : ∀ r ∈ l, smallSpot 2097152 r := fun r hr => Nat.le_trans (h r hr) (by omega)
set_option maxHeartbeats 1000000 in
set_option maxRecDepth 100000 in
theorem implMore_any {l xs cs : List SpotL} {R : Bool} (hR : MoreR l xs cs R) {a a2 : Option Addr} {g off cap g2 off2 cap2 : Nat} (hl : l.length ≤ 1048576) (hx : xs.length ≤ 1048576) (hsl : ∀ r ∈ l, smallSpot 1048576 r) (hsx : ∀ r ∈ xs, smallSpot 1048576 r) (w : World) (hf : SpotAt w a g off l) (hf2 : SpotAt w a2 g2 off2 xs) :
    Calls Tryz.prog 207 #[.slice a l.length cap, .slice a2 xs.length cap2] w (MorePost w cs R) := by
  have HF : Hid (SpotAt w a g off l) := hf
  have HX : Hid (SpotAt w a2 g2 off2 xs) := hf2
  have HSL : Hid (∀ r ∈ l, smallSpot 2097152 r) := small_up hsl
  have HSX : Hid (∀ r ∈ xs, smallSpot 2097152 r) := small_up hsx
  have HSM : Hid (∀ r ∈ Dirs.more l xs, smallSpot 2097152 r) := Dirs.more_all xs l (small_up hsl) (small_up hsx)
  have HR : Hid (MoreR l xs cs R) := hR
  clear hf hf2 hsl hsx hR
  have hml : (Dirs.more l xs).length ≤ 2097152 := by have := Dirs.more_len xs l; omega
  by_cases hok : Dirs.ok l
  · have HK : Hid (Dirs.ok l) := hok
    clear hok
    have hmk := make_stab
    go_enter Tryz.func207, Tryz.ntmps207
    go_wp2_with fail
    refine (implDirOk_any true l (by omega) w HF.out HSL.out (by simp [HK.out])).mono ?_
    rintro e w1 ⟨rfl, hb1⟩
    obtain ⟨b, hb⟩ : ∃ b, b = w1.heap.size := ⟨_, rfl⟩
    obtain ⟨W2, hW2⟩ : ∃ W2, W2 = w1.alloc (Obj.map #[] 0) := ⟨_, rfl⟩
    have T2 : Hid (STable W2 b []) := by show STable _ _ _; rw [hW2, hb]; exact stable_made w1
    have hB2 : Below w.heap.size w W2 := by rw [hW2]; exact hb1.alloc hb1.size _
    have hbw : w.heap.size ≤ b := by rw [hb]; exact hb1.size
    go_wp2_with fail
    rw [← hW2, ← hb]
    clear hW2 hb hb1 hmk
    have HL1 : Hid (Dirs.more [] l = l) := Dirs.more_self (Dirs.ok_asc HK.out) (Dirs.ok_size HK.out)
    refine (take_is [] l List.Pairwise.nil (by simp; omega) HSL.out b W2 T2.out (HF.out.kept hB2) (fun hp => by have := HF.out.lt hp; omega)).mono ?_
    rintro e w3 ⟨rfl, hT3, hg3⟩
    rw [HL1.out] at hT3
    have T3 : Hid (STable w3 b l) := hT3
    have hB3 : Below w.heap.size w w3 := hB2.grown hg3 hB2.size (fun k e => by cases e; exact hbw)
    clear hT3 hg3 T2 hB2
    go_wp2_with fail
    refine (take_is l xs (Dirs.ok_asc HK.out) (by omega) HSX.out b w3 T3.out (HX.out.kept hB3) (fun hp => by have := HX.out.lt hp; omega)).mono ?_
    rintro e w4 ⟨rfl, hT4, hg4⟩
    have T4 : Hid (STable w4 b (Dirs.more l xs)) := hT4
    have hB4 : Below w.heap.size w w4 := hB3.grown hg4 hB3.size (fun k e => by cases e; exact hbw)
    clear hT4 hg4 T3 hB3
    go_wp2_with fail
    refine (told_is (Dirs.more l xs) (Dirs.asc_more xs l (Dirs.ok_asc HK.out)) (by have := Dirs.more_len xs l; have := HK.out.1; omega) HSM.out b w4 T4.out).mono ?_
    rintro e w5 ⟨v, rfl, hown5, hb5⟩
    obtain ⟨va, gg, vc, rfl, hat⟩ := cellsSpot_slice hown5
    have hB5 : Below w.heap.size w w5 := hB4.trans (hb5.mono hB4.size)
    have HO5 : Hid (w5.ownsRow w.heap.size 134 4 (.slice va (Dirs.more l xs).length vc) (Dirs.more l xs).length (cellsSpot (Dirs.more l xs))) := own_mono hown5 hB4.size
    have HA5 : Hid (SpotAt w5 va gg 0 (Dirs.more l xs)) := hat
    clear hown5 hat hb5 hB4 T4
    by_cases hok2 : Dirs.ok (Dirs.more l xs)
    · have HK2 : Hid (Dirs.ok (Dirs.more l xs)) := hok2
      clear hok2
      go_wp2_with fail
      refine (implDirOk_any true (Dirs.more l xs) hml w5 HA5.out HSM.out (by simp [HK2.out])).mono ?_
      rintro e w6 ⟨rfl, hb6⟩
      go_wp2
      go_ret2
      rcases HR.out with ⟨_, _, rfl, rfl⟩ | ⟨h, _⟩
      · exact ⟨_, rfl, own_kept HO5.out hb6, hB5.trans (hb6.mono hB5.size)⟩
      · exact absurd ⟨HK.out, HK2.out⟩ h
    · have HK2 : Hid (¬ Dirs.ok (Dirs.more l xs)) := hok2
      clear hok2
      go_wp2_with fail
      refine (implDirOk_any false (Dirs.more l xs) hml w5 HA5.out HSM.out (by simp [HK2.out])).mono ?_
      rintro e w6 ⟨rfl, hb6⟩
      have hB6 : Below w.heap.size w w6 := hB5.trans (hb6.mono hB5.size)
      go_wp2
      go_ret2
      rcases HR.out with ⟨_, h, _⟩ | ⟨_, rfl, rfl⟩
      · exact absurd h HK2.out
      · exact ⟨_, rfl, World.ownsRow_nil _ _ _ _, hB6⟩
  · have HK : Hid (¬ Dirs.ok l) := hok
    clear hok
    go_enter Tryz.func207, Tryz.ntmps207
    go_wp2_with fail
    refine (implDirOk_any false l (by omega) w HF.out HSL.out (by simp [HK.out])).mono ?_
    rintro e w1 ⟨rfl, hb1⟩
    go_wp2
    go_ret2
    rcases HR.out with ⟨h, _⟩ | ⟨_, rfl, rfl⟩
    · exact absurd h HK.out
    · exact ⟨_, rfl, World.ownsRow_nil _ _ _ _, hb1⟩
end Go.Proofs.YtbcfiiilikkkeaaGreatDoor
