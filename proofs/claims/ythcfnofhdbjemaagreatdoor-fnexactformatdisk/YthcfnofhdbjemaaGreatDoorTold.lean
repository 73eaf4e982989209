/- The program's table told as a disk: its names collected, sorted, and the files copied in their order. -/
import Derived.Test.YthcfnofhdbjemaaGreatDoorKit
import Derived.Test.YthcfnofhdbjemaaGreatDoorImplAt
import Derived.Test.YthcfnofhdbjemaaGreatDoorShelf
import Derived.Sort.OwnSorted
import Derived.Sort.KeysCollected
import Derived.Deep.AppendLies
import Derived.Deep.RegionHeld3
namespace Go.Proofs.YthcfnofhdbjemaaGreatDoor
open Go.RowKit Go.Maps Go.Sort
set_option linter.unusedVariables false

/-- The names of a disk that ascends, sorted. -/
theorem sorted_names {l : List FileL} (h : Disks.asc l) {ss : List (List UInt8)} (hp : ss.Perm (l.map fun f => Disks.key f.1)) : ss.mergeSort (fun x y => decide (x ≤ y)) = l.map fun f => Disks.key f.1 := by
  have e := mergeSort_of_perm hp
  unfold leB at e
  rw [e]
  refine List.mergeSort_of_pairwise (List.pairwise_map.2 (List.Pairwise.imp (fun {a b} hab => ?_) h))
  simp only [decide_eq_true_eq]
  exact List.le_of_lt ((Disks.lt_iff _ _).1 hab)
theorem enc_key (s : ByteArray) : encStr (Disks.key s) = .string s := by
  show Value.string ⟨(Disks.key s).toArray⟩ = .string s
  exact congrArg Value.string (Disks.key_inj (by simp [Disks.key]))

/-- What stands while the files are copied: those that are, the names, the table. -/
structure ToldAt (B g cap b : Nat) (l : List FileL) (W0 wr : World) (v : Value) (k : Nat) : Prop where
  row : wr.ownsRow B 41 2 v k (cellsF (l.take k))
  names : wr.ownsRow B 9 1 (.slice (some ⟨g, 0, none⟩) l.length cap) l.length (l.map fun f => Value.string f.1)
  apart : v.ownBlock ≠ some g
  tab : Table wr b l
  below : Below B W0 wr
  up : B ≤ wr.heap.size
theorem ToldAt.step {B g cap b : Nat} {l : List FileL} {W0 wr : World} {v : Value} {k : Nat} (h : ToldAt B g cap b l W0 wr v k) (hbB : b < B) (hgw : g < wr.heap.size) {wa wb w8 : World} {o : Obj} {g2 cap2 : Nat} (ha : Below wr.drew.heap.size wr.drew wa) (hb : Below wa.heap.size wa wb)
    (hown : w8.ownsRow B 41 2 (.slice (some ⟨g2, 0, none⟩) (k + 1) cap2) (k + 1) (cellsF (l.take (k + 1)))) (hg : (wb.alloc o).grownBy w8 v.ownBlock) (hat : v.ownBlock = some g2 ∨ g2 = wb.heap.size + 1) : ToldAt B g cap b l W0 w8 (.slice (some ⟨g2, 0, none⟩) (k + 1) cap2) (k + 1) := by
  have hab : Below wr.heap.size wr wb := by
    have h1 : Below wr.heap.size wr wa := ⟨ha.os, ha.tape, ha.output, ha.size, ha.block⟩
    exact h1.trans (hb.mono h1.size)
  have hab2 : Below wr.heap.size wr (wb.alloc o) := hab.alloc hab.size _
  have hne : some b ≠ v.ownBlock := fun e => by have := (h.row.lt b e.symm).1; omega
  refine ⟨hown, (own_kept h.names hab2).kept hg (Or.inr ?_), ?_, (h.tab.below hab2).kept hg hne, ?_, ?_⟩
  · intro e; exact h.apart e.symm
  · intro e
    have e1 : g2 = g := by simpa [Value.ownBlock] using e
    rcases hat with q | q
    · rw [e1] at q; exact h.apart q
    · have := hab.size; omega
  · exact (h.below.trans (hab2.mono h.up)).grown hg (Nat.le_trans h.up hab2.size) (fun j hj => (h.row.lt j hj).1)
  · exact Nat.le_trans h.up (Nat.le_trans hab2.size hg.size)
theorem tab_get {w : World} {b : Nat} {l : List FileL} (hT : Table w b l) {n A T : ByteArray} {B : Bool} (hn : n.size ≤ maxLen) (hl : Disks.look l n = ((A, T), B)) : (Instr.lookup 55 (.map (some b)) (.string n) false).run Tryz.prog w = .ok (.agg #[.string A, .string T]) w := by
  obtain ⟨D, hown, ht⟩ := hT
  obtain ⟨_, e2⟩ := tab_look ht n
  rw [hl] at e2
  simp only at e2
  obtain ⟨v, ps, hrun, hv⟩ := hown.lookup strK Tryz.underlying55 (zero68 w) (fileElem_mk _ _) (keyS hn)
  obtain ⟨n', t', rfl, hv2⟩ := fileElem_inv hv
  rw [e2] at hv2
  obtain ⟨q1, q2⟩ := fdat_inj (congrArg Prod.fst hv2)
  rw [← q1, ← q2] at hrun
  exact hrun

set_option maxHeartbeats 4000000 in
set_option maxRecDepth 100000 in
theorem told_is (l : List FileL) (hok : Disks.ok l) (b : Nat) (w : World) (hT : Table w b l) :
    Calls Tryz.prog 33 #[.map (some b)] w fun e w' => ∃ v, e = .returned (.agg #[v]) ∧ w'.ownsRow w.heap.size 41 2 v l.length (cellsF l) ∧ Below w.heap.size w w' := by
  obtain ⟨i0, hi, hz0, hz1, hz2⟩ := info_parts Tryz.info9
  obtain ⟨j0, hj, hy0, hy1, hy2⟩ := info_parts Tryz.info41
  obtain ⟨hl30, hfo, hasc⟩ := (Disks.ok_iff l).1 hok
  have HFO : Hid (∀ f ∈ l, Disks.fileOk f) := hfo
  have HA : Hid (Disks.asc l) := hasc
  obtain ⟨D0, hown, htab⟩ := hT
  have hsz : Maps.size D0 ≤ 30 := by rw [tab_size hasc hown htab]; exact hl30
  have HK : Hid ((l.map fun f => Disks.key f.1).Perm (strKeys D0)) := tab_keys hasc hown htab
  have HTB : Hid (TabIs l D0) := htab
  have hbl := hown.lt
  clear hfo hasc hok htab
  obtain ⟨n, hn⟩ : ∃ n, n = Maps.size D0 := ⟨_, rfl⟩
  have hn30 : n ≤ 30 := by omega
  rw [← hn] at hown
  have HN : Hid (n = Maps.size D0) := hn
  clear hn
  go_enter Tryz.func33, Tryz.ntmps33
  go_wp2_with (first
    | (at_len; refine wpList_len_own _ rfl _ 55 rfl 9 41 Tryz.underlying55 _ b n _ rfl (hown.alloc _) ?_)
    | (at_make; refine wpList_make_own _ rfl _ _ 77 rfl (w.heap.size + 1) 9 i0 (.string ⟨#[]⟩) 1 Tryz.underlying77 hi hz0 hz1 _ _ _ (Maps.size D0) rfl rfl rfl (by rw [hz2]; omega) (by unfold maxLen; omega) (by simp) ?_; intro w1 hrow1 hg1)
    | (at_range; refine wpList_range_own _ rfl _ 55 rfl 9 41 strK Tryz.underlying55 _ b n _ rfl ((hown.alloc _).kept hg1 (by simp)) ?_; intro w0 hrg0 hg0 hs0)
    | fail)
  go_frame
  obtain ⟨W0, hW0⟩ : ∃ W0, W0 = w.alloc (Obj.cells #[Value.slice none 0 0] 25) := ⟨_, rfl⟩
  have HW0 : Hid (W0.heap[w.heap.size]? = some (.cells #[.slice none 0 0] 25 (0, 0))) := by show _ = _; rw [hW0]; exact heap_alloc_new w _
  have hz0' : W0.heap.size = w.heap.size + 1 := by rw [hW0]; simp
  have HB0 : Hid (Below w.heap.size w W0) := by show Below _ _ _; rw [hW0]; exact (Below.refl _ _).alloc (Nat.le_refl _) _
  rw [← hW0] at hg1
  have hrow1' : w1.ownsRow (w.heap.size + 1) 9 1 (.slice (some ⟨w.heap.size + 1, 0, none⟩) 0 (size D0)) 0 [] := by simpa using hrow1
  have hgz1 := hg1.size
  rw [hz0'] at hgz1
  have HZ0 : Hid (W0.heap.size = w.heap.size + 1) := hz0'
  clear hW0 hrow1 hz0'
  go_loopw [3] (fun v wr => ∃ (left : Lit → Bool) (cnt : Nat) (ss : List (List UInt8)), wr.ranges Tryz.prog 9 fileElem b w1.heap.size n D0 left cnt ∧ ss.length + cnt ≤ Maps.size D0 ∧
      wr.ownsRow (w.heap.size + 1) 9 1 v ss.length (ss.map encStr) ∧ v ≠ .slice none 0 0 ∧ Collected D0 left ss ∧ Below (w.heap.size + 1) W0 wr)
    (fun _ wr => wr.rangeLeft b w1.heap.size)
  case atStart =>
    exact ⟨_, _, [], hrg0, by simp, hrow1'.kept hg0 (Or.inr (by simp [Value.ownBlock])), by simp, Collected.start D0,
      ((Below.refl _ _).grown hg1 (by rw [HZ0.out]; exact Nat.le_refl _) (fun j hj => by cases hj)).grown hg0 hgz1 (fun j hj => by cases hj)⟩
  case round =>
    obtain ⟨left, cnt, ss, hrg, hcs, hrow, hnn, hC, hnx⟩ := hrel
    have hnz := hnx.size
    rw [HZ0.out] at hnz
    go_wp2_with (first
      | (at_next; refine wpList_next_ranges _ rfl _ rfl 9 strK fileElem encStr (fun p : FileL => Value.agg #[.string p.1, .string p.2]) (fun key kl hk => by obtain ⟨x, hx, _⟩ := Maps.keyOf_str Tryz.underlying9 hk; exact ⟨x, hx⟩) (fun v y hv => by obtain ⟨n, t, rfl, _⟩ := fileElem_inv hv; exact ⟨(n, t), rfl⟩) b w1.heap.size n _ _ _ rfl hrg ?_ ?_)
      | fail)
    · intro hc0 hl0
      rcases hrow.2 with ⟨hnil, _⟩ | ⟨g, cap, cur, rfl, hbase, hb, h1, h2, h3, h4⟩
      · exact absurd hnil hnn
      have hH : Holds encStr wr g 0 ss.toArray := holds_of_block hb (by simpa using h4)
      have hgl : g < wr.heap.size := (Array.getElem?_eq_some_iff.1 hb).1
      have hc := Tryz.slices_Sort_string g 0 cap ss wr hH hgl (by omega)
      have hperm := (hC.perm (w := wr) hrg.owns strK Tryz.underlying9 hl0).trans HK.out.symm
      have hsrt := sorted_names HA.out hperm
      have hlen : ss.length = l.length := by rw [hperm.length_eq]; simp
      have HRS : ∀ nn os, Hid ((grow (putRow encStr (Sort.ahead wr nn) g 0 (ss.mergeSort fun x y => decide (x ≤ y)).toArray) os).ownsRow (w.heap.size + 1) 9 1 (.slice (some ⟨g, 0, none⟩) l.length cap) l.length ((l.map fun f => Disks.key f.1).map encStr)) := fun nn os => by
        show World.ownsRow _ _ _ _ _ _ _
        rw [← hsrt, ← hlen]
        exact ownsRow_sorted (by simp) hbase hb h1 h2 h3
      have HGS : ∀ nn os, Hid (wr.grownBy (grow (putRow encStr (Sort.ahead wr nn) g 0 (ss.mergeSort fun x y => decide (x ≤ y)).toArray) os) (some g)) := fun nn os => grownBy_sorted _
      have HTW : Hid (Table wr b l) := ⟨D0, own_tight hrg.owns, HTB.out⟩
      have hgb : b ≠ g := by omega
      rw [hlen] at hc ⊢
      clear hrow hnn hC hrg hH hb h3 h4 hsrt hperm hrg0 hlen
      go_wp2_with fail
      refine hc.mono ?_
      rintro e w5 ⟨rfl, nn, os, rfl⟩
      have R5 := HRS nn os
      have G5 := HGS nn os
      clear HRS HGS hc
      obtain ⟨w5, hw5⟩ : ∃ w5, w5 = grow (putRow encStr (Sort.ahead wr nn) g 0 (ss.mergeSort fun x y => decide (x ≤ y)).toArray) os := ⟨_, rfl⟩
      rw [← hw5] at R5 G5 ⊢
      clear hw5
      have T5 : Hid (Table w5 b l) := HTW.out.kept G5.out (by simp; omega)
      have B5 : Hid (Below (w.heap.size + 1) W0 w5) := hnx.grown G5.out hnz (fun j hj => by cases hj; omega)
      have hz5 : w.heap.size + 1 ≤ w5.heap.size := Nat.le_trans hnz G5.out.size
      have hg5 : g < w5.heap.size := Nat.lt_of_lt_of_le hgl G5.out.size
      clear G5 HTW hnx
      go_wp2_with (first
        | (at_make; refine wpList_make_own _ rfl _ _ 23 rfl (w.heap.size + 1) 41 j0 (.agg #[.string ByteArray.empty, .string ByteArray.empty]) 2 Tryz.underlying23 hj hy0 hy1 _ _ _ l.length rfl rfl rfl (by rw [hy2]; omega) (by unfold maxLen; omega) hz5 ?_; intro w6 hrow6 hg6)
        | fail)
      have TA : Hid (ToldAt (w.heap.size + 1) g cap b l W0 w6 (.slice (some ⟨w5.heap.size, 0, none⟩) 0 l.length) 0) :=
        ⟨hrow6, by have := R5.out.kept hg6 (Or.inr (by simp [Value.ownBlock])); simpa [List.map_map, Function.comp_def, enc_key] using this, by simp [Value.ownBlock]; omega, T5.out.kept hg6 (by simp), B5.out.grown hg6 hz5 (fun j hj => by cases hj), Nat.le_trans hz5 hg6.size⟩
      clear hrow6 hg6 R5 T5 B5 hg1 hg0 hs0 hrow1' hcs hc0 hl0 h1 hbase
      go_loopw [5, 28] (fun v i wq => ∃ k : Nat, k ≤ l.length ∧ i = .int .i64 (k : Int) ∧ Hid (ToldAt (w.heap.size + 1) g cap b l W0 wq v k))
        (fun _ i _ => l.length - (intOf i).toNat)
      case atStart => exact ⟨0, Nat.zero_le _, rfl, TA⟩
      case round =>
        obtain ⟨k, hk, rfl, TQ⟩ := hrel
        by_cases hlt : k < l.length
        · have c0 : wr.cell? ⟨g, k, none⟩ = some (.string l[k].1) := by rw [TQ.out.names.cellAt k (by omega)]; simp [hlt]
          obtain ⟨A, hA⟩ : ∃ A, A = l[k].1 := ⟨_, rfl⟩
          obtain ⟨T, hT⟩ : ∃ T, T = l[k].2 := ⟨_, rfl⟩
          rw [← hA] at c0
          have hk0 : (0 : Int) ≤ (k : Int) := by omega
          have hk1 : (k : Int) < (l.length : Int) := by omega
          have hfk := HFO.out l[k] (List.getElem_mem hlt)
          have HL : Hid (Disks.look l A = ((A, T), true)) := by show _ = _; rw [hA, hT]; exact Disks.look_at HA.out hlt
          have HAT : Hid (cellsF (l.take k) ++ [.string A, .string T] = cellsF (l.take (k + 1))) := by
            show _ = _
            rw [List.take_succ_eq_append_getElem hlt, cellsF_app, hA, hT]; rfl
          have hAs : A.size ≤ 12 := by rw [hA]; exact hfk.2.1
          have hTs : T.size ≤ 20000 := by rw [hT]; exact hfk.2.2
          clear hA hT hfk
          have hg0 : (Instr.lookup 55 (.map (some b)) (.string A) false).run Tryz.prog wr = .ok (.agg #[.string A, .string T]) wr := tab_get TQ.out.tab (by unfold maxLen; omega) HL.out
          have hfd := fun wx => field68 A T wx
          have h63 : k + 1 ≤ maxLen := by unfold maxLen; omega
          have hby : (k + 1) * 32 ≤ 140737488355328 := by omega
          have hg5' : g < wr.heap.size := (TQ.out.names.lt g rfl).2
          go_wp2
          go_region_held3 (fun w' => (Instr.lookup 55 (.map (some b)) (.string A) false).run Tryz.prog w' = .ok (.agg #[.string A, .string T]) w')
            (first
              | exact tab_get (Table.below (w := wr.drew) TQ.out.tab hba) (by unfold maxLen; omega) HL.out
              | exact tab_get ((Table.below (w := wr.drew) TQ.out.tab hba).below hbb) (by unfold maxLen; omega) HL.out
              | exact tab_get (((Table.below (w := wr.drew) TQ.out.tab hba).below hbb).alloc _) (by unfold maxLen; omega) HL.out
              | exact tab_get ((((Table.below (w := wr.drew) TQ.out.tab hba).below hbb).alloc _).kept hgrow (fun e => by have := (TQ.out.row.lt b e.symm).1; omega)) (by unfold maxLen; omega) HL.out
              | exact tab_get (w := wr.drew) TQ.out.tab (by unfold maxLen; omega) HL.out)
            (first
              | (go_at_call_of 60 (Value.string A); refine (clone_str A (by omega) _).mono ?_; rintro e wa ⟨rfl, hba⟩)
              | (go_at_call_of 60 (Value.string T); refine (clone_str T (by omega) _).mono ?_; rintro e wb ⟨rfl, hbb⟩)
              | (refine step_append_lies _ (by rfl) _ _ _ (by rfl) (w.heap.size + 1) 41 j0 _ 2 32 Tryz.underlying23 hj hy0 hy1 hy2 rfl (Nat.zero_lt_succ _) u5 k (cellsF (l.take k)) (by rfl) ((own_kept (own_kept (w := wr.drew) TQ.out.row hba) hbb).alloc _) ⟨wb.heap.size, 0, none⟩ 1 1 [.string A, .string T] (by rfl) (by rfl) (World.news_of_block (cs := #[.string A, .string T]) (t := 41) (fr := (0, 0)) (heap_alloc_new wb _)) (two_strings _ _) (Nat.zero_lt_succ _) h63 hby (by have h1 := TQ.out.up; have h2 := hba.size; have h3 := hbb.size; simp at h2 ⊢; omega) (wb.heap.size + 1) (Array.size_push ..) ?_; intro g2 cap2 w8 hown8 hgrow hat hlt8))
          all_goals
            have TN : Hid (ToldAt (w.heap.size + 1) g cap b l W0 w8 (.slice (some ⟨g2, 0, none⟩) (k + 1) cap2) (k + 1)) := ToldAt.step TQ.out (by omega) hg5' hba hbb (by rw [← HAT.out]; exact hown8) hgrow hat
            clear hba hbb hown8 hgrow hat hlt8
            go_wp2
            go_roundw
            case rel => exact ⟨k + 1, by omega, by go_num, TN⟩
            case measure => simp [intOf]; omega
        · have hk1 : ¬ (k : Int) < (l.length : Int) := by omega
          obtain ⟨va, vc, rfl⟩ := own_slice TQ.out.row
          have hblk : wr.heap[w.heap.size]? = some (.cells #[.slice none 0 0] 25 (0, 0)) := (TQ.out.below.block w.heap.size (Nat.lt_succ_self _)).trans HW0.out
          have hr : wr.cell? ⟨w.heap.size, 0, none⟩ = some (.slice none 0 0) := cell_of_row _ _ 0 _ _ _ hblk
          have hrf : wr.frozen? ⟨w.heap.size, 0, none⟩ = false := frozen_of_row _ _ _ _ _ hblk
          have hres := World.cell?_setCell_same wr _ (.slice va k vc) hr
          have HR : Hid (wr.ownsRow (w.heap.size + 1) 41 2 (.slice va k vc) l.length (cellsF l)) := by
            show World.ownsRow _ _ _ _ _ _ _
            have := TQ.out.row
            rw [List.take_of_length_le (by omega)] at this
            rwa [show k = l.length by omega] at this ⊢
          have HB : Hid (Below w.heap.size w wr) := HB0.out.trans (TQ.out.below.mono (Nat.le_succ _))
          clear hblk
          go_wp2
          refine bodyPost_ret (v := .agg #[.slice va k vc]) (by simp [results, Tryz.results33, go_sem, hres]) rfl ⟨_, rfl, ?_, HB.out.setCell (Nat.le_refl _) _⟩
          exact own_set (own_mono HR.out (Nat.le_succ _)) _ _ _ (fun e => by have := (HR.out.lt _ e).1; omega)
    · intro x cn ct kl yd yp w2 cnt2 hkey hlk hv hat hrg2 hlt hg2 hs2 hen
      obtain ⟨x', ex, rfl, _⟩ := Maps.keyOf_str Tryz.underlying9 hkey
      obtain rfl : x = x' := encStr_inj ex
      have hrow2 := hrow.kept hg2 (Or.inr (row_ne_iter hrow hrg).symm)
      have hg2z := hg2.size
      clear hs2
      go_wp2_with (first
        | (at_builtin; refine wpList_append_own _ rfl _ _ 77 rfl (w.heap.size + 1) 9 i0 (.string ⟨#[]⟩) 1 16 Tryz.underlying77 hi hz0 hz1 hz2 rfl (by decide) _ _ _ rfl (hrow2.alloc _) ⟨w2.heap.size, 0, none⟩ 1 1 [encStr x] rfl rfl (cell_one_new _ _ _) (by simp [Value.oneCell', encStr]) (by unfold maxLen at *; omega) (by omega) (by simp; omega) ?_; intro v' w3 hown' hg3 hnil3; go_frame)
        | fail)
      have hrg3 := (hrg2.alloc _).kept hg3 (row_ne_low hrow2 (by omega)) (row_ne_iter hrow2 hrg2)
      go_roundw
      case rel =>
        refine ⟨_, cnt2, ss ++ [x], hrg3, by simp; omega, by simpa using hown', fun hv' => by have := (hnil3.1 hv').2; omega, hC.step hlk hat, ?_⟩
        exact ((hnx.grown hg2 hnz (fun j hj => by cases hj; omega)).alloc (by omega) _).grown hg3 (by simp; omega) (fun j hj => (hrow2.lt j hj).1)
      case measure => rw [hrg3.left_eq, hrg.left_eq]; exact hlt
end Go.Proofs.YthcfnofhdbjemaaGreatDoor
