/- The call of l03Put, walked. -/
import Derived.Test.YthcfnofhdbjemaaGreatDoorDrop
namespace Go.Proofs.YthcfnofhdbjemaaGreatDoor
open Go.RowKit

theorem four_0 (w : World) (x y z u : Obj) : ((((w.alloc x).alloc y).alloc z).alloc u).heap[w.heap.size]? = some x := by
  rw [Below.heap_alloc _ _ _ (by simp; omega)]
  exact three_0 w x y z
theorem four_1 (w : World) (x y z u : Obj) : ((((w.alloc x).alloc y).alloc z).alloc u).heap[w.heap.size + 1]? = some y := by
  rw [Below.heap_alloc _ _ _ (by simp)]
  exact three_1 w x y z
theorem four_2 (w : World) (x y z u : Obj) : ((((w.alloc x).alloc y).alloc z).alloc u).heap[w.heap.size + 1 + 1]? = some z := by
  rw [Below.heap_alloc _ _ _ (by simp)]
  exact three_2 w x y z
theorem four_3 (w : World) (x y z u : Obj) : ((((w.alloc x).alloc y).alloc z).alloc u).heap[w.heap.size + 1 + 1 + 1]? = some u := by
  have := heap_alloc_new (((w.alloc x).alloc y).alloc z) u
  simpa using this
theorem outStart4 (w : World) (x y : Obj) (t : TypeId) : OutAt (w.heap.size + 1 + 1 + 1) (w.heap.size + 1 + 1) (w.heap.size + 4) ((((w.alloc x).alloc y).alloc (.cells #[.slice none 0 0] t)).alloc (.cells #[.slice none 0 0] t)) (.slice none 0 0) [] where
  ob := by omega
  rb := by omega
  ne := by omega
  res := cell_of_row _ _ _ _ _ _ (four_2 w _ _ _ _)
  resf := frozen_of_row _ _ _ _ _ (four_2 w _ _ _ _)
  out := cell_of_row _ _ _ _ _ _ (four_3 w _ _ _ _)
  outf := frozen_of_row _ _ _ _ _ (four_3 w _ _ _ _)
  own := World.ownsRow_nil _ _ _ _
  size := by simp
theorem OutAt.drewN {o r b : Nat} {W : World} {v : Value} {pre : List FileL} (h : OutAt o r b W v pre) (n : Nat) : OutAt o r b (W.drewN n) v pre :=
  ⟨h.ob, h.rb, h.ne, h.res, h.resf, h.out, h.outf, h.own, h.size⟩
/-- What a call of l03Put keeps: its disk and its file. -/
structure PutAt (h : Nat) (D : Value) (N X : ByteArray) (W : World) : Prop where
  d : W.cell? ⟨h, 0, none⟩ = some D
  n : W.cell? ⟨h + 1, 0, none⟩ = some (.string N)
  x : W.cell? ⟨h + 1, 1, none⟩ = some (.string X)
theorem PutAt.drewN {h : Nat} {D : Value} {N X : ByteArray} {W : World} (p : PutAt h D N X W) (n : Nat) : PutAt h D N X (W.drewN n) := ⟨p.d, p.n, p.x⟩
theorem PutAt.kept {h b : Nat} {D : Value} {N X : ByteArray} {W W' : World} (p : PutAt h D N X W) (hb : h + 4 ≤ b) (hk : ∀ q : Addr, q.block < b → q.block ≠ h + 1 + 1 + 1 → W'.cell? q = W.cell? q) : PutAt h D N X W' :=
  ⟨(hk _ (by simp; omega) (by simp; omega)).trans p.d, (hk _ (by simp; omega) (by simp)).trans p.n, (hk _ (by simp; omega) (by simp)).trans p.x⟩

set_option maxHeartbeats 8000000 in
set_option maxRecDepth 100000 in
theorem l03Put_is {a : Option Addr} {g off cap : Nat} (l : List FileL) (hlen : l.length ≤ 1048576) (N X : ByteArray) (w : World) (hf : FilesAt w a g off l) :
    Calls Tryz.prog 14 #[.agg #[.slice a l.length cap], .agg #[.string N, .string X]] w fun e w' => ∃ v : Value, e = .returned (.agg #[v]) ∧ w'.ownsRow w.heap.size 41 2 v (Disks.put l (N, X)).length (cellsF (Disks.put l (N, X))) ∧ Below w.heap.size w w' := by
  obtain ⟨i0, hi, hz0, hz1, hz2⟩ := info_parts Tryz.info41
  have HF : Hid (FilesAt w a g off l) := hf
  clear hf
  go_enter Tryz.func14, Tryz.ntmps14
  go_wp2
  go_loopw [6] (fun i wr => ∃ (k : Nat) (v : Value) (pre : List FileL), k ≤ l.length ∧ i = .int .i64 (k : Int) ∧ pre = (l.take k).filter (fun e => Disks.lt e.1 N) ∧ pre.length ≤ k ∧ PutAt w.heap.size (.slice a l.length cap) N X wr ∧
      OutAt (w.heap.size + 1 + 1 + 1) (w.heap.size + 1 + 1) (w.heap.size + 4) wr v pre ∧ Below w.heap.size w wr)
    (fun i _ => l.length - (intOf i).toNat)
  case atStart =>
    refine ⟨0, .slice none 0 0, [], Nat.zero_le _, rfl, rfl, Nat.zero_le _, ?_, outStart4 w _ _ 25, ?_⟩
    · exact ⟨cell_of_row _ _ _ _ _ _ (four_0 w _ _ _ _), cell_of_row _ _ _ _ _ _ (four_1 w _ _ _ _), cell_of_row _ _ _ _ _ _ (four_1 w _ _ _ _)⟩
    · exact ((((Below.refl _ _).alloc (Nat.le_refl _) _).alloc (by simp) _).alloc (by simp; omega) _).alloc (by simp; omega) _
  case round =>
    obtain ⟨k, v, pre, hk, rfl, hpre, hpk, hput, hout, hbel⟩ := hrel
    have HOUT : Hid (OutAt (w.heap.size + 1 + 1 + 1) (w.heap.size + 1 + 1) (w.heap.size + 4) wr v pre) := hout
    have HPUT : Hid (PutAt w.heap.size (.slice a l.length cap) N X wr) := hput
    have hd := hput.d
    have hn := hput.n
    clear hout hput
    by_cases hlt : k < l.length
    · obtain ⟨c0, c1⟩ := (HF.out.kept hbel).2 k hlt
      have ea := HF.out.1 (by omega)
      subst ea
      obtain ⟨A, hA⟩ : ∃ A, A = l[k].1 := ⟨_, rfl⟩
      obtain ⟨T, hT⟩ : ∃ T, T = l[k].2 := ⟨_, rfl⟩
      rw [← hA] at c0
      rw [← hT] at c1
      have HAA : Hid (l[k] = (A, T)) := by show _ = _; rw [hA, hT]
      have HP : Hid (pre = (l.take k).filter (fun e => Disks.lt e.1 N)) := hpre
      clear hA hT hpre
      have hk0 : (0 : Int) ≤ (k : Int) := by omega
      have hk1 : (k : Int) < (l.length : Int) := by omega
      by_cases hb : Op.bytesLess A.toList N.toList = true
      · have h63 : pre.length + 1 ≤ maxLen := by unfold maxLen; omega
        have hby : (pre.length + 1) * 32 ≤ 140737488355328 := by omega
        go_wp2
        go_quiet (fail)
        go_wp2
        obtain ⟨W, hW⟩ : ∃ W, W = wr.drewN nq := ⟨_, rfl⟩
        rw [← hW]
        have HOUTW : Hid (OutAt (w.heap.size + 1 + 1 + 1) (w.heap.size + 1 + 1) (w.heap.size + 4) W v pre) := by rw [hW]; exact HOUT.out.drewN _
        have HPUTW : Hid (PutAt w.heap.size (.slice (some ⟨g, off, none⟩) l.length cap) N X W) := by rw [hW]; exact HPUT.out.drewN _
        have hbelW : Below w.heap.size w W := by rw [hW]; exact below_drewN hbel _
        have e0 : W.cell? ⟨g, off + k * 2, none⟩ = some (.string A) := by rw [hW]; exact c0
        have e1 : W.cell? ⟨g, off + k * 2 + 1, none⟩ = some (.string T) := by rw [hW]; exact c1
        have hd' := HPUTW.out.d
        have ho := HOUTW.out.out
        clear hW hd hn c0 c1 HOUT HPUT hbel
        have hbs : w.heap.size + 4 ≤ (W.alloc (Obj.cells #[Value.string A, Value.string T] 41)).drew.heap.size := by have := HOUTW.out.size; simp; omega
        have HGA : Hid (W.grownBy ((W.alloc (Obj.cells #[Value.string A, Value.string T] 41)).drew) v.ownBlock) := grown_drew (World.grownBy_alloc W _ _)
        have hoA : (W.alloc (Obj.cells #[Value.string A, Value.string T] 41)).cell? ⟨w.heap.size + 1 + 1 + 1, 0, none⟩ = some v := (World.cell?_alloc_lt W _ _ (World.block_lt_of_cell? W _ ho)).trans ho
        go_region_law (refine step_append_lies _ (by rfl) _ _ _ (by rfl) (w.heap.size + 4) 41 i0 _ 2 32 Tryz.underlying23 hi hz0 hz1 hz2 rfl (Nat.zero_lt_succ _) v pre.length (cellsF pre) (by rfl) ((HOUTW.out.own.alloc _).drew) ⟨W.heap.size, 0, none⟩ 1 1 [.string A, .string T] (by rfl) (by rfl) (World.news_of_block (cs := #[.string A, .string T]) (t := 41) (fr := (0, 0)) (heap_alloc_new W _)) (two_strings _ _) (Nat.zero_lt_succ _) h63 hby hbs (W.heap.size + 1) (Array.size_push ..) ?_; intro g2 cap2 w1 hown1 hgrow hat hlt2; have hgr := HGA.out.trans hgrow; have ho1 := hgr.cell ho (HOUTW.out.far HOUTW.out.ob); have hof1 := (hgr.frozen_far ⟨w.heap.size + 1 + 1 + 1, 0, none⟩ (World.block_lt_of_cell? W _ ho) (HOUTW.out.far HOUTW.out.ob)).trans HOUTW.out.outf)
        all_goals
          have hst := HOUTW.out.step hgr hown1
          have HST : Hid (_ ∧ _) := hst
          have hB1 : Below w.heap.size w w1 := hbelW.grown hgr hbelW.size (fun j hj => by have := (HOUTW.out.own.lt j hj).1; omega)
          clear hst hgr hgrow hown1
          go_wp2
          go_roundw
          case rel =>
            refine ⟨k + 1, _, pre ++ [(A, T)], by omega, by go_num, ?_, by simp; omega, HPUTW.out.kept (Nat.le_refl _) HST.out.2, HST.out.1, hB1.setCell (by simp; omega) _⟩
            rw [filter_step hlt, ← HP.out, HAA.out, if_pos (by simp [Disks.lt, hb])]
          case measure => simp [intOf]; omega
      · have hb' : Op.bytesLess A.toList N.toList = false := by simpa using hb
        go_wp2
        go_quiet (fail)
        go_wp2
        go_roundw
        case rel =>
          refine ⟨k + 1, v, pre, by omega, by go_num, ?_, by omega, HPUT.out.drewN _, HOUT.out.drewN _, below_drewN hbel _⟩
          rw [filter_step hlt, ← HP.out, HAA.out, if_neg (by simp [Disks.lt, hb'])]; simp
        case measure => simp [intOf]; omega
    · have hk1 : ¬ (k : Int) < (l.length : Int) := by omega
      have HP : Hid (pre = l.filter (fun e => Disks.lt e.1 N)) := by show _ = _; rw [hpre, List.take_of_length_le (by omega)]
      clear hpre
      have ho := HOUT.out.out
      have hx := HPUT.out.x
      have h63 : pre.length + 1 ≤ maxLen := by unfold maxLen; omega
      have hby : (pre.length + 1) * 32 ≤ 140737488355328 := by omega
      have hbs : w.heap.size + 4 ≤ (wr.alloc (Obj.cells #[Value.string N, Value.string X] 41)).heap.size := by have := HOUT.out.size; simp; omega
      have HGA : Hid (wr.grownBy (wr.alloc (Obj.cells #[Value.string N, Value.string X] 41)) v.ownBlock) := World.grownBy_alloc wr _ _
      go_wp2_with (at_builtin; refine wpList_append_lies _ rfl _ _ 23 rfl (w.heap.size + 4) 41 i0 (.agg #[.string ByteArray.empty, .string ByteArray.empty]) 2 32 Tryz.underlying23 hi hz0 hz1 hz2 rfl (Nat.zero_lt_succ _) v pre.length (cellsF pre) rfl (HOUT.out.own.alloc _) ⟨wr.heap.size, 0, none⟩ 1 1 [.string N, .string X] rfl rfl (World.news_of_block (cs := #[.string N, .string X]) (t := 41) (fr := (0, 0)) (heap_alloc_new wr _)) (two_strings _ _) (Nat.zero_lt_succ _) h63 hby hbs _ rfl ?_)
      intro g2 cap2 w1 hown1 hgrow hat hlt2
      have hgr := HGA.out.trans hgrow
      have ho1 := hgr.cell ho (HOUT.out.far HOUT.out.ob)
      have hof1 := (hgr.frozen_far ⟨w.heap.size + 1 + 1 + 1, 0, none⟩ (World.block_lt_of_cell? wr _ ho) (HOUT.out.far HOUT.out.ob)).trans HOUT.out.outf
      have hst := HOUT.out.step hgr hown1
      have HST : Hid (_ ∧ _) := hst
      have hB1 : Below w.heap.size w w1 := hbel.grown hgr hbel.size (fun j hj => by have := (HOUT.out.own.lt j hj).1; omega)
      clear hst hgr hgrow hown1
      go_wp2
      have hput1 := HPUT.out.kept (Nat.le_refl _) HST.out.2
      have hBs : Below w.heap.size w (w1.setCell ⟨w.heap.size + 1 + 1 + 1, 0, none⟩ (.slice (some ⟨g2, 0, none⟩) (pre.length + 1) cap2)) := hB1.setCell (by simp; omega) _
      have HOUT1 := HST.out.1
      obtain ⟨W1, hW1⟩ : ∃ W1, W1 = w1.setCell ⟨w.heap.size + 1 + 1 + 1, 0, none⟩ (.slice (some ⟨g2, 0, none⟩) (pre.length + 1) cap2) := ⟨_, rfl⟩
      rw [← hW1] at hput1 hBs HOUT1
      rw [← hW1]
      clear hW1 HST hB1 ho1 hof1 HGA hbs hby h63 ho hx hd hn
      go_loopw [7] (fun i wr => ∃ (k : Nat) (v : Value) (pre : List FileL), k ≤ l.length ∧ i = .int .i64 (k : Int) ∧ pre = l.filter (fun e => Disks.lt e.1 N) ++ [(N, X)] ++ (l.take k).filter (fun e => Disks.gt e.1 N) ∧ pre.length ≤ l.length + 1 + k ∧ PutAt w.heap.size (.slice a l.length cap) N X wr ∧
          OutAt (w.heap.size + 1 + 1 + 1) (w.heap.size + 1 + 1) (w.heap.size + 4) wr v pre ∧ Below w.heap.size w wr)
        (fun i _ => l.length - (intOf i).toNat)
      case atStart => exact ⟨0, _, _, Nat.zero_le _, rfl, by rw [← HP.out]; simp, by simp; omega, hput1, HOUT1, hBs⟩
      case round =>
        obtain ⟨k, v, pre, hk, rfl, hpre, hpk, hput, hout, hbel⟩ := hrel
        have HOUT : Hid (OutAt (w.heap.size + 1 + 1 + 1) (w.heap.size + 1 + 1) (w.heap.size + 4) wr v pre) := hout
        have HPUT : Hid (PutAt w.heap.size (.slice a l.length cap) N X wr) := hput
        have hd := hput.d
        have hn := hput.n
        clear hout hput
        by_cases hlt : k < l.length
        · obtain ⟨c0, c1⟩ := (HF.out.kept hbel).2 k hlt
          have ea := HF.out.1 (by omega)
          subst ea
          obtain ⟨A, hA⟩ : ∃ A, A = l[k].1 := ⟨_, rfl⟩
          obtain ⟨T, hT⟩ : ∃ T, T = l[k].2 := ⟨_, rfl⟩
          rw [← hA] at c0
          rw [← hT] at c1
          have HAA : Hid (l[k] = (A, T)) := by show _ = _; rw [hA, hT]
          have HP : Hid (pre = l.filter (fun e => Disks.lt e.1 N) ++ [(N, X)] ++ (l.take k).filter (fun e => Disks.gt e.1 N)) := hpre
          clear hA hT hpre
          have hk0 : (0 : Int) ≤ (k : Int) := by omega
          have hk1 : (k : Int) < (l.length : Int) := by omega
          by_cases hg : Disks.gt A N = true
          · obtain ⟨hb1, hb2⟩ : Op.bytesLess A.toList N.toList = false ∧ (A.toList == N.toList) = false := by simpa [Disks.gt] using hg
            have h63 : pre.length + 1 ≤ maxLen := by unfold maxLen; omega
            have hby : (pre.length + 1) * 32 ≤ 140737488355328 := by omega
            go_wp2
            go_quiet (fail)
            go_wp2
            obtain ⟨W, hW⟩ : ∃ W, W = wr.drewN nq := ⟨_, rfl⟩
            rw [← hW]
            have HOUTW : Hid (OutAt (w.heap.size + 1 + 1 + 1) (w.heap.size + 1 + 1) (w.heap.size + 4) W v pre) := by rw [hW]; exact HOUT.out.drewN _
            have HPUTW : Hid (PutAt w.heap.size (.slice (some ⟨g, off, none⟩) l.length cap) N X W) := by rw [hW]; exact HPUT.out.drewN _
            have hbelW : Below w.heap.size w W := by rw [hW]; exact below_drewN hbel _
            have e0 : W.cell? ⟨g, off + k * 2, none⟩ = some (.string A) := by rw [hW]; exact c0
            have e1 : W.cell? ⟨g, off + k * 2 + 1, none⟩ = some (.string T) := by rw [hW]; exact c1
            have hd' := HPUTW.out.d
            have ho := HOUTW.out.out
            clear hW hd hn c0 c1 HOUT HPUT hbel
            have hbs : w.heap.size + 4 ≤ (W.alloc (Obj.cells #[Value.string A, Value.string T] 41)).drew.heap.size := by have := HOUTW.out.size; simp; omega
            have HGA : Hid (W.grownBy ((W.alloc (Obj.cells #[Value.string A, Value.string T] 41)).drew) v.ownBlock) := grown_drew (World.grownBy_alloc W _ _)
            have hoA : (W.alloc (Obj.cells #[Value.string A, Value.string T] 41)).cell? ⟨w.heap.size + 1 + 1 + 1, 0, none⟩ = some v := (World.cell?_alloc_lt W _ _ (World.block_lt_of_cell? W _ ho)).trans ho
            go_region_law (refine step_append_lies _ (by rfl) _ _ _ (by rfl) (w.heap.size + 4) 41 i0 _ 2 32 Tryz.underlying23 hi hz0 hz1 hz2 rfl (Nat.zero_lt_succ _) v pre.length (cellsF pre) (by rfl) ((HOUTW.out.own.alloc _).drew) ⟨W.heap.size, 0, none⟩ 1 1 [.string A, .string T] (by rfl) (by rfl) (World.news_of_block (cs := #[.string A, .string T]) (t := 41) (fr := (0, 0)) (heap_alloc_new W _)) (two_strings _ _) (Nat.zero_lt_succ _) h63 hby hbs (W.heap.size + 1) (Array.size_push ..) ?_; intro g2 cap2 w1 hown1 hgrow hat hlt2; have hgr := HGA.out.trans hgrow; have ho1 := hgr.cell ho (HOUTW.out.far HOUTW.out.ob); have hof1 := (hgr.frozen_far ⟨w.heap.size + 1 + 1 + 1, 0, none⟩ (World.block_lt_of_cell? W _ ho) (HOUTW.out.far HOUTW.out.ob)).trans HOUTW.out.outf)
            all_goals
              have hst := HOUTW.out.step hgr hown1
              have HST : Hid (_ ∧ _) := hst
              have hB1 : Below w.heap.size w w1 := hbelW.grown hgr hbelW.size (fun j hj => by have := (HOUTW.out.own.lt j hj).1; omega)
              clear hst hgr hgrow hown1
              go_wp2
              go_roundw
              case rel =>
                refine ⟨k + 1, _, pre ++ [(A, T)], by omega, by go_num, ?_, by simp; omega, HPUTW.out.kept (Nat.le_refl _) HST.out.2, HST.out.1, hB1.setCell (by simp; omega) _⟩
                rw [filter_step hlt, ← List.append_assoc, ← HP.out, HAA.out, if_pos (by simp [hg])]
              case measure => simp [intOf]; omega
          · by_cases hb1 : Op.bytesLess A.toList N.toList = true
            · go_wp2
              go_quiet (fail)
              go_wp2
              go_roundw
              case rel =>
                refine ⟨k + 1, v, pre, by omega, by go_num, ?_, by omega, HPUT.out.drewN _, HOUT.out.drewN _, below_drewN hbel _⟩
                rw [filter_step hlt, ← List.append_assoc, ← HP.out, HAA.out, if_neg (by simp [hg])]; simp
              case measure => simp [intOf]; omega
            · have hb1' : Op.bytesLess A.toList N.toList = false := by simpa using hb1
              have hb2 : (A.toList == N.toList) = true := by simpa [Disks.gt, hb1'] using hg
              go_wp2
              go_quiet (fail)
              go_wp2
              go_roundw
              case rel =>
                refine ⟨k + 1, v, pre, by omega, by go_num, ?_, by omega, HPUT.out.drewN _, HOUT.out.drewN _, below_drewN hbel _⟩
                rw [filter_step hlt, ← List.append_assoc, ← HP.out, HAA.out, if_neg (by simp [hg])]; simp
              case measure => simp [intOf]; omega
        · have hk1 : ¬ (k : Int) < (l.length : Int) := by omega
          have HP : Hid (pre = Disks.put l (N, X)) := by show _ = _; rw [hpre, List.take_of_length_le (by omega)]; rfl
          clear hpre
          obtain ⟨va, vc, rfl⟩ := own_slice HOUT.out.own
          have ho := HOUT.out.out
          have hr := HOUT.out.res
          have hrf := HOUT.out.resf
          have hres := World.cell?_setCell_same wr _ (.slice va pre.length vc) hr
          go_wp2
          refine bodyPost_ret (v := .agg #[.slice va pre.length vc]) (by simp [results, Tryz.results14, go_sem, hres]) rfl ⟨_, rfl, ?_, hbel.setCell (by simp; omega) _⟩
          rw [← HP.out]
          exact own_set (own_mono HOUT.out.own (by omega)) _ _ _ (fun e => by have := (HOUT.out.own.lt _ e).1; omega)
end Go.Proofs.YthcfnofhdbjemaaGreatDoor
