/- The calls of l03Drop and l03Put, walked. The call of l03Put, walked. Marks: markText, markFileS, heldFileS, markDisk, heldDisk, walked. How much a disk holds: szFile, szFileS, szDisk, walked. Raw writes copied and measured; disks marked and found marked: szRaw, toRaw, markDisk, heldDisk, walked. The call of the specification's PutRaw, walked. -/
import Derived.Test.YtbcfiiilikkkeaaGreatDoorSh
import Derived.Deep.AppendLies
import Derived.Deep.RegionLaw
import Derived.Test.YtbcfiiilikkkeaaGreatDoorLChange
import Derived.Test.YtbcfiiilikkkeaaGreatDoorMathAt
import Derived.Laws.AppendOwnNone
namespace Go.Proofs.YtbcfiiilikkkeaaGreatDoor
open Go.RowKit

theorem two_strings (a b : ByteArray) : ∀ u ∈ [Value.string a, Value.string b], u.oneCell' = true := by
  intro u hu
  simp only [List.mem_cons, List.not_mem_nil, or_false] at hu
  rcases hu with rfl | rfl <;> rfl

/-- A list that is grown in a variable of the call's own: its block o, the block r of the result, all made ahead of b. -/
structure OutAt (o r b : Nat) (W : World) (v : Value) (pre : List FileL) : Prop where
  ob : o < b
  rb : r < b
  ne : r ≠ o
  res : W.cell? ⟨r, 0, none⟩ = some (.slice none 0 0)
  resf : W.frozen? ⟨r, 0, none⟩ = false
  out : W.cell? ⟨o, 0, none⟩ = some v
  outf : W.frozen? ⟨o, 0, none⟩ = false
  own : W.ownsRow b 164 2 v pre.length (cellsF pre)
  size : b ≤ W.heap.size
theorem OutAt.far {o r b : Nat} {W : World} {v : Value} {pre : List FileL} (h : OutAt o r b W v pre) {j : Nat} (hj : j < b) : some j ≠ v.ownBlock := fun e => by
  have := (h.own.lt j e.symm).1
  omega
theorem OutAt.step {o r b : Nat} {W w1 : World} {v v' : Value} {pre : List FileL} {A T : ByteArray} (h : OutAt o r b W v pre) (hgr : W.grownBy w1 v.ownBlock) (hown1 : w1.ownsRow b 164 2 v' (pre.length + 1) (cellsF pre ++ [.string A, .string T])) :
    OutAt o r b (w1.setCell ⟨o, 0, none⟩ v') v' (pre ++ [(A, T)]) ∧ (∀ p : Addr, p.block < b → p.block ≠ o → (w1.setCell ⟨o, 0, none⟩ v').cell? p = W.cell? p) := by
  have key : ∀ p : Addr, p.block < b → p.block ≠ o → (w1.setCell ⟨o, 0, none⟩ v').cell? p = W.cell? p ∧ (w1.setCell ⟨o, 0, none⟩ v').frozen? p = W.frozen? p := by
    intro p hp hne
    have e1 : (w1.setCell ⟨o, 0, none⟩ v').heap[p.block]? = w1.heap[p.block]? := Below.heap_setCell w1 ⟨o, 0, none⟩ v' p.block hne
    have e2 := hgr.block p.block (Nat.lt_of_lt_of_le hp h.size) (h.far hp)
    exact ⟨World.cell?_of_block (e1.trans e2), World.frozen?_of_block (e1.trans e2)⟩
  have oz : o < W.heap.size := World.block_lt_of_cell? W _ h.out
  have ho1 : w1.cell? ⟨o, 0, none⟩ = some v := hgr.cell h.out (h.far h.ob)
  refine ⟨⟨h.ob, h.rb, h.ne, (key ⟨r, 0, none⟩ h.rb h.ne).1.trans h.res, (key ⟨r, 0, none⟩ h.rb h.ne).2.trans h.resf, World.cell?_setCell_same _ _ _ ho1, ?_, ?_, ?_⟩, fun p hp hne => (key p hp hne).1⟩
  · rw [World.frozen?_setCell]
    exact (hgr.frozen_far ⟨o, 0, none⟩ oz (h.far h.ob)).trans h.outf
  · have e : cellsF pre ++ [.string A, .string T] = cellsF (pre ++ [(A, T)]) := by rw [cellsF_app]; rfl
    rw [e] at hown1
    rw [List.length_append]
    refine own_set hown1 o 0 v' fun e => ?_
    have := (hown1.lt o e).1
    have := h.ob
    omega
  · have := hgr.size
    have := h.size
    simp [World.setCell]
    omega
theorem three_0 (w : World) (x y z : Obj) : (((w.alloc x).alloc y).alloc z).heap[w.heap.size]? = some x := by
  rw [Below.heap_alloc _ _ _ (by simp; omega), Below.heap_alloc _ _ _ (by simp)]
  exact heap_alloc_new w x
theorem three_1 (w : World) (x y z : Obj) : (((w.alloc x).alloc y).alloc z).heap[w.heap.size + 1]? = some y := by
  rw [Below.heap_alloc _ _ _ (by simp)]
  have := heap_alloc_new (w.alloc x) y
  simpa using this
theorem three_2 (w : World) (x y z : Obj) : (((w.alloc x).alloc y).alloc z).heap[w.heap.size + 1 + 1]? = some z := by
  have := heap_alloc_new ((w.alloc x).alloc y) z
  simpa using this
theorem outStart_d (w : World) (d : Value) (t : TypeId) : (((w.alloc (.cells #[d] t)).alloc (.cells #[.slice none 0 0] t)).alloc (.cells #[.slice none 0 0] t)).cell? ⟨w.heap.size, 0, none⟩ = some d :=
  cell_of_row _ _ _ _ _ _ (three_0 w _ _ _)
theorem outStart (w : World) (d : Value) (t : TypeId) : OutAt (w.heap.size + 1 + 1) (w.heap.size + 1) (w.heap.size + 3) (((w.alloc (.cells #[d] t)).alloc (.cells #[.slice none 0 0] t)).alloc (.cells #[.slice none 0 0] t)) (.slice none 0 0) [] where
  ob := by omega
  rb := by omega
  ne := by omega
  res := cell_of_row _ _ _ _ _ _ (three_1 w _ _ _)
  resf := frozen_of_row _ _ _ _ _ (three_1 w _ _ _)
  out := cell_of_row _ _ _ _ _ _ (three_2 w _ _ _)
  outf := frozen_of_row _ _ _ _ _ (three_2 w _ _ _)
  own := World.ownsRow_nil _ _ _ _
  size := by simp
theorem filter_step_pk {p : FileL → Bool} {l : List FileL} {k : Nat} (hk : k < l.length) : (l.take (k + 1)).filter p = (l.take k).filter p ++ (if p l[k] then [l[k]] else []) := by
  rw [List.take_succ_eq_append_getElem hk, List.filter_append]
  congr 1
  rw [List.filter_cons, List.filter_nil]

set_option maxHeartbeats 4000000 in
set_option maxRecDepth 100000 in
theorem l03Drop_is {a : Option Addr} {g off cap : Nat} (l : List FileL) (hlen : l.length ≤ 1048576) (n : ByteArray) (w : World) (hf : FilesAt w a g off l) :
    Calls Tryz.prog 159 #[.agg #[.slice a l.length cap], .string n] w fun e w' => ∃ v : Value, e = .returned (.agg #[v]) ∧ w'.ownsRow w.heap.size 164 2 v (l.filter fun f => !Disks.nameIs n f).length (cellsF (l.filter fun f => !Disks.nameIs n f)) ∧ Below w.heap.size w w' := by
  obtain ⟨i0, hi, hz0, hz1, hz2⟩ := info_parts Tryz.info164
  have HF : Hid (FilesAt w a g off l) := hf
  clear hf
  go_enter Tryz.func159, Tryz.ntmps159
  go_wp2
  go_loopw [6] (fun i wr => ∃ (k : Nat) (v : Value) (pre : List FileL), k ≤ l.length ∧ i = .int .i64 (k : Int) ∧ pre = (l.take k).filter (fun f => !Disks.nameIs n f) ∧ pre.length ≤ k ∧ wr.cell? ⟨w.heap.size, 0, none⟩ = some (.slice a l.length cap) ∧
      OutAt (w.heap.size + 1 + 1) (w.heap.size + 1) (w.heap.size + 3) wr v pre ∧ Below w.heap.size w wr)
    (fun i _ => l.length - (intOf i).toNat)
  case atStart =>
    refine ⟨0, .slice none 0 0, [], Nat.zero_le _, rfl, rfl, Nat.zero_le _, ?_, ?_, ?_⟩
    · exact outStart_d w _ 46
    · exact outStart w _ 46
    · exact (((Below.refl _ _).alloc (Nat.le_refl _) _).alloc (by simp) _).alloc (by simp; omega) _
  case round =>
    obtain ⟨k, v, pre, hk, rfl, hpre, hpk, hd, hout, hbel⟩ := hrel
    have HOUT : Hid (OutAt (w.heap.size + 1 + 1) (w.heap.size + 1) (w.heap.size + 3) wr v pre) := hout
    have ho := hout.out
    clear hout
    by_cases hlt : k < l.length
    · obtain ⟨c0, c1⟩ := (HF.out.kept hbel).2 k hlt
      have hgz := (HF.out.kept hbel).lt (by omega)
      have ea := HF.out.1 (by omega)
      subst ea
      obtain ⟨A, hA⟩ : ∃ A, A = l[k].1 := ⟨_, rfl⟩
      obtain ⟨T, hT⟩ : ∃ T, T = l[k].2 := ⟨_, rfl⟩
      rw [← hA] at c0
      rw [← hT] at c1
      have HAA : Hid (l[k] = (A, T)) := by show _ = _; rw [hA, hT]
      have HP : Hid (pre = (l.take k).filter (fun f => !Disks.nameIs n f)) := hpre
      clear hA hT hpre
      have hk0 : (0 : Int) ≤ (k : Int) := by omega
      have hk1 : (k : Int) < (l.length : Int) := by omega
      by_cases hb : (A.toList == n.toList) = true
      · go_wp2
        go_roundw
        case rel =>
          refine ⟨k + 1, v, pre, by omega, by go_num, ?_, by omega, hd, HOUT.out, hbel⟩
          rw [filter_step_pk hlt, ← HP.out, HAA.out, if_neg (by simp [Disks.nameIs, hb])]
          simp
        case measure => simp [intOf]; omega
      · have hb' : (A.toList == n.toList) = false := by simpa using hb
        have h63 : pre.length + 1 ≤ maxLen := by unfold maxLen; omega
        have hby : (pre.length + 1) * 32 ≤ 140737488355328 := by omega
        have hbs : w.heap.size + 3 ≤ (wr.alloc (Obj.cells #[Value.string A, Value.string T] 164)).drew.heap.size := by have := HOUT.out.size; simp; omega
        have HGA : Hid (wr.grownBy ((wr.alloc (Obj.cells #[Value.string A, Value.string T] 164)).drew) v.ownBlock) := grown_drew (World.grownBy_alloc wr _ _)
        have hoA : (wr.alloc (Obj.cells #[Value.string A, Value.string T] 164)).cell? ⟨w.heap.size + 1 + 1, 0, none⟩ = some v := (World.cell?_alloc_lt wr _ _ (World.block_lt_of_cell? wr _ ho)).trans ho
        go_wp2
        go_region_law (refine step_append_lies _ (by rfl) _ _ _ (by rfl) (w.heap.size + 3) 164 i0 _ 2 32 Tryz.underlying44 hi hz0 hz1 hz2 rfl (Nat.zero_lt_succ _) v pre.length (cellsF pre) (by rfl) ((HOUT.out.own.alloc _).drew) ⟨wr.heap.size, 0, none⟩ 1 1 [.string A, .string T] (by rfl) (by rfl) (World.news_of_block (cs := #[.string A, .string T]) (t := 164) (fr := (0, 0)) (heap_alloc_new wr _)) (two_strings _ _) (Nat.zero_lt_succ _) h63 hby hbs (wr.heap.size + 1) (Array.size_push ..) ?_; intro g2 cap2 w1 hown1 hgrow hat hlt2; have hgr := HGA.out.trans hgrow; have ho1 := hgr.cell ho (HOUT.out.far HOUT.out.ob); have hof1 := (hgr.frozen_far ⟨w.heap.size + 1 + 1, 0, none⟩ (World.block_lt_of_cell? wr _ ho) (HOUT.out.far HOUT.out.ob)).trans HOUT.out.outf)
        all_goals
          have hst := HOUT.out.step hgr hown1
          have HST : Hid (_ ∧ _) := hst
          have hB1 : Below w.heap.size w w1 := hbel.grown hgr hbel.size (fun j hj => by have := (HOUT.out.own.lt j hj).1; omega)
          clear hst hgr hgrow hown1
          go_wp2
          go_roundw
          case rel =>
            refine ⟨k + 1, _, pre ++ [(A, T)], by omega, by go_num, ?_, by simp; omega, ?_, HST.out.1, hB1.setCell (by simp; omega) _⟩
            · rw [filter_step_pk hlt, ← HP.out, HAA.out, if_pos (by simp [Disks.nameIs, hb'])]
            · rw [HST.out.2 _ (by simp) (by simp; omega)]; exact hd
          case measure => simp [intOf]; omega
    · have hk1 : ¬ (k : Int) < (l.length : Int) := by omega
      have HP : Hid (pre = l.filter (fun f => !Disks.nameIs n f)) := by show _ = _; rw [hpre, List.take_of_length_le (by omega)]
      clear hpre
      obtain ⟨va, vc, rfl⟩ := own_slice HOUT.out.own
      have hr := HOUT.out.res
      have hrf := HOUT.out.resf
      have hof := HOUT.out.outf
      have hres := World.cell?_setCell_same wr _ (.slice va pre.length vc) hr
      go_wp2
      refine bodyPost_ret (v := .agg #[.slice va pre.length vc]) (by simp [results, Tryz.results159, go_sem, hres]) rfl ⟨_, rfl, ?_, hbel.setCell (by simp) _⟩
      rw [← HP.out]
      exact own_set (own_mono HOUT.out.own (by omega)) _ _ _ (fun e => by have := (HOUT.out.own.lt _ e).1; omega)
end Go.Proofs.YtbcfiiilikkkeaaGreatDoor
namespace Go.Proofs.YtbcfiiilikkkeaaGreatDoor
open Go.RowKit

theorem four_0 (w : World) (x y z u : Obj) : ((((w.alloc x).alloc y).alloc z).alloc u).heap[w.heap.size]? = some x := by
  rw [Below.heap_alloc _ _ _ (by simp; omega)]
  exact three_0 w x y z
theorem four_1 (w : World) (x y z u : Obj) : ((((w.alloc x).alloc y).alloc z).alloc u).heap[w.heap.size + 1]? = some y := by
  rw [Below.heap_alloc _ _ _ (by simp)]
  exact three_1 w x y z
theorem four_2 (w : World) (x y z u : Obj) : ((((w.alloc x).alloc y).alloc z).alloc u).heap[w.heap.size + 1 + 1]? = some z := by
  rw [Below.heap_alloc _ _ _ (by simp)]
  exact three_2 w x y z
theorem four_3 (w : World) (x y z u : Obj) : ((((w.alloc x).alloc y).alloc z).alloc u).heap[w.heap.size + 1 + 1 + 1]? = some u := by
  have := heap_alloc_new (((w.alloc x).alloc y).alloc z) u
  simpa using this
theorem outStart4 (w : World) (x y : Obj) (t : TypeId) : OutAt (w.heap.size + 1 + 1 + 1) (w.heap.size + 1 + 1) (w.heap.size + 4) ((((w.alloc x).alloc y).alloc (.cells #[.slice none 0 0] t)).alloc (.cells #[.slice none 0 0] t)) (.slice none 0 0) [] where
  ob := by omega
  rb := by omega
  ne := by omega
  res := cell_of_row _ _ _ _ _ _ (four_2 w _ _ _ _)
  resf := frozen_of_row _ _ _ _ _ (four_2 w _ _ _ _)
  out := cell_of_row _ _ _ _ _ _ (four_3 w _ _ _ _)
  outf := frozen_of_row _ _ _ _ _ (four_3 w _ _ _ _)
  own := World.ownsRow_nil _ _ _ _
  size := by simp
theorem OutAt.drewN {o r b : Nat} {W : World} {v : Value} {pre : List FileL} (h : OutAt o r b W v pre) (n : Nat) : OutAt o r b (W.drewN n) v pre :=
  ⟨h.ob, h.rb, h.ne, h.res, h.resf, h.out, h.outf, h.own, h.size⟩
/-- What a call of l03Put keeps: its disk and its file. -/
structure PutAt (h : Nat) (D : Value) (N X : ByteArray) (W : World) : Prop where
  d : W.cell? ⟨h, 0, none⟩ = some D
  n : W.cell? ⟨h + 1, 0, none⟩ = some (.string N)
  x : W.cell? ⟨h + 1, 1, none⟩ = some (.string X)
theorem PutAt.drewN {h : Nat} {D : Value} {N X : ByteArray} {W : World} (p : PutAt h D N X W) (n : Nat) : PutAt h D N X (W.drewN n) := ⟨p.d, p.n, p.x⟩
theorem PutAt.kept {h b : Nat} {D : Value} {N X : ByteArray} {W W' : World} (p : PutAt h D N X W) (hb : h + 4 ≤ b) (hk : ∀ q : Addr, q.block < b → q.block ≠ h + 1 + 1 + 1 → W'.cell? q = W.cell? q) : PutAt h D N X W' :=
  ⟨(hk _ (by simp; omega) (by simp; omega)).trans p.d, (hk _ (by simp; omega) (by simp)).trans p.n, (hk _ (by simp; omega) (by simp)).trans p.x⟩

set_option maxHeartbeats 8000000 in
set_option maxRecDepth 100000 in
theorem l03Put_is {a : Option Addr} {g off cap : Nat} (l : List FileL) (hlen : l.length ≤ 1048576) (N X : ByteArray) (w : World) (hf : FilesAt w a g off l) :
    Calls Tryz.prog 158 #[.agg #[.slice a l.length cap], .agg #[.string N, .string X]] w fun e w' => ∃ v : Value, e = .returned (.agg #[v]) ∧ w'.ownsRow w.heap.size 164 2 v (Disks.put l (N, X)).length (cellsF (Disks.put l (N, X))) ∧ Below w.heap.size w w' := by
  obtain ⟨i0, hi, hz0, hz1, hz2⟩ := info_parts Tryz.info164
  have HF : Hid (FilesAt w a g off l) := hf
  clear hf
  go_enter Tryz.func158, Tryz.ntmps158
  go_wp2
  go_loopw [6] (fun i wr => ∃ (k : Nat) (v : Value) (pre : List FileL), k ≤ l.length ∧ i = .int .i64 (k : Int) ∧ pre = (l.take k).filter (fun e => Disks.lt e.1 N) ∧ pre.length ≤ k ∧ PutAt w.heap.size (.slice a l.length cap) N X wr ∧
      OutAt (w.heap.size + 1 + 1 + 1) (w.heap.size + 1 + 1) (w.heap.size + 4) wr v pre ∧ Below w.heap.size w wr)
    (fun i _ => l.length - (intOf i).toNat)
  case atStart =>
    refine ⟨0, .slice none 0 0, [], Nat.zero_le _, rfl, rfl, Nat.zero_le _, ?_, outStart4 w _ _ 46, ?_⟩
    · exact ⟨cell_of_row _ _ _ _ _ _ (four_0 w _ _ _ _), cell_of_row _ _ _ _ _ _ (four_1 w _ _ _ _), cell_of_row _ _ _ _ _ _ (four_1 w _ _ _ _)⟩
    · exact ((((Below.refl _ _).alloc (Nat.le_refl _) _).alloc (by simp) _).alloc (by simp; omega) _).alloc (by simp; omega) _
  case round =>
    obtain ⟨k, v, pre, hk, rfl, hpre, hpk, hput, hout, hbel⟩ := hrel
    have HOUT : Hid (OutAt (w.heap.size + 1 + 1 + 1) (w.heap.size + 1 + 1) (w.heap.size + 4) wr v pre) := hout
    have HPUT : Hid (PutAt w.heap.size (.slice a l.length cap) N X wr) := hput
    have hd := hput.d
    have hn := hput.n
    clear hout hput
    by_cases hlt : k < l.length
    · obtain ⟨c0, c1⟩ := (HF.out.kept hbel).2 k hlt
      have ea := HF.out.1 (by omega)
      subst ea
      obtain ⟨A, hA⟩ : ∃ A, A = l[k].1 := ⟨_, rfl⟩
      obtain ⟨T, hT⟩ : ∃ T, T = l[k].2 := ⟨_, rfl⟩
      rw [← hA] at c0
      rw [← hT] at c1
      have HAA : Hid (l[k] = (A, T)) := by show _ = _; rw [hA, hT]
      have HP : Hid (pre = (l.take k).filter (fun e => Disks.lt e.1 N)) := hpre
      clear hA hT hpre
      have hk0 : (0 : Int) ≤ (k : Int) := by omega
      have hk1 : (k : Int) < (l.length : Int) := by omega
      by_cases hb : Op.bytesLess A.toList N.toList = true
      · have h63 : pre.length + 1 ≤ maxLen := by unfold maxLen; omega
        have hby : (pre.length + 1) * 32 ≤ 140737488355328 := by omega
        go_wp2
        go_quiet (fail)
        go_wp2
        obtain ⟨W, hW⟩ : ∃ W, W = wr.drewN nq := ⟨_, rfl⟩
        rw [← hW]
        have HOUTW : Hid (OutAt (w.heap.size + 1 + 1 + 1) (w.heap.size + 1 + 1) (w.heap.size + 4) W v pre) := by rw [hW]; exact HOUT.out.drewN _
        have HPUTW : Hid (PutAt w.heap.size (.slice (some ⟨g, off, none⟩) l.length cap) N X W) := by rw [hW]; exact HPUT.out.drewN _
        have hbelW : Below w.heap.size w W := by rw [hW]; exact below_drewN hbel _
        have e0 : W.cell? ⟨g, off + k * 2, none⟩ = some (.string A) := by rw [hW]; exact c0
        have e1 : W.cell? ⟨g, off + k * 2 + 1, none⟩ = some (.string T) := by rw [hW]; exact c1
        have hd' := HPUTW.out.d
        have ho := HOUTW.out.out
        clear hW hd hn c0 c1 HOUT HPUT hbel
        have hbs : w.heap.size + 4 ≤ (W.alloc (Obj.cells #[Value.string A, Value.string T] 164)).drew.heap.size := by have := HOUTW.out.size; simp; omega
        have HGA : Hid (W.grownBy ((W.alloc (Obj.cells #[Value.string A, Value.string T] 164)).drew) v.ownBlock) := grown_drew (World.grownBy_alloc W _ _)
        have hoA : (W.alloc (Obj.cells #[Value.string A, Value.string T] 164)).cell? ⟨w.heap.size + 1 + 1 + 1, 0, none⟩ = some v := (World.cell?_alloc_lt W _ _ (World.block_lt_of_cell? W _ ho)).trans ho
        go_region_law (refine step_append_lies _ (by rfl) _ _ _ (by rfl) (w.heap.size + 4) 164 i0 _ 2 32 Tryz.underlying44 hi hz0 hz1 hz2 rfl (Nat.zero_lt_succ _) v pre.length (cellsF pre) (by rfl) ((HOUTW.out.own.alloc _).drew) ⟨W.heap.size, 0, none⟩ 1 1 [.string A, .string T] (by rfl) (by rfl) (World.news_of_block (cs := #[.string A, .string T]) (t := 164) (fr := (0, 0)) (heap_alloc_new W _)) (two_strings _ _) (Nat.zero_lt_succ _) h63 hby hbs (W.heap.size + 1) (Array.size_push ..) ?_; intro g2 cap2 w1 hown1 hgrow hat hlt2; have hgr := HGA.out.trans hgrow; have ho1 := hgr.cell ho (HOUTW.out.far HOUTW.out.ob); have hof1 := (hgr.frozen_far ⟨w.heap.size + 1 + 1 + 1, 0, none⟩ (World.block_lt_of_cell? W _ ho) (HOUTW.out.far HOUTW.out.ob)).trans HOUTW.out.outf)
        all_goals
          have hst := HOUTW.out.step hgr hown1
          have HST : Hid (_ ∧ _) := hst
          have hB1 : Below w.heap.size w w1 := hbelW.grown hgr hbelW.size (fun j hj => by have := (HOUTW.out.own.lt j hj).1; omega)
          clear hst hgr hgrow hown1
          go_wp2
          go_roundw
          case rel =>
            refine ⟨k + 1, _, pre ++ [(A, T)], by omega, by go_num, ?_, by simp; omega, HPUTW.out.kept (Nat.le_refl _) HST.out.2, HST.out.1, hB1.setCell (by simp; omega) _⟩
            rw [filter_step_pk hlt, ← HP.out, HAA.out, if_pos (by simp [Disks.lt, hb])]
          case measure => simp [intOf]; omega
      · have hb' : Op.bytesLess A.toList N.toList = false := by simpa using hb
        go_wp2
        go_quiet (fail)
        go_wp2
        go_roundw
        case rel =>
          refine ⟨k + 1, v, pre, by omega, by go_num, ?_, by omega, HPUT.out.drewN _, HOUT.out.drewN _, below_drewN hbel _⟩
          rw [filter_step_pk hlt, ← HP.out, HAA.out, if_neg (by simp [Disks.lt, hb'])]; simp
        case measure => simp [intOf]; omega
    · have hk1 : ¬ (k : Int) < (l.length : Int) := by omega
      have HP : Hid (pre = l.filter (fun e => Disks.lt e.1 N)) := by show _ = _; rw [hpre, List.take_of_length_le (by omega)]
      clear hpre
      have ho := HOUT.out.out
      have hx := HPUT.out.x
      have h63 : pre.length + 1 ≤ maxLen := by unfold maxLen; omega
      have hby : (pre.length + 1) * 32 ≤ 140737488355328 := by omega
      have hbs : w.heap.size + 4 ≤ (wr.alloc (Obj.cells #[Value.string N, Value.string X] 164)).heap.size := by have := HOUT.out.size; simp; omega
      have HGA : Hid (wr.grownBy (wr.alloc (Obj.cells #[Value.string N, Value.string X] 164)) v.ownBlock) := World.grownBy_alloc wr _ _
      go_wp2_with (at_builtin; refine wpList_append_lies _ rfl _ _ 44 rfl (w.heap.size + 4) 164 i0 (.agg #[.string ByteArray.empty, .string ByteArray.empty]) 2 32 Tryz.underlying44 hi hz0 hz1 hz2 rfl (Nat.zero_lt_succ _) v pre.length (cellsF pre) rfl (HOUT.out.own.alloc _) ⟨wr.heap.size, 0, none⟩ 1 1 [.string N, .string X] rfl rfl (World.news_of_block (cs := #[.string N, .string X]) (t := 164) (fr := (0, 0)) (heap_alloc_new wr _)) (two_strings _ _) (Nat.zero_lt_succ _) h63 hby hbs _ rfl ?_)
      intro g2 cap2 w1 hown1 hgrow hat hlt2
      have hgr := HGA.out.trans hgrow
      have ho1 := hgr.cell ho (HOUT.out.far HOUT.out.ob)
      have hof1 := (hgr.frozen_far ⟨w.heap.size + 1 + 1 + 1, 0, none⟩ (World.block_lt_of_cell? wr _ ho) (HOUT.out.far HOUT.out.ob)).trans HOUT.out.outf
      have hst := HOUT.out.step hgr hown1
      have HST : Hid (_ ∧ _) := hst
      have hB1 : Below w.heap.size w w1 := hbel.grown hgr hbel.size (fun j hj => by have := (HOUT.out.own.lt j hj).1; omega)
      clear hst hgr hgrow hown1
      go_wp2
      have hput1 := HPUT.out.kept (Nat.le_refl _) HST.out.2
      have hBs : Below w.heap.size w (w1.setCell ⟨w.heap.size + 1 + 1 + 1, 0, none⟩ (.slice (some ⟨g2, 0, none⟩) (pre.length + 1) cap2)) := hB1.setCell (by simp; omega) _
      have HOUT1 := HST.out.1
      obtain ⟨W1, hW1⟩ : ∃ W1, W1 = w1.setCell ⟨w.heap.size + 1 + 1 + 1, 0, none⟩ (.slice (some ⟨g2, 0, none⟩) (pre.length + 1) cap2) := ⟨_, rfl⟩
      rw [← hW1] at hput1 hBs HOUT1
      rw [← hW1]
      clear hW1 HST hB1 ho1 hof1 HGA hbs hby h63 ho hx hd hn
      go_loopw [7] (fun i wr => ∃ (k : Nat) (v : Value) (pre : List FileL), k ≤ l.length ∧ i = .int .i64 (k : Int) ∧ pre = l.filter (fun e => Disks.lt e.1 N) ++ [(N, X)] ++ (l.take k).filter (fun e => Disks.gt e.1 N) ∧ pre.length ≤ l.length + 1 + k ∧ PutAt w.heap.size (.slice a l.length cap) N X wr ∧
          OutAt (w.heap.size + 1 + 1 + 1) (w.heap.size + 1 + 1) (w.heap.size + 4) wr v pre ∧ Below w.heap.size w wr)
        (fun i _ => l.length - (intOf i).toNat)
      case atStart => exact ⟨0, _, _, Nat.zero_le _, rfl, by rw [← HP.out]; simp, by simp; omega, hput1, HOUT1, hBs⟩
      case round =>
        obtain ⟨k, v, pre, hk, rfl, hpre, hpk, hput, hout, hbel⟩ := hrel
        have HOUT : Hid (OutAt (w.heap.size + 1 + 1 + 1) (w.heap.size + 1 + 1) (w.heap.size + 4) wr v pre) := hout
        have HPUT : Hid (PutAt w.heap.size (.slice a l.length cap) N X wr) := hput
        have hd := hput.d
        have hn := hput.n
        clear hout hput
        by_cases hlt : k < l.length
        · obtain ⟨c0, c1⟩ := (HF.out.kept hbel).2 k hlt
          have ea := HF.out.1 (by omega)
          subst ea
          obtain ⟨A, hA⟩ : ∃ A, A = l[k].1 := ⟨_, rfl⟩
          obtain ⟨T, hT⟩ : ∃ T, T = l[k].2 := ⟨_, rfl⟩
          rw [← hA] at c0
          rw [← hT] at c1
          have HAA : Hid (l[k] = (A, T)) := by show _ = _; rw [hA, hT]
          have HP : Hid (pre = l.filter (fun e => Disks.lt e.1 N) ++ [(N, X)] ++ (l.take k).filter (fun e => Disks.gt e.1 N)) := hpre
          clear hA hT hpre
          have hk0 : (0 : Int) ≤ (k : Int) := by omega
          have hk1 : (k : Int) < (l.length : Int) := by omega
          by_cases hg : Disks.gt A N = true
          · obtain ⟨hb1, hb2⟩ : Op.bytesLess A.toList N.toList = false ∧ (A.toList == N.toList) = false := by simpa [Disks.gt] using hg
            have h63 : pre.length + 1 ≤ maxLen := by unfold maxLen; omega
            have hby : (pre.length + 1) * 32 ≤ 140737488355328 := by omega
            go_wp2
            go_quiet (fail)
            go_wp2
            obtain ⟨W, hW⟩ : ∃ W, W = wr.drewN nq := ⟨_, rfl⟩
            rw [← hW]
            have HOUTW : Hid (OutAt (w.heap.size + 1 + 1 + 1) (w.heap.size + 1 + 1) (w.heap.size + 4) W v pre) := by rw [hW]; exact HOUT.out.drewN _
            have HPUTW : Hid (PutAt w.heap.size (.slice (some ⟨g, off, none⟩) l.length cap) N X W) := by rw [hW]; exact HPUT.out.drewN _
            have hbelW : Below w.heap.size w W := by rw [hW]; exact below_drewN hbel _
            have e0 : W.cell? ⟨g, off + k * 2, none⟩ = some (.string A) := by rw [hW]; exact c0
            have e1 : W.cell? ⟨g, off + k * 2 + 1, none⟩ = some (.string T) := by rw [hW]; exact c1
            have hd' := HPUTW.out.d
            have ho := HOUTW.out.out
            clear hW hd hn c0 c1 HOUT HPUT hbel
            have hbs : w.heap.size + 4 ≤ (W.alloc (Obj.cells #[Value.string A, Value.string T] 164)).drew.heap.size := by have := HOUTW.out.size; simp; omega
            have HGA : Hid (W.grownBy ((W.alloc (Obj.cells #[Value.string A, Value.string T] 164)).drew) v.ownBlock) := grown_drew (World.grownBy_alloc W _ _)
            have hoA : (W.alloc (Obj.cells #[Value.string A, Value.string T] 164)).cell? ⟨w.heap.size + 1 + 1 + 1, 0, none⟩ = some v := (World.cell?_alloc_lt W _ _ (World.block_lt_of_cell? W _ ho)).trans ho
            go_region_law (refine step_append_lies _ (by rfl) _ _ _ (by rfl) (w.heap.size + 4) 164 i0 _ 2 32 Tryz.underlying44 hi hz0 hz1 hz2 rfl (Nat.zero_lt_succ _) v pre.length (cellsF pre) (by rfl) ((HOUTW.out.own.alloc _).drew) ⟨W.heap.size, 0, none⟩ 1 1 [.string A, .string T] (by rfl) (by rfl) (World.news_of_block (cs := #[.string A, .string T]) (t := 164) (fr := (0, 0)) (heap_alloc_new W _)) (two_strings _ _) (Nat.zero_lt_succ _) h63 hby hbs (W.heap.size + 1) (Array.size_push ..) ?_; intro g2 cap2 w1 hown1 hgrow hat hlt2; have hgr := HGA.out.trans hgrow; have ho1 := hgr.cell ho (HOUTW.out.far HOUTW.out.ob); have hof1 := (hgr.frozen_far ⟨w.heap.size + 1 + 1 + 1, 0, none⟩ (World.block_lt_of_cell? W _ ho) (HOUTW.out.far HOUTW.out.ob)).trans HOUTW.out.outf)
            all_goals
              have hst := HOUTW.out.step hgr hown1
              have HST : Hid (_ ∧ _) := hst
              have hB1 : Below w.heap.size w w1 := hbelW.grown hgr hbelW.size (fun j hj => by have := (HOUTW.out.own.lt j hj).1; omega)
              clear hst hgr hgrow hown1
              go_wp2
              go_roundw
              case rel =>
                refine ⟨k + 1, _, pre ++ [(A, T)], by omega, by go_num, ?_, by simp; omega, HPUTW.out.kept (Nat.le_refl _) HST.out.2, HST.out.1, hB1.setCell (by simp; omega) _⟩
                rw [filter_step_pk hlt, ← List.append_assoc, ← HP.out, HAA.out, if_pos (by simp [hg])]
              case measure => simp [intOf]; omega
          · by_cases hb1 : Op.bytesLess A.toList N.toList = true
            · go_wp2
              go_quiet (fail)
              go_wp2
              go_roundw
              case rel =>
                refine ⟨k + 1, v, pre, by omega, by go_num, ?_, by omega, HPUT.out.drewN _, HOUT.out.drewN _, below_drewN hbel _⟩
                rw [filter_step_pk hlt, ← List.append_assoc, ← HP.out, HAA.out, if_neg (by simp [hg])]; simp
              case measure => simp [intOf]; omega
            · have hb1' : Op.bytesLess A.toList N.toList = false := by simpa using hb1
              have hb2 : (A.toList == N.toList) = true := by simpa [Disks.gt, hb1'] using hg
              go_wp2
              go_quiet (fail)
              go_wp2
              go_roundw
              case rel =>
                refine ⟨k + 1, v, pre, by omega, by go_num, ?_, by omega, HPUT.out.drewN _, HOUT.out.drewN _, below_drewN hbel _⟩
                rw [filter_step_pk hlt, ← List.append_assoc, ← HP.out, HAA.out, if_neg (by simp [hg])]; simp
              case measure => simp [intOf]; omega
        · have hk1 : ¬ (k : Int) < (l.length : Int) := by omega
          have HP : Hid (pre = Disks.put l (N, X)) := by show _ = _; rw [hpre, List.take_of_length_le (by omega)]; rfl
          clear hpre
          obtain ⟨va, vc, rfl⟩ := own_slice HOUT.out.own
          have ho := HOUT.out.out
          have hr := HOUT.out.res
          have hrf := HOUT.out.resf
          have hres := World.cell?_setCell_same wr _ (.slice va pre.length vc) hr
          go_wp2
          refine bodyPost_ret (v := .agg #[.slice va pre.length vc]) (by simp [results, Tryz.results158, go_sem, hres]) rfl ⟨_, rfl, ?_, hbel.setCell (by simp; omega) _⟩
          rw [← HP.out]
          exact own_set (own_mono HOUT.out.own (by omega)) _ _ _ (fun e => by have := (HOUT.out.own.lt _ e).1; omega)
end Go.Proofs.YtbcfiiilikkkeaaGreatDoor
namespace Go.Proofs.YtbcfiiilikkkeaaGreatDoor.Words
end Go.Proofs.YtbcfiiilikkkeaaGreatDoor.Words
namespace Go.Proofs.YtbcfiiilikkkeaaGreatDoor
open Go.RowKit

/-- The mark of a number, as a text. -/
def mk_pk (k : Nat) : ByteArray := ⟨(mark k).toArray⟩
theorem markText_is_pk (k : Nat) (h0 : 0 < k) (hk : k ≤ 1000000000) (w : World) :
    Calls Tryz.prog 84 #[.int .i64 (k : Int)] w fun e w' => e = .returned (.string (mk_pk k)) ∧ Below w.heap.size w w' := markText_any k h0 hk w
theorem markText_succ (M : Nat) (hk : M + 1 ≤ 1000000000) (w : World) :
    Calls Tryz.prog 84 #[.int .i64 ((M : Int) + 1)] w fun e w' => e = .returned (.string (mk_pk (M + 1))) ∧ Below w.heap.size w w' := markText_any (M + 1) (Nat.succ_pos _) hk w
/-- Marked files: from k on, two numbers each. -/
def marksF (k n : Nat) : List FileL := (List.range n).map fun i => (mk_pk (k + 2 * i), mk_pk (k + 2 * i + 1))
theorem marksF_len (k n : Nat) : (marksF k n).length = n := by simp [marksF]
theorem marksF_at (k n j : Nat) (hj : j < (marksF k n).length) : (marksF k n)[j] = (mk_pk (k + 2 * j), mk_pk (k + 2 * j + 1)) := by simp [marksF]
/-- The row behind j marked files. -/
theorem own_below'_pk {w w' : World} {g : Nat} (h : Below w.heap.size w w') : w.grownBy w' (some g) := ⟨h.os, h.tape, h.output, h.size, fun k hk _ => h.block k hk⟩

set_option maxHeartbeats 2000000 in
set_option maxRecDepth 100000 in
theorem markFileS_is {B g cap : Nat} (l : List FileL) (hlen : l.length ≤ 1048576) (k : Nat) (h0 : 0 < k) (hk : k ≤ 100000000) (w : World) (hA : w.ownsRow B 164 2 (.slice (some ⟨g, 0, none⟩) l.length cap) l.length (cellsF l)) :
    Calls Tryz.prog 80 #[.slice (some ⟨g, 0, none⟩) l.length cap, .int .i64 (k : Int)] w fun e w' => e = .returned (.int .i64 ((k + 2 * l.length : Nat) : Int)) ∧ w'.ownsRow B 164 2 (.slice (some ⟨g, 0, none⟩) l.length cap) l.length (cellsF (marksF k l.length)) ∧ w.grownBy w' (some g) := by
  go_enter Tryz.func80, Tryz.ntmps80
  go_wp2
  go_loopw [1, 5] (fun x i wr => ∃ (j : Nat) (pre : List FileL), j ≤ l.length ∧ i = .int .i64 (j : Int) ∧ x = .int .i64 ((k + 2 * j : Nat) : Int) ∧ pre.length = l.length ∧ pre.take j = (marksF k l.length).take j ∧
      wr.ownsRow B 164 2 (.slice (some ⟨g, 0, none⟩) l.length cap) l.length (cellsF pre) ∧ w.grownBy wr (some g)) (fun _ i _ => l.length - (intOf i).toNat)
  case atStart => exact ⟨0, l, Nat.zero_le _, rfl, rfl, rfl, by simp, hA, World.grownBy.refl _ _⟩
  case round =>
    obtain ⟨j, pre, hj, rfl, rfl, hpl, hpt, hown, hgr⟩ := hrel
    have HL : Hid (pre.length = l.length) := hpl
    have HT : Hid (pre.take j = (marksF k l.length).take j) := hpt
    clear hpl hpt hA
    by_cases hlt : j < l.length
    · have hk0 : (0 : Int) ≤ (j : Int) := by omega
      have hk1 : (j : Int) < (l.length : Int) := by omega
      obtain ⟨M, hM⟩ : ∃ M : Nat, M = k + 2 * j := ⟨_, rfl⟩
      have hMb : 0 < M ∧ M ≤ 900000000 := by omega
      have HM : Hid (M = k + 2 * j) := hM
      rw [← hM]
      clear hM
      go_wp2_with fail
      refine (markText_is_pk M hMb.1 (by omega) _).mono ?_
      rintro e w1 ⟨rfl, hb1⟩
      have hown1 := own_kept hown hb1
      have hgr1 := hgr.trans (own_below'_pk hb1)
      have hf0 := hown1.frozenAt (j * 2)
      obtain ⟨u0, hu0⟩ : ∃ u0, w1.cell? ⟨g, j * 2, none⟩ = some u0 := by
        rw [hown1.cellAt (j * 2) (by omega)]
        exact ⟨_, (cellsF_at pre j (by rw [HL.out]; exact hlt)).1⟩
      have hs1 := hown1.stored (j * 2) (.string (mk_pk M))
      have HS1 : Hid (_ ∧ _) := hs1
      clear hs1 hown1 hown hb1 hgr
      go_wp2_with fail
      refine (markText_succ M (by omega) _).mono ?_
      rintro e w2 ⟨rfl, hb2⟩
      have hown2 := own_kept HS1.out.1 hb2
      have hgr2 := (hgr1.trans HS1.out.2).trans (own_below'_pk hb2)
      have hf1 := hown2.frozenAt (j * 2 + 1)
      obtain ⟨u1, hu1⟩ : ∃ u1, w2.cell? ⟨g, j * 2 + 1, none⟩ = some u1 := by
        rw [hown2.cellAt (j * 2 + 1) (by omega)]
        rw [List.getElem?_set_ne (by omega)]
        exact ⟨_, (cellsF_at pre j (by rw [HL.out]; exact hlt)).2⟩
      have hs2 := hown2.stored (j * 2 + 1) (.string (mk_pk (M + 1)))
      rw [← cellsF_set pre j (mk_pk M, mk_pk (M + 1))] at hs2
      have HS2 : Hid (_ ∧ _) := hs2
      clear hs2 hown2 hb2 hgr1
      go_wp2
      go_roundw
      case rel =>
        refine ⟨j + 1, pre.set j (mk_pk M, mk_pk (M + 1)), by omega, by go_num, ?_, by rw [List.length_set]; exact HL.out, ?_, HS2.out.1, hgr2.trans HS2.out.2⟩
        · rw [show k + 2 * (j + 1) = M + 1 + 1 by have := HM.out; omega]; rfl
        · refine take_set_step (by rw [marksF_len]; exact hlt) (by rw [marksF_len]; exact HL.out) HT.out ?_
          rw [marksF_at, ← HM.out]
      case measure => simp [intOf]; omega
    · have hk1 : ¬ (j : Int) < (l.length : Int) := by omega
      have HE : Hid (pre = marksF k l.length ∧ j = l.length) := by
        have h := HT.out
        rw [List.take_of_length_le (by rw [HL.out]; omega), List.take_of_length_le (by rw [marksF_len]; omega)] at h
        exact ⟨h, by omega⟩
      go_wp2
      go_ret
      refine ⟨by rw [← HE.out.2]; rfl, by rw [← HE.out.1]; exact hown, hgr⟩

end Go.Proofs.YtbcfiiilikkkeaaGreatDoor
namespace Go.Proofs.YtbcfiiilikkkeaaGreatDoor
open Go.RowKit

set_option maxHeartbeats 1000000 in
theorem szFile_any (n t : ByteArray) (hn : n.size ≤ maxLen) (ht : t.size ≤ maxLen) (left : Nat) (hl : left ≤ 1048576) (w : World) :
    Calls Tryz.prog 124 #[.agg #[.string n, .string t], .int .i64 (left : Int)] w fun e w' => ∃ x : Int, e = .returned (.int .i64 x) ∧ Left left (n.size + t.size) x ∧ Below w.heap.size w w' := by
  unfold maxLen at hn ht
  go_enter Tryz.func124, Tryz.ntmps124
  go_wp2
  · go_ret
    exact ⟨_, rfl, Or.inr ⟨by omega, rfl⟩, (Below.refl _ _).alloc (Nat.le_refl _) _⟩
  · go_ret
    exact ⟨_, rfl, Or.inr ⟨by omega, rfl⟩, (Below.refl _ _).alloc (Nat.le_refl _) _⟩
  · go_ret
    exact ⟨_, rfl, Or.inl ⟨by omega, by omega⟩, (Below.refl _ _).alloc (Nat.le_refl _) _⟩

set_option maxHeartbeats 1000000 in
set_option maxRecDepth 100000 in
theorem szFileS_any {a : Option Addr} {g off cap : Nat} (l : List FileL) (hlen : l.length ≤ maxLen) (hsz : ∀ f ∈ l, f.1.size ≤ maxLen ∧ f.2.size ≤ maxLen) (left : Nat) (hl : left ≤ 1048576) (w : World) (hf : FilesAt w a g off l) :
    Calls Tryz.prog 54 #[.slice a l.length cap, .int .i64 (left : Int)] w fun e w' => ∃ x : Int, e = .returned (.int .i64 x) ∧ Left left (tot l) x ∧ Below w.heap.size w w' := by
  have HF : Hid (FilesAt w a g off l) := hf
  have HS : Hid (∀ f ∈ l, f.1.size ≤ maxLen ∧ f.2.size ≤ maxLen) := hsz
  clear hf hsz
  unfold maxLen at hlen
  by_cases h0 : left < l.length
  · have h1 : (left : Int) - (l.length : Int) < 0 := by omega
    go_enter Tryz.func54, Tryz.ntmps54
    go_wp2
    go_ret
    exact ⟨_, rfl, Or.inr ⟨by have := tot_len l; omega, rfl⟩, Below.refl _ _⟩
  · have h1 : ¬ (left : Int) - (l.length : Int) < 0 := by omega
    go_enter Tryz.func54, Tryz.ntmps54
    go_wp2
    go_loopw [1, 5] (fun x i wr => ∃ k R : Nat, k ≤ l.length ∧ i = .int .i64 (k : Int) ∧ x = .int .i64 (R : Int) ∧ R + tot (l.take k) + (l.length - k) = left ∧ Below w.heap.size w wr)
      (fun _ i _ => l.length - (intOf i).toNat)
    case atStart => exact ⟨0, left - l.length, Nat.zero_le _, rfl, by go_num, by simp [tot]; omega, Below.refl _ _⟩
    case round =>
      obtain ⟨k, R, hk, rfl, rfl, hR, hbel⟩ := hrel
      by_cases hlt : k < l.length
      · obtain ⟨c0, c1⟩ := (HF.out.kept hbel).2 k hlt
        have ea := HF.out.1 (by omega)
        subst ea
        obtain ⟨s0, s1⟩ := HS.out l[k] (List.getElem_mem _)
        obtain ⟨A, hA⟩ : ∃ A, A = l[k].1 := ⟨_, rfl⟩
        obtain ⟨T, hT⟩ : ∃ T, T = l[k].2 := ⟨_, rfl⟩
        have HT : Hid (tot (l.take (k + 1)) = tot (l.take k) + (A.size + T.size + 1)) := by show _ = _; rw [tot_take hlt, hA, hT]
        rw [← hA] at c0 s0
        rw [← hT] at c1 s1
        clear hA hT
        have hk0 : (0 : Int) ≤ (k : Int) := by omega
        have hk1 : (k : Int) < (l.length : Int) := by omega
        have hRl : R ≤ 1048576 := by omega
        go_wp2_with fail
        refine (szFile_any A T s0 s1 R hRl wr).mono ?_
        rintro e w1 ⟨x, rfl, hx, hb1⟩
        rcases hx with ⟨hx1, hx2⟩ | ⟨hx1, hx2⟩
        · obtain ⟨Y, hY⟩ : ∃ Y : Nat, Y = R - (A.size + T.size) := ⟨_, rfl⟩
          rw [← hY] at hx2
          subst hx2
          have HY : Hid (Y = R - (A.size + T.size)) := hY
          clear hY
          have hB : Below w.heap.size w w1 := hbel.trans (hb1.mono hbel.size)
          go_wp2
          go_roundw
          case rel => exact ⟨k + 1, Y, by omega, by go_num, rfl, by rw [HT.out]; have := HY.out; omega, hB⟩
          case measure => simp [intOf]; omega
        · subst hx2
          have hB : Below w.heap.size w w1 := hbel.trans (hb1.mono hbel.size)
          have hno : ¬ tot l ≤ left := by
            have e1 := tot_app (l.take (k + 1)) (l.drop (k + 1))
            rw [List.take_append_drop] at e1
            have e2 := tot_len (l.drop (k + 1))
            rw [List.length_drop] at e2
            have := HT.out
            omega
          have HN : Hid (¬ tot l ≤ left) := hno
          clear hno
          go_wp2
          go_ret
          exact ⟨_, rfl, Or.inr ⟨HN.out, rfl⟩, hB⟩
      · have hk1 : ¬ (k : Int) < (l.length : Int) := by omega
        have HN : Hid (tot l + R = left) := by
          show _ = _
          rw [List.take_of_length_le (by omega)] at hR
          omega
        clear hR
        go_wp2
        go_ret
        exact ⟨_, rfl, Or.inl ⟨by have := HN.out; omega, by have := HN.out; omega⟩, hbel⟩

set_option maxHeartbeats 1000000 in
theorem szDisk_any {a : Option Addr} {g off cap : Nat} (l : List FileL) (hlen : l.length ≤ maxLen) (hsz : ∀ f ∈ l, f.1.size ≤ maxLen ∧ f.2.size ≤ maxLen) (left : Nat) (hl : left ≤ 1048576) (w : World) (hf : FilesAt w a g off l) :
    Calls Tryz.prog 11 #[.agg #[.slice a l.length cap], .int .i64 (left : Int)] w fun e w' => ∃ x : Int, e = .returned (.int .i64 x) ∧ Left left (tot l) x ∧ Below w.heap.size w w' := by
  have HF : Hid (FilesAt (w.alloc (.cells #[.slice a l.length cap] 24)) a g off l) := hf.kept ((Below.refl _ _).alloc (Nat.le_refl _) _)
  have HS : Hid (∀ f ∈ l, f.1.size ≤ maxLen ∧ f.2.size ≤ maxLen) := hsz
  have HL : Hid (l.length ≤ maxLen) := hlen
  clear hf hsz hlen
  go_enter Tryz.func11, Tryz.ntmps11
  go_wp2_with fail
  refine (szFileS_any l HL.out HS.out left hl _ HF.out).mono ?_
  rintro e w1 ⟨x, rfl, hx, hb1⟩
  have hB : Below w.heap.size w w1 := ((Below.refl _ _).alloc (Nat.le_refl _) _).trans (hb1.mono (by simp))
  rcases hx with ⟨hx1, hx2⟩ | ⟨hx1, hx2⟩
  · obtain ⟨Y, hY⟩ : ∃ Y : Nat, Y = left - tot l := ⟨_, rfl⟩
    rw [← hY] at hx2
    subst hx2
    have HY : Hid (Y = left - tot l) := hY
    clear hY
    go_wp2
    go_ret
    exact ⟨_, rfl, Or.inl ⟨hx1, by rw [HY.out]⟩, hB⟩
  · subst hx2
    go_wp2
    go_ret
    exact ⟨_, rfl, Or.inr ⟨hx1, rfl⟩, hB⟩
end Go.Proofs.YtbcfiiilikkkeaaGreatDoor
namespace Go.Proofs.YtbcfiiilikkkeaaGreatDoor
open Go.RowKit

def rawV (r : Disks.RawL) : Value := .agg #[.int .i64 r.kind, .string r.name, .string r.to, .string r.text]
set_option maxHeartbeats 1000000 in
theorem markFileS_nil (k : Nat) (w : World) :
    Calls Tryz.prog 80 #[.slice none 0 0, .int .i64 (k : Int)] w fun e w' => e = .returned (.int .i64 (k : Int)) ∧ w = w' := by
  go_enter Tryz.func80, Tryz.ntmps80
  go_wp2
  refine wp_loop_rounds 1 ?_
  rw [rounds_succ]
  go_wp2
  go_ret
  exact ⟨rfl, rfl⟩

/-- Files of the call's own, marked. -/
theorem markFileS_own {B : Nat} {v : Value} (l : List FileL) (hlen : l.length ≤ 1048576) (w : World) (hA : w.ownsRow B 164 2 v l.length (cellsF l)) :
    Calls Tryz.prog 80 #[v, .int .i64 1] w fun e w' => e = .returned (.int .i64 ((1 + 2 * l.length : Nat) : Int)) ∧ w'.ownsRow B 164 2 v l.length (cellsF (marksF 1 l.length)) ∧ w.grownBy w' v.ownBlock := by
  rcases hA.2 with ⟨h1, h2⟩ | ⟨g, cap, cur, h1, _⟩
  · subst h1
    have hl : l = [] := List.length_eq_zero_iff.1 h2
    subst hl
    refine (markFileS_nil 1 w).mono ?_
    rintro e w' ⟨rfl, rfl⟩
    exact ⟨rfl, World.ownsRow_nil _ _ _ _, World.grownBy.refl _ _⟩
  · subst h1
    exact markFileS_is l hlen 1 (by omega) (by omega) w hA

set_option maxHeartbeats 1000000 in
theorem markDisk_own {B : Nat} {v : Value} (l : List FileL) (hlen : l.length ≤ 1048576) (w : World) (hA : w.ownsRow B 164 2 v l.length (cellsF l)) :
    Calls Tryz.prog 23 #[.agg #[v], .int .i64 1] w fun e w' => e = .returned (.int .i64 ((1 + 2 * l.length : Nat) : Int)) ∧ w'.ownsRow B 164 2 v l.length (cellsF (marksF 1 l.length)) ∧ w.grownBy w' v.ownBlock := by
  obtain ⟨va, vc, rfl⟩ : ∃ a c, v = .slice a l.length c := by
    rcases hA.2 with ⟨h1, h2⟩ | ⟨g, cap, cur, h1, _⟩
    · exact ⟨_, _, by rw [h1, h2]⟩
    · exact ⟨_, _, h1⟩
  have HA : Hid ((w.alloc (.cells #[.slice va l.length vc] 46)).ownsRow B 164 2 (.slice va l.length vc) l.length (cellsF l)) := hA.alloc _
  have HG : Hid (w.grownBy (w.alloc (.cells #[.slice va l.length vc] 46)) (Value.slice va l.length vc).ownBlock) := World.grownBy_alloc w _ _
  clear hA
  go_enter Tryz.func23, Tryz.ntmps23
  go_wp2_with fail
  refine (markFileS_own l hlen _ HA.out).mono ?_
  rintro e w1 ⟨rfl, h1, h2⟩
  have HG1 := HG.out.trans h2
  clear h2
  go_wp2
  go_ret
  exact ⟨rfl, h1, HG1⟩

end Go.Proofs.YtbcfiiilikkkeaaGreatDoor
namespace Go.Proofs.YtbcfiiilikkkeaaGreatDoor
open Go.RowKit

theorem FilesAt.cells {w : World} {a : Option Addr} {g off : Nat} {l : List FileL} (h : FilesAt w a g off l) : ∀ j u, (cellsF l)[j]? = some u → w.cell? ((⟨g, off, none⟩ : Addr).add j) = some u := by
  intro j u hu
  rw [Addr.add_lit]
  have hj : j < l.length * 2 := by rw [← cellsF_len]; exact (List.getElem?_eq_some_iff.1 hu).1
  rcases Nat.mod_two_eq_zero_or_one j with h2 | h2
  · obtain ⟨k, rfl⟩ : ∃ k, j = k * 2 := ⟨j / 2, by omega⟩
    rw [(cellsF_at l k (by omega)).1] at hu
    rw [← Option.some.inj hu]
    exact (h.2 k (by omega)).1
  · obtain ⟨k, rfl⟩ : ∃ k, j = k * 2 + 1 := ⟨j / 2, by omega⟩
    rw [(cellsF_at l k (by omega)).2] at hu
    rw [← Option.some.inj hu]
    exact (h.2 k (by omega)).2
theorem cellsF_one {l : List FileL} : ∀ u ∈ cellsF l, u.oneCell' = true := by
  intro u hu
  unfold cellsF at hu
  obtain ⟨f, _, hf⟩ := List.mem_flatMap.1 hu
  exact two_strings f.1 f.2 u hf
theorem own_filesAt {w : World} {base : Nat} {v : Value} {l : List FileL} (h : w.ownsRow base 164 2 v l.length (cellsF l)) : ∃ a g cap, v = .slice a l.length cap ∧ FilesAt w a g 0 l := by
  rcases h.2 with ⟨h1, h2⟩ | ⟨g, cap, cur, h1, _⟩
  · refine ⟨none, 0, 0, by rw [h1, h2], fun hp => by omega, fun j hj => by omega⟩
  · subst h1
    exact ⟨_, g, cap, rfl, own_files rfl h⟩
/-- 'append(x, d.Files...)' onto a row of the call's own. -/
theorem wpList_append_files {w : World} {ops : Array Oper} {rest : List Oper} {o : Oper} {act : Act} {Q : Exit → Act → World → Prop} (hgd : o.guard = none) (s x : Operand)
    (ho : o.op = .call { callee := .builtin .append, args := #[s, x], argTypes := #[44, 44] }) (base : Nat) (v : Value) (n : Nat) (xs : List Value) (hs : act.eval s = v) (hown : w.ownsRow base 164 2 v n xs)
    (a : Option Addr) (g off cap : Nat) (l : List FileL) (hx : act.eval x = .slice a l.length cap) (hf : FilesAt w a g off l) (hnil : a = none → cap = 0) (h63 : n + l.length ≤ 4194304) (hbase : base ≤ w.heap.size)
    (h : ∀ v' w', w'.ownsRow base 164 2 v' (n + l.length) (xs ++ cellsF l) → w.grownBy w' v.ownBlock → wpList Tryz.prog ops Q rest (act.put o.dst v') w') : wpList Tryz.prog ops Q (o :: rest) act w := by
  obtain ⟨i0, hi, hz0, hz1, hz2⟩ := info_parts Tryz.info164
  cases a with
  | none =>
    have hl : l = [] := by
      cases l with
      | nil => rfl
      | cons f r => have := hf.1 (by simp); cases this
    subst hl
    rw [hnil rfl] at hx
    refine wpList_append_own_none hgd s x 44 ho base 164 i0 2 Tryz.underlying44 hi v n xs hs hown hx ?_
    refine h v w ?_ (World.grownBy.refl _ _)
    simpa [cellsF] using hown
  | some ad =>
    have had : 0 < l.length → ad = ⟨g, off, none⟩ := fun hp => Option.some.inj (hf.1 hp)
    refine wpList_append_own w hgd s x 44 ho base 164 i0 (.agg #[.string ByteArray.empty, .string ByteArray.empty]) 2 32 Tryz.underlying44 hi hz0 hz1 hz2 rfl (by decide) v n xs hs hown ad l.length cap (cellsF l) hx (cellsF_len l) ?_ cellsF_one (by unfold maxLen; omega) (by omega) hbase ?_
    · intro j u hu
      have hp : 0 < l.length := by
        have := (List.getElem?_eq_some_iff.1 hu).1
        rw [cellsF_len] at this
        omega
      rw [had hp]
      exact hf.cells j u hu
    · intro v' w' h1 h2 _
      exact h v' w' h1 h2

def rawC (r : Disks.RawL) : Obj := .cells #[.int .i64 r.kind, .string r.name, .string r.to, .string r.text] 103
/-- What a call of PutRaw keeps. -/
structure RawAt (h : Nat) (D : Value) (r : Disks.RawL) (W : World) : Prop where
  d : W.heap[h]? = some (.cells #[D] 46 (0, 0))
  r : W.heap[h + 1]? = some (rawC r)
  res : W.heap[h + 1 + 1]? = some (.cells #[.slice none 0 0] 46 (0, 0))
theorem RawAt.lt {h : Nat} {D : Value} {r : Disks.RawL} {W : World} (p : RawAt h D r W) : h + 1 + 1 < W.heap.size := (Array.getElem?_eq_some_iff.1 p.res).1
theorem RawAt.kept {h : Nat} {D : Value} {r : Disks.RawL} {W W' : World} (p : RawAt h D r W) (hb : Below W.heap.size W W') : RawAt h D r W' := by
  have := p.lt
  exact ⟨(hb.block _ (by omega)).trans p.d, (hb.block _ (by omega)).trans p.r, (hb.block _ (by omega)).trans p.res⟩
theorem RawAt.drew {h : Nat} {D : Value} {r : Disks.RawL} {W : World} (p : RawAt h D r W) : RawAt h D r W.drew := ⟨p.d, p.r, p.res⟩
theorem RawAt.cd {h : Nat} {D : Value} {r : Disks.RawL} {W : World} (p : RawAt h D r W) : W.cell? ⟨h, 0, none⟩ = some D := cell_of_row _ _ 0 _ _ _ p.d
theorem RawAt.c0 {h : Nat} {D : Value} {r : Disks.RawL} {W : World} (p : RawAt h D r W) : W.cell? ⟨h + 1, 0, none⟩ = some (.int .i64 r.kind) := cell_of_row _ _ 0 _ _ _ p.r
theorem RawAt.c1 {h : Nat} {D : Value} {r : Disks.RawL} {W : World} (p : RawAt h D r W) : W.cell? ⟨h + 1, 1, none⟩ = some (.string r.name) := cell_of_row _ _ 1 _ _ _ p.r
theorem RawAt.c2 {h : Nat} {D : Value} {r : Disks.RawL} {W : World} (p : RawAt h D r W) : W.cell? ⟨h + 1, 2, none⟩ = some (.string r.to) := cell_of_row _ _ 2 _ _ _ p.r
theorem RawAt.c3 {h : Nat} {D : Value} {r : Disks.RawL} {W : World} (p : RawAt h D r W) : W.cell? ⟨h + 1, 3, none⟩ = some (.string r.text) := cell_of_row _ _ 3 _ _ _ p.r
theorem RawAt.cr {h : Nat} {D : Value} {r : Disks.RawL} {W : World} (p : RawAt h D r W) : W.cell? ⟨h + 1 + 1, 0, none⟩ = some (.slice none 0 0) := cell_of_row _ _ 0 _ _ _ p.res
theorem RawAt.fr {h : Nat} {D : Value} {r : Disks.RawL} {W : World} (p : RawAt h D r W) : W.frozen? ⟨h + 1 + 1, 0, none⟩ = false := frozen_of_row _ _ _ _ _ p.res
theorem RawAt.start (w : World) (D : Value) (r : Disks.RawL) : RawAt w.heap.size D r (((w.alloc (.cells #[D] 46)).alloc (rawC r)).alloc (.cells #[.slice none 0 0] 46)) :=
  ⟨three_0 w _ _ _, three_1 w _ _ _, three_2 w _ _ _⟩

/-- What PutRaw answers with. -/
def putPost (w : World) (o : Option (List FileL)) (e : Ending) (w' : World) : Prop :=
  ∃ v : Value, e = .returned (.tuple #[.agg #[v], .bool o.isSome]) ∧ w'.ownsRow w.heap.size 164 2 v (o.getD []).length (cellsF (o.getD [])) ∧ Below w.heap.size w w'

theorem ok_sizes {l : List FileL} (h : Disks.ok l) : ∀ f ∈ l, f.1.size ≤ 12 ∧ f.2.size ≤ 20000 := by
  intro f hf
  obtain ⟨j, hj, rfl⟩ := List.mem_iff_getElem.1 hf
  obtain ⟨_, h1, _⟩ := h.2 j hj
  exact ⟨h1.2.1, h1.2.2⟩
theorem RawAt.set {h : Nat} {D : Value} {r : Disks.RawL} {W : World} (p : RawAt h D r W) (b j : Nat) (x : Value) (hb : h + 1 + 1 < b) : RawAt h D r (W.setCell ⟨b, j, none⟩ x) :=
  ⟨(Below.heap_setCell W ⟨b, j, none⟩ x h (by simp; omega)).trans p.d, (Below.heap_setCell W ⟨b, j, none⟩ x (h + 1) (by simp; omega)).trans p.r, (Below.heap_setCell W ⟨b, j, none⟩ x (h + 1 + 1) (by simp; omega)).trans p.res⟩
theorem put_some {l L : List FileL} {r : Disks.RawL} (hg : Disks.good l r) (hL : L = Disks.rawOut l r) (hok : Disks.ok L) : Disks.putRaw l r = some L := by
  rw [Disks.putRaw_pos ⟨hg, by rw [← hL]; exact hok⟩, hL]
theorem put_none {l L : List FileL} {r : Disks.RawL} (hL : L = Disks.rawOut l r) (hok : ¬ Disks.ok L) : Disks.putRaw l r = none := by
  rw [Disks.putRaw_neg (fun h => hok (by rw [hL]; exact h.2))]
theorem putPost_some {w w' : World} {o : Option (List FileL)} {L : List FileL} {v : Value} (ho : o = some L) (hown : w'.ownsRow w.heap.size 164 2 v L.length (cellsF L)) (hb : Below w.heap.size w w') : putPost w o (.returned (.tuple #[.agg #[v], .bool true])) w' := by
  subst ho
  exact ⟨v, rfl, hown, hb⟩
theorem putPost_none {w w' : World} {o : Option (List FileL)} (ho : o = none) (hb : Below w.heap.size w w') : putPost w o (.returned (.tuple #[.agg #[.slice none 0 0], .bool false])) w' := by
  subst ho
  exact ⟨_, rfl, World.ownsRow_nil _ _ _ _, hb⟩
theorem cell_far {w : World} {b c j i : Nat} {x v : Value} (h : w.cell? ⟨c, i, none⟩ = some v) (hne : c ≠ b) : (w.setCell ⟨b, j, none⟩ x).cell? ⟨c, i, none⟩ = some v :=
  (World.cell?_of_block (a := ⟨c, i, none⟩) (Below.heap_setCell w ⟨b, j, none⟩ x c hne)).trans h
end Go.Proofs.YtbcfiiilikkkeaaGreatDoor
