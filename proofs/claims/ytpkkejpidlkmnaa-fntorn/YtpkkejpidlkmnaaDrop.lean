/- The calls of l03Drop and l03Put, walked. -/
import Derived.Test.YtpkkejpidlkmnaaAt
import Derived.Deep.AppendLies
import Derived.Deep.RegionLaw
namespace Go.Proofs.Ytpkkejpidlkmnaa
open Go.RowKit

theorem grown_drew {w w' : World} {row : Option Nat} (h : w.grownBy w' row) : w.grownBy w'.drew row := ⟨h.os, h.tape, h.output, h.size, h.block⟩
theorem two_strings (a b : ByteArray) : ∀ u ∈ [Value.string a, Value.string b], u.oneCell' = true := by
  intro u hu
  simp only [List.mem_cons, List.not_mem_nil, or_false] at hu
  rcases hu with rfl | rfl <;> rfl

/-- A list that is grown in a variable of the call's own: its block o, the block r of the result, all made ahead of b. -/
structure OutAt (o r b : Nat) (W : World) (v : Value) (pre : List FileL) : Prop where
  ob : o < b
  rb : r < b
  ne : r ≠ o
  res : W.cell? ⟨r, 0, none⟩ = some (.slice none 0 0)
  resf : W.frozen? ⟨r, 0, none⟩ = false
  out : W.cell? ⟨o, 0, none⟩ = some v
  outf : W.frozen? ⟨o, 0, none⟩ = false
  own : W.ownsRow b 68 2 v pre.length (cellsF pre)
  size : b ≤ W.heap.size
theorem OutAt.far {o r b : Nat} {W : World} {v : Value} {pre : List FileL} (h : OutAt o r b W v pre) {j : Nat} (hj : j < b) : some j ≠ v.ownBlock := fun e => by
  have := (h.own.lt j e.symm).1
  omega
theorem OutAt.step {o r b : Nat} {W w1 : World} {v v' : Value} {pre : List FileL} {A T : ByteArray} (h : OutAt o r b W v pre) (hgr : W.grownBy w1 v.ownBlock) (hown1 : w1.ownsRow b 68 2 v' (pre.length + 1) (cellsF pre ++ [.string A, .string T])) :
    OutAt o r b (w1.setCell ⟨o, 0, none⟩ v') v' (pre ++ [(A, T)]) ∧ (∀ p : Addr, p.block < b → p.block ≠ o → (w1.setCell ⟨o, 0, none⟩ v').cell? p = W.cell? p) := by
  have key : ∀ p : Addr, p.block < b → p.block ≠ o → (w1.setCell ⟨o, 0, none⟩ v').cell? p = W.cell? p ∧ (w1.setCell ⟨o, 0, none⟩ v').frozen? p = W.frozen? p := by
    intro p hp hne
    have e1 : (w1.setCell ⟨o, 0, none⟩ v').heap[p.block]? = w1.heap[p.block]? := Below.heap_setCell w1 ⟨o, 0, none⟩ v' p.block hne
    have e2 := hgr.block p.block (Nat.lt_of_lt_of_le hp h.size) (h.far hp)
    exact ⟨World.cell?_of_block (e1.trans e2), World.frozen?_of_block (e1.trans e2)⟩
  have oz : o < W.heap.size := World.block_lt_of_cell? W _ h.out
  have ho1 : w1.cell? ⟨o, 0, none⟩ = some v := hgr.cell h.out (h.far h.ob)
  refine ⟨⟨h.ob, h.rb, h.ne, (key ⟨r, 0, none⟩ h.rb h.ne).1.trans h.res, (key ⟨r, 0, none⟩ h.rb h.ne).2.trans h.resf, World.cell?_setCell_same _ _ _ ho1, ?_, ?_, ?_⟩, fun p hp hne => (key p hp hne).1⟩
  · rw [World.frozen?_setCell]
    exact (hgr.frozen_far ⟨o, 0, none⟩ oz (h.far h.ob)).trans h.outf
  · have e : cellsF pre ++ [.string A, .string T] = cellsF (pre ++ [(A, T)]) := by rw [cellsF_app]; rfl
    rw [e] at hown1
    rw [List.length_append]
    refine own_set hown1 o 0 v' fun e => ?_
    have := (hown1.lt o e).1
    have := h.ob
    omega
  · have := hgr.size
    have := h.size
    simp [World.setCell]
    omega
theorem three_0 (w : World) (x y z : Obj) : (((w.alloc x).alloc y).alloc z).heap[w.heap.size]? = some x := by
  rw [Below.heap_alloc _ _ _ (by simp; omega), Below.heap_alloc _ _ _ (by simp)]
  exact heap_alloc_new w x
theorem three_1 (w : World) (x y z : Obj) : (((w.alloc x).alloc y).alloc z).heap[w.heap.size + 1]? = some y := by
  rw [Below.heap_alloc _ _ _ (by simp)]
  have := heap_alloc_new (w.alloc x) y
  simpa using this
theorem three_2 (w : World) (x y z : Obj) : (((w.alloc x).alloc y).alloc z).heap[w.heap.size + 1 + 1]? = some z := by
  have := heap_alloc_new ((w.alloc x).alloc y) z
  simpa using this
theorem outStart_d (w : World) (d : Value) (t : TypeId) : (((w.alloc (.cells #[d] t)).alloc (.cells #[.slice none 0 0] t)).alloc (.cells #[.slice none 0 0] t)).cell? ⟨w.heap.size, 0, none⟩ = some d :=
  cell_of_row _ _ _ _ _ _ (three_0 w _ _ _)
theorem outStart (w : World) (d : Value) (t : TypeId) : OutAt (w.heap.size + 1 + 1) (w.heap.size + 1) (w.heap.size + 3) (((w.alloc (.cells #[d] t)).alloc (.cells #[.slice none 0 0] t)).alloc (.cells #[.slice none 0 0] t)) (.slice none 0 0) [] where
  ob := by omega
  rb := by omega
  ne := by omega
  res := cell_of_row _ _ _ _ _ _ (three_1 w _ _ _)
  resf := frozen_of_row _ _ _ _ _ (three_1 w _ _ _)
  out := cell_of_row _ _ _ _ _ _ (three_2 w _ _ _)
  outf := frozen_of_row _ _ _ _ _ (three_2 w _ _ _)
  own := World.ownsRow_nil _ _ _ _
  size := by simp
theorem own_slice {w : World} {base : Nat} {t : TypeId} {sz : Nat} {v : Value} {n : Nat} {xs : List Value} (h : w.ownsRow base t sz v n xs) : ∃ a c, v = .slice a n c := by
  rcases h.2 with ⟨rfl, rfl⟩ | ⟨g, cap, cur, rfl, _⟩
  · exact ⟨_, _, rfl⟩
  · exact ⟨_, _, rfl⟩
theorem filter_step {p : FileL → Bool} {l : List FileL} {k : Nat} (hk : k < l.length) : (l.take (k + 1)).filter p = (l.take k).filter p ++ (if p l[k] then [l[k]] else []) := by
  rw [List.take_succ_eq_append_getElem hk, List.filter_append]
  congr 1
  rw [List.filter_cons, List.filter_nil]

set_option maxHeartbeats 4000000 in
set_option maxRecDepth 100000 in
theorem l03Drop_is {a : Option Addr} {g off cap : Nat} (l : List FileL) (hlen : l.length ≤ 1048576) (n : ByteArray) (w : World) (hf : FilesAt w a g off l) :
    Calls Try.prog 59 #[.agg #[.slice a l.length cap], .string n] w fun e w' => ∃ v : Value, e = .returned (.agg #[v]) ∧ w'.ownsRow w.heap.size 68 2 v (l.filter fun f => !Disks.nameIs n f).length (cellsF (l.filter fun f => !Disks.nameIs n f)) ∧ Below w.heap.size w w' := by
  obtain ⟨i0, hi, hz0, hz1, hz2⟩ := info_parts Try.info68
  have HF : Hid (FilesAt w a g off l) := hf
  clear hf
  go_enter Try.func59, Try.ntmps59
  go_wp2
  go_loopw [6] (fun i wr => ∃ (k : Nat) (v : Value) (pre : List FileL), k ≤ l.length ∧ i = .int .i64 (k : Int) ∧ pre = (l.take k).filter (fun f => !Disks.nameIs n f) ∧ pre.length ≤ k ∧ wr.cell? ⟨w.heap.size, 0, none⟩ = some (.slice a l.length cap) ∧
      OutAt (w.heap.size + 1 + 1) (w.heap.size + 1) (w.heap.size + 3) wr v pre ∧ Below w.heap.size w wr)
    (fun i _ => l.length - (intOf i).toNat)
  case atStart =>
    refine ⟨0, .slice none 0 0, [], Nat.zero_le _, rfl, rfl, Nat.zero_le _, ?_, ?_, ?_⟩
    · exact outStart_d w _ 34
    · exact outStart w _ 34
    · exact (((Below.refl _ _).alloc (Nat.le_refl _) _).alloc (by simp) _).alloc (by simp; omega) _
  case round =>
    obtain ⟨k, v, pre, hk, rfl, hpre, hpk, hd, hout, hbel⟩ := hrel
    have HOUT : Hid (OutAt (w.heap.size + 1 + 1) (w.heap.size + 1) (w.heap.size + 3) wr v pre) := hout
    have ho := hout.out
    clear hout
    by_cases hlt : k < l.length
    · obtain ⟨c0, c1⟩ := (HF.out.kept hbel).2 k hlt
      have hgz := (HF.out.kept hbel).lt (by omega)
      have ea := HF.out.1 (by omega)
      subst ea
      obtain ⟨A, hA⟩ : ∃ A, A = l[k].1 := ⟨_, rfl⟩
      obtain ⟨T, hT⟩ : ∃ T, T = l[k].2 := ⟨_, rfl⟩
      rw [← hA] at c0
      rw [← hT] at c1
      have HAA : Hid (l[k] = (A, T)) := by show _ = _; rw [hA, hT]
      have HP : Hid (pre = (l.take k).filter (fun f => !Disks.nameIs n f)) := hpre
      clear hA hT hpre
      have hk0 : (0 : Int) ≤ (k : Int) := by omega
      have hk1 : (k : Int) < (l.length : Int) := by omega
      by_cases hb : (A.toList == n.toList) = true
      · go_wp2
        go_roundw
        case rel =>
          refine ⟨k + 1, v, pre, by omega, by go_num, ?_, by omega, hd, HOUT.out, hbel⟩
          rw [filter_step hlt, ← HP.out, HAA.out, if_neg (by simp [Disks.nameIs, hb])]
          simp
        case measure => simp [intOf]; omega
      · have hb' : (A.toList == n.toList) = false := by simpa using hb
        have h63 : pre.length + 1 ≤ maxLen := by unfold maxLen; omega
        have hby : (pre.length + 1) * 32 ≤ 140737488355328 := by omega
        have hbs : w.heap.size + 3 ≤ (wr.alloc (Obj.cells #[Value.string A, Value.string T] 68)).drew.heap.size := by have := HOUT.out.size; simp; omega
        have HGA : Hid (wr.grownBy ((wr.alloc (Obj.cells #[Value.string A, Value.string T] 68)).drew) v.ownBlock) := grown_drew (World.grownBy_alloc wr _ _)
        have hoA : (wr.alloc (Obj.cells #[Value.string A, Value.string T] 68)).cell? ⟨w.heap.size + 1 + 1, 0, none⟩ = some v := (World.cell?_alloc_lt wr _ _ (World.block_lt_of_cell? wr _ ho)).trans ho
        go_wp2
        go_region_law (refine step_append_lies _ (by rfl) _ _ _ (by rfl) (w.heap.size + 3) 68 i0 _ 2 32 Try.underlying32 hi hz0 hz1 hz2 rfl (Nat.zero_lt_succ _) v pre.length (cellsF pre) (by rfl) ((HOUT.out.own.alloc _).drew) ⟨wr.heap.size, 0, none⟩ 1 1 [.string A, .string T] (by rfl) (by rfl) (World.news_of_block (cs := #[.string A, .string T]) (t := 68) (fr := (0, 0)) (heap_alloc_new wr _)) (two_strings _ _) (Nat.zero_lt_succ _) h63 hby hbs (wr.heap.size + 1) (Array.size_push ..) ?_; intro g2 cap2 w1 hown1 hgrow hat hlt2; have hgr := HGA.out.trans hgrow; have ho1 := hgr.cell ho (HOUT.out.far HOUT.out.ob); have hof1 := (hgr.frozen_far ⟨w.heap.size + 1 + 1, 0, none⟩ (World.block_lt_of_cell? wr _ ho) (HOUT.out.far HOUT.out.ob)).trans HOUT.out.outf)
        all_goals
          have hst := HOUT.out.step hgr hown1
          have HST : Hid (_ ∧ _) := hst
          have hB1 : Below w.heap.size w w1 := hbel.grown hgr hbel.size (fun j hj => by have := (HOUT.out.own.lt j hj).1; omega)
          clear hst hgr hgrow hown1
          go_wp2
          go_roundw
          case rel =>
            refine ⟨k + 1, _, pre ++ [(A, T)], by omega, by go_num, ?_, by simp; omega, ?_, HST.out.1, hB1.setCell (by simp; omega) _⟩
            · rw [filter_step hlt, ← HP.out, HAA.out, if_pos (by simp [Disks.nameIs, hb'])]
            · rw [HST.out.2 _ (by simp) (by simp; omega)]; exact hd
          case measure => simp [intOf]; omega
    · have hk1 : ¬ (k : Int) < (l.length : Int) := by omega
      have HP : Hid (pre = l.filter (fun f => !Disks.nameIs n f)) := by show _ = _; rw [hpre, List.take_of_length_le (by omega)]
      clear hpre
      obtain ⟨va, vc, rfl⟩ := own_slice HOUT.out.own
      have hr := HOUT.out.res
      have hrf := HOUT.out.resf
      have hof := HOUT.out.outf
      have hres := World.cell?_setCell_same wr _ (.slice va pre.length vc) hr
      go_wp2
      refine bodyPost_ret (v := .agg #[.slice va pre.length vc]) (by simp [results, Try.results59, go_sem, hres]) rfl ⟨_, rfl, ?_, hbel.setCell (by simp) _⟩
      rw [← HP.out]
      exact own_set (own_mono HOUT.out.own (by omega)) _ _ _ (fun e => by have := (HOUT.out.own.lt _ e).1; omega)
end Go.Proofs.Ytpkkejpidlkmnaa
