/- The call of the program's valueOf, walked: a value that is not zero where the manifest is right, zero where it is not. Made by program. -/
import Derived.Test.YthcfnofhdbjemaaGreatDoorWords5
import Derived.Laws.CopyOwn
import Derived.Deep.RegionLaw
import Derived.Laws.Cells
namespace Go.Proofs.YthcfnofhdbjemaaGreatDoor
open Go.RowKit
set_option linter.unusedVariables false

def manV (m : ManL) (a : Option Addr) (ca : Nat) (b : Option Addr) (cb : Nat) : Value := .agg #[.slice a m.segs.length ca, .int .i64 m.next, .int .i64 m.base, .int .i64 m.term, .slice b m.conf.length cb]
def zero17 : Array Value := #[.int .i64 0, .int .i64 0, .int .i64 0, .int .i64 0, .int .i64 0, .int .i64 0, .int .i64 0, .int .i64 0, .int .i64 0, .int .i64 0, .int .i64 0, .int .i64 0, .int .i64 0, .int .i64 0, .int .i64 0, .int .i64 0, .int .i64 0]
theorem value_start (w : World) (P : Array Value) : ∃ W, W = (w.alloc (.cells P 49)).alloc (.cells zero17 91) ∧ W.heap[w.heap.size]? = some (.cells P 49 (0, 0)) ∧ W.heap[w.heap.size + 1]? = some (.cells zero17 91 (0, 0)) ∧ Below w.heap.size w W ∧ W.heap.size = w.heap.size + 2 := by
  refine ⟨_, rfl, ?_, ?_, ((Below.refl _ _).alloc (Nat.le_refl _) _).alloc (by simp) _, by simp⟩
  · rw [Below.heap_alloc _ _ _ (by simp)]
    exact heap_alloc_new w _
  · have := heap_alloc_new (w.alloc (.cells P 49)) (.cells zero17 91)
    simpa using this
/-- What valueOf holds: its argument, the result, its words. -/
structure VSt (w : World) (P Q : Array Value) (wd : Nat) (W : World) : Prop where
  par : W.heap[w.heap.size]? = some (.cells P 49 (0, 0))
  res : W.heap[w.heap.size + 1]? = some (.cells zero17 91 (0, 0))
  wrd : W.heap[wd]? = some (.cells Q 87 (0, 0))
  bel : Below w.heap.size w W
  up : w.heap.size + 1 < wd
theorem VSt.lt {w : World} {P Q : Array Value} {wd : Nat} {W : World} (h : VSt w P Q wd W) : wd < W.heap.size := (Array.getElem?_eq_some_iff.1 h.wrd).1
theorem VSt.call {w : World} {P Q : Array Value} {wd : Nat} {W W' : World} (h : VSt w P Q wd W) (hb : Below W.heap.size W W') : VSt w P Q wd W' :=
  have h1 := h.lt
  have h2 := h.up
  ⟨(hb.block _ (by omega)).trans h.par, (hb.block _ (by omega)).trans h.res, (hb.block _ h1).trans h.wrd, h.bel.trans (hb.mono h.bel.size), h2⟩
theorem cells_list {w : World} {g : Nat} {A : Array Value} {t : TypeId} (hg : w.heap[g]? = some (.cells A t (0, 0))) : ∀ j v, A.toList[j]? = some v → w.cell? ((⟨g, 0, none⟩ : Addr).add j) = some v := by
  intro j v hv
  rw [Addr.add_lit, Nat.zero_add]
  obtain ⟨hj, e⟩ := List.getElem?_eq_some_iff.1 hv
  subst e
  rw [cell_of_row _ _ j _ _ _ hg]
  simp
theorem run_load_agg {P : Program} {T : TypeId} {n : Nat} (ha : ∀ w, (isAgg T).run P w = .ok true w) (hz : ∀ w, (sizeOf T).run P w = .ok n w) {w : World} {g : Nat} {A : Array Value} {t : TypeId} (hg : w.heap[g]? = some (.cells A t (0, 0))) (hs : A.size = n) : (Instr.loadAt T (.pointer (some ⟨g, 0, none⟩))).run P w = .ok (.agg A) w := by
  have h1 := run_loadCells_list (P := P) w ⟨g, 0, none⟩ A.toList (cells_list hg)
  rw [Array.length_toList, hs] at h1
  simp [Instr.loadAt, Instr.sureAddr, loadVar, h1, ha, hz]
theorem run_store_agg {P : Program} {T : TypeId} {n : Nat} (hz : ∀ w, (sizeOf T).run P w = .ok n w) {w : World} {g : Nat} {A C : Array Value} {t : TypeId} (hg : w.heap[g]? = some (.cells C t (0, 0))) (hs : A.size = n) (hc : C.size = n) (h1 : ∀ v ∈ A.toList, v.oneCell' = true) : (Instr.storeAt T (.pointer (some ⟨g, 0, none⟩)) (.agg A)).run P w = .ok () (w.setRow g A) := by
  have h2 := run_storeCells_at (P := P) g 0 t A.toList 0 C w hg (by simp; omega) h1
  have h3 : (C.toList.take (0 + 0) ++ A.toList ++ C.toList.drop (0 + 0 + A.toList.length)).toArray = A := by
    rw [List.drop_of_length_le (by simp; omega)]; simp
  rw [h3] at h2
  simp [Instr.storeAt, Instr.sureAddr, storeVar, Value.cells, hs, h2, hz]
theorem run_load63 {w : World} {g : Nat} {A : Array Value} {t : TypeId} (hg : w.heap[g]? = some (.cells A t (0, 0))) (hs : A.size = 17) : (Instr.loadAt 91 (.pointer (some ⟨g, 0, none⟩))).run Tryz.prog w = .ok (.agg A) w := run_load_agg Tryz.isAgg91 Tryz.sizeOf91 hg hs
theorem run_store63 {w : World} {g : Nat} {A C : Array Value} {t : TypeId} (hg : w.heap[g]? = some (.cells C t (0, 0))) (hs : A.size = 17) (hc : C.size = 17) (h1 : ∀ v ∈ A.toList, v.oneCell' = true) : (Instr.storeAt 91 (.pointer (some ⟨g, 0, none⟩)) (.agg A)).run Tryz.prog w = .ok () (w.setRow g A) := run_store_agg Tryz.sizeOf91 hg hs hc h1
theorem wpList_load63 {w : World} {ops : Array Oper} {rest : List Oper} {o : Oper} {a : Act} {Q : Exit → Act → World → Prop} (hgd : o.guard = none) (x : Operand) (ho : o.op = .load 91 x) (g : Nat) (A : Array Value) (t : TypeId) (hx : a.eval x = .pointer (some ⟨g, 0, none⟩)) (hg : w.heap[g]? = some (.cells A t (0, 0))) (hs : A.size = 17)
    (h : wpList Tryz.prog ops Q rest (a.put o.dst (.agg A)) w) : wpList Tryz.prog ops Q (o :: rest) a w := by
  refine wpList_plain hgd fun K hK => ?_
  have hrun := run_load63 hg hs
  unfold Oper.wp
  simp [execOp, ho, hx, hrun, Result.andThen]
  exact hK _ _ h
theorem wpList_store63 {w : World} {ops : Array Oper} {rest : List Oper} {o : Oper} {a : Act} {Q : Exit → Act → World → Prop} (hgd : o.guard = none) (x y : Operand) (ho : o.op = .store 91 x y) (g : Nat) (A C : Array Value) (t : TypeId) (hx : a.eval x = .pointer (some ⟨g, 0, none⟩)) (hy : a.eval y = .agg A) (hg : w.heap[g]? = some (.cells C t (0, 0))) (hs : A.size = 17) (hc : C.size = 17) (h1 : ∀ v ∈ A.toList, v.oneCell' = true)
    (h : wpList Tryz.prog ops Q rest (a.put o.dst undef) (w.setRow g A)) : wpList Tryz.prog ops Q (o :: rest) a w := by
  refine wpList_plain hgd fun K hK => ?_
  have hrun := run_store63 hg hs hc h1
  unfold Oper.wp
  simp [execOp, ho, hx, hy, hrun, Result.andThen]
  exact hK _ _ h
theorem run_loadVar_agg {P : Program} {T : TypeId} {n : Nat} (ha : ∀ w, (isAgg T).run P w = .ok true w) (hz : ∀ w, (sizeOf T).run P w = .ok n w) {w : World} {g : Nat} {A : Array Value} {t : TypeId} (hg : w.heap[g]? = some (.cells A t (0, 0))) (hs : A.size = n) : (loadVar T ⟨g, 0, none⟩).run P w = .ok (.agg A) w := by
  have h1 := run_loadCells_list (P := P) w ⟨g, 0, none⟩ A.toList (cells_list hg)
  rw [Array.length_toList, hs] at h1
  simp [loadVar, h1, ha, hz]
theorem row_size {w : World} {g : Nat} {C A : Array Value} {t : TypeId} (hg : w.heap[g]? = some (.cells C t (0, 0))) : (w.setRow g A).heap[g]? = some (.cells A t (0, 0)) := setRow_heap w g _ _ t _ hg
theorem result43 {w : World} {g : Nat} {A C : Array Value} (hg : w.heap[g]? = some (.cells C 91 (0, 0))) (hs : A.size = 17) {tmps : Array Value} (ht : tmps.getD 2 undef = .pointer (some ⟨g, 0, none⟩)) : (results Tryz.f67 tmps).run Tryz.prog (w.setRow g A) = .ok (.agg A) (w.setRow g A) := by
  have h := run_loadVar_agg (P := Tryz.prog) Tryz.isAgg91 Tryz.sizeOf91 (row_size (A := A) hg) hs
  have ht' : tmps[2]?.getD undef = .pointer (some ⟨g, 0, none⟩) := by simpa using ht
  simp [results, Tryz.results67, ht', asAddr, h]

theorem splice_front {α : Type} {f r cs : List α} {k o : Nat} (hf : f.length = k) : splice (f ++ r) (k + o) cs = f ++ splice r o cs := by
  subst hf
  unfold splice
  simp [List.take_append, List.drop_append, Nat.add_assoc, List.take_of_length_le, List.drop_of_length_le]
theorem splice_mem {α : Type} {r cs : List α} {o : Nat} {v : α} (h : v ∈ splice r o cs) : v ∈ r ∨ v ∈ cs := by
  unfold splice at h
  rcases List.mem_append.1 h with h | h
  · exact Or.inl (List.mem_of_mem_take h)
  · rcases List.mem_append.1 h with h | h
    · exact Or.inr h
    · exact Or.inl (List.mem_of_mem_drop h)
theorem ints12 {r : List Value} (h : ∀ v ∈ r, ∃ n : Int, v = .int .i64 n) (hl : r.length = 12) : ∃ x5 x6 x7 x8 x9 x10 x11 x12 x13 x14 x15 x16 : Int, r = [.int .i64 x5, .int .i64 x6, .int .i64 x7, .int .i64 x8, .int .i64 x9, .int .i64 x10, .int .i64 x11, .int .i64 x12, .int .i64 x13, .int .i64 x14, .int .i64 x15, .int .i64 x16] := by
  match r, hl with
  | [v0, v1, v2, v3, v4, v5, v6, v7, v8, v9, v10, v11], _ =>
    obtain ⟨x5, rfl⟩ := h v0 (by simp)
    obtain ⟨x6, rfl⟩ := h v1 (by simp)
    obtain ⟨x7, rfl⟩ := h v2 (by simp)
    obtain ⟨x8, rfl⟩ := h v3 (by simp)
    obtain ⟨x9, rfl⟩ := h v4 (by simp)
    obtain ⟨x10, rfl⟩ := h v5 (by simp)
    obtain ⟨x11, rfl⟩ := h v6 (by simp)
    obtain ⟨x12, rfl⟩ := h v7 (by simp)
    obtain ⟨x13, rfl⟩ := h v8 (by simp)
    obtain ⟨x14, rfl⟩ := h v9 (by simp)
    obtain ⟨x15, rfl⟩ := h v10 (by simp)
    obtain ⟨x16, rfl⟩ := h v11 (by simp)
    exact ⟨x5, x6, x7, x8, x9, x10, x11, x12, x13, x14, x15, x16, rfl⟩
theorem cellsI_mem {l : List Int} {v : Value} (h : v ∈ cellsI l) : ∃ n : Int, v = .int .i64 n := by
  obtain ⟨n, _, rfl⟩ := List.mem_map.1 h
  exact ⟨n, rfl⟩
theorem cellsI_one {l : List Int} : ∀ u ∈ cellsI l, u.oneCell' = true := by
  intro u hu
  obtain ⟨n, rfl⟩ := cellsI_mem hu
  rfl
theorem IntAt.src {w : World} {a : Option Addr} {g off : Nat} {l : List Int} (h : IntAt w a g off l) (hp : 0 < (cellsI l).length) : ∃ ad, a = some ad ∧ ∀ j v, (cellsI l)[j]? = some v → w.cell? (ad.add j) = some v := by
  rw [cellsI_len] at hp
  refine ⟨_, h.1 hp, fun j v hv => ?_⟩
  rw [Addr.add_lit]
  have hj : j < l.length := by rw [← cellsI_len]; exact (List.getElem?_eq_some_iff.1 hv).1
  rw [cellsI_at l j hj] at hv
  rw [← Option.some.inj hv]
  exact h.2 j hj
/-- Seventeen ints, these five first. -/
def Ints17 (n : Nat) (x y z : Int) (k : Nat) (A : Array Value) : Prop := ∃ x5 x6 x7 x8 x9 x10 x11 x12 x13 x14 x15 x16 : Int, A = #[.int .i64 (n : Int), .int .i64 x, .int .i64 y, .int .i64 z, .int .i64 (k : Int), .int .i64 x5, .int .i64 x6, .int .i64 x7, .int .i64 x8, .int .i64 x9, .int .i64 x10, .int .i64 x11, .int .i64 x12, .int .i64 x13, .int .i64 x14, .int .i64 x15, .int .i64 x16]
theorem Ints17.size {n : Nat} {x y z : Int} {k : Nat} {A : Array Value} (h : Ints17 n x y z k A) : A.size = 17 := by
  obtain ⟨x5, x6, x7, x8, x9, x10, x11, x12, x13, x14, x15, x16, rfl⟩ := h
  rfl
theorem Ints17.one {n : Nat} {x y z : Int} {k : Nat} {A : Array Value} (h : Ints17 n x y z k A) : ∀ v ∈ A.toList, v.oneCell' = true := by
  obtain ⟨x5, x6, x7, x8, x9, x10, x11, x12, x13, x14, x15, x16, rfl⟩ := h
  intro v hv
  simp at hv
  rcases hv with rfl | rfl | rfl | rfl | rfl | rfl | rfl | rfl | rfl | rfl | rfl | rfl | rfl | rfl | rfl | rfl | rfl <;> rfl
theorem spliced17 (n : Nat) (x y z : Int) (k : Nat) (l l' : List Int) (C : List Value) (hC : C = ([.int .i64 (n : Int), .int .i64 x, .int .i64 y, .int .i64 z, .int .i64 (k : Int)] : List Value) ++ splice ([.int .i64 0, .int .i64 0, .int .i64 0, .int .i64 0, .int .i64 0, .int .i64 0, .int .i64 0, .int .i64 0, .int .i64 0, .int .i64 0, .int .i64 0, .int .i64 0] : List Value) 0 (cellsI l)) (hl : C.length = 17) (h1 : l.length ≤ 8) (h2 : l'.length ≤ 4) : Ints17 n x y z k (splice C 13 (cellsI l')).toArray := by
  have e1 : splice C 13 (cellsI l') = ([.int .i64 (n : Int), .int .i64 x, .int .i64 y, .int .i64 z, .int .i64 (k : Int)] : List Value) ++ splice (splice ([.int .i64 0, .int .i64 0, .int .i64 0, .int .i64 0, .int .i64 0, .int .i64 0, .int .i64 0, .int .i64 0, .int .i64 0, .int .i64 0, .int .i64 0, .int .i64 0] : List Value) 0 (cellsI l)) 8 (cellsI l') := by rw [hC]; exact splice_front (k := 5) (o := 8) rfl
  obtain ⟨x5, x6, x7, x8, x9, x10, x11, x12, x13, x14, x15, x16, h⟩ := ints12 (r := splice (splice ([.int .i64 0, .int .i64 0, .int .i64 0, .int .i64 0, .int .i64 0, .int .i64 0, .int .i64 0, .int .i64 0, .int .i64 0, .int .i64 0, .int .i64 0, .int .i64 0] : List Value) 0 (cellsI l)) 8 (cellsI l')) (fun v hv => by
    rcases splice_mem hv with hv | hv
    · rcases splice_mem hv with hv | hv
      · simp at hv; exact ⟨0, hv⟩
      · exact cellsI_mem hv
    · exact cellsI_mem hv) (by rw [hC] at hl; rw [length_splice _ _ _ (by rw [cellsI_len]; simp at hl; omega)]; simp at hl; omega)
  exact ⟨x5, x6, x7, x8, x9, x10, x11, x12, x13, x14, x15, x16, by rw [e1, h]; rfl⟩
set_option maxHeartbeats 4000000 in
set_option maxRecDepth 100000 in
theorem valueOf_yes {a b : Option Addr} {ga oa ca gb ob cb : Nat} (l l' : List Int) (x y z : Int) (hs : l.length ≤ 1048576) (hc : l'.length ≤ 1048576) (w : World) (hA : IntAt w a ga oa l) (hB : IntAt w b gb ob l') (ho : Mans.ok ⟨l, x, y, z, l'⟩) :
    Calls Tryz.prog 67 #[manV ⟨l, x, y, z, l'⟩ a ca b cb] w fun e w' => (∃ A, Ints17 l.length x y z l'.length A ∧ e = .returned (.agg A)) ∧ Below w.heap.size w w' := by
  unfold manV
  simp only
  obtain ⟨W, hW, h0, h1, hb, hz⟩ := value_start w #[.slice a l.length ca, .int .i64 x, .int .i64 y, .int .i64 z, .slice b l'.length cb]
  have HP : Hid (_ = _) := h0
  have HZ : Hid (_ = _) := h1
  unfold zero17 at hW
  have HA : Hid (IntAt w a ga oa l) := hA
  have HB : Hid (IntAt w b gb ob l') := hB
  obtain ⟨o1, o2, o3, o4, o5, o6⟩ := ho
  have H3 : Hid _ := o3
  have H6 : Hid _ := o6
  have o7 := (Mans.confOk_iff.1 o6).1
  simp only at o1 o2 o4 o5 o7
  clear o3 o6
  clear h0 h1 hA hB
  go_enter Tryz.func67, Tryz.ntmps67
  go_wp2_with fail
  rw [← hW]
  clear hW
  refine (wordsOf_is l.length l'.length a x y z b ca cb W).mono ?_
  rintro e w1 ⟨rfl, hb1⟩
  have hz1 : w.heap.size + 2 ≤ w1.heap.size := by have := hb1.size; omega
  have hP1 := (hb1.block _ (by omega)).trans HP.out
  have hZ1 := (hb1.block _ (by omega)).trans HZ.out
  have HB1 : Hid (Below w.heap.size w w1) := hb.trans (hb1.mono hb.size)
  have HS1 : Hid (VSt w #[.slice a l.length ca, .int .i64 x, .int .i64 y, .int .i64 z, .slice b l'.length cb] #[.int .i64 (l.length : Int), .int .i64 x, .int .i64 y, .int .i64 z, .int .i64 (l'.length : Int)] w1.heap.size (w1.alloc (.cells #[.int .i64 (l.length : Int), .int .i64 x, .int .i64 y, .int .i64 z, .int .i64 (l'.length : Int)] 87))) :=
    ⟨(Below.heap_alloc _ _ _ (by omega)).trans hP1, (Below.heap_alloc _ _ _ (by omega)).trans hZ1, heap_alloc_new w1 _, HB1.out.alloc HB1.out.size _, by omega⟩
  obtain ⟨wd, hwd⟩ : ∃ wd, wd = w1.heap.size := ⟨_, rfl⟩
  rw [← hwd] at HS1
  clear hP1 hZ1 hb1 hb HB1 HP HZ
  go_wp2_with fail
  rw [← hwd]
  clear hwd hz1
  refine (wordsOk_is l.length x y z l'.length true (by simp [five]; omega) _).mono ?_
  rintro e w2 ⟨rfl, hb2⟩
  have HS2 : Hid (VSt w #[.slice a l.length ca, .int .i64 x, .int .i64 y, .int .i64 z, .slice b l'.length cb] #[.int .i64 (l.length : Int), .int .i64 x, .int .i64 y, .int .i64 z, .int .i64 (l'.length : Int)] wd w2) := HS1.out.call hb2
  clear hb2 HS1
  have p0 := cell_of_row _ _ 0 _ _ _ HS2.out.par
  have p1 := cell_of_row _ _ 1 _ _ _ HS2.out.par
  have p2 := cell_of_row _ _ 2 _ _ _ HS2.out.par
  have p3 := cell_of_row _ _ 3 _ _ _ HS2.out.par
  have p4 := cell_of_row _ _ 4 _ _ _ HS2.out.par
  have q0 := cell_of_row _ _ 0 _ _ _ HS2.out.wrd
  have q1 := cell_of_row _ _ 1 _ _ _ HS2.out.wrd
  have q2 := cell_of_row _ _ 2 _ _ _ HS2.out.wrd
  have q3 := cell_of_row _ _ 3 _ _ _ HS2.out.wrd
  have q4 := cell_of_row _ _ 4 _ _ _ HS2.out.wrd
  simp at p0 p1 p2 p3 p4 q0 q1 q2 q3 q4
  go_wp2_with (first | (go_at_call 83; refine (ascend_is l hs 0 (x - 1) (by omega) (by omega) true H3.out _ (HA.out.kept HS2.out.bel)).mono ?_; rintro e w3 ⟨rfl, rfl⟩) | (go_at_call 84; refine (implConf_is l' hc true H6.out _ (HB.out.kept HS2.out.bel)).mono ?_; rintro e w4 ⟨rfl, rfl⟩))
  obtain ⟨W3, hW3⟩ : ∃ W3, W3 = w2.alloc (.cells #[.int .i64 (l.length : Int), .int .i64 x, .int .i64 y, .int .i64 z, .int .i64 (l'.length : Int), .int .i64 0, .int .i64 0, .int .i64 0, .int .i64 0, .int .i64 0, .int .i64 0, .int .i64 0, .int .i64 0, .int .i64 0, .int .i64 0, .int .i64 0, .int .i64 0] 91) := ⟨_, rfl⟩
  rw [← hW3]
  have hb3 : Below w2.heap.size w2 W3 := by rw [hW3]; exact (Below.refl _ _).alloc (Nat.le_refl _) _
  have hS3 := HS2.out.call hb3
  have HS3 : Hid (VSt w #[.slice a l.length ca, .int .i64 x, .int .i64 y, .int .i64 z, .slice b l'.length cb] #[.int .i64 (l.length : Int), .int .i64 x, .int .i64 y, .int .i64 z, .int .i64 (l'.length : Int)] wd W3) := hS3
  have hg3 : W3.heap[w2.heap.size]? = some (.cells (([.int .i64 (l.length : Int), .int .i64 x, .int .i64 y, .int .i64 z, .int .i64 (l'.length : Int)] : List Value) ++ ([.int .i64 0, .int .i64 0, .int .i64 0, .int .i64 0, .int .i64 0, .int .i64 0, .int .i64 0, .int .i64 0, .int .i64 0, .int .i64 0, .int .i64 0, .int .i64 0] : List Value)).toArray 91 (0, 0)) := by rw [hW3]; exact heap_alloc_new w2 _
  have HG3 : Hid (_ = _) := hg3
  have hA3 : IntAt W3 a ga oa l := HA.out.kept hS3.bel
  have HA3 : Hid (IntAt W3 a ga oa l) := hA3
  obtain ⟨vb, hvb⟩ : ∃ vb, vb = w2.heap.size := ⟨_, rfl⟩
  rw [← hvb] at HG3 hb3 ⊢
  have HB3 : Hid (Below vb w2 W3) := hb3
  have hup : wd < vb := by rw [hvb]; exact HS2.out.lt
  have s0 := cell_of_row _ _ 0 _ _ _ hS3.par
  have s4 := cell_of_row _ _ 4 _ _ _ hS3.par
  simp at s0 s4
  have hvb2 : Hid (vb = w2.heap.size) := hvb
  clear hW3 hg3 hA3 hb3 hS3 hvb
  clear p0 p1 p2 p3 p4 q0 q1 q2 q3 q4
  go_region_law (refine step_copy_splice rfl (.tmp 29) (.tmp 31) 22 22 rfl 3 Tryz.underlying22 (by kernel_rfl) (some ⟨vb, 5, none⟩) a 8 8 l.length ca (by rfl) (by rfl) vb 5 (([.int .i64 (l.length : Int), .int .i64 x, .int .i64 y, .int .i64 z, .int .i64 (l'.length : Int)] : List Value) ++ ([.int .i64 0, .int .i64 0, .int .i64 0, .int .i64 0, .int .i64 0, .int .i64 0, .int .i64 0, .int .i64 0, .int .i64 0, .int .i64 0, .int .i64 0, .int .i64 0] : List Value)) 91 HG3.out (cellsI l) (by rw [cellsI_len]; show _ = min _ _; omega) (fun hp => ⟨rfl, HA3.out.src hp⟩) (by rw [cellsI_len]; simp; omega) cellsI_one vb w2 HB3.out.drew (Nat.le_refl _) ?_; intro w4 hg4 hb4)
  have hS4 := HS2.out.call (hvb2.out ▸ hb4)
  have HS4 : Hid (VSt w #[.slice a l.length ca, .int .i64 x, .int .i64 y, .int .i64 z, .slice b l'.length cb] #[.int .i64 (l.length : Int), .int .i64 x, .int .i64 y, .int .i64 z, .int .i64 (l'.length : Int)] wd w4) := hS4
  have hB4 : IntAt w4 b gb ob l' := HB.out.kept hS4.bel
  have HB4 : Hid (IntAt w4 b gb ob l') := hB4
  have HL4 : Hid (Below vb w2 w4) := hb4
  have t4 := cell_of_row _ _ 4 _ _ _ hS4.par
  simp at t4
  obtain ⟨C4, hC4⟩ : ∃ C4, C4 = splice (([.int .i64 (l.length : Int), .int .i64 x, .int .i64 y, .int .i64 z, .int .i64 (l'.length : Int)] : List Value) ++ ([.int .i64 0, .int .i64 0, .int .i64 0, .int .i64 0, .int .i64 0, .int .i64 0, .int .i64 0, .int .i64 0, .int .i64 0, .int .i64 0, .int .i64 0, .int .i64 0] : List Value)) 5 (cellsI l) := ⟨_, rfl⟩
  have hC4' : C4 = ([.int .i64 (l.length : Int), .int .i64 x, .int .i64 y, .int .i64 z, .int .i64 (l'.length : Int)] : List Value) ++ splice ([.int .i64 0, .int .i64 0, .int .i64 0, .int .i64 0, .int .i64 0, .int .i64 0, .int .i64 0, .int .i64 0, .int .i64 0, .int .i64 0, .int .i64 0, .int .i64 0] : List Value) 0 (cellsI l) := by rw [hC4]; exact splice_front (k := 5) (o := 0) rfl
  have hl4 : C4.length = 17 := by rw [hC4']; simp [splice, cellsI_len]; omega
  rw [← hC4] at hg4
  have HC4 : Hid (_ = _) := hC4'
  clear hC4 hC4' hS4 hB4 hb4 s0 s4 HG3 HA3 HS3
  go_wp2_with fail
  go_region_law (refine step_copy_splice rfl (.tmp 34) (.tmp 36) 22 22 rfl 3 Tryz.underlying22 (by kernel_rfl) (some ⟨vb, 13, none⟩) b 4 4 l'.length cb (by rfl) (by rfl) vb 13 C4 91 hg4.out (cellsI l') (by rw [cellsI_len]; show _ = min _ _; omega) (fun hp => ⟨rfl, HB4.out.src hp⟩) (by rw [cellsI_len]; omega) cellsI_one vb w2 HL4.out.drew (Nat.le_refl _) ?_; intro w5 hg5 hb5)
  have hS5 := HS2.out.call (hvb2.out ▸ hb5)
  have HS5 : Hid (VSt w #[.slice a l.length ca, .int .i64 x, .int .i64 y, .int .i64 z, .slice b l'.length cb] #[.int .i64 (l.length : Int), .int .i64 x, .int .i64 y, .int .i64 z, .int .i64 (l'.length : Int)] wd w5) := hS5
  have hv := spliced17 l.length x y z l'.length l l' C4 HC4.out hl4 (by omega) (by omega)
  obtain ⟨A, hA⟩ : ∃ A, A = (splice C4 13 (cellsI l')).toArray := ⟨_, rfl⟩
  rw [← hA] at hg5 hv
  have HV : Hid (Ints17 l.length x y z l'.length A) := hv
  have hA17 : A.size = 17 := hv.size
  have HO : Hid (∀ v ∈ A.toList, v.oneCell' = true) := hv.one
  clear hv hA HC4 hg4 hl4 t4 hb5 hS5
  go_wp2_with (first | (refine wpList_load63 rfl _ rfl vb A 91 rfl hg5.out hA17 ?_) | (refine wpList_store63 rfl _ _ rfl (w.heap.size + 1) A zero17 91 rfl rfl HS5.out.res hA17 rfl HO.out ?_))
  refine bodyPost_ret (result43 HS5.out.res hA17 rfl) rfl ⟨⟨A, HV.out, rfl⟩, below_setRow HS5.out.bel (by omega) _⟩
theorem zero17_one : ∀ v ∈ zero17.toList, v.oneCell' = true := by
  intro v hv
  simp [zero17] at hv
  rw [hv]; rfl
set_option maxHeartbeats 4000000 in
set_option maxRecDepth 100000 in
theorem valueOf_no {a b : Option Addr} {ga oa ca gb ob cb : Nat} (l l' : List Int) (x y z : Int) (hs : l.length ≤ 1048576) (hc : l'.length ≤ 1048576) (w : World) (hA : IntAt w a ga oa l) (hB : IntAt w b gb ob l') (ho : ¬ Mans.ok ⟨l, x, y, z, l'⟩) :
    Calls Tryz.prog 67 #[manV ⟨l, x, y, z, l'⟩ a ca b cb] w fun e w' => e = .returned (.agg zero17) ∧ Below w.heap.size w w' := by
  unfold manV
  simp only
  obtain ⟨W, hW, h0, h1, hb, hz⟩ := value_start w #[.slice a l.length ca, .int .i64 x, .int .i64 y, .int .i64 z, .slice b l'.length cb]
  have HP : Hid (_ = _) := h0
  have HZ : Hid (_ = _) := h1
  unfold zero17 at hW
  have HA : Hid (IntAt w a ga oa l) := hA
  have HB : Hid (IntAt w b gb ob l') := hB
  have HO : Hid (¬ Mans.ok ⟨l, x, y, z, l'⟩) := ho
  clear ho
  clear h0 h1 hA hB
  go_enter Tryz.func67, Tryz.ntmps67
  go_wp2_with fail
  rw [← hW]
  clear hW
  refine (wordsOf_is l.length l'.length a x y z b ca cb W).mono ?_
  rintro e w1 ⟨rfl, hb1⟩
  have hz1 : w.heap.size + 2 ≤ w1.heap.size := by have := hb1.size; omega
  have hP1 := (hb1.block _ (by omega)).trans HP.out
  have hZ1 := (hb1.block _ (by omega)).trans HZ.out
  have HB1 : Hid (Below w.heap.size w w1) := hb.trans (hb1.mono hb.size)
  have HS1 : Hid (VSt w #[.slice a l.length ca, .int .i64 x, .int .i64 y, .int .i64 z, .slice b l'.length cb] #[.int .i64 (l.length : Int), .int .i64 x, .int .i64 y, .int .i64 z, .int .i64 (l'.length : Int)] w1.heap.size (w1.alloc (.cells #[.int .i64 (l.length : Int), .int .i64 x, .int .i64 y, .int .i64 z, .int .i64 (l'.length : Int)] 87))) :=
    ⟨(Below.heap_alloc _ _ _ (by omega)).trans hP1, (Below.heap_alloc _ _ _ (by omega)).trans hZ1, heap_alloc_new w1 _, HB1.out.alloc HB1.out.size _, by omega⟩
  obtain ⟨wd, hwd⟩ : ∃ wd, wd = w1.heap.size := ⟨_, rfl⟩
  rw [← hwd] at HS1
  clear hP1 hZ1 hb1 hb HB1 HP HZ
  go_wp2_with fail
  rw [← hwd]
  clear hwd hz1
  by_cases h5 : five l.length x y z l'.length
  · by_cases h6 : Mans.asc 0 (x - 1) l = true
    · have HN : Hid (Mans.confOk l' = false) := by
        show _ = _
        cases hq : Mans.confOk l' with
        | false => rfl
        | true => exact absurd ⟨show 1 ≤ l.length ∧ l.length ≤ 8 by have := h5.1; omega, h5.2.1, h6, h5.2.2.1, h5.2.2.2.1, hq⟩ HO.out
      have H6 : Hid (Mans.asc 0 (x - 1) l = true) := h6
      have hx := h5.2.1
      have H5 : Hid (five l.length x y z l'.length) := h5
      clear h6 h5
      refine (wordsOk_is l.length x y z l'.length true (by simp [H5.out]) _).mono ?_
      rintro e w2 ⟨rfl, hb2⟩
      have HS2 : Hid (VSt w #[.slice a l.length ca, .int .i64 x, .int .i64 y, .int .i64 z, .slice b l'.length cb] #[.int .i64 (l.length : Int), .int .i64 x, .int .i64 y, .int .i64 z, .int .i64 (l'.length : Int)] wd w2) := HS1.out.call hb2
      clear hb2 HS1
      have p0 := cell_of_row _ _ 0 _ _ _ HS2.out.par
      have p1 := cell_of_row _ _ 1 _ _ _ HS2.out.par
      have p2 := cell_of_row _ _ 2 _ _ _ HS2.out.par
      have p3 := cell_of_row _ _ 3 _ _ _ HS2.out.par
      have p4 := cell_of_row _ _ 4 _ _ _ HS2.out.par
      have q0 := cell_of_row _ _ 0 _ _ _ HS2.out.wrd
      have q1 := cell_of_row _ _ 1 _ _ _ HS2.out.wrd
      have q2 := cell_of_row _ _ 2 _ _ _ HS2.out.wrd
      have q3 := cell_of_row _ _ 3 _ _ _ HS2.out.wrd
      have q4 := cell_of_row _ _ 4 _ _ _ HS2.out.wrd
      simp at p0 p1 p2 p3 p4 q0 q1 q2 q3 q4
      go_wp2_with (first | (go_at_call 83; refine (ascend_is l hs 0 (x - 1) (by omega) (by omega) true H6.out _ (HA.out.kept HS2.out.bel)).mono ?_; rintro e w3 ⟨rfl, rfl⟩) | (go_at_call 84; refine (implConf_is l' hc false HN.out _ (HB.out.kept HS2.out.bel)).mono ?_; rintro e w4 ⟨rfl, rfl⟩) | (refine wpList_store63 rfl _ _ rfl (w.heap.size + 1) zero17 zero17 91 rfl rfl HS2.out.res rfl rfl zero17_one ?_))
      refine bodyPost_ret (result43 (HS2.out.res) (A := zero17) rfl rfl) rfl ⟨rfl, below_setRow HS2.out.bel (by omega) _⟩
    · have H6 : Hid (Mans.asc 0 (x - 1) l = false) := by show _ = _; simpa using h6
      have hx := h5.2.1
      have H5 : Hid (five l.length x y z l'.length) := h5
      clear h6 h5
      refine (wordsOk_is l.length x y z l'.length true (by simp [H5.out]) _).mono ?_
      rintro e w2 ⟨rfl, hb2⟩
      have HS2 : Hid (VSt w #[.slice a l.length ca, .int .i64 x, .int .i64 y, .int .i64 z, .slice b l'.length cb] #[.int .i64 (l.length : Int), .int .i64 x, .int .i64 y, .int .i64 z, .int .i64 (l'.length : Int)] wd w2) := HS1.out.call hb2
      clear hb2 HS1
      have p0 := cell_of_row _ _ 0 _ _ _ HS2.out.par
      have p1 := cell_of_row _ _ 1 _ _ _ HS2.out.par
      have p2 := cell_of_row _ _ 2 _ _ _ HS2.out.par
      have p3 := cell_of_row _ _ 3 _ _ _ HS2.out.par
      have p4 := cell_of_row _ _ 4 _ _ _ HS2.out.par
      have q0 := cell_of_row _ _ 0 _ _ _ HS2.out.wrd
      have q1 := cell_of_row _ _ 1 _ _ _ HS2.out.wrd
      have q2 := cell_of_row _ _ 2 _ _ _ HS2.out.wrd
      have q3 := cell_of_row _ _ 3 _ _ _ HS2.out.wrd
      have q4 := cell_of_row _ _ 4 _ _ _ HS2.out.wrd
      simp at p0 p1 p2 p3 p4 q0 q1 q2 q3 q4
      go_wp2_with (first | (go_at_call 83; refine (ascend_is l hs 0 (x - 1) (by omega) (by omega) false H6.out _ (HA.out.kept HS2.out.bel)).mono ?_; rintro e w3 ⟨rfl, rfl⟩) | (refine wpList_store63 rfl _ _ rfl (w.heap.size + 1) zero17 zero17 91 rfl rfl HS2.out.res rfl rfl zero17_one ?_))
      refine bodyPost_ret (result43 (HS2.out.res) (A := zero17) rfl rfl) rfl ⟨rfl, below_setRow HS2.out.bel (by omega) _⟩
  · have H5 : Hid (¬ five l.length x y z l'.length) := h5
    clear h5
    refine (wordsOk_is l.length x y z l'.length false (by simp [H5.out]) _).mono ?_
    rintro e w2 ⟨rfl, hb2⟩
    have HS2 : Hid (VSt w #[.slice a l.length ca, .int .i64 x, .int .i64 y, .int .i64 z, .slice b l'.length cb] #[.int .i64 (l.length : Int), .int .i64 x, .int .i64 y, .int .i64 z, .int .i64 (l'.length : Int)] wd w2) := HS1.out.call hb2
    clear hb2 HS1
    have p0 := cell_of_row _ _ 0 _ _ _ HS2.out.par
    have p1 := cell_of_row _ _ 1 _ _ _ HS2.out.par
    have p2 := cell_of_row _ _ 2 _ _ _ HS2.out.par
    have p3 := cell_of_row _ _ 3 _ _ _ HS2.out.par
    have p4 := cell_of_row _ _ 4 _ _ _ HS2.out.par
    have q0 := cell_of_row _ _ 0 _ _ _ HS2.out.wrd
    have q1 := cell_of_row _ _ 1 _ _ _ HS2.out.wrd
    have q2 := cell_of_row _ _ 2 _ _ _ HS2.out.wrd
    have q3 := cell_of_row _ _ 3 _ _ _ HS2.out.wrd
    have q4 := cell_of_row _ _ 4 _ _ _ HS2.out.wrd
    simp at p0 p1 p2 p3 p4 q0 q1 q2 q3 q4
    go_wp2_with (first | (refine wpList_store63 rfl _ _ rfl (w.heap.size + 1) zero17 zero17 91 rfl rfl HS2.out.res rfl rfl zero17_one ?_))
    refine bodyPost_ret (result43 (HS2.out.res) (A := zero17) rfl rfl) rfl ⟨rfl, below_setRow HS2.out.bel (by omega) _⟩
end Go.Proofs.YthcfnofhdbjemaaGreatDoor
