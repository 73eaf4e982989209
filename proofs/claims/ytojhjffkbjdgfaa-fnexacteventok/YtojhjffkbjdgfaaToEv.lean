/- toEvent and eqEvent of the laws, walked. Made by program. -/
import Derived.Test.YtojhjffkbjdgfaaEvLaw
import Derived.Test.YtojhjffkbjdgfaaAgg
import Derived.Laws.CopyRow
namespace Go.Proofs.Ytojhjffkbjdgfaa
open Go.RowKit
set_option linter.unusedVariables false
set_option linter.unusedSimpArgs false
theorem wpList_put {T : TypeId} {n : Nat} (hz : ∀ w, (sizeOf T).run Try.prog w = .ok n w) {w : World} {ops : Array Oper} {rest : List Oper} {o : Oper} {a : Act} {Q : Exit → Act → World → Prop} (hgd : o.guard = none) (x y : Operand) (ho : o.op = .store T x y) (g k : Nat) (V : Value) (vs : Array Value) (C D : Array Value) (t : TypeId) (hx : a.eval x = .pointer (some ⟨g, k, none⟩)) (hy : a.eval y = V) (hv : V.cells = vs) (hg : w.heap[g]? = some (.cells C t (0, 0))) (hs : vs.size = n) (hc : k + n ≤ C.size) (h1 : ∀ v ∈ vs.toList, v.oneCell' = true) (hD : (C.toList.take k ++ vs.toList ++ C.toList.drop (k + n)).toArray = D)
    (h : wpList Try.prog ops Q rest (a.put o.dst undef) (w.setRow g D)) : wpList Try.prog ops Q (o :: rest) a w := by
  refine wpList_plain hgd fun K hK => ?_
  have h2 := run_storeCells_at (P := Try.prog) g k t vs.toList 0 C w hg (by simp; omega) h1
  simp only [Nat.add_zero] at h2
  have hl : vs.toList.length = n := by simpa using hs
  rw [hl, hD] at h2
  have hrun : (Instr.storeAt T (.pointer (some ⟨g, k, none⟩)) V).run Try.prog w = .ok () (w.setRow g D) := by
    simp [Instr.storeAt, Instr.sureAddr, storeVar, hv, hs, h2, hz]
  unfold Oper.wp
  simp [execOp, ho, hx, hy, hrun, Result.andThen]
  exact hK _ _ h
def zeroE : Array Value := #[.int .i64 0, .int .i64 0, .int .i64 0, .int .i64 0, .int .i64 0, .int .i64 0, .int .i64 0, .string ⟨#[]⟩, .string ⟨#[]⟩, .string ⟨#[]⟩, .slice none 0 0, .bool false, .int .i64 0, .int .i64 0]
/-- What lies at q: the event that came in, a place for what is answered, what is made. -/
def St (w0 W : World) (q : Nat) (X A : Array Value) (g1 : Nat) (L : List Int) : Prop :=
  W.heap[q]? = some (.cells X 26 (0, 0)) ∧ W.heap[q + 1]? = some (.cells zeroE 31 (0, 0)) ∧ W.heap[q + 1 + 1]? = some (.cells A 31 (0, 0)) ∧ Below w0.heap.size w0 W ∧ q = w0.heap.size ∧ IntAt W (some ⟨g1, 0, none⟩) g1 0 L ∧ (0 < L.length → q + 1 + 1 < g1)
theorem St.set {w0 W : World} {q : Nat} {X A : Array Value} {g1 : Nat} {L : List Int} (h : St w0 W q X A g1 L) (D : Array Value) : St w0 (W.setRow (q + 1 + 1) D) q X D g1 L := by
  obtain ⟨h1, h2, h3, h4, h5, h6, h7⟩ := h
  refine ⟨row_far h1 (by omega) D, row_far h2 (by omega) D, row_size h3, h4.grown (grown_setRow W _ D) h4.size (fun k e => by cases e; omega), h5, ⟨h6.1, fun j hj => ?_⟩, h7⟩
  have hne := h7 (by omega)
  exact (grown_setRow W (q + 1 + 1) D).cell (h6.2 j hj) (fun e => by have := Option.some.inj e; simp at this; omega)
theorem St.kept {w0 W W' : World} {q : Nat} {X A : Array Value} {g1 : Nat} {L : List Int} (h : St w0 W q X A g1 L) (hb : Below W.heap.size W W') : St w0 W' q X A g1 L := by
  obtain ⟨h1, h2, h3, h4, h5, h6, h7⟩ := h
  exact ⟨(hb.block _ (Array.getElem?_eq_some_iff.1 h1).1).trans h1, (hb.block _ (Array.getElem?_eq_some_iff.1 h2).1).trans h2, (hb.block _ (Array.getElem?_eq_some_iff.1 h3).1).trans h3, h4.trans (hb.mono h4.size), h5, h6.kept hb, h7⟩
theorem St.ev {w0 W : World} {q : Nat} {e : EvL} {a : Option Addr} {cc : Nat} {A : Array Value} {g1 : Nat} {L : List Int} (h : St w0 W q (evC e a cc) A g1 L) : EvAt W q e a cc := by
  have p0 := h.1
  unfold evC at p0
  exact ⟨cell_of_row _ _ 0 _ _ _ p0, cell_of_row _ _ 1 _ _ _ p0, cell_of_row _ _ 2 _ _ _ p0, cell_of_row _ _ 3 _ _ _ p0, cell_of_row _ _ 4 _ _ _ p0, cell_of_row _ _ 5 _ _ _ p0, cell_of_row _ _ 6 _ _ _ p0, cell_of_row _ _ 7 _ _ _ p0, cell_of_row _ _ 8 _ _ _ p0, cell_of_row _ _ 9 _ _ _ p0, cell_of_row _ _ 10 _ _ _ p0, cell_of_row _ _ 11 _ _ _ p0, cell_of_row _ _ 12 _ _ _ p0, cell_of_row _ _ 13 _ _ _ p0⟩
theorem St.cell {w0 W : World} {q : Nat} {X A : Array Value} {g1 : Nat} {L : List Int} (h : St w0 W q X A g1 L) (k : Nat) (v : Value) : St w0 (W.setCell ⟨q + 1 + 1, k, none⟩ v) q X (A.setIfInBounds k v) g1 L := by
  rw [setCell_eq_setRow W (q + 1 + 1) k A 31 (0, 0) v h.2.2.1]
  exact h.set _
theorem St.conf {w0 W W' : World} {q : Nat} {X A : Array Value} {g1 : Nat} {L M : List Int} (h : St w0 W q X A g1 L) (hb : Below W.heap.size W W') (hi : IntAt W' (some ⟨W.heap.size, 0, none⟩) W.heap.size 0 M) : St w0 W' q X A W.heap.size M := by
  obtain ⟨h1, h2, h3, h4, h5, h6, h7⟩ := h
  exact ⟨(hb.block _ (Array.getElem?_eq_some_iff.1 h1).1).trans h1, (hb.block _ (Array.getElem?_eq_some_iff.1 h2).1).trans h2, (hb.block _ (Array.getElem?_eq_some_iff.1 h3).1).trans h3, h4.trans (hb.mono h4.size), h5, hi, fun _ => (Array.getElem?_eq_some_iff.1 h3).1⟩
theorem one3 {V : Value} (h : V.oneCell' = true) : ∀ v ∈ (#[V] : Array Value).toList, v.oneCell' = true := by
  intro v hv
  simp at hv
  subst hv
  exact h
theorem resultE {w : World} {g : Nat} {A C : Array Value} (hg : w.heap[g]? = some (.cells C 31 (0, 0))) (hs : A.size = 14) {tmps : Array Value} (ht : tmps.getD 2 undef = .pointer (some ⟨g, 0, none⟩)) : (results Try.f6 tmps).run Try.prog (w.setRow g A) = .ok (.agg A) (w.setRow g A) := by
  have h := run_loadVar_agg (P := Try.prog) Try.isAgg31 Try.sizeOf31 (row_size (A := A) hg) hs
  have ht' : tmps[2]?.getD undef = .pointer (some ⟨g, 0, none⟩) := by simpa using ht
  simp [results, Try.results6, ht', asAddr, h]
theorem ev_one (e : EvL) (b : Option Addr) (d : Nat) : ∀ v ∈ (evC e b d).toList, v.oneCell' = true := by
  intro v hv
  unfold evC at hv
  simp at hv
  rcases hv with rfl | rfl | rfl | rfl | rfl | rfl | rfl | rfl | rfl | rfl | rfl | rfl | rfl | rfl <;> rfl
theorem cmd_one (c : CmdL) : ∀ v ∈ (cmdC c).toList, v.oneCell' = true := by
  intro v hv
  unfold cmdC at hv
  simp at hv
  rcases hv with rfl | rfl | rfl | rfl | rfl | rfl <;> rfl
set_option maxHeartbeats 1000000 in
set_option maxRecDepth 100000 in
theorem toEv_is (e : EvL) (hc : e.conf.length ≤ 1048576) {a : Option Addr} {gc oc cc : Nat} (w : World) (hI : IntAt w a gc oc e.conf) :
    Calls Try.prog 6 #[evV e a cc] w fun en w' => ∃ g1 : Nat, en = .returned (evV e (some ⟨g1, 0, none⟩) e.conf.length) ∧ IntAt w' (some ⟨g1, 0, none⟩) g1 0 e.conf ∧ Below w.heap.size w w' := by
  obtain ⟨k, n, q, l, c, cl, cu, wh, pt⟩ := e
  simp only at hc hI
  obtain ⟨W, hW⟩ : ∃ W, W = ((w.alloc (Obj.cells #[.int .i64 k, .int .i64 n, .int .i64 q, .int .i64 l, .int .i64 c.op, .int .i64 c.ses, .int .i64 c.seq, .string c.key, .string c.val, .string c.old, .slice a cl.length cc, .bool cu, .int .i64 wh, .int .i64 pt] 26)).alloc (Obj.cells #[.int .i64 0, .int .i64 0, .int .i64 0, .int .i64 0, .int .i64 0, .int .i64 0, .int .i64 0, .string ⟨#[]⟩, .string ⟨#[]⟩, .string ⟨#[]⟩, .slice none 0 0, .bool false, .int .i64 0, .int .i64 0] 31)).alloc (Obj.cells #[.int .i64 k, .int .i64 n, .int .i64 q, .int .i64 l, .int .i64 0, .int .i64 0, .int .i64 0, .string ⟨#[]⟩, .string ⟨#[]⟩, .string ⟨#[]⟩, .slice none 0 0, .bool false, .int .i64 0, .int .i64 0] 31) := ⟨_, rfl⟩
  obtain ⟨z, hz⟩ : ∃ z, z = w.heap.size := ⟨_, rfl⟩
  have hS : St w W z (evC ⟨k, n, q, l, c, cl, cu, wh, pt⟩ a cc) #[.int .i64 k, .int .i64 n, .int .i64 q, .int .i64 l, .int .i64 0, .int .i64 0, .int .i64 0, .string ⟨#[]⟩, .string ⟨#[]⟩, .string ⟨#[]⟩, .slice none 0 0, .bool false, .int .i64 0, .int .i64 0] 0 [] := by
    have hb : Below w.heap.size w W := by rw [hW]; exact (((Below.refl _ _).alloc (Nat.le_refl _) _).alloc (by simp) _).alloc (by simp; omega) _
    refine ⟨?_, ?_, ?_, hb, hz, ⟨fun h => by simp at h, fun j hj => by simp at hj⟩, fun h => by simp at h⟩
    · rw [hW, hz, Below.heap_alloc _ _ _ (by simp; omega), Below.heap_alloc _ _ _ (by simp)]
      exact heap_alloc_new w _
    · rw [hW, hz, Below.heap_alloc _ _ _ (by simp)]
      have := heap_alloc_new (w.alloc (Obj.cells #[.int .i64 k, .int .i64 n, .int .i64 q, .int .i64 l, .int .i64 c.op, .int .i64 c.ses, .int .i64 c.seq, .string c.key, .string c.val, .string c.old, .slice a cl.length cc, .bool cu, .int .i64 wh, .int .i64 pt] 26)) (Obj.cells #[.int .i64 0, .int .i64 0, .int .i64 0, .int .i64 0, .int .i64 0, .int .i64 0, .int .i64 0, .string ⟨#[]⟩, .string ⟨#[]⟩, .string ⟨#[]⟩, .slice none 0 0, .bool false, .int .i64 0, .int .i64 0] 31)
      simpa [zeroE] using this
    · rw [hW, hz]
      have := heap_alloc_new ((w.alloc (Obj.cells #[.int .i64 k, .int .i64 n, .int .i64 q, .int .i64 l, .int .i64 c.op, .int .i64 c.ses, .int .i64 c.seq, .string c.key, .string c.val, .string c.old, .slice a cl.length cc, .bool cu, .int .i64 wh, .int .i64 pt] 26)).alloc (Obj.cells #[.int .i64 0, .int .i64 0, .int .i64 0, .int .i64 0, .int .i64 0, .int .i64 0, .int .i64 0, .string ⟨#[]⟩, .string ⟨#[]⟩, .string ⟨#[]⟩, .slice none 0 0, .bool false, .int .i64 0, .int .i64 0] 31)) (Obj.cells #[.int .i64 k, .int .i64 n, .int .i64 q, .int .i64 l, .int .i64 0, .int .i64 0, .int .i64 0, .string ⟨#[]⟩, .string ⟨#[]⟩, .string ⟨#[]⟩, .slice none 0 0, .bool false, .int .i64 0, .int .i64 0] 31)
      simpa using this
  subst hz
  have HS : Hid (St w W w.heap.size (evC ⟨k, n, q, l, c, cl, cu, wh, pt⟩ a cc) #[.int .i64 k, .int .i64 n, .int .i64 q, .int .i64 l, .int .i64 0, .int .i64 0, .int .i64 0, .string ⟨#[]⟩, .string ⟨#[]⟩, .string ⟨#[]⟩, .slice none 0 0, .bool false, .int .i64 0, .int .i64 0] 0 []) := hS
  have HI : Hid (∀ X, Below w.heap.size w X → IntAt X a gc oc cl) := fun X h => hI.kept h
  have HTC : Hid (∀ X, Calls Try.prog 14 #[.agg #[.int .i64 c.op, .int .i64 c.ses, .int .i64 c.seq, .string c.key, .string c.val, .string c.old]] X fun en w' => en = .returned (.agg #[.int .i64 c.op, .int .i64 c.ses, .int .i64 c.seq, .string c.key, .string c.val, .string c.old]) ∧ Below X.heap.size X w') := fun X => toCmd_is c X
  have HTI : Hid (∀ X, Below w.heap.size w X → Calls Try.prog 15 #[.slice a cl.length cc] X fun e w' => e = .returned (.slice (some ⟨X.heap.size, 0, none⟩) cl.length cl.length) ∧ IntAt w' (some ⟨X.heap.size, 0, none⟩) X.heap.size 0 cl ∧ Below X.heap.size X w') := fun X h => (toIntS_is cl hc X (hI.kept h)).mono (by rintro e w' ⟨rfl, h1, h2⟩; exact ⟨rfl, cellsI_own rfl h1, h2⟩)
  unfold evV
  clear hS hI hc
  go_enter Try.func6, Try.ntmps6
  go_wp2_with fail
  rw [← hW]
  clear hW
  refine Calls.mono (HTC.out _) ?_
  rintro en w1 ⟨rfl, hb1⟩
  have HS1 := HS.out.kept hb1
  clear HS hb1
  obtain ⟨p0, p1, p2, p3, p4, p5, p6, p7, p8, p9, p10, p11, p12, p13⟩ := HS1.ev
  have o4 : w1.cell? ⟨w.heap.size + 1 + 1, 4, none⟩ = some (.int .i64 0) := cell_of_row _ _ 4 _ _ _ HS1.2.2.1
  have of4 := frozen_of_row _ _ 4 _ _ HS1.2.2.1
  have o5 : w1.cell? ⟨w.heap.size + 1 + 1, 5, none⟩ = some (.int .i64 0) := cell_of_row _ _ 5 _ _ _ HS1.2.2.1
  have of5 := frozen_of_row _ _ 5 _ _ HS1.2.2.1
  have o6 : w1.cell? ⟨w.heap.size + 1 + 1, 6, none⟩ = some (.int .i64 0) := cell_of_row _ _ 6 _ _ _ HS1.2.2.1
  have of6 := frozen_of_row _ _ 6 _ _ HS1.2.2.1
  have o7 : w1.cell? ⟨w.heap.size + 1 + 1, 7, none⟩ = some (.string ⟨#[]⟩) := cell_of_row _ _ 7 _ _ _ HS1.2.2.1
  have of7 := frozen_of_row _ _ 7 _ _ HS1.2.2.1
  have o8 : w1.cell? ⟨w.heap.size + 1 + 1, 8, none⟩ = some (.string ⟨#[]⟩) := cell_of_row _ _ 8 _ _ _ HS1.2.2.1
  have of8 := frozen_of_row _ _ 8 _ _ HS1.2.2.1
  have o9 : w1.cell? ⟨w.heap.size + 1 + 1, 9, none⟩ = some (.string ⟨#[]⟩) := cell_of_row _ _ 9 _ _ _ HS1.2.2.1
  have of9 := frozen_of_row _ _ 9 _ _ HS1.2.2.1
  have HS2 : Hid (St w ((((((w1.setCell ⟨w.heap.size + 1 + 1, 4, none⟩ (.int .i64 c.op)).setCell ⟨w.heap.size + 1 + 1, 5, none⟩ (.int .i64 c.ses)).setCell ⟨w.heap.size + 1 + 1, 6, none⟩ (.int .i64 c.seq)).setCell ⟨w.heap.size + 1 + 1, 7, none⟩ (.string c.key)).setCell ⟨w.heap.size + 1 + 1, 8, none⟩ (.string c.val)).setCell ⟨w.heap.size + 1 + 1, 9, none⟩ (.string c.old)) w.heap.size (evC ⟨k, n, q, l, c, cl, cu, wh, pt⟩ a cc) #[.int .i64 k, .int .i64 n, .int .i64 q, .int .i64 l, .int .i64 c.op, .int .i64 c.ses, .int .i64 c.seq, .string c.key, .string c.val, .string c.old, .slice none 0 0, .bool false, .int .i64 0, .int .i64 0] 0 []) := ((((((HS1.cell 4 (.int .i64 c.op)).cell 5 (.int .i64 c.ses)).cell 6 (.int .i64 c.seq)).cell 7 (.string c.key)).cell 8 (.string c.val)).cell 9 (.string c.old))
  clear HS1
  go_wp2_with fail
  clear p0 p1 p2 p3 p4 p5 p6 p7 p8 p9 p10 p11 p12 p13 o4 of4 o5 of5 o6 of6 o7 of7 o8 of8 o9 of9
  refine Calls.mono (HTI.out _ HS2.out.2.2.2.1) ?_
  rintro en w3 ⟨rfl, hi3, hb3⟩
  have HS3 := HS2.out.conf hb3 hi3
  obtain ⟨g1, hg1⟩ : ∃ g1, g1 = (((((((w1.setCell ⟨w.heap.size + 1 + 1, 4, none⟩ (.int .i64 c.op)).setCell ⟨w.heap.size + 1 + 1, 5, none⟩ (.int .i64 c.ses)).setCell ⟨w.heap.size + 1 + 1, 6, none⟩ (.int .i64 c.seq)).setCell ⟨w.heap.size + 1 + 1, 7, none⟩ (.string c.key)).setCell ⟨w.heap.size + 1 + 1, 8, none⟩ (.string c.val)).setCell ⟨w.heap.size + 1 + 1, 9, none⟩ (.string c.old))).heap.size := ⟨_, rfl⟩
  rw [← hg1] at HS3 ⊢
  clear hi3 hb3 hg1 HS2
  obtain ⟨p0, p1, p2, p3, p4, p5, p6, p7, p8, p9, p10, p11, p12, p13⟩ := HS3.ev
  have o10 : w3.cell? ⟨w.heap.size + 1 + 1, 10, none⟩ = some (.slice none 0 0) := cell_of_row _ _ 10 _ _ _ HS3.2.2.1
  have of10 := frozen_of_row _ _ 10 _ _ HS3.2.2.1
  have o11 : w3.cell? ⟨w.heap.size + 1 + 1, 11, none⟩ = some (.bool false) := cell_of_row _ _ 11 _ _ _ HS3.2.2.1
  have of11 := frozen_of_row _ _ 11 _ _ HS3.2.2.1
  have o12 : w3.cell? ⟨w.heap.size + 1 + 1, 12, none⟩ = some (.int .i64 0) := cell_of_row _ _ 12 _ _ _ HS3.2.2.1
  have of12 := frozen_of_row _ _ 12 _ _ HS3.2.2.1
  have o13 : w3.cell? ⟨w.heap.size + 1 + 1, 13, none⟩ = some (.int .i64 0) := cell_of_row _ _ 13 _ _ _ HS3.2.2.1
  have of13 := frozen_of_row _ _ 13 _ _ HS3.2.2.1
  have HS4 : Hid (St w ((((w3.setCell ⟨w.heap.size + 1 + 1, 10, none⟩ (.slice (some ⟨g1, 0, none⟩) cl.length cl.length)).setCell ⟨w.heap.size + 1 + 1, 11, none⟩ (.bool cu)).setCell ⟨w.heap.size + 1 + 1, 12, none⟩ (.int .i64 wh)).setCell ⟨w.heap.size + 1 + 1, 13, none⟩ (.int .i64 pt)) w.heap.size (evC ⟨k, n, q, l, c, cl, cu, wh, pt⟩ a cc) (evC ⟨k, n, q, l, c, cl, cu, wh, pt⟩ (some ⟨g1, 0, none⟩) cl.length) g1 cl) := ((((HS3.cell 10 (.slice (some ⟨g1, 0, none⟩) cl.length cl.length)).cell 11 (.bool cu)).cell 12 (.int .i64 wh)).cell 13 (.int .i64 pt))
  clear HS3
  go_upto_region 11 with fail
  obtain ⟨W4, hW4⟩ : ∃ W4, W4 = ((((w3.setCell ⟨w.heap.size + 1 + 1, 10, none⟩ (.slice (some ⟨g1, 0, none⟩) cl.length cl.length)).setCell ⟨w.heap.size + 1 + 1, 11, none⟩ (.bool cu)).setCell ⟨w.heap.size + 1 + 1, 12, none⟩ (.int .i64 wh)).setCell ⟨w.heap.size + 1 + 1, 13, none⟩ (.int .i64 pt)) := ⟨_, rfl⟩
  rw [← hW4] at HS4
  rw [← hW4]
  clear hW4 o10 of10 o11 of11 o12 of12 o13 of13 p0 p1 p2 p3 p4 p5 p6 p7 p8 p9 p10 p11 p12 p13
  go_wp2_with (first | (refine wpList_loadA Try.isAgg31 Try.sizeOf31 rfl _ rfl (w.heap.size + 1 + 1) (evC ⟨k, n, q, l, c, cl, cu, wh, pt⟩ (some ⟨g1, 0, none⟩) cl.length) 31 rfl HS4.out.2.2.1 rfl ?_) | (refine wpList_storeA Try.sizeOf31 rfl _ _ rfl (w.heap.size + 1) (evC ⟨k, n, q, l, c, cl, cu, wh, pt⟩ (some ⟨g1, 0, none⟩) cl.length) zeroE 31 rfl rfl HS4.out.2.1 rfl rfl (ev_one _ _ _) ?_) | fail)
  refine bodyPost_ret (resultE HS4.out.2.1 rfl rfl) rfl ⟨g1, rfl, ?_, ?_⟩
  · refine ⟨fun _ => rfl, fun j hj => ?_⟩
    have hne := HS4.out.2.2.2.2.2.2 (by show 0 < cl.length; have : j < cl.length := hj; omega)
    exact (grown_setRow _ (w.heap.size + 1) _).cell (HS4.out.2.2.2.2.2.1.2 j hj) (fun e => by have := Option.some.inj e; simp at this; omega)
  · exact HS4.out.2.2.2.1.grown (grown_setRow _ _ _) HS4.out.2.2.2.1.size (fun k e => by cases e; omega)
end Go.Proofs.Ytojhjffkbjdgfaa
