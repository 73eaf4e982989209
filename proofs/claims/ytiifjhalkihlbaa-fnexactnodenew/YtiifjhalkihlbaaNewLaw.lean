/- The exact law of NodeNew, walked. Made by program. -/
import Derived.Test.YtiifjhalkihlbaaMarkN
import Derived.Test.YtiifjhalkihlbaaLaw
namespace Go.Proofs.Ytiifjhalkihlbaa
open Go.RowKit
set_option linter.unusedVariables false
set_option linter.unusedSimpArgs false
theorem newPost_ex (id : Int) (conf : List Int) (hlen : conf.length ≤ 1048576) : ∃ (idR : Int) (confR : List Int) (LR : Int) (O : Bool), confR.length ≤ 1048576 ∧ ∀ X, (if newOk id conf then NewPost X id conf 20 true else NewPost X 0 [] 0 false) = NewPost X idR confR LR O := by
  cases h : newOk id conf
  · exact ⟨0, [], 0, false, by simp, fun X => by simp⟩
  · exact ⟨id, conf, 20, true, hlen, fun X => by simp⟩
theorem eqNew {a1 a2 e1 e2 : Option Addr} {g1 g2 c1 c2 d1 d2 : Nat} (idR LR : Int) (confR : List Int) (hl : confR.length ≤ 1048576) (X : World) (h1 : IntAt X a1 g1 0 confR) (h2 : IntAt X a2 g2 0 confR) :
    Calls Try.prog 10 #[.agg #[.int .i64 idR, .int .i64 0, .int .i64 0, .int .i64 0, .int .i64 0, .slice a1 confR.length c1, .int .i64 0, .int .i64 0, .slice e1 0 d1, .int .i64 0, .int .i64 0, .int .i64 LR, .slice none 0 0, .slice none 0 0], .agg #[.int .i64 idR, .int .i64 0, .int .i64 0, .int .i64 0, .int .i64 0, .slice a2 confR.length c2, .int .i64 0, .int .i64 0, .slice e2 0 d2, .int .i64 0, .int .i64 0, .int .i64 LR, .slice none 0 0, .slice none 0 0]] X fun e w' => e = .returned (.bool true) ∧ Below X.heap.size X w' :=
  eqNode_same (newN idR confR LR) ⟨hl, by simp [newN], by simp [newN], by simp [newN]⟩ X (gc := g1) (oc := 0) (ge := 0) (oe := 0) (gv := 0) (ov := 0) (gp := 0) (op := 0) (gc' := g2) (oc' := 0) (ge' := 0) (oe' := 0) (gv' := 0) (ov' := 0) (gp' := 0) (op' := 0) ⟨h1, ⟨fun q => by simp [newN] at q, fun j hj => by simp [newN] at hj⟩, IntAt.nil X, ⟨fun q => by simp [newN] at q, fun j hj => by simp [newN] at hj⟩⟩ ⟨h2, ⟨fun q => by simp [newN] at q, fun j hj => by simp [newN] at hj⟩, IntAt.nil X, ⟨fun q => by simp [newN] at q, fun j hj => by simp [newN] at hj⟩⟩
theorem lawNew_big {a : Option Addr} {n cap : Nat} (id : Int) (h : 1048576 < n) (hn : n ≤ maxLen) (w : World) : Calls Try.prog 4 #[.int .i64 id, .slice a n cap] w fun e w' => e = .returned (.bool true) ∧ Below w.heap.size w w' := by
  have h1 : (1048576 : Int) < (n : Int) := by omega
  unfold maxLen at hn
  go_enter Try.func4, Try.ntmps4
  go_wp2
  go_ret
  exact ⟨rfl, Below.refl _ _⟩
theorem marksI_row {w : World} {base : Nat} {a : Option Addr} {k n c : Nat} (h : w.ownsRow base 3 1 (.slice a n c) n (cellsI (marksI k n))) : ∃ g, IntAt w a g 0 (marksI k n) := by
  have h2 : w.ownsRow base 3 1 (.slice a n c) (marksI k n).length (cellsI (marksI k n)) := by rw [marksI_len]; exact h
  obtain ⟨a2, g, c2, e, hi⟩ := cellsI_slice h2
  simp only [Value.slice.injEq] at e
  obtain ⟨rfl, _, rfl⟩ := e
  exact ⟨g, hi⟩
theorem nd_cells {W : World} {b : Nat} {idR LR : Int} {aG eG : Option Addr} {n cG dG : Nat} (h : W.heap[b]? = some (.cells #[.int .i64 idR, .int .i64 0, .int .i64 0, .int .i64 0, .int .i64 0, .slice aG n cG, .int .i64 0, .int .i64 0, .slice eG 0 dG, .int .i64 0, .int .i64 0, .int .i64 LR, .slice none 0 0, .slice none 0 0] 36 (0, 0))) : W.cell? ⟨b, 0, none⟩ = some (.int .i64 idR) ∧ W.cell? ⟨b, 1, none⟩ = some (.int .i64 0) ∧ W.cell? ⟨b, 2, none⟩ = some (.int .i64 0) ∧ W.cell? ⟨b, 3, none⟩ = some (.int .i64 0) ∧ W.cell? ⟨b, 4, none⟩ = some (.int .i64 0) ∧ W.cell? ⟨b, 5, none⟩ = some (.slice aG n cG) ∧ W.cell? ⟨b, 6, none⟩ = some (.int .i64 0) ∧ W.cell? ⟨b, 7, none⟩ = some (.int .i64 0) ∧ W.cell? ⟨b, 8, none⟩ = some (.slice eG 0 dG) ∧ W.cell? ⟨b, 9, none⟩ = some (.int .i64 0) ∧ W.cell? ⟨b, 10, none⟩ = some (.int .i64 0) ∧ W.cell? ⟨b, 11, none⟩ = some (.int .i64 LR) ∧ W.cell? ⟨b, 12, none⟩ = some (.slice none 0 0) ∧ W.cell? ⟨b, 13, none⟩ = some (.slice none 0 0) :=
  ⟨cell_of_row _ _ 0 _ _ _ h, cell_of_row _ _ 1 _ _ _ h, cell_of_row _ _ 2 _ _ _ h, cell_of_row _ _ 3 _ _ _ h, cell_of_row _ _ 4 _ _ _ h, cell_of_row _ _ 5 _ _ _ h, cell_of_row _ _ 6 _ _ _ h, cell_of_row _ _ 7 _ _ _ h, cell_of_row _ _ 8 _ _ _ h, cell_of_row _ _ 9 _ _ _ h, cell_of_row _ _ 10 _ _ _ h, cell_of_row _ _ 11 _ _ _ h, cell_of_row _ _ 12 _ _ _ h, cell_of_row _ _ 13 _ _ _ h⟩
set_option maxHeartbeats 8000000 in
set_option maxRecDepth 100000 in
theorem lawNew_any {a : Option Addr} {g off cap : Nat} (id : Int) (conf : List Int) (hlen : conf.length ≤ 1048576) (w : World) (hf : IntAt w a g off conf) :
    Calls Try.prog 4 #[.int .i64 id, .slice a conf.length cap] w fun e w' => e = .returned (.bool true) ∧ Below w.heap.size w w' := by
  have HF : Hid (IntAt w a g off conf) := hf
  obtain ⟨idR, confR, LR, O, hlR, hP⟩ := newPost_ex id conf hlen
  have HSP : Hid (∀ (X : World) (g1 : Nat), IntAt X (some ⟨g1, 0, none⟩) g1 0 conf → Calls Try.prog 11 #[.int .i64 id, .slice (some ⟨g1, 0, none⟩) conf.length conf.length] X (NewPost X idR confR LR O)) := fun X g1 h => by rw [← hP X]; exact specNodeNew_is id conf hlen (fun e => by cases e) X h
  have HIM : Hid (∀ (X : World) (g1 : Nat), IntAt X (some ⟨g1, 0, none⟩) g1 0 conf → Calls Try.prog 13 #[.int .i64 id, .slice (some ⟨g1, 0, none⟩) conf.length conf.length] X (NewPost X idR confR LR O)) := fun X g1 h => by rw [← hP X]; exact implNodeNew_is id conf hlen X h
  have HTO : Hid (∀ X, IntAt X a g off conf → Calls Try.prog 12 #[.slice a conf.length cap] X fun e w' => ∃ g1 : Nat, e = .returned (.slice (some ⟨g1, 0, none⟩) conf.length conf.length) ∧ w'.ownsRow X.heap.size 3 1 (.slice (some ⟨g1, 0, none⟩) conf.length conf.length) conf.length (cellsI conf) ∧ Below X.heap.size X w') := fun X h => (toIntS_is conf hlen X h).mono (fun e w' ⟨h1, h2, h3⟩ => ⟨_, h1, h2, h3⟩)
  have HLR : Hid (confR.length ≤ 1048576) := hlR
  have HLC : Hid (conf.length ≤ 1048576) := hlen
  have h1 : ¬ (1048576 : Int) < (conf.length : Int) := by omega
  clear hf hP hlR hlen
  have L0 : Hid (LawS w [] [] w) := LawS.start w
  go_enter Try.func4, Try.ntmps4
  go_wp2_with fail
  refine Calls.mono (HTO.out _ (HF.out.kept L0.out.below)) ?_
  rintro en w1 ⟨gP, rfl, ho, hb⟩
  have L1 : Hid (LawS w [] [⟨.slice (some ⟨gP, 0, none⟩) conf.length conf.length, 3, 1, conf.length, cellsI conf⟩] w1) := L0.out.call hb ho
  clear hb ho L0
  go_wp2_with fail
  refine Calls.mono (HSP.out _ _ (cellsI_own rfl (L1.out.row 0 rfl))) ?_
  rintro en w2 ⟨aW, cW, eW, dW, rfl, ho, hb⟩
  have L2 : Hid (LawS w [] [⟨.slice aW confR.length cW, 3, 1, confR.length, cellsI confR⟩, ⟨.slice (some ⟨gP, 0, none⟩) conf.length conf.length, 3, 1, conf.length, cellsI conf⟩] w2) := L1.out.call hb ho
  clear hb ho L1
  obtain ⟨W3, hW3⟩ : ∃ W3, W3 = w2.alloc (Obj.cells #[.int .i64 idR, .int .i64 0, .int .i64 0, .int .i64 0, .int .i64 0, .slice aW confR.length cW, .int .i64 0, .int .i64 0, .slice eW 0 dW, .int .i64 0, .int .i64 0, .int .i64 LR, .slice none 0 0, .slice none 0 0] 36) := ⟨_, rfl⟩
  have L3 : Hid (LawS w [(w2.heap.size, Obj.cells #[.int .i64 idR, .int .i64 0, .int .i64 0, .int .i64 0, .int .i64 0, .slice aW confR.length cW, .int .i64 0, .int .i64 0, .slice eW 0 dW, .int .i64 0, .int .i64 0, .int .i64 LR, .slice none 0 0, .slice none 0 0] 36)] [⟨.slice aW confR.length cW, 3, 1, confR.length, cellsI confR⟩, ⟨.slice (some ⟨gP, 0, none⟩) conf.length conf.length, 3, 1, conf.length, cellsI conf⟩] W3) := by show LawS _ _ _ _; rw [hW3]; exact L2.out.alloc _
  go_wp2_with fail
  rw [← hW3]
  clear hW3 L2
  obtain ⟨bW, hbW⟩ : ∃ b, b = w2.heap.size := ⟨_, rfl⟩
  rw [← hbW] at L3 ⊢
  clear hbW
  refine Calls.mono (HTO.out _ (HF.out.kept L3.out.below)) ?_
  rintro en w4 ⟨gX, rfl, ho, hb⟩
  have L4 : Hid (LawS w [(bW, Obj.cells #[.int .i64 idR, .int .i64 0, .int .i64 0, .int .i64 0, .int .i64 0, .slice aW confR.length cW, .int .i64 0, .int .i64 0, .slice eW 0 dW, .int .i64 0, .int .i64 0, .int .i64 LR, .slice none 0 0, .slice none 0 0] 36)] [⟨.slice (some ⟨gX, 0, none⟩) conf.length conf.length, 3, 1, conf.length, cellsI conf⟩, ⟨.slice aW confR.length cW, 3, 1, confR.length, cellsI confR⟩, ⟨.slice (some ⟨gP, 0, none⟩) conf.length conf.length, 3, 1, conf.length, cellsI conf⟩] w4) := L3.out.call hb ho
  clear hb ho L3
  go_wp2_with fail
  refine Calls.mono (HIM.out _ _ (cellsI_own rfl (L4.out.row 0 rfl))) ?_
  rintro en w5 ⟨aG, cG, eG, dG, rfl, ho, hb⟩
  have L5 : Hid (LawS w [(bW, Obj.cells #[.int .i64 idR, .int .i64 0, .int .i64 0, .int .i64 0, .int .i64 0, .slice aW confR.length cW, .int .i64 0, .int .i64 0, .slice eW 0 dW, .int .i64 0, .int .i64 0, .int .i64 LR, .slice none 0 0, .slice none 0 0] 36)] [⟨.slice aG confR.length cG, 3, 1, confR.length, cellsI confR⟩, ⟨.slice (some ⟨gX, 0, none⟩) conf.length conf.length, 3, 1, conf.length, cellsI conf⟩, ⟨.slice aW confR.length cW, 3, 1, confR.length, cellsI confR⟩, ⟨.slice (some ⟨gP, 0, none⟩) conf.length conf.length, 3, 1, conf.length, cellsI conf⟩] w5) := L4.out.call hb ho
  clear hb ho L4
  obtain ⟨W6, hW6⟩ : ∃ W6, W6 = w5.alloc (Obj.cells #[.int .i64 idR, .int .i64 0, .int .i64 0, .int .i64 0, .int .i64 0, .slice aG confR.length cG, .int .i64 0, .int .i64 0, .slice eG 0 dG, .int .i64 0, .int .i64 0, .int .i64 LR, .slice none 0 0, .slice none 0 0] 36) := ⟨_, rfl⟩
  have L6 : Hid (LawS w [(w5.heap.size, Obj.cells #[.int .i64 idR, .int .i64 0, .int .i64 0, .int .i64 0, .int .i64 0, .slice aG confR.length cG, .int .i64 0, .int .i64 0, .slice eG 0 dG, .int .i64 0, .int .i64 0, .int .i64 LR, .slice none 0 0, .slice none 0 0] 36), (bW, Obj.cells #[.int .i64 idR, .int .i64 0, .int .i64 0, .int .i64 0, .int .i64 0, .slice aW confR.length cW, .int .i64 0, .int .i64 0, .slice eW 0 dW, .int .i64 0, .int .i64 0, .int .i64 LR, .slice none 0 0, .slice none 0 0] 36)] [⟨.slice aG confR.length cG, 3, 1, confR.length, cellsI confR⟩, ⟨.slice (some ⟨gX, 0, none⟩) conf.length conf.length, 3, 1, conf.length, cellsI conf⟩, ⟨.slice aW confR.length cW, 3, 1, confR.length, cellsI confR⟩, ⟨.slice (some ⟨gP, 0, none⟩) conf.length conf.length, 3, 1, conf.length, cellsI conf⟩] W6) := by show LawS _ _ _ _; rw [hW6]; exact L5.out.alloc _
  have hG : (w5.alloc (Obj.cells #[.int .i64 idR, .int .i64 0, .int .i64 0, .int .i64 0, .int .i64 0, .slice aG confR.length cG, .int .i64 0, .int .i64 0, .slice eG 0 dG, .int .i64 0, .int .i64 0, .int .i64 LR, .slice none 0 0, .slice none 0 0] 36)).heap[w5.heap.size]? = some (.cells #[.int .i64 idR, .int .i64 0, .int .i64 0, .int .i64 0, .int .i64 0, .slice aG confR.length cG, .int .i64 0, .int .i64 0, .slice eG 0 dG, .int .i64 0, .int .i64 0, .int .i64 LR, .slice none 0 0, .slice none 0 0] 36 (0, 0)) := heap_alloc_new _ _
  have hG2 : (w5.alloc (Obj.cells #[.int .i64 idR, .int .i64 0, .int .i64 0, .int .i64 0, .int .i64 0, .slice aG confR.length cG, .int .i64 0, .int .i64 0, .slice eG 0 dG, .int .i64 0, .int .i64 0, .int .i64 LR, .slice none 0 0, .slice none 0 0] 36)).heap[bW]? = some (.cells #[.int .i64 idR, .int .i64 0, .int .i64 0, .int .i64 0, .int .i64 0, .slice aW confR.length cW, .int .i64 0, .int .i64 0, .slice eW 0 dW, .int .i64 0, .int .i64 0, .int .i64 LR, .slice none 0 0, .slice none 0 0] 36 (0, 0)) := by rw [← hW6]; exact L6.out.has _ (List.Mem.tail _ (List.Mem.head _))
  have HG : Hid ((w5.alloc (Obj.cells #[.int .i64 idR, .int .i64 0, .int .i64 0, .int .i64 0, .int .i64 0, .slice aG confR.length cG, .int .i64 0, .int .i64 0, .slice eG 0 dG, .int .i64 0, .int .i64 0, .int .i64 LR, .slice none 0 0, .slice none 0 0] 36)).heap[w5.heap.size]? = some (.cells #[.int .i64 idR, .int .i64 0, .int .i64 0, .int .i64 0, .int .i64 0, .slice aG confR.length cG, .int .i64 0, .int .i64 0, .slice eG 0 dG, .int .i64 0, .int .i64 0, .int .i64 LR, .slice none 0 0, .slice none 0 0] 36 (0, 0))) := hG
  have HG2 : Hid ((w5.alloc (Obj.cells #[.int .i64 idR, .int .i64 0, .int .i64 0, .int .i64 0, .int .i64 0, .slice aG confR.length cG, .int .i64 0, .int .i64 0, .slice eG 0 dG, .int .i64 0, .int .i64 0, .int .i64 LR, .slice none 0 0, .slice none 0 0] 36)).heap[bW]? = some (.cells #[.int .i64 idR, .int .i64 0, .int .i64 0, .int .i64 0, .int .i64 0, .slice aW confR.length cW, .int .i64 0, .int .i64 0, .slice eW 0 dW, .int .i64 0, .int .i64 0, .int .i64 LR, .slice none 0 0, .slice none 0 0] 36 (0, 0))) := hG2
  clear hG hG2
  go_wp2_with (first | (refine wpList_loadA Try.isAgg36 Try.sizeOf36 rfl _ rfl (w5.heap.size) #[.int .i64 idR, .int .i64 0, .int .i64 0, .int .i64 0, .int .i64 0, .slice aG confR.length cG, .int .i64 0, .int .i64 0, .slice eG 0 dG, .int .i64 0, .int .i64 0, .int .i64 LR, .slice none 0 0, .slice none 0 0] 36 rfl HG.out rfl ?_) | (refine wpList_loadA Try.isAgg36 Try.sizeOf36 rfl _ rfl bW #[.int .i64 idR, .int .i64 0, .int .i64 0, .int .i64 0, .int .i64 0, .slice aW confR.length cW, .int .i64 0, .int .i64 0, .slice eW 0 dW, .int .i64 0, .int .i64 0, .int .i64 LR, .slice none 0 0, .slice none 0 0] 36 rfl HG2.out rfl ?_) | fail)
  clear HG HG2
  rw [← hW6]
  clear hW6 L5
  obtain ⟨bG, hbG⟩ : ∃ b, b = w5.heap.size := ⟨_, rfl⟩
  rw [← hbG] at L6 ⊢
  clear hbG
  obtain ⟨_, q1, _, e1_, h1_⟩ := cellsI_slice (L6.out.row 0 rfl)
  cases e1_
  obtain ⟨_, q2, _, e2_, h2_⟩ := cellsI_slice (L6.out.row 2 rfl)
  cases e2_
  refine Calls.mono (eqNew idR LR confR HLR.out _ h1_ h2_) ?_
  rintro en w7 ⟨rfl, hb⟩
  have L7 : Hid (LawS w [(bG, Obj.cells #[.int .i64 idR, .int .i64 0, .int .i64 0, .int .i64 0, .int .i64 0, .slice aG confR.length cG, .int .i64 0, .int .i64 0, .slice eG 0 dG, .int .i64 0, .int .i64 0, .int .i64 LR, .slice none 0 0, .slice none 0 0] 36), (bW, Obj.cells #[.int .i64 idR, .int .i64 0, .int .i64 0, .int .i64 0, .int .i64 0, .slice aW confR.length cW, .int .i64 0, .int .i64 0, .slice eW 0 dW, .int .i64 0, .int .i64 0, .int .i64 LR, .slice none 0 0, .slice none 0 0] 36)] [⟨.slice aG confR.length cG, 3, 1, confR.length, cellsI confR⟩, ⟨.slice (some ⟨gX, 0, none⟩) conf.length conf.length, 3, 1, conf.length, cellsI conf⟩, ⟨.slice aW confR.length cW, 3, 1, confR.length, cellsI confR⟩, ⟨.slice (some ⟨gP, 0, none⟩) conf.length conf.length, 3, 1, conf.length, cellsI conf⟩] w7) := L6.out.step hb
  clear hb L6 h1_ h2_
  cases O
  all_goals
    go_wp2_with fail
    refine Calls.mono (HTO.out _ (HF.out.kept L7.out.below)) ?_
    rintro en w8 ⟨gT, rfl, ho, hb⟩
    have L8 : Hid (LawS w [(bG, Obj.cells #[.int .i64 idR, .int .i64 0, .int .i64 0, .int .i64 0, .int .i64 0, .slice aG confR.length cG, .int .i64 0, .int .i64 0, .slice eG 0 dG, .int .i64 0, .int .i64 0, .int .i64 LR, .slice none 0 0, .slice none 0 0] 36), (bW, Obj.cells #[.int .i64 idR, .int .i64 0, .int .i64 0, .int .i64 0, .int .i64 0, .slice aW confR.length cW, .int .i64 0, .int .i64 0, .slice eW 0 dW, .int .i64 0, .int .i64 0, .int .i64 LR, .slice none 0 0, .slice none 0 0] 36)] [⟨.slice (some ⟨gT, 0, none⟩) conf.length conf.length, 3, 1, conf.length, cellsI conf⟩, ⟨.slice aG confR.length cG, 3, 1, confR.length, cellsI confR⟩, ⟨.slice (some ⟨gX, 0, none⟩) conf.length conf.length, 3, 1, conf.length, cellsI conf⟩, ⟨.slice aW confR.length cW, 3, 1, confR.length, cellsI confR⟩, ⟨.slice (some ⟨gP, 0, none⟩) conf.length conf.length, 3, 1, conf.length, cellsI conf⟩] w8) := L7.out.call hb ho
    clear hb ho L7
    go_wp2_with fail
    refine Calls.mono (eqIntS_same conf HLC.out _ (cellsI_own rfl (L8.out.row 2 rfl)) (cellsI_own rfl (L8.out.row 0 rfl))) ?_
    rintro en w9 ⟨rfl, hb⟩
    have L9 : Hid (LawS w [(bG, Obj.cells #[.int .i64 idR, .int .i64 0, .int .i64 0, .int .i64 0, .int .i64 0, .slice aG confR.length cG, .int .i64 0, .int .i64 0, .slice eG 0 dG, .int .i64 0, .int .i64 0, .int .i64 LR, .slice none 0 0, .slice none 0 0] 36), (bW, Obj.cells #[.int .i64 idR, .int .i64 0, .int .i64 0, .int .i64 0, .int .i64 0, .slice aW confR.length cW, .int .i64 0, .int .i64 0, .slice eW 0 dW, .int .i64 0, .int .i64 0, .int .i64 LR, .slice none 0 0, .slice none 0 0] 36)] [⟨.slice (some ⟨gT, 0, none⟩) conf.length conf.length, 3, 1, conf.length, cellsI conf⟩, ⟨.slice aG confR.length cG, 3, 1, confR.length, cellsI confR⟩, ⟨.slice (some ⟨gX, 0, none⟩) conf.length conf.length, 3, 1, conf.length, cellsI conf⟩, ⟨.slice aW confR.length cW, 3, 1, confR.length, cellsI confR⟩, ⟨.slice (some ⟨gP, 0, none⟩) conf.length conf.length, 3, 1, conf.length, cellsI conf⟩] w9) := L8.out.step hb
    clear hb L8
    go_wp2_with fail
    refine Calls.mono (markIntS_own conf HLC.out 1 (by omega) _ (L9.out.row 2 rfl)) ?_
    rintro en w10 ⟨rfl, ho, hg⟩
    have L10 : Hid (LawS w [(bG, Obj.cells #[.int .i64 idR, .int .i64 0, .int .i64 0, .int .i64 0, .int .i64 0, .slice aG confR.length cG, .int .i64 0, .int .i64 0, .slice eG 0 dG, .int .i64 0, .int .i64 0, .int .i64 LR, .slice none 0 0, .slice none 0 0] 36), (bW, Obj.cells #[.int .i64 idR, .int .i64 0, .int .i64 0, .int .i64 0, .int .i64 0, .slice aW confR.length cW, .int .i64 0, .int .i64 0, .slice eW 0 dW, .int .i64 0, .int .i64 0, .int .i64 LR, .slice none 0 0, .slice none 0 0] 36)] [⟨.slice (some ⟨gT, 0, none⟩) conf.length conf.length, 3, 1, conf.length, cellsI conf⟩, ⟨.slice aG confR.length cG, 3, 1, confR.length, cellsI confR⟩, ⟨.slice (some ⟨gX, 0, none⟩) conf.length conf.length, 3, 1, conf.length, cellsI (marksI 1 conf.length)⟩, ⟨.slice aW confR.length cW, 3, 1, confR.length, cellsI confR⟩, ⟨.slice (some ⟨gP, 0, none⟩) conf.length conf.length, 3, 1, conf.length, cellsI conf⟩] w10) := L9.out.mark 2 rfl hg ho
    clear ho hg L9
    obtain ⟨M, hM⟩ : ∃ M : Nat, M = 1 + conf.length := ⟨_, rfl⟩
    rw [← hM]
    have hM0 : ¬ (M : Int) < 0 := by omega
    clear hM
    obtain ⟨p0, p1, p2, p3, p4, p5, p6, p7, p8, p9, p10, p11, p12, p13⟩ := nd_cells (L10.out.has _ (List.Mem.head _))
    obtain ⟨r0, r1, r2, r3, r4, r5, r6, r7, r8, r9, r10, r11, r12, r13⟩ := nd_cells (L10.out.has _ (List.Mem.tail _ (List.Mem.head _)))
    go_wp2_with fail
    clear p0 p1 p2 p3 p4 p5 p6 p7 p8 p9 p10 p11 p12 p13 r0 r1 r2 r3 r4 r5 r6 r7 r8 r9 r10 r11 r12 r13
    obtain ⟨_, q1, _, e1_, h1_⟩ := cellsI_slice (L10.out.row 1 rfl)
    cases e1_
    obtain ⟨_, q2, _, e2_, h2_⟩ := cellsI_slice (L10.out.row 3 rfl)
    cases e2_
    refine Calls.mono (eqNew idR LR confR HLR.out _ h1_ h2_) ?_
    rintro en w11 ⟨rfl, hb⟩
    have L11 : Hid (LawS w [(bG, Obj.cells #[.int .i64 idR, .int .i64 0, .int .i64 0, .int .i64 0, .int .i64 0, .slice aG confR.length cG, .int .i64 0, .int .i64 0, .slice eG 0 dG, .int .i64 0, .int .i64 0, .int .i64 LR, .slice none 0 0, .slice none 0 0] 36), (bW, Obj.cells #[.int .i64 idR, .int .i64 0, .int .i64 0, .int .i64 0, .int .i64 0, .slice aW confR.length cW, .int .i64 0, .int .i64 0, .slice eW 0 dW, .int .i64 0, .int .i64 0, .int .i64 LR, .slice none 0 0, .slice none 0 0] 36)] [⟨.slice (some ⟨gT, 0, none⟩) conf.length conf.length, 3, 1, conf.length, cellsI conf⟩, ⟨.slice aG confR.length cG, 3, 1, confR.length, cellsI confR⟩, ⟨.slice (some ⟨gX, 0, none⟩) conf.length conf.length, 3, 1, conf.length, cellsI (marksI 1 conf.length)⟩, ⟨.slice aW confR.length cW, 3, 1, confR.length, cellsI confR⟩, ⟨.slice (some ⟨gP, 0, none⟩) conf.length conf.length, 3, 1, conf.length, cellsI conf⟩] w11) := L10.out.step hb
    clear hb L10 h1_ h2_
    go_wp2_with (first | (refine wpList_loadA Try.isAgg36 Try.sizeOf36 rfl _ rfl bG #[.int .i64 idR, .int .i64 0, .int .i64 0, .int .i64 0, .int .i64 0, .slice aG confR.length cG, .int .i64 0, .int .i64 0, .slice eG 0 dG, .int .i64 0, .int .i64 0, .int .i64 LR, .slice none 0 0, .slice none 0 0] 36 rfl (L11.out.has _ (List.Mem.head _)) rfl ?_) | fail)
    refine Calls.mono (markNew_own idR LR confR rfl HLR.out _ (L11.out.row 1 rfl)) ?_
    rintro en w12 ⟨rfl, ho, hg⟩
    have L12 : Hid (LawS w [(bG, Obj.cells #[.int .i64 idR, .int .i64 0, .int .i64 0, .int .i64 0, .int .i64 0, .slice aG confR.length cG, .int .i64 0, .int .i64 0, .slice eG 0 dG, .int .i64 0, .int .i64 0, .int .i64 LR, .slice none 0 0, .slice none 0 0] 36), (bW, Obj.cells #[.int .i64 idR, .int .i64 0, .int .i64 0, .int .i64 0, .int .i64 0, .slice aW confR.length cW, .int .i64 0, .int .i64 0, .slice eW 0 dW, .int .i64 0, .int .i64 0, .int .i64 LR, .slice none 0 0, .slice none 0 0] 36)] [⟨.slice (some ⟨gT, 0, none⟩) conf.length conf.length, 3, 1, conf.length, cellsI conf⟩, ⟨.slice aG confR.length cG, 3, 1, confR.length, cellsI (marksI 1 confR.length)⟩, ⟨.slice (some ⟨gX, 0, none⟩) conf.length conf.length, 3, 1, conf.length, cellsI (marksI 1 conf.length)⟩, ⟨.slice aW confR.length cW, 3, 1, confR.length, cellsI confR⟩, ⟨.slice (some ⟨gP, 0, none⟩) conf.length conf.length, 3, 1, conf.length, cellsI conf⟩] w12) := L11.out.mark 1 rfl hg ho
    clear ho hg L11
    obtain ⟨Q, hQ⟩ : ∃ Q : Nat, Q = 1 + confR.length := ⟨_, rfl⟩
    have HQ : Hid (Q = 1 + confR.length) := hQ
    rw [← hQ]
    have hQ0 : ¬ (Q : Int) < 0 := by omega
    clear hQ
    go_wp2_with (first | (refine wpList_loadA Try.isAgg36 Try.sizeOf36 rfl _ rfl bG #[.int .i64 idR, .int .i64 0, .int .i64 0, .int .i64 0, .int .i64 0, .slice aG confR.length cG, .int .i64 0, .int .i64 0, .slice eG 0 dG, .int .i64 0, .int .i64 0, .int .i64 LR, .slice none 0 0, .slice none 0 0] 36 rfl (L12.out.has _ (List.Mem.head _)) rfl ?_) | fail)
    obtain ⟨q1, h1_⟩ := marksI_row (L12.out.row 1 rfl)
    have HN := heldNew_is (cc := cG) (ea := eG) (ec := dG) idR LR HLR.out _ h1_
    rw [← HQ.out] at HN
    refine Calls.mono HN ?_
    clear HN
    rintro en w13 ⟨rfl, hb⟩
    have L13 : Hid (LawS w [(bG, Obj.cells #[.int .i64 idR, .int .i64 0, .int .i64 0, .int .i64 0, .int .i64 0, .slice aG confR.length cG, .int .i64 0, .int .i64 0, .slice eG 0 dG, .int .i64 0, .int .i64 0, .int .i64 LR, .slice none 0 0, .slice none 0 0] 36), (bW, Obj.cells #[.int .i64 idR, .int .i64 0, .int .i64 0, .int .i64 0, .int .i64 0, .slice aW confR.length cW, .int .i64 0, .int .i64 0, .slice eW 0 dW, .int .i64 0, .int .i64 0, .int .i64 LR, .slice none 0 0, .slice none 0 0] 36)] [⟨.slice (some ⟨gT, 0, none⟩) conf.length conf.length, 3, 1, conf.length, cellsI conf⟩, ⟨.slice aG confR.length cG, 3, 1, confR.length, cellsI (marksI 1 confR.length)⟩, ⟨.slice (some ⟨gX, 0, none⟩) conf.length conf.length, 3, 1, conf.length, cellsI (marksI 1 conf.length)⟩, ⟨.slice aW confR.length cW, 3, 1, confR.length, cellsI confR⟩, ⟨.slice (some ⟨gP, 0, none⟩) conf.length conf.length, 3, 1, conf.length, cellsI conf⟩] w13) := L12.out.step hb
    clear hb L12 h1_
    go_wp2_with fail
    refine Calls.mono (HTO.out _ (HF.out.kept L13.out.below)) ?_
    rintro en w14 ⟨gQ, rfl, ho, hb⟩
    have L14 : Hid (LawS w [(bG, Obj.cells #[.int .i64 idR, .int .i64 0, .int .i64 0, .int .i64 0, .int .i64 0, .slice aG confR.length cG, .int .i64 0, .int .i64 0, .slice eG 0 dG, .int .i64 0, .int .i64 0, .int .i64 LR, .slice none 0 0, .slice none 0 0] 36), (bW, Obj.cells #[.int .i64 idR, .int .i64 0, .int .i64 0, .int .i64 0, .int .i64 0, .slice aW confR.length cW, .int .i64 0, .int .i64 0, .slice eW 0 dW, .int .i64 0, .int .i64 0, .int .i64 LR, .slice none 0 0, .slice none 0 0] 36)] [⟨.slice (some ⟨gQ, 0, none⟩) conf.length conf.length, 3, 1, conf.length, cellsI conf⟩, ⟨.slice (some ⟨gT, 0, none⟩) conf.length conf.length, 3, 1, conf.length, cellsI conf⟩, ⟨.slice aG confR.length cG, 3, 1, confR.length, cellsI (marksI 1 confR.length)⟩, ⟨.slice (some ⟨gX, 0, none⟩) conf.length conf.length, 3, 1, conf.length, cellsI (marksI 1 conf.length)⟩, ⟨.slice aW confR.length cW, 3, 1, confR.length, cellsI confR⟩, ⟨.slice (some ⟨gP, 0, none⟩) conf.length conf.length, 3, 1, conf.length, cellsI conf⟩] w14) := L13.out.call hb ho
    clear hb ho L13
    go_wp2_with fail
    refine Calls.mono (HIM.out _ _ (cellsI_own rfl (L14.out.row 0 rfl))) ?_
    rintro en w15 ⟨aH, cH, eH, dH, rfl, ho, hb⟩
    have L15 : Hid (LawS w [(bG, Obj.cells #[.int .i64 idR, .int .i64 0, .int .i64 0, .int .i64 0, .int .i64 0, .slice aG confR.length cG, .int .i64 0, .int .i64 0, .slice eG 0 dG, .int .i64 0, .int .i64 0, .int .i64 LR, .slice none 0 0, .slice none 0 0] 36), (bW, Obj.cells #[.int .i64 idR, .int .i64 0, .int .i64 0, .int .i64 0, .int .i64 0, .slice aW confR.length cW, .int .i64 0, .int .i64 0, .slice eW 0 dW, .int .i64 0, .int .i64 0, .int .i64 LR, .slice none 0 0, .slice none 0 0] 36)] [⟨.slice aH confR.length cH, 3, 1, confR.length, cellsI confR⟩, ⟨.slice (some ⟨gQ, 0, none⟩) conf.length conf.length, 3, 1, conf.length, cellsI conf⟩, ⟨.slice (some ⟨gT, 0, none⟩) conf.length conf.length, 3, 1, conf.length, cellsI conf⟩, ⟨.slice aG confR.length cG, 3, 1, confR.length, cellsI (marksI 1 confR.length)⟩, ⟨.slice (some ⟨gX, 0, none⟩) conf.length conf.length, 3, 1, conf.length, cellsI (marksI 1 conf.length)⟩, ⟨.slice aW confR.length cW, 3, 1, confR.length, cellsI confR⟩, ⟨.slice (some ⟨gP, 0, none⟩) conf.length conf.length, 3, 1, conf.length, cellsI conf⟩] w15) := L14.out.call hb ho
    clear hb ho L14
    obtain ⟨W16, hW16⟩ : ∃ W16, W16 = w15.alloc (Obj.cells #[.int .i64 idR, .int .i64 0, .int .i64 0, .int .i64 0, .int .i64 0, .slice aH confR.length cH, .int .i64 0, .int .i64 0, .slice eH 0 dH, .int .i64 0, .int .i64 0, .int .i64 LR, .slice none 0 0, .slice none 0 0] 36) := ⟨_, rfl⟩
    have L16 : Hid (LawS w [(w15.heap.size, Obj.cells #[.int .i64 idR, .int .i64 0, .int .i64 0, .int .i64 0, .int .i64 0, .slice aH confR.length cH, .int .i64 0, .int .i64 0, .slice eH 0 dH, .int .i64 0, .int .i64 0, .int .i64 LR, .slice none 0 0, .slice none 0 0] 36), (bG, Obj.cells #[.int .i64 idR, .int .i64 0, .int .i64 0, .int .i64 0, .int .i64 0, .slice aG confR.length cG, .int .i64 0, .int .i64 0, .slice eG 0 dG, .int .i64 0, .int .i64 0, .int .i64 LR, .slice none 0 0, .slice none 0 0] 36), (bW, Obj.cells #[.int .i64 idR, .int .i64 0, .int .i64 0, .int .i64 0, .int .i64 0, .slice aW confR.length cW, .int .i64 0, .int .i64 0, .slice eW 0 dW, .int .i64 0, .int .i64 0, .int .i64 LR, .slice none 0 0, .slice none 0 0] 36)] [⟨.slice aH confR.length cH, 3, 1, confR.length, cellsI confR⟩, ⟨.slice (some ⟨gQ, 0, none⟩) conf.length conf.length, 3, 1, conf.length, cellsI conf⟩, ⟨.slice (some ⟨gT, 0, none⟩) conf.length conf.length, 3, 1, conf.length, cellsI conf⟩, ⟨.slice aG confR.length cG, 3, 1, confR.length, cellsI (marksI 1 confR.length)⟩, ⟨.slice (some ⟨gX, 0, none⟩) conf.length conf.length, 3, 1, conf.length, cellsI (marksI 1 conf.length)⟩, ⟨.slice aW confR.length cW, 3, 1, confR.length, cellsI confR⟩, ⟨.slice (some ⟨gP, 0, none⟩) conf.length conf.length, 3, 1, conf.length, cellsI conf⟩] W16) := by show LawS _ _ _ _; rw [hW16]; exact L15.out.alloc _
    have HG : Hid ((w15.alloc (Obj.cells #[.int .i64 idR, .int .i64 0, .int .i64 0, .int .i64 0, .int .i64 0, .slice aH confR.length cH, .int .i64 0, .int .i64 0, .slice eH 0 dH, .int .i64 0, .int .i64 0, .int .i64 LR, .slice none 0 0, .slice none 0 0] 36)).heap[w15.heap.size]? = some (.cells #[.int .i64 idR, .int .i64 0, .int .i64 0, .int .i64 0, .int .i64 0, .slice aH confR.length cH, .int .i64 0, .int .i64 0, .slice eH 0 dH, .int .i64 0, .int .i64 0, .int .i64 LR, .slice none 0 0, .slice none 0 0] 36 (0, 0))) := heap_alloc_new _ _
    have HG2 : Hid ((w15.alloc (Obj.cells #[.int .i64 idR, .int .i64 0, .int .i64 0, .int .i64 0, .int .i64 0, .slice aH confR.length cH, .int .i64 0, .int .i64 0, .slice eH 0 dH, .int .i64 0, .int .i64 0, .int .i64 LR, .slice none 0 0, .slice none 0 0] 36)).heap[bW]? = some (.cells #[.int .i64 idR, .int .i64 0, .int .i64 0, .int .i64 0, .int .i64 0, .slice aW confR.length cW, .int .i64 0, .int .i64 0, .slice eW 0 dW, .int .i64 0, .int .i64 0, .int .i64 LR, .slice none 0 0, .slice none 0 0] 36 (0, 0))) := by show _ = _; rw [← hW16]; exact L16.out.has _ (List.Mem.tail _ (List.Mem.tail _ (List.Mem.head _)))
    go_wp2_with (first | (refine wpList_loadA Try.isAgg36 Try.sizeOf36 rfl _ rfl (w15.heap.size) #[.int .i64 idR, .int .i64 0, .int .i64 0, .int .i64 0, .int .i64 0, .slice aH confR.length cH, .int .i64 0, .int .i64 0, .slice eH 0 dH, .int .i64 0, .int .i64 0, .int .i64 LR, .slice none 0 0, .slice none 0 0] 36 rfl HG.out rfl ?_) | (refine wpList_loadA Try.isAgg36 Try.sizeOf36 rfl _ rfl bW #[.int .i64 idR, .int .i64 0, .int .i64 0, .int .i64 0, .int .i64 0, .slice aW confR.length cW, .int .i64 0, .int .i64 0, .slice eW 0 dW, .int .i64 0, .int .i64 0, .int .i64 LR, .slice none 0 0, .slice none 0 0] 36 rfl HG2.out rfl ?_) | fail)
    clear HG HG2
    rw [← hW16]
    clear hW16 L15
    obtain ⟨bH, hbH⟩ : ∃ b, b = w15.heap.size := ⟨_, rfl⟩
    rw [← hbH] at L16 ⊢
    clear hbH
    obtain ⟨_, q1, _, e1_, h1_⟩ := cellsI_slice (L16.out.row 0 rfl)
    cases e1_
    obtain ⟨_, q2, _, e2_, h2_⟩ := cellsI_slice (L16.out.row 5 rfl)
    cases e2_
    refine Calls.mono (eqNew idR LR confR HLR.out _ h1_ h2_) ?_
    rintro en w17 ⟨rfl, hb⟩
    have L17 : Hid (LawS w [(bH, Obj.cells #[.int .i64 idR, .int .i64 0, .int .i64 0, .int .i64 0, .int .i64 0, .slice aH confR.length cH, .int .i64 0, .int .i64 0, .slice eH 0 dH, .int .i64 0, .int .i64 0, .int .i64 LR, .slice none 0 0, .slice none 0 0] 36), (bG, Obj.cells #[.int .i64 idR, .int .i64 0, .int .i64 0, .int .i64 0, .int .i64 0, .slice aG confR.length cG, .int .i64 0, .int .i64 0, .slice eG 0 dG, .int .i64 0, .int .i64 0, .int .i64 LR, .slice none 0 0, .slice none 0 0] 36), (bW, Obj.cells #[.int .i64 idR, .int .i64 0, .int .i64 0, .int .i64 0, .int .i64 0, .slice aW confR.length cW, .int .i64 0, .int .i64 0, .slice eW 0 dW, .int .i64 0, .int .i64 0, .int .i64 LR, .slice none 0 0, .slice none 0 0] 36)] [⟨.slice aH confR.length cH, 3, 1, confR.length, cellsI confR⟩, ⟨.slice (some ⟨gQ, 0, none⟩) conf.length conf.length, 3, 1, conf.length, cellsI conf⟩, ⟨.slice (some ⟨gT, 0, none⟩) conf.length conf.length, 3, 1, conf.length, cellsI conf⟩, ⟨.slice aG confR.length cG, 3, 1, confR.length, cellsI (marksI 1 confR.length)⟩, ⟨.slice (some ⟨gX, 0, none⟩) conf.length conf.length, 3, 1, conf.length, cellsI (marksI 1 conf.length)⟩, ⟨.slice aW confR.length cW, 3, 1, confR.length, cellsI confR⟩, ⟨.slice (some ⟨gP, 0, none⟩) conf.length conf.length, 3, 1, conf.length, cellsI conf⟩] w17) := L16.out.step hb
    clear hb L16 h1_ h2_
    go_wp2_with (first | (refine wpList_loadA Try.isAgg36 Try.sizeOf36 rfl _ rfl bG #[.int .i64 idR, .int .i64 0, .int .i64 0, .int .i64 0, .int .i64 0, .slice aG confR.length cG, .int .i64 0, .int .i64 0, .slice eG 0 dG, .int .i64 0, .int .i64 0, .int .i64 LR, .slice none 0 0, .slice none 0 0] 36 rfl (L17.out.has _ (List.Mem.tail _ (List.Mem.head _))) rfl ?_) | fail)
    obtain ⟨q1, h1_⟩ := marksI_row (L17.out.row 3 rfl)
    have HN := heldNew_is (cc := cG) (ea := eG) (ec := dG) idR LR HLR.out _ h1_
    rw [← HQ.out] at HN
    refine Calls.mono HN ?_
    clear HN
    rintro en w18 ⟨rfl, hb⟩
    have L18 : Hid (LawS w [(bH, Obj.cells #[.int .i64 idR, .int .i64 0, .int .i64 0, .int .i64 0, .int .i64 0, .slice aH confR.length cH, .int .i64 0, .int .i64 0, .slice eH 0 dH, .int .i64 0, .int .i64 0, .int .i64 LR, .slice none 0 0, .slice none 0 0] 36), (bG, Obj.cells #[.int .i64 idR, .int .i64 0, .int .i64 0, .int .i64 0, .int .i64 0, .slice aG confR.length cG, .int .i64 0, .int .i64 0, .slice eG 0 dG, .int .i64 0, .int .i64 0, .int .i64 LR, .slice none 0 0, .slice none 0 0] 36), (bW, Obj.cells #[.int .i64 idR, .int .i64 0, .int .i64 0, .int .i64 0, .int .i64 0, .slice aW confR.length cW, .int .i64 0, .int .i64 0, .slice eW 0 dW, .int .i64 0, .int .i64 0, .int .i64 LR, .slice none 0 0, .slice none 0 0] 36)] [⟨.slice aH confR.length cH, 3, 1, confR.length, cellsI confR⟩, ⟨.slice (some ⟨gQ, 0, none⟩) conf.length conf.length, 3, 1, conf.length, cellsI conf⟩, ⟨.slice (some ⟨gT, 0, none⟩) conf.length conf.length, 3, 1, conf.length, cellsI conf⟩, ⟨.slice aG confR.length cG, 3, 1, confR.length, cellsI (marksI 1 confR.length)⟩, ⟨.slice (some ⟨gX, 0, none⟩) conf.length conf.length, 3, 1, conf.length, cellsI (marksI 1 conf.length)⟩, ⟨.slice aW confR.length cW, 3, 1, confR.length, cellsI confR⟩, ⟨.slice (some ⟨gP, 0, none⟩) conf.length conf.length, 3, 1, conf.length, cellsI conf⟩] w18) := L17.out.step hb
    clear hb L17 h1_
    go_wp2
    go_ret
    exact ⟨rfl, L18.out.below⟩

end Go.Proofs.Ytiifjhalkihlbaa
