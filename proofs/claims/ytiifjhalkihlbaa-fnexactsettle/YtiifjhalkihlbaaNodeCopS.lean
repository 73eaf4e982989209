/- The specification's l16Copy, walked: a node with lists of its own. Made by program. -/
import Derived.Test.YtiifjhalkihlbaaNodeCopy
namespace Go.Proofs.Ytiifjhalkihlbaa
open Go.RowKit Go.Lib
set_option linter.unusedVariables false
set_option linter.unusedSimpArgs false
theorem app_keep {X w4 : World} {o x : Obj} {b : Nat} (hb : X.heap[b]? = some x) (hg : (X.alloc o).grownBy w4 (some X.heap.size)) : w4.heap[b]? = some x := by
  have hl : b < X.heap.size := (Array.getElem?_eq_some_iff.1 hb).1
  rw [hg.block b (by simp; omega) (fun e => by cases e; omega), Below.heap_alloc _ _ _ hl]
  exact hb
theorem app_own {X w4 : World} {o : Obj} {B : Nat} {e : TypeId} {k n : Nat} {v : Value} {xs : List Value} (h : X.ownsRow B e k v n xs) (hg : (X.alloc o).grownBy w4 (some X.heap.size)) : w4.ownsRow B e k v n xs :=
  (h.alloc o).kept hg (Or.inr (fun q => by have := (h.lt _ q).2; omega))
theorem app_below {X w w4 : World} {o : Obj} {B : Nat} (h : Below B w X) (hB : B ≤ X.heap.size) (hg : (X.alloc o).grownBy w4 (some X.heap.size)) : Below B w w4 :=
  (h.alloc hB o).grown hg (by simp; omega) (fun k e => by cases e; exact hB)
theorem app_new (X : World) (e : TypeId) (k : Nat) : (X.alloc (.cells #[] e)).ownsRow X.heap.size e k (.slice (some ⟨X.heap.size, 0, none⟩) 0 0) 0 [] := by
  have ho := World.ownsRow_made (base := X.heap.size) (e := e) (size := k) X #[] 0 (Nat.le_refl _) (by unfold maxLen; omega) (by simp)
  simpa using ho
set_option maxHeartbeats 16000000 in
set_option maxRecDepth 100000 in
theorem specCopy_is {ca ea va pa : Option Addr} {cc ec vc pc gc oc ge oe gv ov gp op : Nat} (n : NodeL) (hs : NodeS n) (hn5 : ca = none → cc = 0) (hn8 : ea = none → ec = 0) (hn12 : va = none → vc = 0) (hn13 : pa = none → pc = 0) (w : World) (hR : NodeR w n ca gc oc ea ge oe va gv ov pa gp op) :
    Calls Try.prog 45 #[.agg #[.int .i64 n.id, .int .i64 n.term, .int .i64 n.vote, .int .i64 n.role, .int .i64 n.lead, .slice ca n.conf.length cc, .int .i64 n.log.start, .int .i64 n.log.sterm, .slice ea n.log.ents.length ec, .int .i64 n.commit, .int .i64 n.clock, .int .i64 n.limit, .slice va n.votes.length vc, .slice pa n.peers.length pc]] w (CopyPost w n) := by
  obtain ⟨W2, hW2⟩ : ∃ W2, W2 = (w.alloc (.cells #[.int .i64 n.id, .int .i64 n.term, .int .i64 n.vote, .int .i64 n.role, .int .i64 n.lead, .slice ca n.conf.length cc, .int .i64 n.log.start, .int .i64 n.log.sterm, .slice ea n.log.ents.length ec, .int .i64 n.commit, .int .i64 n.clock, .int .i64 n.limit, .slice va n.votes.length vc, .slice pa n.peers.length pc] 36)).alloc (.cells zeroN 36) := ⟨_, rfl⟩
  have hB2 : Below w.heap.size w W2 := by rw [hW2]; exact ((Below.refl _ _).alloc (Nat.le_refl _) _).alloc (by simp) _
  have HE0 : Hid (W2.heap[w.heap.size]? = some (.cells (part4 n (Value.slice ca n.conf.length cc) (Value.slice ea n.log.ents.length ec) (Value.slice va n.votes.length vc) (Value.slice pa n.peers.length pc)) 36 (0, 0))) := by
    show _ = _
    rw [hW2, Below.heap_alloc _ _ _ (by simp)]
    exact heap_alloc_new w _
  have HZ0 : Hid (W2.heap[w.heap.size + 1]? = some (.cells zeroN 36 (0, 0))) := by
    show _ = _
    rw [hW2]
    have := heap_alloc_new (w.alloc (.cells #[.int .i64 n.id, .int .i64 n.term, .int .i64 n.vote, .int .i64 n.role, .int .i64 n.lead, .slice ca n.conf.length cc, .int .i64 n.log.start, .int .i64 n.log.sterm, .slice ea n.log.ents.length ec, .int .i64 n.commit, .int .i64 n.clock, .int .i64 n.limit, .slice va n.votes.length vc, .slice pa n.peers.length pc] 36)) (.cells zeroN 36)
    simpa using this
  have HB0 : Hid (Below w.heap.size w W2) := hB2
  have HR : Hid (∀ X, Below w.heap.size w X → NodeR X n ca gc oc ea ge oe va gv ov pa gp op) := fun X h => hR.kept h
  have HS : Hid (NodeS n) := hs
  have HN0 : Hid (ca = none → cc = 0) := hn5
  have HN1 : Hid (ea = none → ec = 0) := hn8
  have HN2 : Hid (va = none → vc = 0) := hn12
  have HN3 : Hid (pa = none → pc = 0) := hn13
  have HWD : Hid ((w.alloc (Obj.cells #[.int .i64 n.id, .int .i64 n.term, .int .i64 n.vote, .int .i64 n.role, .int .i64 n.lead, .slice ca n.conf.length cc, .int .i64 n.log.start, .int .i64 n.log.sterm, .slice ea n.log.ents.length ec, .int .i64 n.commit, .int .i64 n.clock, .int .i64 n.limit, .slice va n.votes.length vc, .slice pa n.peers.length pc] 36)).alloc (Obj.cells #[.int .i64 0, .int .i64 0, .int .i64 0, .int .i64 0, .int .i64 0, .slice none 0 0, .int .i64 0, .int .i64 0, .slice none 0 0, .int .i64 0, .int .i64 0, .int .i64 0, .slice none 0 0, .slice none 0 0] 36) = W2) := hW2.symm
  clear hB2 hR hs hW2 hn5 hn8 hn12 hn13
  go_enter Try.func45, Try.ntmps45
  go_upto_region 1 with fail
  rw [HWD.out]
  clear HWD
  have OW : Hid ((W2.alloc (Obj.cells #[] 3)).ownsRow W2.heap.size 3 1 (.slice (some ⟨W2.heap.size, 0, none⟩) 0 0) 0 []) := app_new W2 3 1
  have HF : Hid (NodeR (W2.alloc (Obj.cells #[] 3)) n ca gc oc ea ge oe va gv ov pa gp op) := HR.out _ (HB0.out.alloc HB0.out.size _)
  have a5 : W2.cell? ⟨w.heap.size, 5, none⟩ = some (Value.slice ca n.conf.length cc) := cell_of_row _ _ 5 _ _ _ HE0.out
  have b5 : (W2.alloc (Obj.cells #[] 3)).cell? ⟨w.heap.size, 5, none⟩ = some (Value.slice ca n.conf.length cc) := cell_of_row _ _ 5 _ _ _ ((Below.heap_alloc _ _ _ (Array.getElem?_eq_some_iff.1 HE0.out).1).trans HE0.out)
  have hlim := HS.out.conf
  go_upto_region 2 with (first | (refine wpList_appendI rfl _ _ rfl W2.heap.size _ 0 [] rfl OW.out ca gc oc cc n.conf rfl HF.out.conf HN0.out (by omega) (by simp) ?_; intro v1 w3 ho1 hg1; rw [Nat.zero_add, List.nil_append] at ho1; obtain ⟨a1, c1, hv⟩ := own_slice ho1; subst hv; have HG : Hid (World.grownBy (W2.alloc (Obj.cells #[] 3)) w3 (some W2.heap.size)) := hg1; have HOW : Hid (w3.ownsRow W2.heap.size 3 1 (Value.slice a1 n.conf.length c1) n.conf.length (cellsI n.conf)) := ho1; clear ho1 hg1; have o5 : w3.cell? ⟨w.heap.size, 5, none⟩ = some (Value.slice ca n.conf.length cc) := cell_of_row _ _ 5 _ _ _ (app_keep HE0.out HG.out); have of5 := frozen_of_row _ _ 5 _ _ (app_keep HE0.out HG.out)) | fail)
  clear a5 b5 o5 of5 hlim OW HF
  have HEa : Hid (w3.heap[w.heap.size]? = some (.cells (part4 n (Value.slice ca n.conf.length cc) (Value.slice ea n.log.ents.length ec) (Value.slice va n.votes.length vc) (Value.slice pa n.peers.length pc)) 36 (0, 0))) := app_keep HE0.out HG.out
  have HZa : Hid (w3.heap[w.heap.size + 1]? = some (.cells zeroN 36 (0, 0))) := app_keep HZ0.out HG.out
  have HBa : Hid (Below w.heap.size w w3) := app_below HB0.out HB0.out.size HG.out
  have HO1a : Hid (w3.ownsRow w.heap.size 3 1 (Value.slice a1 n.conf.length c1) n.conf.length (cellsI n.conf)) := own_mono HOW.out HB0.out.size
  clear HG HOW HE0 HZ0 HB0 
  obtain ⟨X3, hX3⟩ : ∃ X, X = (w3.setCell ⟨w.heap.size, 5, none⟩ (Value.slice a1 n.conf.length c1)) := ⟨_, rfl⟩
  have HE1 : Hid (X3.heap[w.heap.size]? = some (.cells (part4 n (Value.slice a1 n.conf.length c1) (Value.slice ea n.log.ents.length ec) (Value.slice va n.votes.length vc) (Value.slice pa n.peers.length pc)) 36 (0, 0))) := by
    show _ = _
    rw [hX3]
    have := heap_setCell_same _ w.heap.size 5 _ 36 (Value.slice a1 n.conf.length c1) HEa.out
    simpa [part4] using this
  have HZ1 : Hid (X3.heap[w.heap.size + 1]? = some (.cells zeroN 36 (0, 0))) := by show _ = _; rw [hX3]; exact set_far HZa.out (by omega) _ _
  have HB1 : Hid (Below w.heap.size w X3) := by show Below _ _ _; rw [hX3]; exact HBa.out.setCell (Nat.le_refl _) _
  have HO1_1 : Hid (X3.ownsRow w.heap.size 3 1 (Value.slice a1 n.conf.length c1) n.conf.length (cellsI n.conf)) := by show World.ownsRow _ _ _ _ _ _ _; rw [hX3]; exact own_set HO1a.out _ _ _ (own_not HO1a.out HEa.out (by decide))
  rw [← hX3]
  clear hX3 HEa HZa HBa HO1a
  have OW : Hid ((X3.alloc (Obj.cells #[] 74)).ownsRow X3.heap.size 74 3 (.slice (some ⟨X3.heap.size, 0, none⟩) 0 0) 0 []) := app_new X3 74 3
  have HF : Hid (NodeR (X3.alloc (Obj.cells #[] 74)) n ca gc oc ea ge oe va gv ov pa gp op) := HR.out _ (HB1.out.alloc HB1.out.size _)
  have a8 : X3.cell? ⟨w.heap.size, 8, none⟩ = some (Value.slice ea n.log.ents.length ec) := cell_of_row _ _ 8 _ _ _ HE1.out
  have b8 : (X3.alloc (Obj.cells #[] 74)).cell? ⟨w.heap.size, 8, none⟩ = some (Value.slice ea n.log.ents.length ec) := cell_of_row _ _ 8 _ _ _ ((Below.heap_alloc _ _ _ (Array.getElem?_eq_some_iff.1 HE1.out).1).trans HE1.out)
  have hlim := HS.out.ents
  go_upto_region 3 with (first | (refine wpList_appendEn rfl _ _ rfl X3.heap.size _ 0 [] rfl OW.out ea ge oe ec n.log.ents rfl HF.out.ents HN1.out (by omega) (by simp) ?_; intro v1 w4 ho1 hg1; rw [Nat.zero_add, List.nil_append] at ho1; obtain ⟨a2, c2, hv⟩ := own_slice ho1; subst hv; have HG : Hid (World.grownBy (X3.alloc (Obj.cells #[] 74)) w4 (some X3.heap.size)) := hg1; have HOW : Hid (w4.ownsRow X3.heap.size 74 3 (Value.slice a2 n.log.ents.length c2) n.log.ents.length (cellsEn n.log.ents)) := ho1; clear ho1 hg1; have o8 : w4.cell? ⟨w.heap.size, 8, none⟩ = some (Value.slice ea n.log.ents.length ec) := cell_of_row _ _ 8 _ _ _ (app_keep HE1.out HG.out); have of8 := frozen_of_row _ _ 8 _ _ (app_keep HE1.out HG.out)) | fail)
  clear a8 b8 o8 of8 hlim OW HF
  have HEa : Hid (w4.heap[w.heap.size]? = some (.cells (part4 n (Value.slice a1 n.conf.length c1) (Value.slice ea n.log.ents.length ec) (Value.slice va n.votes.length vc) (Value.slice pa n.peers.length pc)) 36 (0, 0))) := app_keep HE1.out HG.out
  have HZa : Hid (w4.heap[w.heap.size + 1]? = some (.cells zeroN 36 (0, 0))) := app_keep HZ1.out HG.out
  have HBa : Hid (Below w.heap.size w w4) := app_below HB1.out HB1.out.size HG.out
  have HO2a : Hid (w4.ownsRow w.heap.size 74 3 (Value.slice a2 n.log.ents.length c2) n.log.ents.length (cellsEn n.log.ents)) := own_mono HOW.out HB1.out.size
  have HO1a : Hid (w4.ownsRow w.heap.size 3 1 (Value.slice a1 n.conf.length c1) n.conf.length (cellsI n.conf)) := app_own HO1_1.out HG.out
  clear HG HOW HE1 HZ1 HB1 HO1_1
  obtain ⟨X4, hX4⟩ : ∃ X, X = (w4.setCell ⟨w.heap.size, 8, none⟩ (Value.slice a2 n.log.ents.length c2)) := ⟨_, rfl⟩
  have HE2 : Hid (X4.heap[w.heap.size]? = some (.cells (part4 n (Value.slice a1 n.conf.length c1) (Value.slice a2 n.log.ents.length c2) (Value.slice va n.votes.length vc) (Value.slice pa n.peers.length pc)) 36 (0, 0))) := by
    show _ = _
    rw [hX4]
    have := heap_setCell_same _ w.heap.size 8 _ 36 (Value.slice a2 n.log.ents.length c2) HEa.out
    simpa [part4] using this
  have HZ2 : Hid (X4.heap[w.heap.size + 1]? = some (.cells zeroN 36 (0, 0))) := by show _ = _; rw [hX4]; exact set_far HZa.out (by omega) _ _
  have HB2 : Hid (Below w.heap.size w X4) := by show Below _ _ _; rw [hX4]; exact HBa.out.setCell (Nat.le_refl _) _
  have HO1_2 : Hid (X4.ownsRow w.heap.size 3 1 (Value.slice a1 n.conf.length c1) n.conf.length (cellsI n.conf)) := by show World.ownsRow _ _ _ _ _ _ _; rw [hX4]; exact own_set HO1a.out _ _ _ (own_not HO1a.out HEa.out (by decide))
  have HO2_2 : Hid (X4.ownsRow w.heap.size 74 3 (Value.slice a2 n.log.ents.length c2) n.log.ents.length (cellsEn n.log.ents)) := by show World.ownsRow _ _ _ _ _ _ _; rw [hX4]; exact own_set HO2a.out _ _ _ (own_not HO2a.out HEa.out (by decide))
  rw [← hX4]
  clear hX4 HEa HZa HBa HO1a HO2a
  have OW : Hid ((X4.alloc (Obj.cells #[] 3)).ownsRow X4.heap.size 3 1 (.slice (some ⟨X4.heap.size, 0, none⟩) 0 0) 0 []) := app_new X4 3 1
  have HF : Hid (NodeR (X4.alloc (Obj.cells #[] 3)) n ca gc oc ea ge oe va gv ov pa gp op) := HR.out _ (HB2.out.alloc HB2.out.size _)
  have a12 : X4.cell? ⟨w.heap.size, 12, none⟩ = some (Value.slice va n.votes.length vc) := cell_of_row _ _ 12 _ _ _ HE2.out
  have b12 : (X4.alloc (Obj.cells #[] 3)).cell? ⟨w.heap.size, 12, none⟩ = some (Value.slice va n.votes.length vc) := cell_of_row _ _ 12 _ _ _ ((Below.heap_alloc _ _ _ (Array.getElem?_eq_some_iff.1 HE2.out).1).trans HE2.out)
  have hlim := HS.out.votes
  go_upto_region 4 with (first | (refine wpList_appendI rfl _ _ rfl X4.heap.size _ 0 [] rfl OW.out va gv ov vc n.votes rfl HF.out.votes HN2.out (by omega) (by simp) ?_; intro v1 w5 ho1 hg1; rw [Nat.zero_add, List.nil_append] at ho1; obtain ⟨a3, c3, hv⟩ := own_slice ho1; subst hv; have HG : Hid (World.grownBy (X4.alloc (Obj.cells #[] 3)) w5 (some X4.heap.size)) := hg1; have HOW : Hid (w5.ownsRow X4.heap.size 3 1 (Value.slice a3 n.votes.length c3) n.votes.length (cellsI n.votes)) := ho1; clear ho1 hg1; have o12 : w5.cell? ⟨w.heap.size, 12, none⟩ = some (Value.slice va n.votes.length vc) := cell_of_row _ _ 12 _ _ _ (app_keep HE2.out HG.out); have of12 := frozen_of_row _ _ 12 _ _ (app_keep HE2.out HG.out)) | fail)
  clear a12 b12 o12 of12 hlim OW HF
  have HAP : Hid ((Value.slice a1 n.conf.length c1).ownBlock = none ∨ (Value.slice a1 n.conf.length c1).ownBlock ≠ (Value.slice a3 n.votes.length c3).ownBlock) := by
    show _ ∨ _
    cases hk : (Value.slice a1 n.conf.length c1).ownBlock with
    | none => exact Or.inl rfl
    | some k =>
      refine Or.inr (fun e => ?_)
      have h1 := (HO1_2.out.lt k hk).2
      have h2 := (HOW.out.lt k e.symm).1
      omega
  have HEa : Hid (w5.heap[w.heap.size]? = some (.cells (part4 n (Value.slice a1 n.conf.length c1) (Value.slice a2 n.log.ents.length c2) (Value.slice va n.votes.length vc) (Value.slice pa n.peers.length pc)) 36 (0, 0))) := app_keep HE2.out HG.out
  have HZa : Hid (w5.heap[w.heap.size + 1]? = some (.cells zeroN 36 (0, 0))) := app_keep HZ2.out HG.out
  have HBa : Hid (Below w.heap.size w w5) := app_below HB2.out HB2.out.size HG.out
  have HO3a : Hid (w5.ownsRow w.heap.size 3 1 (Value.slice a3 n.votes.length c3) n.votes.length (cellsI n.votes)) := own_mono HOW.out HB2.out.size
  have HO1a : Hid (w5.ownsRow w.heap.size 3 1 (Value.slice a1 n.conf.length c1) n.conf.length (cellsI n.conf)) := app_own HO1_2.out HG.out
  have HO2a : Hid (w5.ownsRow w.heap.size 74 3 (Value.slice a2 n.log.ents.length c2) n.log.ents.length (cellsEn n.log.ents)) := app_own HO2_2.out HG.out
  clear HG HOW HE2 HZ2 HB2 HO1_2 HO2_2
  obtain ⟨X5, hX5⟩ : ∃ X, X = (w5.setCell ⟨w.heap.size, 12, none⟩ (Value.slice a3 n.votes.length c3)) := ⟨_, rfl⟩
  have HE3 : Hid (X5.heap[w.heap.size]? = some (.cells (part4 n (Value.slice a1 n.conf.length c1) (Value.slice a2 n.log.ents.length c2) (Value.slice a3 n.votes.length c3) (Value.slice pa n.peers.length pc)) 36 (0, 0))) := by
    show _ = _
    rw [hX5]
    have := heap_setCell_same _ w.heap.size 12 _ 36 (Value.slice a3 n.votes.length c3) HEa.out
    simpa [part4] using this
  have HZ3 : Hid (X5.heap[w.heap.size + 1]? = some (.cells zeroN 36 (0, 0))) := by show _ = _; rw [hX5]; exact set_far HZa.out (by omega) _ _
  have HB3 : Hid (Below w.heap.size w X5) := by show Below _ _ _; rw [hX5]; exact HBa.out.setCell (Nat.le_refl _) _
  have HO1_3 : Hid (X5.ownsRow w.heap.size 3 1 (Value.slice a1 n.conf.length c1) n.conf.length (cellsI n.conf)) := by show World.ownsRow _ _ _ _ _ _ _; rw [hX5]; exact own_set HO1a.out _ _ _ (own_not HO1a.out HEa.out (by decide))
  have HO2_3 : Hid (X5.ownsRow w.heap.size 74 3 (Value.slice a2 n.log.ents.length c2) n.log.ents.length (cellsEn n.log.ents)) := by show World.ownsRow _ _ _ _ _ _ _; rw [hX5]; exact own_set HO2a.out _ _ _ (own_not HO2a.out HEa.out (by decide))
  have HO3_3 : Hid (X5.ownsRow w.heap.size 3 1 (Value.slice a3 n.votes.length c3) n.votes.length (cellsI n.votes)) := by show World.ownsRow _ _ _ _ _ _ _; rw [hX5]; exact own_set HO3a.out _ _ _ (own_not HO3a.out HEa.out (by decide))
  rw [← hX5]
  clear hX5 HEa HZa HBa HO1a HO2a HO3a
  have OW : Hid ((X5.alloc (Obj.cells #[] 60)).ownsRow X5.heap.size 60 4 (.slice (some ⟨X5.heap.size, 0, none⟩) 0 0) 0 []) := app_new X5 60 4
  have HF : Hid (NodeR (X5.alloc (Obj.cells #[] 60)) n ca gc oc ea ge oe va gv ov pa gp op) := HR.out _ (HB3.out.alloc HB3.out.size _)
  have a13 : X5.cell? ⟨w.heap.size, 13, none⟩ = some (Value.slice pa n.peers.length pc) := cell_of_row _ _ 13 _ _ _ HE3.out
  have b13 : (X5.alloc (Obj.cells #[] 60)).cell? ⟨w.heap.size, 13, none⟩ = some (Value.slice pa n.peers.length pc) := cell_of_row _ _ 13 _ _ _ ((Below.heap_alloc _ _ _ (Array.getElem?_eq_some_iff.1 HE3.out).1).trans HE3.out)
  have hlim := HS.out.peers
  go_upto_region 5 with (first | (refine wpList_appendPe rfl _ _ rfl X5.heap.size _ 0 [] rfl OW.out pa gp op pc n.peers rfl HF.out.peers HN3.out (by omega) (by simp) ?_; intro v1 w6 ho1 hg1; rw [Nat.zero_add, List.nil_append] at ho1; obtain ⟨a4, c4, hv⟩ := own_slice ho1; subst hv; have HG : Hid (World.grownBy (X5.alloc (Obj.cells #[] 60)) w6 (some X5.heap.size)) := hg1; have HOW : Hid (w6.ownsRow X5.heap.size 60 4 (Value.slice a4 n.peers.length c4) n.peers.length (cellsPe n.peers)) := ho1; clear ho1 hg1; have o13 : w6.cell? ⟨w.heap.size, 13, none⟩ = some (Value.slice pa n.peers.length pc) := cell_of_row _ _ 13 _ _ _ (app_keep HE3.out HG.out); have of13 := frozen_of_row _ _ 13 _ _ (app_keep HE3.out HG.out)) | fail)
  clear a13 b13 o13 of13 hlim OW HF
  have HEa : Hid (w6.heap[w.heap.size]? = some (.cells (part4 n (Value.slice a1 n.conf.length c1) (Value.slice a2 n.log.ents.length c2) (Value.slice a3 n.votes.length c3) (Value.slice pa n.peers.length pc)) 36 (0, 0))) := app_keep HE3.out HG.out
  have HZa : Hid (w6.heap[w.heap.size + 1]? = some (.cells zeroN 36 (0, 0))) := app_keep HZ3.out HG.out
  have HBa : Hid (Below w.heap.size w w6) := app_below HB3.out HB3.out.size HG.out
  have HO4a : Hid (w6.ownsRow w.heap.size 60 4 (Value.slice a4 n.peers.length c4) n.peers.length (cellsPe n.peers)) := own_mono HOW.out HB3.out.size
  have HO1a : Hid (w6.ownsRow w.heap.size 3 1 (Value.slice a1 n.conf.length c1) n.conf.length (cellsI n.conf)) := app_own HO1_3.out HG.out
  have HO2a : Hid (w6.ownsRow w.heap.size 74 3 (Value.slice a2 n.log.ents.length c2) n.log.ents.length (cellsEn n.log.ents)) := app_own HO2_3.out HG.out
  have HO3a : Hid (w6.ownsRow w.heap.size 3 1 (Value.slice a3 n.votes.length c3) n.votes.length (cellsI n.votes)) := app_own HO3_3.out HG.out
  clear HG HOW HE3 HZ3 HB3 HO1_3 HO2_3 HO3_3
  obtain ⟨X6, hX6⟩ : ∃ X, X = (w6.setCell ⟨w.heap.size, 13, none⟩ (Value.slice a4 n.peers.length c4)) := ⟨_, rfl⟩
  have HE4 : Hid (X6.heap[w.heap.size]? = some (.cells (part4 n (Value.slice a1 n.conf.length c1) (Value.slice a2 n.log.ents.length c2) (Value.slice a3 n.votes.length c3) (Value.slice a4 n.peers.length c4)) 36 (0, 0))) := by
    show _ = _
    rw [hX6]
    have := heap_setCell_same _ w.heap.size 13 _ 36 (Value.slice a4 n.peers.length c4) HEa.out
    simpa [part4] using this
  have HZ4 : Hid (X6.heap[w.heap.size + 1]? = some (.cells zeroN 36 (0, 0))) := by show _ = _; rw [hX6]; exact set_far HZa.out (by omega) _ _
  have HB4 : Hid (Below w.heap.size w X6) := by show Below _ _ _; rw [hX6]; exact HBa.out.setCell (Nat.le_refl _) _
  have HO1_4 : Hid (X6.ownsRow w.heap.size 3 1 (Value.slice a1 n.conf.length c1) n.conf.length (cellsI n.conf)) := by show World.ownsRow _ _ _ _ _ _ _; rw [hX6]; exact own_set HO1a.out _ _ _ (own_not HO1a.out HEa.out (by decide))
  have HO2_4 : Hid (X6.ownsRow w.heap.size 74 3 (Value.slice a2 n.log.ents.length c2) n.log.ents.length (cellsEn n.log.ents)) := by show World.ownsRow _ _ _ _ _ _ _; rw [hX6]; exact own_set HO2a.out _ _ _ (own_not HO2a.out HEa.out (by decide))
  have HO3_4 : Hid (X6.ownsRow w.heap.size 3 1 (Value.slice a3 n.votes.length c3) n.votes.length (cellsI n.votes)) := by show World.ownsRow _ _ _ _ _ _ _; rw [hX6]; exact own_set HO3a.out _ _ _ (own_not HO3a.out HEa.out (by decide))
  have HO4_4 : Hid (X6.ownsRow w.heap.size 60 4 (Value.slice a4 n.peers.length c4) n.peers.length (cellsPe n.peers)) := by show World.ownsRow _ _ _ _ _ _ _; rw [hX6]; exact own_set HO4a.out _ _ _ (own_not HO4a.out HEa.out (by decide))
  rw [← hX6]
  clear hX6 HEa HZa HBa HO1a HO2a HO3a HO4a
  have HONE : Hid (∀ v ∈ (part4 n (Value.slice a1 n.conf.length c1) (Value.slice a2 n.log.ents.length c2) (Value.slice a3 n.votes.length c3) (Value.slice a4 n.peers.length c4)).toList, v.oneCell' = true) := part4_one n _ _ _ _ _ _ _ _ _ _ _ _
  go_wp2_with (first | (refine wpList_loadA Try.isAgg36 Try.sizeOf36 rfl _ rfl w.heap.size (part4 n (Value.slice a1 n.conf.length c1) (Value.slice a2 n.log.ents.length c2) (Value.slice a3 n.votes.length c3) (Value.slice a4 n.peers.length c4)) 36 rfl HE4.out rfl ?_) | (refine wpList_storeA Try.sizeOf36 rfl _ _ rfl (w.heap.size + 1) (part4 n (Value.slice a1 n.conf.length c1) (Value.slice a2 n.log.ents.length c2) (Value.slice a3 n.votes.length c3) (Value.slice a4 n.peers.length c4)) zeroN 36 rfl rfl HZ4.out rfl rfl HONE.out ?_) | fail)
  refine bodyPost_ret (resultC rfl HZ4.out rfl rfl) rfl ⟨a1, c1, a2, c2, a3, c3, a4, c4, rfl, ⟨?_, ?_, ?_, ?_, HAP.out⟩, below_rowN HB4.out (by omega) _⟩
  · exact own_rowN HO1_4.out _ _ (own_not HO1_4.out HZ4.out (by decide))
  · exact own_rowN HO2_4.out _ _ (own_not HO2_4.out HZ4.out (by decide))
  · exact own_rowN HO3_4.out _ _ (own_not HO3_4.out HZ4.out (by decide))
  · exact own_rowN HO4_4.out _ _ (own_not HO4_4.out HZ4.out (by decide))
end Go.Proofs.Ytiifjhalkihlbaa
