/- toNode of the laws, walked: a node with lists of its own. Made by program. -/
import Derived.Test.YtiifjhalkihlbaaNodeA
import Derived.Test.YtiifjhalkihlbaaLogArg
import Derived.Test.YtiifjhalkihlbaaAgg
namespace Go.Proofs.Ytiifjhalkihlbaa
open Go.RowKit
set_option linter.unusedVariables false
set_option linter.unusedSimpArgs false
theorem own_rowN {B : Nat} {e : TypeId} {k : Nat} {v : Value} {n : Nat} {xs : List Value} {w : World} (h : w.ownsRow B e k v n xs) (g : Nat) (A : Array Value) (hne : v.ownBlock ≠ some g) : (w.setRow g A).ownsRow B e k v n xs :=
  h.kept (grown_setRow w g A) (Or.inr hne)
theorem below_rowN {w w' : World} (h : Below w.heap.size w w') {g : Nat} (hg : w.heap.size ≤ g) (A : Array Value) : Below w.heap.size w (w'.setRow g A) := h.grown (grown_setRow w' g A) h.size (fun k e => by cases e; exact hg)
def partN (n : NodeL) (v5 : Value) (s t : Int) (v8 : Value) (c k l : Int) (v12 v13 : Value) : Array Value := #[.int .i64 n.id, .int .i64 n.term, .int .i64 n.vote, .int .i64 n.role, .int .i64 n.lead, v5, .int .i64 s, .int .i64 t, v8, .int .i64 c, .int .i64 k, .int .i64 l, v12, v13]
def zeroN : Array Value := #[.int .i64 0, .int .i64 0, .int .i64 0, .int .i64 0, .int .i64 0, .slice none 0 0, .int .i64 0, .int .i64 0, .slice none 0 0, .int .i64 0, .int .i64 0, .int .i64 0, .slice none 0 0, .slice none 0 0]
theorem toNode_one (n : NodeL) (a1 a2 a3 a4 : Option Addr) (c1 c2 c3 c4 l1 l2 l3 l4 : Nat) : ∀ v ∈ (partN n (.slice a1 l1 c1) n.log.start n.log.sterm (.slice a2 l2 c2) n.commit n.clock n.limit (.slice a3 l3 c3) (.slice a4 l4 c4)).toList, v.oneCell' = true := by
  intro v hv
  simp [partN] at hv
  rcases hv with rfl | rfl | rfl | rfl | rfl | rfl | rfl | rfl | rfl | rfl | rfl | rfl | rfl | rfl <;> rfl
theorem resultN {w : World} {g : Nat} {A C : Array Value} (hg : w.heap[g]? = some (.cells C 36 (0, 0))) (hs : A.size = 14) {tmps : Array Value} (ht : tmps.getD 2 undef = .pointer (some ⟨g, 0, none⟩)) : (results Try.f8 tmps).run Try.prog (w.setRow g A) = .ok (.agg A) (w.setRow g A) := by
  have h := run_loadVar_agg (P := Try.prog) Try.isAgg36 Try.sizeOf36 (row_size (A := A) hg) hs
  have ht' : tmps[2]?.getD undef = .pointer (some ⟨g, 0, none⟩) := by simpa using ht
  simp [results, Try.results8, ht', asAddr, h]
/-- A node whose lists the call owns. -/
structure NodeOwn (w : World) (B : Nat) (n : NodeL) (g1 g2 g3 g4 : Nat) : Prop where
  conf : w.ownsRow B 3 1 (.slice (some ⟨g1, 0, none⟩) n.conf.length n.conf.length) n.conf.length (cellsI n.conf)
  ents : w.ownsRow B 74 3 (.slice (some ⟨g2, 0, none⟩) n.log.ents.length n.log.ents.length) n.log.ents.length (cellsEn n.log.ents)
  votes : w.ownsRow B 3 1 (.slice (some ⟨g3, 0, none⟩) n.votes.length n.votes.length) n.votes.length (cellsI n.votes)
  peers : w.ownsRow B 60 4 (.slice (some ⟨g4, 0, none⟩) n.peers.length n.peers.length) n.peers.length (cellsPe n.peers)
  ne : g1 ≠ g3
set_option maxHeartbeats 16000000 in
set_option maxRecDepth 100000 in
theorem toNode_any {ca ea va pa : Option Addr} {cc ec vc pc gc oc ge oe gv ov gp op : Nat} (n : NodeL) (hs : NodeS n) (w : World) (hR : NodeR w n ca gc oc ea ge oe va gv ov pa gp op) :
    Calls Try.prog 8 #[.agg #[.int .i64 n.id, .int .i64 n.term, .int .i64 n.vote, .int .i64 n.role, .int .i64 n.lead, .slice ca n.conf.length cc, .int .i64 n.log.start, .int .i64 n.log.sterm, .slice ea n.log.ents.length ec, .int .i64 n.commit, .int .i64 n.clock, .int .i64 n.limit, .slice va n.votes.length vc, .slice pa n.peers.length pc]] w fun e w' => ∃ g1 g2 g3 g4 : Nat, e = .returned (nodeV n (some ⟨g1, 0, none⟩) n.conf.length (some ⟨g2, 0, none⟩) n.log.ents.length (some ⟨g3, 0, none⟩) n.votes.length (some ⟨g4, 0, none⟩) n.peers.length) ∧ NodeOwn w' w.heap.size n g1 g2 g3 g4 ∧ Below w.heap.size w w' := by
  obtain ⟨W2, hW2⟩ : ∃ W2, W2 = ((w.alloc (.cells #[.int .i64 n.id, .int .i64 n.term, .int .i64 n.vote, .int .i64 n.role, .int .i64 n.lead, .slice ca n.conf.length cc, .int .i64 n.log.start, .int .i64 n.log.sterm, .slice ea n.log.ents.length ec, .int .i64 n.commit, .int .i64 n.clock, .int .i64 n.limit, .slice va n.votes.length vc, .slice pa n.peers.length pc] 28)).alloc (.cells zeroN 36)).alloc (.cells (partN n (.slice none 0 0) 0 0 (.slice none 0 0) 0 0 0 (.slice none 0 0) (.slice none 0 0)) 36) := ⟨_, rfl⟩
  obtain ⟨q, hq⟩ : ∃ q, q = w.heap.size := ⟨_, rfl⟩
  have hB2 : Below w.heap.size w W2 := by rw [hW2]; exact (((Below.refl _ _).alloc (Nat.le_refl _) _).alloc (by simp) _).alloc (by simp; omega) _
  have HAW2 : Hid (W2.heap[q]? = some (.cells #[.int .i64 n.id, .int .i64 n.term, .int .i64 n.vote, .int .i64 n.role, .int .i64 n.lead, .slice ca n.conf.length cc, .int .i64 n.log.start, .int .i64 n.log.sterm, .slice ea n.log.ents.length ec, .int .i64 n.commit, .int .i64 n.clock, .int .i64 n.limit, .slice va n.votes.length vc, .slice pa n.peers.length pc] 28 (0, 0))) := by
    show _ = _
    rw [hW2, hq, Below.heap_alloc _ _ _ (by simp; omega), Below.heap_alloc _ _ _ (by simp)]
    exact heap_alloc_new w _
  have HZW2 : Hid (W2.heap[q + 1]? = some (.cells zeroN 36 (0, 0))) := by
    show _ = _
    rw [hW2, hq, Below.heap_alloc _ _ _ (by simp)]
    have := heap_alloc_new (w.alloc (.cells #[.int .i64 n.id, .int .i64 n.term, .int .i64 n.vote, .int .i64 n.role, .int .i64 n.lead, .slice ca n.conf.length cc, .int .i64 n.log.start, .int .i64 n.log.sterm, .slice ea n.log.ents.length ec, .int .i64 n.commit, .int .i64 n.clock, .int .i64 n.limit, .slice va n.votes.length vc, .slice pa n.peers.length pc] 28)) (.cells zeroN 36)
    simpa using this
  have HEW2 : Hid (W2.heap[q + 1 + 1]? = some (.cells (partN n (.slice none 0 0) 0 0 (.slice none 0 0) 0 0 0 (.slice none 0 0) (.slice none 0 0)) 36 (0, 0))) := by
    show _ = _
    rw [hW2, hq]
    have := heap_alloc_new ((w.alloc (.cells #[.int .i64 n.id, .int .i64 n.term, .int .i64 n.vote, .int .i64 n.role, .int .i64 n.lead, .slice ca n.conf.length cc, .int .i64 n.log.start, .int .i64 n.log.sterm, .slice ea n.log.ents.length ec, .int .i64 n.commit, .int .i64 n.clock, .int .i64 n.limit, .slice va n.votes.length vc, .slice pa n.peers.length pc] 28)).alloc (.cells zeroN 36)) (.cells (partN n (.slice none 0 0) 0 0 (.slice none 0 0) 0 0 0 (.slice none 0 0) (.slice none 0 0)) 36)
    simpa using this
  have HQ : Hid (q = w.heap.size) := hq
  have HBW2 : Hid (Below w.heap.size w W2) := hB2
  have HR : Hid (∀ X, Below w.heap.size w X → NodeR X n ca gc oc ea ge oe va gv ov pa gp op) := fun X h => hR.kept h
  have HS : Hid (NodeS n) := hs
  have HM : Hid (Calls Try.prog 12 #[.slice ca n.conf.length cc] W2 fun e w' => e = .returned (.slice (some ⟨W2.heap.size, 0, none⟩) n.conf.length n.conf.length) ∧ w'.ownsRow W2.heap.size 3 1 (.slice (some ⟨W2.heap.size, 0, none⟩) n.conf.length n.conf.length) n.conf.length (cellsI n.conf) ∧ Below W2.heap.size W2 w') := toIntS_is n.conf hs.conf W2 (hR.kept hB2).conf
  have HWD : Hid (((w.alloc (Obj.cells #[.int .i64 n.id, .int .i64 n.term, .int .i64 n.vote, .int .i64 n.role, .int .i64 n.lead, .slice ca n.conf.length cc, .int .i64 n.log.start, .int .i64 n.log.sterm, .slice ea n.log.ents.length ec, .int .i64 n.commit, .int .i64 n.clock, .int .i64 n.limit, .slice va n.votes.length vc, .slice pa n.peers.length pc] 28)).alloc (Obj.cells #[.int .i64 0, .int .i64 0, .int .i64 0, .int .i64 0, .int .i64 0, .slice none 0 0, .int .i64 0, .int .i64 0, .slice none 0 0, .int .i64 0, .int .i64 0, .int .i64 0, .slice none 0 0, .slice none 0 0] 36)).alloc (Obj.cells #[.int .i64 n.id, .int .i64 n.term, .int .i64 n.vote, .int .i64 n.role, .int .i64 n.lead, .slice none 0 0, .int .i64 0, .int .i64 0, .slice none 0 0, .int .i64 0, .int .i64 0, .int .i64 0, .slice none 0 0, .slice none 0 0] 36) = W2) := hW2.symm
  clear hB2 hR hs hW2
  go_enter Try.func8, Try.ntmps8
  go_wp2_with fail
  rw [HWD.out, ← hq]
  clear HWD hq
  refine Calls.mono HM.out ?_
  rintro e w3 ⟨rfl, hown, hb3⟩
  have HEw3 : Hid (w3.heap[q + 1 + 1]? = some (.cells (partN n (.slice none 0 0) 0 0 (.slice none 0 0) 0 0 0 (.slice none 0 0) (.slice none 0 0)) 36 (0, 0))) := (hb3.block _ (Array.getElem?_eq_some_iff.1 HEW2.out).1).trans HEW2.out
  have HZw3 : Hid (w3.heap[q + 1]? = some (.cells zeroN 36 (0, 0))) := (hb3.block _ (Array.getElem?_eq_some_iff.1 HZW2.out).1).trans HZW2.out
  have HAw3 : Hid (w3.heap[q]? = some (.cells #[.int .i64 n.id, .int .i64 n.term, .int .i64 n.vote, .int .i64 n.role, .int .i64 n.lead, .slice ca n.conf.length cc, .int .i64 n.log.start, .int .i64 n.log.sterm, .slice ea n.log.ents.length ec, .int .i64 n.commit, .int .i64 n.clock, .int .i64 n.limit, .slice va n.votes.length vc, .slice pa n.peers.length pc] 28 (0, 0))) := (hb3.block _ (Array.getElem?_eq_some_iff.1 HAW2.out).1).trans HAW2.out
  have HBw3 : Hid (Below w.heap.size w w3) := HBW2.out.trans (hb3.mono HBW2.out.size)
  obtain ⟨g1, hg⟩ : ∃ g, g = W2.heap.size := ⟨_, rfl⟩
  rw [← hg] at hown ⊢
  have HO1w3 : Hid (w3.ownsRow w.heap.size 3 1 (Value.slice (some ⟨g1, 0, none⟩) n.conf.length n.conf.length) n.conf.length (cellsI n.conf)) := own_mono hown (by rw [hg]; exact HBW2.out.size)
  clear hown hg
  have HEm2 : Hid ((w3.setCell ⟨q + 1 + 1, 5, none⟩ (Value.slice (some ⟨g1, 0, none⟩) n.conf.length n.conf.length)).heap[q + 1 + 1]? = some (.cells (partN n (Value.slice (some ⟨g1, 0, none⟩) n.conf.length n.conf.length) 0 0 (.slice none 0 0) 0 0 0 (.slice none 0 0) (.slice none 0 0)) 36 (0, 0))) := by
    show _ = _
    have := heap_setCell_same _ (q + 1 + 1) 5 _ 36 (Value.slice (some ⟨g1, 0, none⟩) n.conf.length n.conf.length) HEw3.out
    simpa [partN] using this
  have HZm2 : Hid ((w3.setCell ⟨q + 1 + 1, 5, none⟩ (Value.slice (some ⟨g1, 0, none⟩) n.conf.length n.conf.length)).heap[q + 1]? = some (.cells zeroN 36 (0, 0))) := set_far HZw3.out (by omega) _ _
  have HAm2 : Hid ((w3.setCell ⟨q + 1 + 1, 5, none⟩ (Value.slice (some ⟨g1, 0, none⟩) n.conf.length n.conf.length)).heap[q]? = some (.cells #[.int .i64 n.id, .int .i64 n.term, .int .i64 n.vote, .int .i64 n.role, .int .i64 n.lead, .slice ca n.conf.length cc, .int .i64 n.log.start, .int .i64 n.log.sterm, .slice ea n.log.ents.length ec, .int .i64 n.commit, .int .i64 n.clock, .int .i64 n.limit, .slice va n.votes.length vc, .slice pa n.peers.length pc] 28 (0, 0))) := set_far HAw3.out (by omega) _ _
  have HBm2 : Hid (Below w.heap.size w (w3.setCell ⟨q + 1 + 1, 5, none⟩ (Value.slice (some ⟨g1, 0, none⟩) n.conf.length n.conf.length))) := HBw3.out.setCell (by have := HQ.out; show w.heap.size ≤ q + 1 + 1; omega) _
  have HO1m2 : Hid ((w3.setCell ⟨q + 1 + 1, 5, none⟩ (Value.slice (some ⟨g1, 0, none⟩) n.conf.length n.conf.length)).ownsRow w.heap.size 3 1 (Value.slice (some ⟨g1, 0, none⟩) n.conf.length n.conf.length) n.conf.length (cellsI n.conf)) := own_set HO1w3.out _ _ _ (own_not HO1w3.out HEw3.out (by decide))
  obtain ⟨X3, hX3⟩ : ∃ X3, X3 = (w3.setCell ⟨q + 1 + 1, 5, none⟩ (Value.slice (some ⟨g1, 0, none⟩) n.conf.length n.conf.length)) := ⟨_, rfl⟩
  have o0_5 : w3.cell? ⟨q + 1 + 1, 5, none⟩ = some (.slice none 0 0) := cell_of_row _ _ 5 _ _ _ HEw3.out
  have of0_5 := frozen_of_row _ _ 5 _ _ HEw3.out
  have a0_6 : w3.cell? ⟨q, 6, none⟩ = some (.int .i64 n.log.start) := cell_of_row _ _ 6 _ _ _ HAw3.out
  have a0_7 : w3.cell? ⟨q, 7, none⟩ = some (.int .i64 n.log.sterm) := cell_of_row _ _ 7 _ _ _ HAw3.out
  have a0_8 : w3.cell? ⟨q, 8, none⟩ = some (.slice ea n.log.ents.length ec) := cell_of_row _ _ 8 _ _ _ HAw3.out
  have a1_6 : (w3.setCell ⟨q + 1 + 1, 5, none⟩ (Value.slice (some ⟨g1, 0, none⟩) n.conf.length n.conf.length)).cell? ⟨q, 6, none⟩ = some (.int .i64 n.log.start) := cell_of_row _ _ 6 _ _ _ HAm2.out
  have a1_7 : (w3.setCell ⟨q + 1 + 1, 5, none⟩ (Value.slice (some ⟨g1, 0, none⟩) n.conf.length n.conf.length)).cell? ⟨q, 7, none⟩ = some (.int .i64 n.log.sterm) := cell_of_row _ _ 7 _ _ _ HAm2.out
  have a1_8 : (w3.setCell ⟨q + 1 + 1, 5, none⟩ (Value.slice (some ⟨g1, 0, none⟩) n.conf.length n.conf.length)).cell? ⟨q, 8, none⟩ = some (.slice ea n.log.ents.length ec) := cell_of_row _ _ 8 _ _ _ HAm2.out
  have HEX3 : Hid (X3.heap[q + 1 + 1]? = some (.cells (partN n (Value.slice (some ⟨g1, 0, none⟩) n.conf.length n.conf.length) 0 0 (.slice none 0 0) 0 0 0 (.slice none 0 0) (.slice none 0 0)) 36 (0, 0))) := by rw [hX3]; exact HEm2
  have HZX3 : Hid (X3.heap[q + 1]? = some (.cells zeroN 36 (0, 0))) := by rw [hX3]; exact HZm2
  have HAX3 : Hid (X3.heap[q]? = some (.cells #[.int .i64 n.id, .int .i64 n.term, .int .i64 n.vote, .int .i64 n.role, .int .i64 n.lead, .slice ca n.conf.length cc, .int .i64 n.log.start, .int .i64 n.log.sterm, .slice ea n.log.ents.length ec, .int .i64 n.commit, .int .i64 n.clock, .int .i64 n.limit, .slice va n.votes.length vc, .slice pa n.peers.length pc] 28 (0, 0))) := by rw [hX3]; exact HAm2
  have HBX3 : Hid (Below w.heap.size w X3) := by rw [hX3]; exact HBm2
  have HO1X3 : Hid (X3.ownsRow w.heap.size 3 1 (Value.slice (some ⟨g1, 0, none⟩) n.conf.length n.conf.length) n.conf.length (cellsI n.conf)) := by rw [hX3]; exact HO1m2
  have HM2 : Hid (Calls Try.prog 30 #[.agg #[.int .i64 n.log.start, .int .i64 n.log.sterm, .slice ea n.log.ents.length ec]] X3 fun e w' => ∃ g1 : Nat, e = .returned (logV n.log (some ⟨g1, 0, none⟩) n.log.ents.length) ∧ w'.ownsRow X3.heap.size 74 3 (.slice (some ⟨g1, 0, none⟩) n.log.ents.length n.log.ents.length) n.log.ents.length (cellsEn n.log.ents) ∧ Below X3.heap.size X3 w') := toLog_any n.log HS.out.ents X3 (HR.out X3 HBX3.out).ents
  clear HM HEw3 HZw3 HAw3 HBw3 HO1w3 HEW2 HZW2 HAW2 HBW2 hb3 HEm2 HZm2 HAm2 HBm2 HO1m2
  go_wp2_with fail
  rw [← hX3]
  clear hX3 o0_5 of0_5 a0_6 a0_7 a0_8 a1_6 a1_7 a1_8
  refine Calls.mono HM2.out ?_
  rintro e w4 ⟨g2, rfl, hown, hb4⟩
  unfold logV
  have HEw4 : Hid (w4.heap[q + 1 + 1]? = some (.cells (partN n (Value.slice (some ⟨g1, 0, none⟩) n.conf.length n.conf.length) 0 0 (.slice none 0 0) 0 0 0 (.slice none 0 0) (.slice none 0 0)) 36 (0, 0))) := (hb4.block _ (Array.getElem?_eq_some_iff.1 HEX3.out).1).trans HEX3.out
  have HZw4 : Hid (w4.heap[q + 1]? = some (.cells zeroN 36 (0, 0))) := (hb4.block _ (Array.getElem?_eq_some_iff.1 HZX3.out).1).trans HZX3.out
  have HAw4 : Hid (w4.heap[q]? = some (.cells #[.int .i64 n.id, .int .i64 n.term, .int .i64 n.vote, .int .i64 n.role, .int .i64 n.lead, .slice ca n.conf.length cc, .int .i64 n.log.start, .int .i64 n.log.sterm, .slice ea n.log.ents.length ec, .int .i64 n.commit, .int .i64 n.clock, .int .i64 n.limit, .slice va n.votes.length vc, .slice pa n.peers.length pc] 28 (0, 0))) := (hb4.block _ (Array.getElem?_eq_some_iff.1 HAX3.out).1).trans HAX3.out
  have HBw4 : Hid (Below w.heap.size w w4) := HBX3.out.trans (hb4.mono HBX3.out.size)
  have HO1w4 : Hid (w4.ownsRow w.heap.size 3 1 (Value.slice (some ⟨g1, 0, none⟩) n.conf.length n.conf.length) n.conf.length (cellsI n.conf)) := own_kept HO1X3.out hb4
  have HO2w4 : Hid (w4.ownsRow w.heap.size 74 3 (Value.slice (some ⟨g2, 0, none⟩) n.log.ents.length n.log.ents.length) n.log.ents.length (cellsEn n.log.ents)) := own_mono hown HBX3.out.size
  clear hown HM2
  have HEm2 : Hid ((w4.setCell ⟨q + 1 + 1, 6, none⟩ (.int .i64 n.log.start)).heap[q + 1 + 1]? = some (.cells (partN n (Value.slice (some ⟨g1, 0, none⟩) n.conf.length n.conf.length) n.log.start 0 (.slice none 0 0) 0 0 0 (.slice none 0 0) (.slice none 0 0)) 36 (0, 0))) := by
    show _ = _
    have := heap_setCell_same _ (q + 1 + 1) 6 _ 36 (.int .i64 n.log.start) HEw4.out
    simpa [partN] using this
  have HZm2 : Hid ((w4.setCell ⟨q + 1 + 1, 6, none⟩ (.int .i64 n.log.start)).heap[q + 1]? = some (.cells zeroN 36 (0, 0))) := set_far HZw4.out (by omega) _ _
  have HAm2 : Hid ((w4.setCell ⟨q + 1 + 1, 6, none⟩ (.int .i64 n.log.start)).heap[q]? = some (.cells #[.int .i64 n.id, .int .i64 n.term, .int .i64 n.vote, .int .i64 n.role, .int .i64 n.lead, .slice ca n.conf.length cc, .int .i64 n.log.start, .int .i64 n.log.sterm, .slice ea n.log.ents.length ec, .int .i64 n.commit, .int .i64 n.clock, .int .i64 n.limit, .slice va n.votes.length vc, .slice pa n.peers.length pc] 28 (0, 0))) := set_far HAw4.out (by omega) _ _
  have HBm2 : Hid (Below w.heap.size w (w4.setCell ⟨q + 1 + 1, 6, none⟩ (.int .i64 n.log.start))) := HBw4.out.setCell (by have := HQ.out; show w.heap.size ≤ q + 1 + 1; omega) _
  have HO1m2 : Hid ((w4.setCell ⟨q + 1 + 1, 6, none⟩ (.int .i64 n.log.start)).ownsRow w.heap.size 3 1 (Value.slice (some ⟨g1, 0, none⟩) n.conf.length n.conf.length) n.conf.length (cellsI n.conf)) := own_set HO1w4.out _ _ _ (own_not HO1w4.out HEw4.out (by decide))
  have HO2m2 : Hid ((w4.setCell ⟨q + 1 + 1, 6, none⟩ (.int .i64 n.log.start)).ownsRow w.heap.size 74 3 (Value.slice (some ⟨g2, 0, none⟩) n.log.ents.length n.log.ents.length) n.log.ents.length (cellsEn n.log.ents)) := own_set HO2w4.out _ _ _ (own_not HO2w4.out HEw4.out (by decide))
  have HEm3 : Hid (((w4.setCell ⟨q + 1 + 1, 6, none⟩ (.int .i64 n.log.start)).setCell ⟨q + 1 + 1, 7, none⟩ (.int .i64 n.log.sterm)).heap[q + 1 + 1]? = some (.cells (partN n (Value.slice (some ⟨g1, 0, none⟩) n.conf.length n.conf.length) n.log.start n.log.sterm (.slice none 0 0) 0 0 0 (.slice none 0 0) (.slice none 0 0)) 36 (0, 0))) := by
    show _ = _
    have := heap_setCell_same _ (q + 1 + 1) 7 _ 36 (.int .i64 n.log.sterm) HEm2.out
    simpa [partN] using this
  have HZm3 : Hid (((w4.setCell ⟨q + 1 + 1, 6, none⟩ (.int .i64 n.log.start)).setCell ⟨q + 1 + 1, 7, none⟩ (.int .i64 n.log.sterm)).heap[q + 1]? = some (.cells zeroN 36 (0, 0))) := set_far HZm2.out (by omega) _ _
  have HAm3 : Hid (((w4.setCell ⟨q + 1 + 1, 6, none⟩ (.int .i64 n.log.start)).setCell ⟨q + 1 + 1, 7, none⟩ (.int .i64 n.log.sterm)).heap[q]? = some (.cells #[.int .i64 n.id, .int .i64 n.term, .int .i64 n.vote, .int .i64 n.role, .int .i64 n.lead, .slice ca n.conf.length cc, .int .i64 n.log.start, .int .i64 n.log.sterm, .slice ea n.log.ents.length ec, .int .i64 n.commit, .int .i64 n.clock, .int .i64 n.limit, .slice va n.votes.length vc, .slice pa n.peers.length pc] 28 (0, 0))) := set_far HAm2.out (by omega) _ _
  have HBm3 : Hid (Below w.heap.size w ((w4.setCell ⟨q + 1 + 1, 6, none⟩ (.int .i64 n.log.start)).setCell ⟨q + 1 + 1, 7, none⟩ (.int .i64 n.log.sterm))) := HBm2.out.setCell (by have := HQ.out; show w.heap.size ≤ q + 1 + 1; omega) _
  have HO1m3 : Hid (((w4.setCell ⟨q + 1 + 1, 6, none⟩ (.int .i64 n.log.start)).setCell ⟨q + 1 + 1, 7, none⟩ (.int .i64 n.log.sterm)).ownsRow w.heap.size 3 1 (Value.slice (some ⟨g1, 0, none⟩) n.conf.length n.conf.length) n.conf.length (cellsI n.conf)) := own_set HO1m2.out _ _ _ (own_not HO1m2.out HEm2.out (by decide))
  have HO2m3 : Hid (((w4.setCell ⟨q + 1 + 1, 6, none⟩ (.int .i64 n.log.start)).setCell ⟨q + 1 + 1, 7, none⟩ (.int .i64 n.log.sterm)).ownsRow w.heap.size 74 3 (Value.slice (some ⟨g2, 0, none⟩) n.log.ents.length n.log.ents.length) n.log.ents.length (cellsEn n.log.ents)) := own_set HO2m2.out _ _ _ (own_not HO2m2.out HEm2.out (by decide))
  have HEm4 : Hid ((((w4.setCell ⟨q + 1 + 1, 6, none⟩ (.int .i64 n.log.start)).setCell ⟨q + 1 + 1, 7, none⟩ (.int .i64 n.log.sterm)).setCell ⟨q + 1 + 1, 8, none⟩ (Value.slice (some ⟨g2, 0, none⟩) n.log.ents.length n.log.ents.length)).heap[q + 1 + 1]? = some (.cells (partN n (Value.slice (some ⟨g1, 0, none⟩) n.conf.length n.conf.length) n.log.start n.log.sterm (Value.slice (some ⟨g2, 0, none⟩) n.log.ents.length n.log.ents.length) 0 0 0 (.slice none 0 0) (.slice none 0 0)) 36 (0, 0))) := by
    show _ = _
    have := heap_setCell_same _ (q + 1 + 1) 8 _ 36 (Value.slice (some ⟨g2, 0, none⟩) n.log.ents.length n.log.ents.length) HEm3.out
    simpa [partN] using this
  have HZm4 : Hid ((((w4.setCell ⟨q + 1 + 1, 6, none⟩ (.int .i64 n.log.start)).setCell ⟨q + 1 + 1, 7, none⟩ (.int .i64 n.log.sterm)).setCell ⟨q + 1 + 1, 8, none⟩ (Value.slice (some ⟨g2, 0, none⟩) n.log.ents.length n.log.ents.length)).heap[q + 1]? = some (.cells zeroN 36 (0, 0))) := set_far HZm3.out (by omega) _ _
  have HAm4 : Hid ((((w4.setCell ⟨q + 1 + 1, 6, none⟩ (.int .i64 n.log.start)).setCell ⟨q + 1 + 1, 7, none⟩ (.int .i64 n.log.sterm)).setCell ⟨q + 1 + 1, 8, none⟩ (Value.slice (some ⟨g2, 0, none⟩) n.log.ents.length n.log.ents.length)).heap[q]? = some (.cells #[.int .i64 n.id, .int .i64 n.term, .int .i64 n.vote, .int .i64 n.role, .int .i64 n.lead, .slice ca n.conf.length cc, .int .i64 n.log.start, .int .i64 n.log.sterm, .slice ea n.log.ents.length ec, .int .i64 n.commit, .int .i64 n.clock, .int .i64 n.limit, .slice va n.votes.length vc, .slice pa n.peers.length pc] 28 (0, 0))) := set_far HAm3.out (by omega) _ _
  have HBm4 : Hid (Below w.heap.size w (((w4.setCell ⟨q + 1 + 1, 6, none⟩ (.int .i64 n.log.start)).setCell ⟨q + 1 + 1, 7, none⟩ (.int .i64 n.log.sterm)).setCell ⟨q + 1 + 1, 8, none⟩ (Value.slice (some ⟨g2, 0, none⟩) n.log.ents.length n.log.ents.length))) := HBm3.out.setCell (by have := HQ.out; show w.heap.size ≤ q + 1 + 1; omega) _
  have HO1m4 : Hid ((((w4.setCell ⟨q + 1 + 1, 6, none⟩ (.int .i64 n.log.start)).setCell ⟨q + 1 + 1, 7, none⟩ (.int .i64 n.log.sterm)).setCell ⟨q + 1 + 1, 8, none⟩ (Value.slice (some ⟨g2, 0, none⟩) n.log.ents.length n.log.ents.length)).ownsRow w.heap.size 3 1 (Value.slice (some ⟨g1, 0, none⟩) n.conf.length n.conf.length) n.conf.length (cellsI n.conf)) := own_set HO1m3.out _ _ _ (own_not HO1m3.out HEm3.out (by decide))
  have HO2m4 : Hid ((((w4.setCell ⟨q + 1 + 1, 6, none⟩ (.int .i64 n.log.start)).setCell ⟨q + 1 + 1, 7, none⟩ (.int .i64 n.log.sterm)).setCell ⟨q + 1 + 1, 8, none⟩ (Value.slice (some ⟨g2, 0, none⟩) n.log.ents.length n.log.ents.length)).ownsRow w.heap.size 74 3 (Value.slice (some ⟨g2, 0, none⟩) n.log.ents.length n.log.ents.length) n.log.ents.length (cellsEn n.log.ents)) := own_set HO2m3.out _ _ _ (own_not HO2m3.out HEm3.out (by decide))
  have HEm5 : Hid (((((w4.setCell ⟨q + 1 + 1, 6, none⟩ (.int .i64 n.log.start)).setCell ⟨q + 1 + 1, 7, none⟩ (.int .i64 n.log.sterm)).setCell ⟨q + 1 + 1, 8, none⟩ (Value.slice (some ⟨g2, 0, none⟩) n.log.ents.length n.log.ents.length)).setCell ⟨q + 1 + 1, 9, none⟩ (.int .i64 n.commit)).heap[q + 1 + 1]? = some (.cells (partN n (Value.slice (some ⟨g1, 0, none⟩) n.conf.length n.conf.length) n.log.start n.log.sterm (Value.slice (some ⟨g2, 0, none⟩) n.log.ents.length n.log.ents.length) n.commit 0 0 (.slice none 0 0) (.slice none 0 0)) 36 (0, 0))) := by
    show _ = _
    have := heap_setCell_same _ (q + 1 + 1) 9 _ 36 (.int .i64 n.commit) HEm4.out
    simpa [partN] using this
  have HZm5 : Hid (((((w4.setCell ⟨q + 1 + 1, 6, none⟩ (.int .i64 n.log.start)).setCell ⟨q + 1 + 1, 7, none⟩ (.int .i64 n.log.sterm)).setCell ⟨q + 1 + 1, 8, none⟩ (Value.slice (some ⟨g2, 0, none⟩) n.log.ents.length n.log.ents.length)).setCell ⟨q + 1 + 1, 9, none⟩ (.int .i64 n.commit)).heap[q + 1]? = some (.cells zeroN 36 (0, 0))) := set_far HZm4.out (by omega) _ _
  have HAm5 : Hid (((((w4.setCell ⟨q + 1 + 1, 6, none⟩ (.int .i64 n.log.start)).setCell ⟨q + 1 + 1, 7, none⟩ (.int .i64 n.log.sterm)).setCell ⟨q + 1 + 1, 8, none⟩ (Value.slice (some ⟨g2, 0, none⟩) n.log.ents.length n.log.ents.length)).setCell ⟨q + 1 + 1, 9, none⟩ (.int .i64 n.commit)).heap[q]? = some (.cells #[.int .i64 n.id, .int .i64 n.term, .int .i64 n.vote, .int .i64 n.role, .int .i64 n.lead, .slice ca n.conf.length cc, .int .i64 n.log.start, .int .i64 n.log.sterm, .slice ea n.log.ents.length ec, .int .i64 n.commit, .int .i64 n.clock, .int .i64 n.limit, .slice va n.votes.length vc, .slice pa n.peers.length pc] 28 (0, 0))) := set_far HAm4.out (by omega) _ _
  have HBm5 : Hid (Below w.heap.size w ((((w4.setCell ⟨q + 1 + 1, 6, none⟩ (.int .i64 n.log.start)).setCell ⟨q + 1 + 1, 7, none⟩ (.int .i64 n.log.sterm)).setCell ⟨q + 1 + 1, 8, none⟩ (Value.slice (some ⟨g2, 0, none⟩) n.log.ents.length n.log.ents.length)).setCell ⟨q + 1 + 1, 9, none⟩ (.int .i64 n.commit))) := HBm4.out.setCell (by have := HQ.out; show w.heap.size ≤ q + 1 + 1; omega) _
  have HO1m5 : Hid (((((w4.setCell ⟨q + 1 + 1, 6, none⟩ (.int .i64 n.log.start)).setCell ⟨q + 1 + 1, 7, none⟩ (.int .i64 n.log.sterm)).setCell ⟨q + 1 + 1, 8, none⟩ (Value.slice (some ⟨g2, 0, none⟩) n.log.ents.length n.log.ents.length)).setCell ⟨q + 1 + 1, 9, none⟩ (.int .i64 n.commit)).ownsRow w.heap.size 3 1 (Value.slice (some ⟨g1, 0, none⟩) n.conf.length n.conf.length) n.conf.length (cellsI n.conf)) := own_set HO1m4.out _ _ _ (own_not HO1m4.out HEm4.out (by decide))
  have HO2m5 : Hid (((((w4.setCell ⟨q + 1 + 1, 6, none⟩ (.int .i64 n.log.start)).setCell ⟨q + 1 + 1, 7, none⟩ (.int .i64 n.log.sterm)).setCell ⟨q + 1 + 1, 8, none⟩ (Value.slice (some ⟨g2, 0, none⟩) n.log.ents.length n.log.ents.length)).setCell ⟨q + 1 + 1, 9, none⟩ (.int .i64 n.commit)).ownsRow w.heap.size 74 3 (Value.slice (some ⟨g2, 0, none⟩) n.log.ents.length n.log.ents.length) n.log.ents.length (cellsEn n.log.ents)) := own_set HO2m4.out _ _ _ (own_not HO2m4.out HEm4.out (by decide))
  have HEm6 : Hid ((((((w4.setCell ⟨q + 1 + 1, 6, none⟩ (.int .i64 n.log.start)).setCell ⟨q + 1 + 1, 7, none⟩ (.int .i64 n.log.sterm)).setCell ⟨q + 1 + 1, 8, none⟩ (Value.slice (some ⟨g2, 0, none⟩) n.log.ents.length n.log.ents.length)).setCell ⟨q + 1 + 1, 9, none⟩ (.int .i64 n.commit)).setCell ⟨q + 1 + 1, 10, none⟩ (.int .i64 n.clock)).heap[q + 1 + 1]? = some (.cells (partN n (Value.slice (some ⟨g1, 0, none⟩) n.conf.length n.conf.length) n.log.start n.log.sterm (Value.slice (some ⟨g2, 0, none⟩) n.log.ents.length n.log.ents.length) n.commit n.clock 0 (.slice none 0 0) (.slice none 0 0)) 36 (0, 0))) := by
    show _ = _
    have := heap_setCell_same _ (q + 1 + 1) 10 _ 36 (.int .i64 n.clock) HEm5.out
    simpa [partN] using this
  have HZm6 : Hid ((((((w4.setCell ⟨q + 1 + 1, 6, none⟩ (.int .i64 n.log.start)).setCell ⟨q + 1 + 1, 7, none⟩ (.int .i64 n.log.sterm)).setCell ⟨q + 1 + 1, 8, none⟩ (Value.slice (some ⟨g2, 0, none⟩) n.log.ents.length n.log.ents.length)).setCell ⟨q + 1 + 1, 9, none⟩ (.int .i64 n.commit)).setCell ⟨q + 1 + 1, 10, none⟩ (.int .i64 n.clock)).heap[q + 1]? = some (.cells zeroN 36 (0, 0))) := set_far HZm5.out (by omega) _ _
  have HAm6 : Hid ((((((w4.setCell ⟨q + 1 + 1, 6, none⟩ (.int .i64 n.log.start)).setCell ⟨q + 1 + 1, 7, none⟩ (.int .i64 n.log.sterm)).setCell ⟨q + 1 + 1, 8, none⟩ (Value.slice (some ⟨g2, 0, none⟩) n.log.ents.length n.log.ents.length)).setCell ⟨q + 1 + 1, 9, none⟩ (.int .i64 n.commit)).setCell ⟨q + 1 + 1, 10, none⟩ (.int .i64 n.clock)).heap[q]? = some (.cells #[.int .i64 n.id, .int .i64 n.term, .int .i64 n.vote, .int .i64 n.role, .int .i64 n.lead, .slice ca n.conf.length cc, .int .i64 n.log.start, .int .i64 n.log.sterm, .slice ea n.log.ents.length ec, .int .i64 n.commit, .int .i64 n.clock, .int .i64 n.limit, .slice va n.votes.length vc, .slice pa n.peers.length pc] 28 (0, 0))) := set_far HAm5.out (by omega) _ _
  have HBm6 : Hid (Below w.heap.size w (((((w4.setCell ⟨q + 1 + 1, 6, none⟩ (.int .i64 n.log.start)).setCell ⟨q + 1 + 1, 7, none⟩ (.int .i64 n.log.sterm)).setCell ⟨q + 1 + 1, 8, none⟩ (Value.slice (some ⟨g2, 0, none⟩) n.log.ents.length n.log.ents.length)).setCell ⟨q + 1 + 1, 9, none⟩ (.int .i64 n.commit)).setCell ⟨q + 1 + 1, 10, none⟩ (.int .i64 n.clock))) := HBm5.out.setCell (by have := HQ.out; show w.heap.size ≤ q + 1 + 1; omega) _
  have HO1m6 : Hid ((((((w4.setCell ⟨q + 1 + 1, 6, none⟩ (.int .i64 n.log.start)).setCell ⟨q + 1 + 1, 7, none⟩ (.int .i64 n.log.sterm)).setCell ⟨q + 1 + 1, 8, none⟩ (Value.slice (some ⟨g2, 0, none⟩) n.log.ents.length n.log.ents.length)).setCell ⟨q + 1 + 1, 9, none⟩ (.int .i64 n.commit)).setCell ⟨q + 1 + 1, 10, none⟩ (.int .i64 n.clock)).ownsRow w.heap.size 3 1 (Value.slice (some ⟨g1, 0, none⟩) n.conf.length n.conf.length) n.conf.length (cellsI n.conf)) := own_set HO1m5.out _ _ _ (own_not HO1m5.out HEm5.out (by decide))
  have HO2m6 : Hid ((((((w4.setCell ⟨q + 1 + 1, 6, none⟩ (.int .i64 n.log.start)).setCell ⟨q + 1 + 1, 7, none⟩ (.int .i64 n.log.sterm)).setCell ⟨q + 1 + 1, 8, none⟩ (Value.slice (some ⟨g2, 0, none⟩) n.log.ents.length n.log.ents.length)).setCell ⟨q + 1 + 1, 9, none⟩ (.int .i64 n.commit)).setCell ⟨q + 1 + 1, 10, none⟩ (.int .i64 n.clock)).ownsRow w.heap.size 74 3 (Value.slice (some ⟨g2, 0, none⟩) n.log.ents.length n.log.ents.length) n.log.ents.length (cellsEn n.log.ents)) := own_set HO2m5.out _ _ _ (own_not HO2m5.out HEm5.out (by decide))
  have HEm7 : Hid (((((((w4.setCell ⟨q + 1 + 1, 6, none⟩ (.int .i64 n.log.start)).setCell ⟨q + 1 + 1, 7, none⟩ (.int .i64 n.log.sterm)).setCell ⟨q + 1 + 1, 8, none⟩ (Value.slice (some ⟨g2, 0, none⟩) n.log.ents.length n.log.ents.length)).setCell ⟨q + 1 + 1, 9, none⟩ (.int .i64 n.commit)).setCell ⟨q + 1 + 1, 10, none⟩ (.int .i64 n.clock)).setCell ⟨q + 1 + 1, 11, none⟩ (.int .i64 n.limit)).heap[q + 1 + 1]? = some (.cells (partN n (Value.slice (some ⟨g1, 0, none⟩) n.conf.length n.conf.length) n.log.start n.log.sterm (Value.slice (some ⟨g2, 0, none⟩) n.log.ents.length n.log.ents.length) n.commit n.clock n.limit (.slice none 0 0) (.slice none 0 0)) 36 (0, 0))) := by
    show _ = _
    have := heap_setCell_same _ (q + 1 + 1) 11 _ 36 (.int .i64 n.limit) HEm6.out
    simpa [partN] using this
  have HZm7 : Hid (((((((w4.setCell ⟨q + 1 + 1, 6, none⟩ (.int .i64 n.log.start)).setCell ⟨q + 1 + 1, 7, none⟩ (.int .i64 n.log.sterm)).setCell ⟨q + 1 + 1, 8, none⟩ (Value.slice (some ⟨g2, 0, none⟩) n.log.ents.length n.log.ents.length)).setCell ⟨q + 1 + 1, 9, none⟩ (.int .i64 n.commit)).setCell ⟨q + 1 + 1, 10, none⟩ (.int .i64 n.clock)).setCell ⟨q + 1 + 1, 11, none⟩ (.int .i64 n.limit)).heap[q + 1]? = some (.cells zeroN 36 (0, 0))) := set_far HZm6.out (by omega) _ _
  have HAm7 : Hid (((((((w4.setCell ⟨q + 1 + 1, 6, none⟩ (.int .i64 n.log.start)).setCell ⟨q + 1 + 1, 7, none⟩ (.int .i64 n.log.sterm)).setCell ⟨q + 1 + 1, 8, none⟩ (Value.slice (some ⟨g2, 0, none⟩) n.log.ents.length n.log.ents.length)).setCell ⟨q + 1 + 1, 9, none⟩ (.int .i64 n.commit)).setCell ⟨q + 1 + 1, 10, none⟩ (.int .i64 n.clock)).setCell ⟨q + 1 + 1, 11, none⟩ (.int .i64 n.limit)).heap[q]? = some (.cells #[.int .i64 n.id, .int .i64 n.term, .int .i64 n.vote, .int .i64 n.role, .int .i64 n.lead, .slice ca n.conf.length cc, .int .i64 n.log.start, .int .i64 n.log.sterm, .slice ea n.log.ents.length ec, .int .i64 n.commit, .int .i64 n.clock, .int .i64 n.limit, .slice va n.votes.length vc, .slice pa n.peers.length pc] 28 (0, 0))) := set_far HAm6.out (by omega) _ _
  have HBm7 : Hid (Below w.heap.size w ((((((w4.setCell ⟨q + 1 + 1, 6, none⟩ (.int .i64 n.log.start)).setCell ⟨q + 1 + 1, 7, none⟩ (.int .i64 n.log.sterm)).setCell ⟨q + 1 + 1, 8, none⟩ (Value.slice (some ⟨g2, 0, none⟩) n.log.ents.length n.log.ents.length)).setCell ⟨q + 1 + 1, 9, none⟩ (.int .i64 n.commit)).setCell ⟨q + 1 + 1, 10, none⟩ (.int .i64 n.clock)).setCell ⟨q + 1 + 1, 11, none⟩ (.int .i64 n.limit))) := HBm6.out.setCell (by have := HQ.out; show w.heap.size ≤ q + 1 + 1; omega) _
  have HO1m7 : Hid (((((((w4.setCell ⟨q + 1 + 1, 6, none⟩ (.int .i64 n.log.start)).setCell ⟨q + 1 + 1, 7, none⟩ (.int .i64 n.log.sterm)).setCell ⟨q + 1 + 1, 8, none⟩ (Value.slice (some ⟨g2, 0, none⟩) n.log.ents.length n.log.ents.length)).setCell ⟨q + 1 + 1, 9, none⟩ (.int .i64 n.commit)).setCell ⟨q + 1 + 1, 10, none⟩ (.int .i64 n.clock)).setCell ⟨q + 1 + 1, 11, none⟩ (.int .i64 n.limit)).ownsRow w.heap.size 3 1 (Value.slice (some ⟨g1, 0, none⟩) n.conf.length n.conf.length) n.conf.length (cellsI n.conf)) := own_set HO1m6.out _ _ _ (own_not HO1m6.out HEm6.out (by decide))
  have HO2m7 : Hid (((((((w4.setCell ⟨q + 1 + 1, 6, none⟩ (.int .i64 n.log.start)).setCell ⟨q + 1 + 1, 7, none⟩ (.int .i64 n.log.sterm)).setCell ⟨q + 1 + 1, 8, none⟩ (Value.slice (some ⟨g2, 0, none⟩) n.log.ents.length n.log.ents.length)).setCell ⟨q + 1 + 1, 9, none⟩ (.int .i64 n.commit)).setCell ⟨q + 1 + 1, 10, none⟩ (.int .i64 n.clock)).setCell ⟨q + 1 + 1, 11, none⟩ (.int .i64 n.limit)).ownsRow w.heap.size 74 3 (Value.slice (some ⟨g2, 0, none⟩) n.log.ents.length n.log.ents.length) n.log.ents.length (cellsEn n.log.ents)) := own_set HO2m6.out _ _ _ (own_not HO2m6.out HEm6.out (by decide))
  obtain ⟨X4, hX4⟩ : ∃ X4, X4 = ((((((w4.setCell ⟨q + 1 + 1, 6, none⟩ (.int .i64 n.log.start)).setCell ⟨q + 1 + 1, 7, none⟩ (.int .i64 n.log.sterm)).setCell ⟨q + 1 + 1, 8, none⟩ (Value.slice (some ⟨g2, 0, none⟩) n.log.ents.length n.log.ents.length)).setCell ⟨q + 1 + 1, 9, none⟩ (.int .i64 n.commit)).setCell ⟨q + 1 + 1, 10, none⟩ (.int .i64 n.clock)).setCell ⟨q + 1 + 1, 11, none⟩ (.int .i64 n.limit)) := ⟨_, rfl⟩
  have o0_6 : w4.cell? ⟨q + 1 + 1, 6, none⟩ = some (.int .i64 0) := cell_of_row _ _ 6 _ _ _ HEw4.out
  have of0_6 := frozen_of_row _ _ 6 _ _ HEw4.out
  have o0_7 : w4.cell? ⟨q + 1 + 1, 7, none⟩ = some (.int .i64 0) := cell_of_row _ _ 7 _ _ _ HEw4.out
  have of0_7 := frozen_of_row _ _ 7 _ _ HEw4.out
  have o0_8 : w4.cell? ⟨q + 1 + 1, 8, none⟩ = some (.slice none 0 0) := cell_of_row _ _ 8 _ _ _ HEw4.out
  have of0_8 := frozen_of_row _ _ 8 _ _ HEw4.out
  have o0_9 : w4.cell? ⟨q + 1 + 1, 9, none⟩ = some (.int .i64 0) := cell_of_row _ _ 9 _ _ _ HEw4.out
  have of0_9 := frozen_of_row _ _ 9 _ _ HEw4.out
  have o0_10 : w4.cell? ⟨q + 1 + 1, 10, none⟩ = some (.int .i64 0) := cell_of_row _ _ 10 _ _ _ HEw4.out
  have of0_10 := frozen_of_row _ _ 10 _ _ HEw4.out
  have o0_11 : w4.cell? ⟨q + 1 + 1, 11, none⟩ = some (.int .i64 0) := cell_of_row _ _ 11 _ _ _ HEw4.out
  have of0_11 := frozen_of_row _ _ 11 _ _ HEw4.out
  have a0_9 : w4.cell? ⟨q, 9, none⟩ = some (.int .i64 n.commit) := cell_of_row _ _ 9 _ _ _ HAw4.out
  have a0_10 : w4.cell? ⟨q, 10, none⟩ = some (.int .i64 n.clock) := cell_of_row _ _ 10 _ _ _ HAw4.out
  have a0_11 : w4.cell? ⟨q, 11, none⟩ = some (.int .i64 n.limit) := cell_of_row _ _ 11 _ _ _ HAw4.out
  have a0_12 : w4.cell? ⟨q, 12, none⟩ = some (.slice va n.votes.length vc) := cell_of_row _ _ 12 _ _ _ HAw4.out
  have o1_7 : (w4.setCell ⟨q + 1 + 1, 6, none⟩ (.int .i64 n.log.start)).cell? ⟨q + 1 + 1, 7, none⟩ = some (.int .i64 0) := cell_of_row _ _ 7 _ _ _ HEm2.out
  have of1_7 := frozen_of_row _ _ 7 _ _ HEm2.out
  have o1_8 : (w4.setCell ⟨q + 1 + 1, 6, none⟩ (.int .i64 n.log.start)).cell? ⟨q + 1 + 1, 8, none⟩ = some (.slice none 0 0) := cell_of_row _ _ 8 _ _ _ HEm2.out
  have of1_8 := frozen_of_row _ _ 8 _ _ HEm2.out
  have o1_9 : (w4.setCell ⟨q + 1 + 1, 6, none⟩ (.int .i64 n.log.start)).cell? ⟨q + 1 + 1, 9, none⟩ = some (.int .i64 0) := cell_of_row _ _ 9 _ _ _ HEm2.out
  have of1_9 := frozen_of_row _ _ 9 _ _ HEm2.out
  have o1_10 : (w4.setCell ⟨q + 1 + 1, 6, none⟩ (.int .i64 n.log.start)).cell? ⟨q + 1 + 1, 10, none⟩ = some (.int .i64 0) := cell_of_row _ _ 10 _ _ _ HEm2.out
  have of1_10 := frozen_of_row _ _ 10 _ _ HEm2.out
  have o1_11 : (w4.setCell ⟨q + 1 + 1, 6, none⟩ (.int .i64 n.log.start)).cell? ⟨q + 1 + 1, 11, none⟩ = some (.int .i64 0) := cell_of_row _ _ 11 _ _ _ HEm2.out
  have of1_11 := frozen_of_row _ _ 11 _ _ HEm2.out
  have a1_9 : (w4.setCell ⟨q + 1 + 1, 6, none⟩ (.int .i64 n.log.start)).cell? ⟨q, 9, none⟩ = some (.int .i64 n.commit) := cell_of_row _ _ 9 _ _ _ HAm2.out
  have a1_10 : (w4.setCell ⟨q + 1 + 1, 6, none⟩ (.int .i64 n.log.start)).cell? ⟨q, 10, none⟩ = some (.int .i64 n.clock) := cell_of_row _ _ 10 _ _ _ HAm2.out
  have a1_11 : (w4.setCell ⟨q + 1 + 1, 6, none⟩ (.int .i64 n.log.start)).cell? ⟨q, 11, none⟩ = some (.int .i64 n.limit) := cell_of_row _ _ 11 _ _ _ HAm2.out
  have a1_12 : (w4.setCell ⟨q + 1 + 1, 6, none⟩ (.int .i64 n.log.start)).cell? ⟨q, 12, none⟩ = some (.slice va n.votes.length vc) := cell_of_row _ _ 12 _ _ _ HAm2.out
  have o2_8 : ((w4.setCell ⟨q + 1 + 1, 6, none⟩ (.int .i64 n.log.start)).setCell ⟨q + 1 + 1, 7, none⟩ (.int .i64 n.log.sterm)).cell? ⟨q + 1 + 1, 8, none⟩ = some (.slice none 0 0) := cell_of_row _ _ 8 _ _ _ HEm3.out
  have of2_8 := frozen_of_row _ _ 8 _ _ HEm3.out
  have o2_9 : ((w4.setCell ⟨q + 1 + 1, 6, none⟩ (.int .i64 n.log.start)).setCell ⟨q + 1 + 1, 7, none⟩ (.int .i64 n.log.sterm)).cell? ⟨q + 1 + 1, 9, none⟩ = some (.int .i64 0) := cell_of_row _ _ 9 _ _ _ HEm3.out
  have of2_9 := frozen_of_row _ _ 9 _ _ HEm3.out
  have o2_10 : ((w4.setCell ⟨q + 1 + 1, 6, none⟩ (.int .i64 n.log.start)).setCell ⟨q + 1 + 1, 7, none⟩ (.int .i64 n.log.sterm)).cell? ⟨q + 1 + 1, 10, none⟩ = some (.int .i64 0) := cell_of_row _ _ 10 _ _ _ HEm3.out
  have of2_10 := frozen_of_row _ _ 10 _ _ HEm3.out
  have o2_11 : ((w4.setCell ⟨q + 1 + 1, 6, none⟩ (.int .i64 n.log.start)).setCell ⟨q + 1 + 1, 7, none⟩ (.int .i64 n.log.sterm)).cell? ⟨q + 1 + 1, 11, none⟩ = some (.int .i64 0) := cell_of_row _ _ 11 _ _ _ HEm3.out
  have of2_11 := frozen_of_row _ _ 11 _ _ HEm3.out
  have a2_9 : ((w4.setCell ⟨q + 1 + 1, 6, none⟩ (.int .i64 n.log.start)).setCell ⟨q + 1 + 1, 7, none⟩ (.int .i64 n.log.sterm)).cell? ⟨q, 9, none⟩ = some (.int .i64 n.commit) := cell_of_row _ _ 9 _ _ _ HAm3.out
  have a2_10 : ((w4.setCell ⟨q + 1 + 1, 6, none⟩ (.int .i64 n.log.start)).setCell ⟨q + 1 + 1, 7, none⟩ (.int .i64 n.log.sterm)).cell? ⟨q, 10, none⟩ = some (.int .i64 n.clock) := cell_of_row _ _ 10 _ _ _ HAm3.out
  have a2_11 : ((w4.setCell ⟨q + 1 + 1, 6, none⟩ (.int .i64 n.log.start)).setCell ⟨q + 1 + 1, 7, none⟩ (.int .i64 n.log.sterm)).cell? ⟨q, 11, none⟩ = some (.int .i64 n.limit) := cell_of_row _ _ 11 _ _ _ HAm3.out
  have a2_12 : ((w4.setCell ⟨q + 1 + 1, 6, none⟩ (.int .i64 n.log.start)).setCell ⟨q + 1 + 1, 7, none⟩ (.int .i64 n.log.sterm)).cell? ⟨q, 12, none⟩ = some (.slice va n.votes.length vc) := cell_of_row _ _ 12 _ _ _ HAm3.out
  have o3_9 : (((w4.setCell ⟨q + 1 + 1, 6, none⟩ (.int .i64 n.log.start)).setCell ⟨q + 1 + 1, 7, none⟩ (.int .i64 n.log.sterm)).setCell ⟨q + 1 + 1, 8, none⟩ (Value.slice (some ⟨g2, 0, none⟩) n.log.ents.length n.log.ents.length)).cell? ⟨q + 1 + 1, 9, none⟩ = some (.int .i64 0) := cell_of_row _ _ 9 _ _ _ HEm4.out
  have of3_9 := frozen_of_row _ _ 9 _ _ HEm4.out
  have o3_10 : (((w4.setCell ⟨q + 1 + 1, 6, none⟩ (.int .i64 n.log.start)).setCell ⟨q + 1 + 1, 7, none⟩ (.int .i64 n.log.sterm)).setCell ⟨q + 1 + 1, 8, none⟩ (Value.slice (some ⟨g2, 0, none⟩) n.log.ents.length n.log.ents.length)).cell? ⟨q + 1 + 1, 10, none⟩ = some (.int .i64 0) := cell_of_row _ _ 10 _ _ _ HEm4.out
  have of3_10 := frozen_of_row _ _ 10 _ _ HEm4.out
  have o3_11 : (((w4.setCell ⟨q + 1 + 1, 6, none⟩ (.int .i64 n.log.start)).setCell ⟨q + 1 + 1, 7, none⟩ (.int .i64 n.log.sterm)).setCell ⟨q + 1 + 1, 8, none⟩ (Value.slice (some ⟨g2, 0, none⟩) n.log.ents.length n.log.ents.length)).cell? ⟨q + 1 + 1, 11, none⟩ = some (.int .i64 0) := cell_of_row _ _ 11 _ _ _ HEm4.out
  have of3_11 := frozen_of_row _ _ 11 _ _ HEm4.out
  have a3_9 : (((w4.setCell ⟨q + 1 + 1, 6, none⟩ (.int .i64 n.log.start)).setCell ⟨q + 1 + 1, 7, none⟩ (.int .i64 n.log.sterm)).setCell ⟨q + 1 + 1, 8, none⟩ (Value.slice (some ⟨g2, 0, none⟩) n.log.ents.length n.log.ents.length)).cell? ⟨q, 9, none⟩ = some (.int .i64 n.commit) := cell_of_row _ _ 9 _ _ _ HAm4.out
  have a3_10 : (((w4.setCell ⟨q + 1 + 1, 6, none⟩ (.int .i64 n.log.start)).setCell ⟨q + 1 + 1, 7, none⟩ (.int .i64 n.log.sterm)).setCell ⟨q + 1 + 1, 8, none⟩ (Value.slice (some ⟨g2, 0, none⟩) n.log.ents.length n.log.ents.length)).cell? ⟨q, 10, none⟩ = some (.int .i64 n.clock) := cell_of_row _ _ 10 _ _ _ HAm4.out
  have a3_11 : (((w4.setCell ⟨q + 1 + 1, 6, none⟩ (.int .i64 n.log.start)).setCell ⟨q + 1 + 1, 7, none⟩ (.int .i64 n.log.sterm)).setCell ⟨q + 1 + 1, 8, none⟩ (Value.slice (some ⟨g2, 0, none⟩) n.log.ents.length n.log.ents.length)).cell? ⟨q, 11, none⟩ = some (.int .i64 n.limit) := cell_of_row _ _ 11 _ _ _ HAm4.out
  have a3_12 : (((w4.setCell ⟨q + 1 + 1, 6, none⟩ (.int .i64 n.log.start)).setCell ⟨q + 1 + 1, 7, none⟩ (.int .i64 n.log.sterm)).setCell ⟨q + 1 + 1, 8, none⟩ (Value.slice (some ⟨g2, 0, none⟩) n.log.ents.length n.log.ents.length)).cell? ⟨q, 12, none⟩ = some (.slice va n.votes.length vc) := cell_of_row _ _ 12 _ _ _ HAm4.out
  have o4_10 : ((((w4.setCell ⟨q + 1 + 1, 6, none⟩ (.int .i64 n.log.start)).setCell ⟨q + 1 + 1, 7, none⟩ (.int .i64 n.log.sterm)).setCell ⟨q + 1 + 1, 8, none⟩ (Value.slice (some ⟨g2, 0, none⟩) n.log.ents.length n.log.ents.length)).setCell ⟨q + 1 + 1, 9, none⟩ (.int .i64 n.commit)).cell? ⟨q + 1 + 1, 10, none⟩ = some (.int .i64 0) := cell_of_row _ _ 10 _ _ _ HEm5.out
  have of4_10 := frozen_of_row _ _ 10 _ _ HEm5.out
  have o4_11 : ((((w4.setCell ⟨q + 1 + 1, 6, none⟩ (.int .i64 n.log.start)).setCell ⟨q + 1 + 1, 7, none⟩ (.int .i64 n.log.sterm)).setCell ⟨q + 1 + 1, 8, none⟩ (Value.slice (some ⟨g2, 0, none⟩) n.log.ents.length n.log.ents.length)).setCell ⟨q + 1 + 1, 9, none⟩ (.int .i64 n.commit)).cell? ⟨q + 1 + 1, 11, none⟩ = some (.int .i64 0) := cell_of_row _ _ 11 _ _ _ HEm5.out
  have of4_11 := frozen_of_row _ _ 11 _ _ HEm5.out
  have a4_9 : ((((w4.setCell ⟨q + 1 + 1, 6, none⟩ (.int .i64 n.log.start)).setCell ⟨q + 1 + 1, 7, none⟩ (.int .i64 n.log.sterm)).setCell ⟨q + 1 + 1, 8, none⟩ (Value.slice (some ⟨g2, 0, none⟩) n.log.ents.length n.log.ents.length)).setCell ⟨q + 1 + 1, 9, none⟩ (.int .i64 n.commit)).cell? ⟨q, 9, none⟩ = some (.int .i64 n.commit) := cell_of_row _ _ 9 _ _ _ HAm5.out
  have a4_10 : ((((w4.setCell ⟨q + 1 + 1, 6, none⟩ (.int .i64 n.log.start)).setCell ⟨q + 1 + 1, 7, none⟩ (.int .i64 n.log.sterm)).setCell ⟨q + 1 + 1, 8, none⟩ (Value.slice (some ⟨g2, 0, none⟩) n.log.ents.length n.log.ents.length)).setCell ⟨q + 1 + 1, 9, none⟩ (.int .i64 n.commit)).cell? ⟨q, 10, none⟩ = some (.int .i64 n.clock) := cell_of_row _ _ 10 _ _ _ HAm5.out
  have a4_11 : ((((w4.setCell ⟨q + 1 + 1, 6, none⟩ (.int .i64 n.log.start)).setCell ⟨q + 1 + 1, 7, none⟩ (.int .i64 n.log.sterm)).setCell ⟨q + 1 + 1, 8, none⟩ (Value.slice (some ⟨g2, 0, none⟩) n.log.ents.length n.log.ents.length)).setCell ⟨q + 1 + 1, 9, none⟩ (.int .i64 n.commit)).cell? ⟨q, 11, none⟩ = some (.int .i64 n.limit) := cell_of_row _ _ 11 _ _ _ HAm5.out
  have a4_12 : ((((w4.setCell ⟨q + 1 + 1, 6, none⟩ (.int .i64 n.log.start)).setCell ⟨q + 1 + 1, 7, none⟩ (.int .i64 n.log.sterm)).setCell ⟨q + 1 + 1, 8, none⟩ (Value.slice (some ⟨g2, 0, none⟩) n.log.ents.length n.log.ents.length)).setCell ⟨q + 1 + 1, 9, none⟩ (.int .i64 n.commit)).cell? ⟨q, 12, none⟩ = some (.slice va n.votes.length vc) := cell_of_row _ _ 12 _ _ _ HAm5.out
  have o5_11 : (((((w4.setCell ⟨q + 1 + 1, 6, none⟩ (.int .i64 n.log.start)).setCell ⟨q + 1 + 1, 7, none⟩ (.int .i64 n.log.sterm)).setCell ⟨q + 1 + 1, 8, none⟩ (Value.slice (some ⟨g2, 0, none⟩) n.log.ents.length n.log.ents.length)).setCell ⟨q + 1 + 1, 9, none⟩ (.int .i64 n.commit)).setCell ⟨q + 1 + 1, 10, none⟩ (.int .i64 n.clock)).cell? ⟨q + 1 + 1, 11, none⟩ = some (.int .i64 0) := cell_of_row _ _ 11 _ _ _ HEm6.out
  have of5_11 := frozen_of_row _ _ 11 _ _ HEm6.out
  have a5_9 : (((((w4.setCell ⟨q + 1 + 1, 6, none⟩ (.int .i64 n.log.start)).setCell ⟨q + 1 + 1, 7, none⟩ (.int .i64 n.log.sterm)).setCell ⟨q + 1 + 1, 8, none⟩ (Value.slice (some ⟨g2, 0, none⟩) n.log.ents.length n.log.ents.length)).setCell ⟨q + 1 + 1, 9, none⟩ (.int .i64 n.commit)).setCell ⟨q + 1 + 1, 10, none⟩ (.int .i64 n.clock)).cell? ⟨q, 9, none⟩ = some (.int .i64 n.commit) := cell_of_row _ _ 9 _ _ _ HAm6.out
  have a5_10 : (((((w4.setCell ⟨q + 1 + 1, 6, none⟩ (.int .i64 n.log.start)).setCell ⟨q + 1 + 1, 7, none⟩ (.int .i64 n.log.sterm)).setCell ⟨q + 1 + 1, 8, none⟩ (Value.slice (some ⟨g2, 0, none⟩) n.log.ents.length n.log.ents.length)).setCell ⟨q + 1 + 1, 9, none⟩ (.int .i64 n.commit)).setCell ⟨q + 1 + 1, 10, none⟩ (.int .i64 n.clock)).cell? ⟨q, 10, none⟩ = some (.int .i64 n.clock) := cell_of_row _ _ 10 _ _ _ HAm6.out
  have a5_11 : (((((w4.setCell ⟨q + 1 + 1, 6, none⟩ (.int .i64 n.log.start)).setCell ⟨q + 1 + 1, 7, none⟩ (.int .i64 n.log.sterm)).setCell ⟨q + 1 + 1, 8, none⟩ (Value.slice (some ⟨g2, 0, none⟩) n.log.ents.length n.log.ents.length)).setCell ⟨q + 1 + 1, 9, none⟩ (.int .i64 n.commit)).setCell ⟨q + 1 + 1, 10, none⟩ (.int .i64 n.clock)).cell? ⟨q, 11, none⟩ = some (.int .i64 n.limit) := cell_of_row _ _ 11 _ _ _ HAm6.out
  have a5_12 : (((((w4.setCell ⟨q + 1 + 1, 6, none⟩ (.int .i64 n.log.start)).setCell ⟨q + 1 + 1, 7, none⟩ (.int .i64 n.log.sterm)).setCell ⟨q + 1 + 1, 8, none⟩ (Value.slice (some ⟨g2, 0, none⟩) n.log.ents.length n.log.ents.length)).setCell ⟨q + 1 + 1, 9, none⟩ (.int .i64 n.commit)).setCell ⟨q + 1 + 1, 10, none⟩ (.int .i64 n.clock)).cell? ⟨q, 12, none⟩ = some (.slice va n.votes.length vc) := cell_of_row _ _ 12 _ _ _ HAm6.out
  have a6_9 : ((((((w4.setCell ⟨q + 1 + 1, 6, none⟩ (.int .i64 n.log.start)).setCell ⟨q + 1 + 1, 7, none⟩ (.int .i64 n.log.sterm)).setCell ⟨q + 1 + 1, 8, none⟩ (Value.slice (some ⟨g2, 0, none⟩) n.log.ents.length n.log.ents.length)).setCell ⟨q + 1 + 1, 9, none⟩ (.int .i64 n.commit)).setCell ⟨q + 1 + 1, 10, none⟩ (.int .i64 n.clock)).setCell ⟨q + 1 + 1, 11, none⟩ (.int .i64 n.limit)).cell? ⟨q, 9, none⟩ = some (.int .i64 n.commit) := cell_of_row _ _ 9 _ _ _ HAm7.out
  have a6_10 : ((((((w4.setCell ⟨q + 1 + 1, 6, none⟩ (.int .i64 n.log.start)).setCell ⟨q + 1 + 1, 7, none⟩ (.int .i64 n.log.sterm)).setCell ⟨q + 1 + 1, 8, none⟩ (Value.slice (some ⟨g2, 0, none⟩) n.log.ents.length n.log.ents.length)).setCell ⟨q + 1 + 1, 9, none⟩ (.int .i64 n.commit)).setCell ⟨q + 1 + 1, 10, none⟩ (.int .i64 n.clock)).setCell ⟨q + 1 + 1, 11, none⟩ (.int .i64 n.limit)).cell? ⟨q, 10, none⟩ = some (.int .i64 n.clock) := cell_of_row _ _ 10 _ _ _ HAm7.out
  have a6_11 : ((((((w4.setCell ⟨q + 1 + 1, 6, none⟩ (.int .i64 n.log.start)).setCell ⟨q + 1 + 1, 7, none⟩ (.int .i64 n.log.sterm)).setCell ⟨q + 1 + 1, 8, none⟩ (Value.slice (some ⟨g2, 0, none⟩) n.log.ents.length n.log.ents.length)).setCell ⟨q + 1 + 1, 9, none⟩ (.int .i64 n.commit)).setCell ⟨q + 1 + 1, 10, none⟩ (.int .i64 n.clock)).setCell ⟨q + 1 + 1, 11, none⟩ (.int .i64 n.limit)).cell? ⟨q, 11, none⟩ = some (.int .i64 n.limit) := cell_of_row _ _ 11 _ _ _ HAm7.out
  have a6_12 : ((((((w4.setCell ⟨q + 1 + 1, 6, none⟩ (.int .i64 n.log.start)).setCell ⟨q + 1 + 1, 7, none⟩ (.int .i64 n.log.sterm)).setCell ⟨q + 1 + 1, 8, none⟩ (Value.slice (some ⟨g2, 0, none⟩) n.log.ents.length n.log.ents.length)).setCell ⟨q + 1 + 1, 9, none⟩ (.int .i64 n.commit)).setCell ⟨q + 1 + 1, 10, none⟩ (.int .i64 n.clock)).setCell ⟨q + 1 + 1, 11, none⟩ (.int .i64 n.limit)).cell? ⟨q, 12, none⟩ = some (.slice va n.votes.length vc) := cell_of_row _ _ 12 _ _ _ HAm7.out
  have HEX4 : Hid (X4.heap[q + 1 + 1]? = some (.cells (partN n (Value.slice (some ⟨g1, 0, none⟩) n.conf.length n.conf.length) n.log.start n.log.sterm (Value.slice (some ⟨g2, 0, none⟩) n.log.ents.length n.log.ents.length) n.commit n.clock n.limit (.slice none 0 0) (.slice none 0 0)) 36 (0, 0))) := by rw [hX4]; exact HEm7
  have HZX4 : Hid (X4.heap[q + 1]? = some (.cells zeroN 36 (0, 0))) := by rw [hX4]; exact HZm7
  have HAX4 : Hid (X4.heap[q]? = some (.cells #[.int .i64 n.id, .int .i64 n.term, .int .i64 n.vote, .int .i64 n.role, .int .i64 n.lead, .slice ca n.conf.length cc, .int .i64 n.log.start, .int .i64 n.log.sterm, .slice ea n.log.ents.length ec, .int .i64 n.commit, .int .i64 n.clock, .int .i64 n.limit, .slice va n.votes.length vc, .slice pa n.peers.length pc] 28 (0, 0))) := by rw [hX4]; exact HAm7
  have HBX4 : Hid (Below w.heap.size w X4) := by rw [hX4]; exact HBm7
  have HO1X4 : Hid (X4.ownsRow w.heap.size 3 1 (Value.slice (some ⟨g1, 0, none⟩) n.conf.length n.conf.length) n.conf.length (cellsI n.conf)) := by rw [hX4]; exact HO1m7
  have HO2X4 : Hid (X4.ownsRow w.heap.size 74 3 (Value.slice (some ⟨g2, 0, none⟩) n.log.ents.length n.log.ents.length) n.log.ents.length (cellsEn n.log.ents)) := by rw [hX4]; exact HO2m7
  have HM3 : Hid (Calls Try.prog 12 #[.slice va n.votes.length vc] X4 fun e w' => e = .returned (.slice (some ⟨X4.heap.size, 0, none⟩) n.votes.length n.votes.length) ∧ w'.ownsRow X4.heap.size 3 1 (.slice (some ⟨X4.heap.size, 0, none⟩) n.votes.length n.votes.length) n.votes.length (cellsI n.votes) ∧ Below X4.heap.size X4 w') := toIntS_is n.votes HS.out.votes X4 (HR.out X4 HBX4.out).votes
  clear HEm2 HZm2 HAm2 HBm2 HO1m2 HO2m2 HEm3 HZm3 HAm3 HBm3 HO1m3 HO2m3 HEm4 HZm4 HAm4 HBm4 HO1m4 HO2m4 HEm5 HZm5 HAm5 HBm5 HO1m5 HO2m5 HEm6 HZm6 HAm6 HBm6 HO1m6 HO2m6 HEm7 HZm7 HAm7 HBm7 HO1m7 HO2m7 HEw4 HZw4 HAw4 HBw4 HEX3 HZX3 HAX3 HBX3 HO1w4 HO2w4 HO1X3 hb4
  go_wp2_with fail
  rw [← hX4]
  clear hX4 o0_6 of0_6 o0_7 of0_7 o0_8 of0_8 o0_9 of0_9 o0_10 of0_10 o0_11 of0_11 a0_9 a0_10 a0_11 a0_12 o1_7 of1_7 o1_8 of1_8 o1_9 of1_9 o1_10 of1_10 o1_11 of1_11 a1_9 a1_10 a1_11 a1_12 o2_8 of2_8 o2_9 of2_9 o2_10 of2_10 o2_11 of2_11 a2_9 a2_10 a2_11 a2_12 o3_9 of3_9 o3_10 of3_10 o3_11 of3_11 a3_9 a3_10 a3_11 a3_12 o4_10 of4_10 o4_11 of4_11 a4_9 a4_10 a4_11 a4_12 o5_11 of5_11 a5_9 a5_10 a5_11 a5_12 a6_9 a6_10 a6_11 a6_12
  refine Calls.mono HM3.out ?_
  rintro e w5 ⟨rfl, hown, hb5⟩
  have HEw5 : Hid (w5.heap[q + 1 + 1]? = some (.cells (partN n (Value.slice (some ⟨g1, 0, none⟩) n.conf.length n.conf.length) n.log.start n.log.sterm (Value.slice (some ⟨g2, 0, none⟩) n.log.ents.length n.log.ents.length) n.commit n.clock n.limit (.slice none 0 0) (.slice none 0 0)) 36 (0, 0))) := (hb5.block _ (Array.getElem?_eq_some_iff.1 HEX4.out).1).trans HEX4.out
  have HZw5 : Hid (w5.heap[q + 1]? = some (.cells zeroN 36 (0, 0))) := (hb5.block _ (Array.getElem?_eq_some_iff.1 HZX4.out).1).trans HZX4.out
  have HAw5 : Hid (w5.heap[q]? = some (.cells #[.int .i64 n.id, .int .i64 n.term, .int .i64 n.vote, .int .i64 n.role, .int .i64 n.lead, .slice ca n.conf.length cc, .int .i64 n.log.start, .int .i64 n.log.sterm, .slice ea n.log.ents.length ec, .int .i64 n.commit, .int .i64 n.clock, .int .i64 n.limit, .slice va n.votes.length vc, .slice pa n.peers.length pc] 28 (0, 0))) := (hb5.block _ (Array.getElem?_eq_some_iff.1 HAX4.out).1).trans HAX4.out
  have HBw5 : Hid (Below w.heap.size w w5) := HBX4.out.trans (hb5.mono HBX4.out.size)
  have HO1w5 : Hid (w5.ownsRow w.heap.size 3 1 (Value.slice (some ⟨g1, 0, none⟩) n.conf.length n.conf.length) n.conf.length (cellsI n.conf)) := own_kept HO1X4.out hb5
  have HO2w5 : Hid (w5.ownsRow w.heap.size 74 3 (Value.slice (some ⟨g2, 0, none⟩) n.log.ents.length n.log.ents.length) n.log.ents.length (cellsEn n.log.ents)) := own_kept HO2X4.out hb5
  obtain ⟨g3, hg⟩ : ∃ g, g = X4.heap.size := ⟨_, rfl⟩
  rw [← hg] at hown ⊢
  have HO3w5 : Hid (w5.ownsRow w.heap.size 3 1 (Value.slice (some ⟨g3, 0, none⟩) n.votes.length n.votes.length) n.votes.length (cellsI n.votes)) := own_mono hown (by rw [hg]; exact HBX4.out.size)
  have HNE : Hid (g1 ≠ g3) := by have := (HO1X4.out.lt g1 rfl).2; rw [← hg] at this; show g1 ≠ g3; omega
  clear hown hg
  have HEm2 : Hid ((w5.setCell ⟨q + 1 + 1, 12, none⟩ (Value.slice (some ⟨g3, 0, none⟩) n.votes.length n.votes.length)).heap[q + 1 + 1]? = some (.cells (partN n (Value.slice (some ⟨g1, 0, none⟩) n.conf.length n.conf.length) n.log.start n.log.sterm (Value.slice (some ⟨g2, 0, none⟩) n.log.ents.length n.log.ents.length) n.commit n.clock n.limit (Value.slice (some ⟨g3, 0, none⟩) n.votes.length n.votes.length) (.slice none 0 0)) 36 (0, 0))) := by
    show _ = _
    have := heap_setCell_same _ (q + 1 + 1) 12 _ 36 (Value.slice (some ⟨g3, 0, none⟩) n.votes.length n.votes.length) HEw5.out
    simpa [partN] using this
  have HZm2 : Hid ((w5.setCell ⟨q + 1 + 1, 12, none⟩ (Value.slice (some ⟨g3, 0, none⟩) n.votes.length n.votes.length)).heap[q + 1]? = some (.cells zeroN 36 (0, 0))) := set_far HZw5.out (by omega) _ _
  have HAm2 : Hid ((w5.setCell ⟨q + 1 + 1, 12, none⟩ (Value.slice (some ⟨g3, 0, none⟩) n.votes.length n.votes.length)).heap[q]? = some (.cells #[.int .i64 n.id, .int .i64 n.term, .int .i64 n.vote, .int .i64 n.role, .int .i64 n.lead, .slice ca n.conf.length cc, .int .i64 n.log.start, .int .i64 n.log.sterm, .slice ea n.log.ents.length ec, .int .i64 n.commit, .int .i64 n.clock, .int .i64 n.limit, .slice va n.votes.length vc, .slice pa n.peers.length pc] 28 (0, 0))) := set_far HAw5.out (by omega) _ _
  have HBm2 : Hid (Below w.heap.size w (w5.setCell ⟨q + 1 + 1, 12, none⟩ (Value.slice (some ⟨g3, 0, none⟩) n.votes.length n.votes.length))) := HBw5.out.setCell (by have := HQ.out; show w.heap.size ≤ q + 1 + 1; omega) _
  have HO1m2 : Hid ((w5.setCell ⟨q + 1 + 1, 12, none⟩ (Value.slice (some ⟨g3, 0, none⟩) n.votes.length n.votes.length)).ownsRow w.heap.size 3 1 (Value.slice (some ⟨g1, 0, none⟩) n.conf.length n.conf.length) n.conf.length (cellsI n.conf)) := own_set HO1w5.out _ _ _ (own_not HO1w5.out HEw5.out (by decide))
  have HO2m2 : Hid ((w5.setCell ⟨q + 1 + 1, 12, none⟩ (Value.slice (some ⟨g3, 0, none⟩) n.votes.length n.votes.length)).ownsRow w.heap.size 74 3 (Value.slice (some ⟨g2, 0, none⟩) n.log.ents.length n.log.ents.length) n.log.ents.length (cellsEn n.log.ents)) := own_set HO2w5.out _ _ _ (own_not HO2w5.out HEw5.out (by decide))
  have HO3m2 : Hid ((w5.setCell ⟨q + 1 + 1, 12, none⟩ (Value.slice (some ⟨g3, 0, none⟩) n.votes.length n.votes.length)).ownsRow w.heap.size 3 1 (Value.slice (some ⟨g3, 0, none⟩) n.votes.length n.votes.length) n.votes.length (cellsI n.votes)) := own_set HO3w5.out _ _ _ (own_not HO3w5.out HEw5.out (by decide))
  obtain ⟨X5, hX5⟩ : ∃ X5, X5 = (w5.setCell ⟨q + 1 + 1, 12, none⟩ (Value.slice (some ⟨g3, 0, none⟩) n.votes.length n.votes.length)) := ⟨_, rfl⟩
  have o0_12 : w5.cell? ⟨q + 1 + 1, 12, none⟩ = some (.slice none 0 0) := cell_of_row _ _ 12 _ _ _ HEw5.out
  have of0_12 := frozen_of_row _ _ 12 _ _ HEw5.out
  have a0_13 : w5.cell? ⟨q, 13, none⟩ = some (.slice pa n.peers.length pc) := cell_of_row _ _ 13 _ _ _ HAw5.out
  have a1_13 : (w5.setCell ⟨q + 1 + 1, 12, none⟩ (Value.slice (some ⟨g3, 0, none⟩) n.votes.length n.votes.length)).cell? ⟨q, 13, none⟩ = some (.slice pa n.peers.length pc) := cell_of_row _ _ 13 _ _ _ HAm2.out
  have HEX5 : Hid (X5.heap[q + 1 + 1]? = some (.cells (partN n (Value.slice (some ⟨g1, 0, none⟩) n.conf.length n.conf.length) n.log.start n.log.sterm (Value.slice (some ⟨g2, 0, none⟩) n.log.ents.length n.log.ents.length) n.commit n.clock n.limit (Value.slice (some ⟨g3, 0, none⟩) n.votes.length n.votes.length) (.slice none 0 0)) 36 (0, 0))) := by rw [hX5]; exact HEm2
  have HZX5 : Hid (X5.heap[q + 1]? = some (.cells zeroN 36 (0, 0))) := by rw [hX5]; exact HZm2
  have HAX5 : Hid (X5.heap[q]? = some (.cells #[.int .i64 n.id, .int .i64 n.term, .int .i64 n.vote, .int .i64 n.role, .int .i64 n.lead, .slice ca n.conf.length cc, .int .i64 n.log.start, .int .i64 n.log.sterm, .slice ea n.log.ents.length ec, .int .i64 n.commit, .int .i64 n.clock, .int .i64 n.limit, .slice va n.votes.length vc, .slice pa n.peers.length pc] 28 (0, 0))) := by rw [hX5]; exact HAm2
  have HBX5 : Hid (Below w.heap.size w X5) := by rw [hX5]; exact HBm2
  have HO1X5 : Hid (X5.ownsRow w.heap.size 3 1 (Value.slice (some ⟨g1, 0, none⟩) n.conf.length n.conf.length) n.conf.length (cellsI n.conf)) := by rw [hX5]; exact HO1m2
  have HO2X5 : Hid (X5.ownsRow w.heap.size 74 3 (Value.slice (some ⟨g2, 0, none⟩) n.log.ents.length n.log.ents.length) n.log.ents.length (cellsEn n.log.ents)) := by rw [hX5]; exact HO2m2
  have HO3X5 : Hid (X5.ownsRow w.heap.size 3 1 (Value.slice (some ⟨g3, 0, none⟩) n.votes.length n.votes.length) n.votes.length (cellsI n.votes)) := by rw [hX5]; exact HO3m2
  have HM4 : Hid (Calls Try.prog 31 #[.slice pa n.peers.length pc] X5 fun e w' => e = .returned (.slice (some ⟨X5.heap.size, 0, none⟩) n.peers.length n.peers.length) ∧ w'.ownsRow X5.heap.size 60 4 (.slice (some ⟨X5.heap.size, 0, none⟩) n.peers.length n.peers.length) n.peers.length (cellsPe n.peers) ∧ Below X5.heap.size X5 w') := toPeS_is n.peers HS.out.peers X5 (HR.out X5 HBX5.out).peers
  clear HEm2 HZm2 HAm2 HBm2 HO1m2 HO2m2 HO3m2 HEw5 HZw5 HAw5 HBw5 HEX4 HZX4 HAX4 HBX4 HO1w5 HO2w5 HO3w5 HO1X4 HO2X4 hb5 HM3
  go_wp2_with fail
  rw [← hX5]
  clear hX5 o0_12 of0_12 a0_13 a1_13
  refine Calls.mono HM4.out ?_
  rintro e w6 ⟨rfl, hown, hb6⟩
  have HEw6 : Hid (w6.heap[q + 1 + 1]? = some (.cells (partN n (Value.slice (some ⟨g1, 0, none⟩) n.conf.length n.conf.length) n.log.start n.log.sterm (Value.slice (some ⟨g2, 0, none⟩) n.log.ents.length n.log.ents.length) n.commit n.clock n.limit (Value.slice (some ⟨g3, 0, none⟩) n.votes.length n.votes.length) (.slice none 0 0)) 36 (0, 0))) := (hb6.block _ (Array.getElem?_eq_some_iff.1 HEX5.out).1).trans HEX5.out
  have HZw6 : Hid (w6.heap[q + 1]? = some (.cells zeroN 36 (0, 0))) := (hb6.block _ (Array.getElem?_eq_some_iff.1 HZX5.out).1).trans HZX5.out
  have HAw6 : Hid (w6.heap[q]? = some (.cells #[.int .i64 n.id, .int .i64 n.term, .int .i64 n.vote, .int .i64 n.role, .int .i64 n.lead, .slice ca n.conf.length cc, .int .i64 n.log.start, .int .i64 n.log.sterm, .slice ea n.log.ents.length ec, .int .i64 n.commit, .int .i64 n.clock, .int .i64 n.limit, .slice va n.votes.length vc, .slice pa n.peers.length pc] 28 (0, 0))) := (hb6.block _ (Array.getElem?_eq_some_iff.1 HAX5.out).1).trans HAX5.out
  have HBw6 : Hid (Below w.heap.size w w6) := HBX5.out.trans (hb6.mono HBX5.out.size)
  have HO1w6 : Hid (w6.ownsRow w.heap.size 3 1 (Value.slice (some ⟨g1, 0, none⟩) n.conf.length n.conf.length) n.conf.length (cellsI n.conf)) := own_kept HO1X5.out hb6
  have HO2w6 : Hid (w6.ownsRow w.heap.size 74 3 (Value.slice (some ⟨g2, 0, none⟩) n.log.ents.length n.log.ents.length) n.log.ents.length (cellsEn n.log.ents)) := own_kept HO2X5.out hb6
  have HO3w6 : Hid (w6.ownsRow w.heap.size 3 1 (Value.slice (some ⟨g3, 0, none⟩) n.votes.length n.votes.length) n.votes.length (cellsI n.votes)) := own_kept HO3X5.out hb6
  obtain ⟨g4, hg⟩ : ∃ g, g = X5.heap.size := ⟨_, rfl⟩
  rw [← hg] at hown ⊢
  have HO4w6 : Hid (w6.ownsRow w.heap.size 60 4 (Value.slice (some ⟨g4, 0, none⟩) n.peers.length n.peers.length) n.peers.length (cellsPe n.peers)) := own_mono hown (by rw [hg]; exact HBX5.out.size)
  clear hown hg
  have HEm2 : Hid ((w6.setCell ⟨q + 1 + 1, 13, none⟩ (Value.slice (some ⟨g4, 0, none⟩) n.peers.length n.peers.length)).heap[q + 1 + 1]? = some (.cells (partN n (Value.slice (some ⟨g1, 0, none⟩) n.conf.length n.conf.length) n.log.start n.log.sterm (Value.slice (some ⟨g2, 0, none⟩) n.log.ents.length n.log.ents.length) n.commit n.clock n.limit (Value.slice (some ⟨g3, 0, none⟩) n.votes.length n.votes.length) (Value.slice (some ⟨g4, 0, none⟩) n.peers.length n.peers.length)) 36 (0, 0))) := by
    show _ = _
    have := heap_setCell_same _ (q + 1 + 1) 13 _ 36 (Value.slice (some ⟨g4, 0, none⟩) n.peers.length n.peers.length) HEw6.out
    simpa [partN] using this
  have HZm2 : Hid ((w6.setCell ⟨q + 1 + 1, 13, none⟩ (Value.slice (some ⟨g4, 0, none⟩) n.peers.length n.peers.length)).heap[q + 1]? = some (.cells zeroN 36 (0, 0))) := set_far HZw6.out (by omega) _ _
  have HAm2 : Hid ((w6.setCell ⟨q + 1 + 1, 13, none⟩ (Value.slice (some ⟨g4, 0, none⟩) n.peers.length n.peers.length)).heap[q]? = some (.cells #[.int .i64 n.id, .int .i64 n.term, .int .i64 n.vote, .int .i64 n.role, .int .i64 n.lead, .slice ca n.conf.length cc, .int .i64 n.log.start, .int .i64 n.log.sterm, .slice ea n.log.ents.length ec, .int .i64 n.commit, .int .i64 n.clock, .int .i64 n.limit, .slice va n.votes.length vc, .slice pa n.peers.length pc] 28 (0, 0))) := set_far HAw6.out (by omega) _ _
  have HBm2 : Hid (Below w.heap.size w (w6.setCell ⟨q + 1 + 1, 13, none⟩ (Value.slice (some ⟨g4, 0, none⟩) n.peers.length n.peers.length))) := HBw6.out.setCell (by have := HQ.out; show w.heap.size ≤ q + 1 + 1; omega) _
  have HO1m2 : Hid ((w6.setCell ⟨q + 1 + 1, 13, none⟩ (Value.slice (some ⟨g4, 0, none⟩) n.peers.length n.peers.length)).ownsRow w.heap.size 3 1 (Value.slice (some ⟨g1, 0, none⟩) n.conf.length n.conf.length) n.conf.length (cellsI n.conf)) := own_set HO1w6.out _ _ _ (own_not HO1w6.out HEw6.out (by decide))
  have HO2m2 : Hid ((w6.setCell ⟨q + 1 + 1, 13, none⟩ (Value.slice (some ⟨g4, 0, none⟩) n.peers.length n.peers.length)).ownsRow w.heap.size 74 3 (Value.slice (some ⟨g2, 0, none⟩) n.log.ents.length n.log.ents.length) n.log.ents.length (cellsEn n.log.ents)) := own_set HO2w6.out _ _ _ (own_not HO2w6.out HEw6.out (by decide))
  have HO3m2 : Hid ((w6.setCell ⟨q + 1 + 1, 13, none⟩ (Value.slice (some ⟨g4, 0, none⟩) n.peers.length n.peers.length)).ownsRow w.heap.size 3 1 (Value.slice (some ⟨g3, 0, none⟩) n.votes.length n.votes.length) n.votes.length (cellsI n.votes)) := own_set HO3w6.out _ _ _ (own_not HO3w6.out HEw6.out (by decide))
  have HO4m2 : Hid ((w6.setCell ⟨q + 1 + 1, 13, none⟩ (Value.slice (some ⟨g4, 0, none⟩) n.peers.length n.peers.length)).ownsRow w.heap.size 60 4 (Value.slice (some ⟨g4, 0, none⟩) n.peers.length n.peers.length) n.peers.length (cellsPe n.peers)) := own_set HO4w6.out _ _ _ (own_not HO4w6.out HEw6.out (by decide))
  have o0_13 : w6.cell? ⟨q + 1 + 1, 13, none⟩ = some (.slice none 0 0) := cell_of_row _ _ 13 _ _ _ HEw6.out
  have of0_13 := frozen_of_row _ _ 13 _ _ HEw6.out
  have HONE : Hid (∀ v ∈ (partN n (Value.slice (some ⟨g1, 0, none⟩) n.conf.length n.conf.length) n.log.start n.log.sterm (Value.slice (some ⟨g2, 0, none⟩) n.log.ents.length n.log.ents.length) n.commit n.clock n.limit (Value.slice (some ⟨g3, 0, none⟩) n.votes.length n.votes.length) (Value.slice (some ⟨g4, 0, none⟩) n.peers.length n.peers.length)).toList, v.oneCell' = true) := toNode_one n _ _ _ _ _ _ _ _ _ _ _ _
  clear HM4 HR HS hb6 HEX5 HZX5 HAX5 HBX5 HO1X5 HO2X5 HO3X5
  go_wp2_with (first | (refine wpList_loadA Try.isAgg36 Try.sizeOf36 rfl _ rfl (q + 1 + 1) (partN n (Value.slice (some ⟨g1, 0, none⟩) n.conf.length n.conf.length) n.log.start n.log.sterm (Value.slice (some ⟨g2, 0, none⟩) n.log.ents.length n.log.ents.length) n.commit n.clock n.limit (Value.slice (some ⟨g3, 0, none⟩) n.votes.length n.votes.length) (Value.slice (some ⟨g4, 0, none⟩) n.peers.length n.peers.length)) 36 rfl HEm2.out rfl ?_) | (refine wpList_storeA Try.sizeOf36 rfl _ _ rfl (q + 1) (partN n (Value.slice (some ⟨g1, 0, none⟩) n.conf.length n.conf.length) n.log.start n.log.sterm (Value.slice (some ⟨g2, 0, none⟩) n.log.ents.length n.log.ents.length) n.commit n.clock n.limit (Value.slice (some ⟨g3, 0, none⟩) n.votes.length n.votes.length) (Value.slice (some ⟨g4, 0, none⟩) n.peers.length n.peers.length)) zeroN 36 rfl rfl HZm2.out rfl rfl HONE.out ?_) | fail)
  have hq2 := HQ.out
  refine bodyPost_ret (resultN HZm2.out rfl rfl) rfl ⟨g1, g2, g3, g4, rfl, ⟨?_, ?_, ?_, ?_, HNE.out⟩, below_rowN HBm2.out (by omega) _⟩
  · exact own_rowN HO1m2.out _ _ (own_not HO1m2.out HZm2.out (by decide))
  · exact own_rowN HO2m2.out _ _ (own_not HO2m2.out HZm2.out (by decide))
  · exact own_rowN HO3m2.out _ _ (own_not HO3m2.out HZm2.out (by decide))
  · exact own_rowN HO4m2.out _ _ (own_not HO4m2.out HZm2.out (by decide))
theorem NodeOwn.r {w : World} {B : Nat} {n : NodeL} {g1 g2 g3 g4 : Nat} (h : NodeOwn w B n g1 g2 g3 g4) : NodeR w n (some ⟨g1, 0, none⟩) g1 0 (some ⟨g2, 0, none⟩) g2 0 (some ⟨g3, 0, none⟩) g3 0 (some ⟨g4, 0, none⟩) g4 0 :=
  ⟨cellsI_own rfl h.conf, cellsEn_own rfl h.ents, cellsI_own rfl h.votes, cellsPe_own rfl h.peers⟩
end Go.Proofs.Ytiifjhalkihlbaa
