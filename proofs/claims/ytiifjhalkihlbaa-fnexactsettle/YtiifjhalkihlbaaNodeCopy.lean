/- The program's copiedNode, walked: a node with lists of its own (slices.Clone at peers laid at this program by the given library's theorem). Made by program. -/
import Derived.Shelf.SlGeneric
import Derived.Shelf.SlicesE.Clone
import Derived.Ground.SlgnProg
import Derived.Test.YtiifjhalkihlbaaNodeW
import Derived.Test.YtiifjhalkihlbaaToNode
namespace Go.Proofs
open Go.Shelf
def Try.l68_ren : Go.Shelf.Ren := ⟨fun | 41 => 68 | n => n, fun | 22 => 34 | 23 => 60 | 4 => 4 | n => n, fun | n => n⟩
theorem Try.l68 : Go.Proofs.SlLaysE0.n41 Try.prog Try.l68_ren := {
  mixed := by kernel_rfl
  f41 := ⟨Try.f68.name, by decide, Try.func68.trans (congrArg some (by kernel_rfl))⟩
  t4 := Try.underlying4
  a4 := Try.isAgg4
  z4 := Try.sizeOf4
  v4 := Try.zeroValue4
  t22 := Try.underlying34
  a22 := Try.isAgg34
  z22 := Try.sizeOf34
  v22 := Try.zeroValue34 }
end Go.Proofs
namespace Go.Proofs.Ytiifjhalkihlbaa
open Go.RowKit Go.Lib
set_option linter.unusedVariables false
set_option linter.unusedSimpArgs false
/-- A node whose lists the call owns. -/
structure NodeOwn4 (w : World) (B : Nat) (n : NodeL) (a1 : Option Addr) (c1 : Nat) (a2 : Option Addr) (c2 : Nat) (a3 : Option Addr) (c3 : Nat) (a4 : Option Addr) (c4 : Nat) : Prop where
  conf : w.ownsRow B 3 1 (Value.slice a1 n.conf.length c1) n.conf.length (cellsI n.conf)
  ents : w.ownsRow B 74 3 (Value.slice a2 n.log.ents.length c2) n.log.ents.length (cellsEn n.log.ents)
  votes : w.ownsRow B 3 1 (Value.slice a3 n.votes.length c3) n.votes.length (cellsI n.votes)
  peers : w.ownsRow B 60 4 (Value.slice a4 n.peers.length c4) n.peers.length (cellsPe n.peers)
  apart : (Value.slice a1 n.conf.length c1).ownBlock = none ∨ (Value.slice a1 n.conf.length c1).ownBlock ≠ (Value.slice a3 n.votes.length c3).ownBlock
theorem NodeOwn4.kept {w w' : World} {B : Nat} {n : NodeL} {a1 a2 a3 a4 : Option Addr} {c1 c2 c3 c4 : Nat} (h : NodeOwn4 w B n a1 c1 a2 c2 a3 c3 a4 c4) (hb : Below w.heap.size w w') : NodeOwn4 w' B n a1 c1 a2 c2 a3 c3 a4 c4 :=
  ⟨own_kept h.conf hb, own_kept h.ents hb, own_kept h.votes hb, own_kept h.peers hb, h.apart⟩
theorem NodeOwn4.mono {w : World} {B B' : Nat} {n : NodeL} {a1 a2 a3 a4 : Option Addr} {c1 c2 c3 c4 : Nat} (h : NodeOwn4 w B n a1 c1 a2 c2 a3 c3 a4 c4) (hb : B' ≤ B) : NodeOwn4 w B' n a1 c1 a2 c2 a3 c3 a4 c4 :=
  ⟨own_mono h.conf hb, own_mono h.ents hb, own_mono h.votes hb, own_mono h.peers hb, h.apart⟩
theorem NodeOwn.four {w : World} {B : Nat} {n : NodeL} {g1 g2 g3 g4 : Nat} (h : NodeOwn w B n g1 g2 g3 g4) : NodeOwn4 w B n (some ⟨g1, 0, none⟩) n.conf.length (some ⟨g2, 0, none⟩) n.log.ents.length (some ⟨g3, 0, none⟩) n.votes.length (some ⟨g4, 0, none⟩) n.peers.length :=
  ⟨h.conf, h.ents, h.votes, h.peers, Or.inr (fun e => h.ne (by simpa [Value.ownBlock] using e))⟩
def CopyPost (w : World) (n : NodeL) (e : Ending) (w' : World) : Prop := ∃ (a1 : Option Addr) (c1 : Nat) (a2 : Option Addr) (c2 : Nat) (a3 : Option Addr) (c3 : Nat) (a4 : Option Addr) (c4 : Nat), e = .returned (nodeV n a1 c1 a2 c2 a3 c3 a4 c4) ∧ NodeOwn4 w' w.heap.size n a1 c1 a2 c2 a3 c3 a4 c4 ∧ Below w.heap.size w w'
def part4 (n : NodeL) (v5 v8 v12 v13 : Value) : Array Value := #[.int .i64 n.id, .int .i64 n.term, .int .i64 n.vote, .int .i64 n.role, .int .i64 n.lead, v5, .int .i64 n.log.start, .int .i64 n.log.sterm, v8, .int .i64 n.commit, .int .i64 n.clock, .int .i64 n.limit, v12, v13]
theorem part4_one (n : NodeL) (a1 a2 a3 a4 : Option Addr) (c1 c2 c3 c4 l1 l2 l3 l4 : Nat) : ∀ v ∈ (part4 n (.slice a1 l1 c1) (.slice a2 l2 c2) (.slice a3 l3 c3) (.slice a4 l4 c4)).toList, v.oneCell' = true := by
  intro v hv
  simp [part4] at hv
  rcases hv with rfl | rfl | rfl | rfl | rfl | rfl | rfl | rfl | rfl | rfl | rfl | rfl | rfl | rfl <;> rfl
theorem resultC {f : Func} {w : World} {g : Nat} {A C : Array Value} (hr : f.results = #[.cell 2 36]) (hg : w.heap[g]? = some (.cells C 36 (0, 0))) (hs : A.size = 14) {tmps : Array Value} (ht : tmps.getD 2 undef = .pointer (some ⟨g, 0, none⟩)) : (results f tmps).run Try.prog (w.setRow g A) = .ok (.agg A) (w.setRow g A) := by
  have h := run_loadVar_agg (P := Try.prog) Try.isAgg36 Try.sizeOf36 (row_size (A := A) hg) hs
  have ht' : tmps[2]?.getD undef = .pointer (some ⟨g, 0, none⟩) := by simpa using ht
  simp [results, hr, ht', asAddr, h]
theorem clonePe_is {a : Option Addr} {g off cap : Nat} (l : List PeerL) (hlen : l.length ≤ 1048576) (ha : a = none ∨ a = some ⟨g, off, none⟩) (w : World) (hf : PeAt w a g off l) :
    Calls Try.prog 68 #[.slice a l.length cap] w fun e w' => ∃ v', e = .returned v' ∧ w'.ownsRow w.heap.size 60 4 v' l.length (cellsPe l) ∧ Below w.heap.size w w' := by
  obtain ⟨i0, hi, hz0, hz1, hz2⟩ := info_parts Try.info60
  rcases ha with rfl | rfl
  · have hl : l = [] := by
      by_cases h : 0 < l.length
      · have := hf.1 h; cases this
      · exact List.length_eq_zero_iff.1 (by omega)
    subst hl
    have hcon := AnyE.slices_Clone_nil Try.l68 0 cap w
    change Calls Try.prog 68 _ _ _ at hcon
    refine hcon.mono ?_
    rintro e w' ⟨rfl, rfl⟩
    exact ⟨_, rfl, World.ownsRow_nil _ _ _ _, Below.refl _ _⟩
  · have hcon := AnyE.slices_Clone Try.l68 i0 (.agg #[.int .i64 0, .int .i64 0, .int .i64 0, .int .i64 0]) 4 32 hi hz0 hz1 hz2 rfl (by omega) Try.sizeOf60 g off l.length cap (cellsPe l) w (cellsPe_len l) (by unfold maxLen; omega) (by omega) (fun j u hu => by have := hf.cellsAll j u hu; simpa [Addr.add_lit] using this) cellsPe_one
    change Calls Try.prog 68 _ _ _ at hcon
    refine hcon.mono ?_
    rintro e w' ⟨v', rfl, h1, _, h2⟩
    exact ⟨v', rfl, h1, h2⟩
set_option maxHeartbeats 16000000 in
set_option maxRecDepth 100000 in
theorem implCopy_is {ca ea va pa : Option Addr} {cc ec vc pc gc oc ge oe gv ov gp op : Nat} (n : NodeL) (hs : NodeS n) (hd : ∀ e ∈ n.log.ents, e.data.size ≤ 1048576) (hpa : pa = none ∨ pa = some ⟨gp, op, none⟩) (w : World) (hR : NodeR w n ca gc oc ea ge oe va gv ov pa gp op) :
    Calls Try.prog 39 #[.agg #[.int .i64 n.id, .int .i64 n.term, .int .i64 n.vote, .int .i64 n.role, .int .i64 n.lead, .slice ca n.conf.length cc, .int .i64 n.log.start, .int .i64 n.log.sterm, .slice ea n.log.ents.length ec, .int .i64 n.commit, .int .i64 n.clock, .int .i64 n.limit, .slice va n.votes.length vc, .slice pa n.peers.length pc]] w (CopyPost w n) := by
  obtain ⟨W2, hW2⟩ : ∃ W2, W2 = (w.alloc (.cells #[.int .i64 n.id, .int .i64 n.term, .int .i64 n.vote, .int .i64 n.role, .int .i64 n.lead, .slice ca n.conf.length cc, .int .i64 n.log.start, .int .i64 n.log.sterm, .slice ea n.log.ents.length ec, .int .i64 n.commit, .int .i64 n.clock, .int .i64 n.limit, .slice va n.votes.length vc, .slice pa n.peers.length pc] 36)).alloc (.cells zeroN 36) := ⟨_, rfl⟩
  obtain ⟨q, hq⟩ : ∃ q, q = w.heap.size := ⟨_, rfl⟩
  have hB2 : Below w.heap.size w W2 := by rw [hW2]; exact ((Below.refl _ _).alloc (Nat.le_refl _) _).alloc (by simp) _
  have HE0 : Hid (W2.heap[q]? = some (.cells (part4 n (Value.slice ca n.conf.length cc) (Value.slice ea n.log.ents.length ec) (Value.slice va n.votes.length vc) (Value.slice pa n.peers.length pc)) 36 (0, 0))) := by
    show _ = _
    rw [hW2, hq, Below.heap_alloc _ _ _ (by simp)]
    exact heap_alloc_new w _
  have HZ0 : Hid (W2.heap[q + 1]? = some (.cells zeroN 36 (0, 0))) := by
    show _ = _
    rw [hW2, hq]
    have := heap_alloc_new (w.alloc (.cells #[.int .i64 n.id, .int .i64 n.term, .int .i64 n.vote, .int .i64 n.role, .int .i64 n.lead, .slice ca n.conf.length cc, .int .i64 n.log.start, .int .i64 n.log.sterm, .slice ea n.log.ents.length ec, .int .i64 n.commit, .int .i64 n.clock, .int .i64 n.limit, .slice va n.votes.length vc, .slice pa n.peers.length pc] 36)) (.cells zeroN 36)
    simpa using this
  have HQ : Hid (q = w.heap.size) := hq
  have HB0 : Hid (Below w.heap.size w W2) := hB2
  have HR : Hid (∀ X, Below w.heap.size w X → NodeR X n ca gc oc ea ge oe va gv ov pa gp op) := fun X h => hR.kept h
  have HS : Hid (NodeS n) := hs
  have HD : Hid (∀ e ∈ n.log.ents, e.data.size ≤ 1048576) := hd
  have HPA : Hid (pa = none ∨ pa = some ⟨gp, op, none⟩) := hpa
  have p5 : W2.cell? ⟨q, 5, none⟩ = some (Value.slice ca n.conf.length cc) := cell_of_row _ _ 5 _ _ _ HE0.out
  have HWD : Hid ((w.alloc (Obj.cells #[.int .i64 n.id, .int .i64 n.term, .int .i64 n.vote, .int .i64 n.role, .int .i64 n.lead, .slice ca n.conf.length cc, .int .i64 n.log.start, .int .i64 n.log.sterm, .slice ea n.log.ents.length ec, .int .i64 n.commit, .int .i64 n.clock, .int .i64 n.limit, .slice va n.votes.length vc, .slice pa n.peers.length pc] 36)).alloc (Obj.cells #[.int .i64 0, .int .i64 0, .int .i64 0, .int .i64 0, .int .i64 0, .slice none 0 0, .int .i64 0, .int .i64 0, .slice none 0 0, .int .i64 0, .int .i64 0, .int .i64 0, .slice none 0 0, .slice none 0 0] 36) = W2) := hW2.symm
  rw [hW2, hq] at p5
  clear hB2 hR hs hd hpa hW2
  go_enter Try.func39, Try.ntmps39
  go_wp2_with fail
  rw [HWD.out, ← hq]
  clear HWD hq p5
  refine Calls.mono (cloneI_is (cap := cc) n.conf HS.out.conf W2 (HR.out _ HB0.out).conf) ?_
  rintro e w3 ⟨v, rfl, hown, hb⟩
  obtain ⟨a1, c1, rfl⟩ := own_slice hown
  have HEa : Hid (w3.heap[q]? = some (.cells (part4 n (Value.slice ca n.conf.length cc) (Value.slice ea n.log.ents.length ec) (Value.slice va n.votes.length vc) (Value.slice pa n.peers.length pc)) 36 (0, 0))) := (hb.block _ (Array.getElem?_eq_some_iff.1 HE0.out).1).trans HE0.out
  have HZa : Hid (w3.heap[q + 1]? = some (.cells zeroN 36 (0, 0))) := (hb.block _ (Array.getElem?_eq_some_iff.1 HZ0.out).1).trans HZ0.out
  have HBa : Hid (Below w.heap.size w w3) := HB0.out.trans (hb.mono HB0.out.size)
  have HO1a : Hid (w3.ownsRow w.heap.size 3 1 (Value.slice a1 n.conf.length c1) n.conf.length (cellsI n.conf)) := own_mono hown HB0.out.size
  clear hown hb HE0 HZ0 HB0 
  obtain ⟨X3, hX3⟩ : ∃ X, X = (w3.setCell ⟨q, 5, none⟩ (Value.slice a1 n.conf.length c1)) := ⟨_, rfl⟩
  have HE1 : Hid (X3.heap[q]? = some (.cells (part4 n (Value.slice a1 n.conf.length c1) (Value.slice ea n.log.ents.length ec) (Value.slice va n.votes.length vc) (Value.slice pa n.peers.length pc)) 36 (0, 0))) := by
    show _ = _
    rw [hX3]
    have := heap_setCell_same _ q 5 _ 36 (Value.slice a1 n.conf.length c1) HEa.out
    simpa [part4] using this
  have HZ1 : Hid (X3.heap[q + 1]? = some (.cells zeroN 36 (0, 0))) := by show _ = _; rw [hX3]; exact set_far HZa.out (by omega) _ _
  have HB1 : Hid (Below w.heap.size w X3) := by show Below _ _ _; rw [hX3]; exact HBa.out.setCell (by have := HQ.out; show w.heap.size ≤ q; omega) _
  have HO1_1 : Hid (X3.ownsRow w.heap.size 3 1 (Value.slice a1 n.conf.length c1) n.conf.length (cellsI n.conf)) := by show World.ownsRow _ _ _ _ _ _ _; rw [hX3]; exact own_set HO1a.out _ _ _ (own_not HO1a.out HEa.out (by decide))
  have o5 : w3.cell? ⟨q, 5, none⟩ = some (Value.slice ca n.conf.length cc) := cell_of_row _ _ 5 _ _ _ HEa.out
  have of5 := frozen_of_row _ _ 5 _ _ HEa.out
  have a8 : w3.cell? ⟨q, 8, none⟩ = some (Value.slice ea n.log.ents.length ec) := cell_of_row _ _ 8 _ _ _ HEa.out
  have b8 : (w3.setCell ⟨q, 5, none⟩ (Value.slice a1 n.conf.length c1)).cell? ⟨q, 8, none⟩ = some (Value.slice ea n.log.ents.length ec) := by rw [← hX3]; exact cell_of_row _ _ 8 _ _ _ HE1.out
  clear HEa HZa HBa HO1a
  go_wp2_with fail
  rw [← hX3]
  clear hX3 o5 of5 a8 b8
  refine Calls.mono (copied_is (cap := ec) n.log.ents HS.out.ents HD.out X3 (HR.out _ HB1.out).ents) ?_
  rintro e w4 ⟨v, rfl, hown, hb⟩
  obtain ⟨a2, c2, rfl⟩ := own_slice hown
  have HEa : Hid (w4.heap[q]? = some (.cells (part4 n (Value.slice a1 n.conf.length c1) (Value.slice ea n.log.ents.length ec) (Value.slice va n.votes.length vc) (Value.slice pa n.peers.length pc)) 36 (0, 0))) := (hb.block _ (Array.getElem?_eq_some_iff.1 HE1.out).1).trans HE1.out
  have HZa : Hid (w4.heap[q + 1]? = some (.cells zeroN 36 (0, 0))) := (hb.block _ (Array.getElem?_eq_some_iff.1 HZ1.out).1).trans HZ1.out
  have HBa : Hid (Below w.heap.size w w4) := HB1.out.trans (hb.mono HB1.out.size)
  have HO2a : Hid (w4.ownsRow w.heap.size 74 3 (Value.slice a2 n.log.ents.length c2) n.log.ents.length (cellsEn n.log.ents)) := own_mono hown HB1.out.size
  have HO1a : Hid (w4.ownsRow w.heap.size 3 1 (Value.slice a1 n.conf.length c1) n.conf.length (cellsI n.conf)) := own_kept HO1_1.out hb
  clear hown hb HE1 HZ1 HB1 HO1_1
  obtain ⟨X4, hX4⟩ : ∃ X, X = (w4.setCell ⟨q, 8, none⟩ (Value.slice a2 n.log.ents.length c2)) := ⟨_, rfl⟩
  have HE2 : Hid (X4.heap[q]? = some (.cells (part4 n (Value.slice a1 n.conf.length c1) (Value.slice a2 n.log.ents.length c2) (Value.slice va n.votes.length vc) (Value.slice pa n.peers.length pc)) 36 (0, 0))) := by
    show _ = _
    rw [hX4]
    have := heap_setCell_same _ q 8 _ 36 (Value.slice a2 n.log.ents.length c2) HEa.out
    simpa [part4] using this
  have HZ2 : Hid (X4.heap[q + 1]? = some (.cells zeroN 36 (0, 0))) := by show _ = _; rw [hX4]; exact set_far HZa.out (by omega) _ _
  have HB2 : Hid (Below w.heap.size w X4) := by show Below _ _ _; rw [hX4]; exact HBa.out.setCell (by have := HQ.out; show w.heap.size ≤ q; omega) _
  have HO1_2 : Hid (X4.ownsRow w.heap.size 3 1 (Value.slice a1 n.conf.length c1) n.conf.length (cellsI n.conf)) := by show World.ownsRow _ _ _ _ _ _ _; rw [hX4]; exact own_set HO1a.out _ _ _ (own_not HO1a.out HEa.out (by decide))
  have HO2_2 : Hid (X4.ownsRow w.heap.size 74 3 (Value.slice a2 n.log.ents.length c2) n.log.ents.length (cellsEn n.log.ents)) := by show World.ownsRow _ _ _ _ _ _ _; rw [hX4]; exact own_set HO2a.out _ _ _ (own_not HO2a.out HEa.out (by decide))
  have o8 : w4.cell? ⟨q, 8, none⟩ = some (Value.slice ea n.log.ents.length ec) := cell_of_row _ _ 8 _ _ _ HEa.out
  have of8 := frozen_of_row _ _ 8 _ _ HEa.out
  have a12 : w4.cell? ⟨q, 12, none⟩ = some (Value.slice va n.votes.length vc) := cell_of_row _ _ 12 _ _ _ HEa.out
  have b12 : (w4.setCell ⟨q, 8, none⟩ (Value.slice a2 n.log.ents.length c2)).cell? ⟨q, 12, none⟩ = some (Value.slice va n.votes.length vc) := by rw [← hX4]; exact cell_of_row _ _ 12 _ _ _ HE2.out
  clear HEa HZa HBa HO1a HO2a
  go_wp2_with fail
  rw [← hX4]
  clear hX4 o8 of8 a12 b12
  refine Calls.mono (cloneI_is (cap := vc) n.votes HS.out.votes X4 (HR.out _ HB2.out).votes) ?_
  rintro e w5 ⟨v, rfl, hown, hb⟩
  obtain ⟨a3, c3, rfl⟩ := own_slice hown
  have HAP : Hid ((Value.slice a1 n.conf.length c1).ownBlock = none ∨ (Value.slice a1 n.conf.length c1).ownBlock ≠ (Value.slice a3 n.votes.length c3).ownBlock) := by
    show _ ∨ _
    cases hk : (Value.slice a1 n.conf.length c1).ownBlock with
    | none => exact Or.inl rfl
    | some k =>
      refine Or.inr (fun e => ?_)
      have h1 := (HO1_2.out.lt k hk).2
      have h2 := (hown.lt k e.symm).1
      omega
  have HEa : Hid (w5.heap[q]? = some (.cells (part4 n (Value.slice a1 n.conf.length c1) (Value.slice a2 n.log.ents.length c2) (Value.slice va n.votes.length vc) (Value.slice pa n.peers.length pc)) 36 (0, 0))) := (hb.block _ (Array.getElem?_eq_some_iff.1 HE2.out).1).trans HE2.out
  have HZa : Hid (w5.heap[q + 1]? = some (.cells zeroN 36 (0, 0))) := (hb.block _ (Array.getElem?_eq_some_iff.1 HZ2.out).1).trans HZ2.out
  have HBa : Hid (Below w.heap.size w w5) := HB2.out.trans (hb.mono HB2.out.size)
  have HO3a : Hid (w5.ownsRow w.heap.size 3 1 (Value.slice a3 n.votes.length c3) n.votes.length (cellsI n.votes)) := own_mono hown HB2.out.size
  have HO1a : Hid (w5.ownsRow w.heap.size 3 1 (Value.slice a1 n.conf.length c1) n.conf.length (cellsI n.conf)) := own_kept HO1_2.out hb
  have HO2a : Hid (w5.ownsRow w.heap.size 74 3 (Value.slice a2 n.log.ents.length c2) n.log.ents.length (cellsEn n.log.ents)) := own_kept HO2_2.out hb
  clear hown hb HE2 HZ2 HB2 HO1_2 HO2_2
  obtain ⟨X5, hX5⟩ : ∃ X, X = (w5.setCell ⟨q, 12, none⟩ (Value.slice a3 n.votes.length c3)) := ⟨_, rfl⟩
  have HE3 : Hid (X5.heap[q]? = some (.cells (part4 n (Value.slice a1 n.conf.length c1) (Value.slice a2 n.log.ents.length c2) (Value.slice a3 n.votes.length c3) (Value.slice pa n.peers.length pc)) 36 (0, 0))) := by
    show _ = _
    rw [hX5]
    have := heap_setCell_same _ q 12 _ 36 (Value.slice a3 n.votes.length c3) HEa.out
    simpa [part4] using this
  have HZ3 : Hid (X5.heap[q + 1]? = some (.cells zeroN 36 (0, 0))) := by show _ = _; rw [hX5]; exact set_far HZa.out (by omega) _ _
  have HB3 : Hid (Below w.heap.size w X5) := by show Below _ _ _; rw [hX5]; exact HBa.out.setCell (by have := HQ.out; show w.heap.size ≤ q; omega) _
  have HO1_3 : Hid (X5.ownsRow w.heap.size 3 1 (Value.slice a1 n.conf.length c1) n.conf.length (cellsI n.conf)) := by show World.ownsRow _ _ _ _ _ _ _; rw [hX5]; exact own_set HO1a.out _ _ _ (own_not HO1a.out HEa.out (by decide))
  have HO2_3 : Hid (X5.ownsRow w.heap.size 74 3 (Value.slice a2 n.log.ents.length c2) n.log.ents.length (cellsEn n.log.ents)) := by show World.ownsRow _ _ _ _ _ _ _; rw [hX5]; exact own_set HO2a.out _ _ _ (own_not HO2a.out HEa.out (by decide))
  have HO3_3 : Hid (X5.ownsRow w.heap.size 3 1 (Value.slice a3 n.votes.length c3) n.votes.length (cellsI n.votes)) := by show World.ownsRow _ _ _ _ _ _ _; rw [hX5]; exact own_set HO3a.out _ _ _ (own_not HO3a.out HEa.out (by decide))
  have o12 : w5.cell? ⟨q, 12, none⟩ = some (Value.slice va n.votes.length vc) := cell_of_row _ _ 12 _ _ _ HEa.out
  have of12 := frozen_of_row _ _ 12 _ _ HEa.out
  have a13 : w5.cell? ⟨q, 13, none⟩ = some (Value.slice pa n.peers.length pc) := cell_of_row _ _ 13 _ _ _ HEa.out
  have b13 : (w5.setCell ⟨q, 12, none⟩ (Value.slice a3 n.votes.length c3)).cell? ⟨q, 13, none⟩ = some (Value.slice pa n.peers.length pc) := by rw [← hX5]; exact cell_of_row _ _ 13 _ _ _ HE3.out
  clear HEa HZa HBa HO1a HO2a HO3a
  go_wp2_with fail
  rw [← hX5]
  clear hX5 o12 of12 a13 b13
  refine Calls.mono (clonePe_is (cap := pc) n.peers HS.out.peers HPA.out X5 (HR.out _ HB3.out).peers) ?_
  rintro e w6 ⟨v, rfl, hown, hb⟩
  obtain ⟨a4, c4, rfl⟩ := own_slice hown
  have HEa : Hid (w6.heap[q]? = some (.cells (part4 n (Value.slice a1 n.conf.length c1) (Value.slice a2 n.log.ents.length c2) (Value.slice a3 n.votes.length c3) (Value.slice pa n.peers.length pc)) 36 (0, 0))) := (hb.block _ (Array.getElem?_eq_some_iff.1 HE3.out).1).trans HE3.out
  have HZa : Hid (w6.heap[q + 1]? = some (.cells zeroN 36 (0, 0))) := (hb.block _ (Array.getElem?_eq_some_iff.1 HZ3.out).1).trans HZ3.out
  have HBa : Hid (Below w.heap.size w w6) := HB3.out.trans (hb.mono HB3.out.size)
  have HO4a : Hid (w6.ownsRow w.heap.size 60 4 (Value.slice a4 n.peers.length c4) n.peers.length (cellsPe n.peers)) := own_mono hown HB3.out.size
  have HO1a : Hid (w6.ownsRow w.heap.size 3 1 (Value.slice a1 n.conf.length c1) n.conf.length (cellsI n.conf)) := own_kept HO1_3.out hb
  have HO2a : Hid (w6.ownsRow w.heap.size 74 3 (Value.slice a2 n.log.ents.length c2) n.log.ents.length (cellsEn n.log.ents)) := own_kept HO2_3.out hb
  have HO3a : Hid (w6.ownsRow w.heap.size 3 1 (Value.slice a3 n.votes.length c3) n.votes.length (cellsI n.votes)) := own_kept HO3_3.out hb
  clear hown hb HE3 HZ3 HB3 HO1_3 HO2_3 HO3_3
  obtain ⟨X6, hX6⟩ : ∃ X, X = (w6.setCell ⟨q, 13, none⟩ (Value.slice a4 n.peers.length c4)) := ⟨_, rfl⟩
  have HE4 : Hid (X6.heap[q]? = some (.cells (part4 n (Value.slice a1 n.conf.length c1) (Value.slice a2 n.log.ents.length c2) (Value.slice a3 n.votes.length c3) (Value.slice a4 n.peers.length c4)) 36 (0, 0))) := by
    show _ = _
    rw [hX6]
    have := heap_setCell_same _ q 13 _ 36 (Value.slice a4 n.peers.length c4) HEa.out
    simpa [part4] using this
  have HZ4 : Hid (X6.heap[q + 1]? = some (.cells zeroN 36 (0, 0))) := by show _ = _; rw [hX6]; exact set_far HZa.out (by omega) _ _
  have HB4 : Hid (Below w.heap.size w X6) := by show Below _ _ _; rw [hX6]; exact HBa.out.setCell (by have := HQ.out; show w.heap.size ≤ q; omega) _
  have HO1_4 : Hid (X6.ownsRow w.heap.size 3 1 (Value.slice a1 n.conf.length c1) n.conf.length (cellsI n.conf)) := by show World.ownsRow _ _ _ _ _ _ _; rw [hX6]; exact own_set HO1a.out _ _ _ (own_not HO1a.out HEa.out (by decide))
  have HO2_4 : Hid (X6.ownsRow w.heap.size 74 3 (Value.slice a2 n.log.ents.length c2) n.log.ents.length (cellsEn n.log.ents)) := by show World.ownsRow _ _ _ _ _ _ _; rw [hX6]; exact own_set HO2a.out _ _ _ (own_not HO2a.out HEa.out (by decide))
  have HO3_4 : Hid (X6.ownsRow w.heap.size 3 1 (Value.slice a3 n.votes.length c3) n.votes.length (cellsI n.votes)) := by show World.ownsRow _ _ _ _ _ _ _; rw [hX6]; exact own_set HO3a.out _ _ _ (own_not HO3a.out HEa.out (by decide))
  have HO4_4 : Hid (X6.ownsRow w.heap.size 60 4 (Value.slice a4 n.peers.length c4) n.peers.length (cellsPe n.peers)) := by show World.ownsRow _ _ _ _ _ _ _; rw [hX6]; exact own_set HO4a.out _ _ _ (own_not HO4a.out HEa.out (by decide))
  have o13 : w6.cell? ⟨q, 13, none⟩ = some (Value.slice pa n.peers.length pc) := cell_of_row _ _ 13 _ _ _ HEa.out
  have of13 := frozen_of_row _ _ 13 _ _ HEa.out
  have HES : Hid ((w6.setCell ⟨q, 13, none⟩ (Value.slice a4 n.peers.length c4)).heap[q]? = some (.cells (part4 n (Value.slice a1 n.conf.length c1) (Value.slice a2 n.log.ents.length c2) (Value.slice a3 n.votes.length c3) (Value.slice a4 n.peers.length c4)) 36 (0, 0))) := by show _ = _; rw [← hX6]; exact HE4.out
  have HZS : Hid ((w6.setCell ⟨q, 13, none⟩ (Value.slice a4 n.peers.length c4)).heap[q + 1]? = some (.cells zeroN 36 (0, 0))) := by show _ = _; rw [← hX6]; exact HZ4.out
  have HBS : Hid (Below w.heap.size w (w6.setCell ⟨q, 13, none⟩ (Value.slice a4 n.peers.length c4))) := by show Below _ _ _; rw [← hX6]; exact HB4.out
  have HOS : Hid (NodeOwn4 (w6.setCell ⟨q, 13, none⟩ (Value.slice a4 n.peers.length c4)) w.heap.size n a1 c1 a2 c2 a3 c3 a4 c4) := by
    show NodeOwn4 _ _ _ _ _ _ _ _ _ _ _
    rw [← hX6]
    exact ⟨HO1_4.out, HO2_4.out, HO3_4.out, HO4_4.out, HAP.out⟩
  have HONE : Hid (∀ v ∈ (part4 n (Value.slice a1 n.conf.length c1) (Value.slice a2 n.log.ents.length c2) (Value.slice a3 n.votes.length c3) (Value.slice a4 n.peers.length c4)).toList, v.oneCell' = true) := part4_one n _ _ _ _ _ _ _ _ _ _ _ _
  clear HEa HZa HBa HO1a HO2a HO3a HO4a HE4 HZ4 HB4 HO1_4 HO2_4 HO3_4 HO4_4 hX6 HR HS HD
  go_wp2_with (first | (refine wpList_loadA Try.isAgg36 Try.sizeOf36 rfl _ rfl q (part4 n (Value.slice a1 n.conf.length c1) (Value.slice a2 n.log.ents.length c2) (Value.slice a3 n.votes.length c3) (Value.slice a4 n.peers.length c4)) 36 rfl HES.out rfl ?_) | (refine wpList_storeA Try.sizeOf36 rfl _ _ rfl (q + 1) (part4 n (Value.slice a1 n.conf.length c1) (Value.slice a2 n.log.ents.length c2) (Value.slice a3 n.votes.length c3) (Value.slice a4 n.peers.length c4)) zeroN 36 rfl rfl HZS.out rfl rfl HONE.out ?_) | fail)
  have hq2 := HQ.out
  refine bodyPost_ret (resultC rfl HZS.out rfl rfl) rfl ⟨a1, c1, a2, c2, a3, c3, a4, c4, rfl, ⟨?_, ?_, ?_, ?_, HOS.out.apart⟩, below_rowN HBS.out (by omega) _⟩
  · exact own_rowN HOS.out.conf _ _ (own_not HOS.out.conf HZS.out (by decide))
  · exact own_rowN HOS.out.ents _ _ (own_not HOS.out.ents HZS.out (by decide))
  · exact own_rowN HOS.out.votes _ _ (own_not HOS.out.votes HZS.out (by decide))
  · exact own_rowN HOS.out.peers _ _ (own_not HOS.out.peers HZS.out (by decide))
end Go.Proofs.Ytiifjhalkihlbaa
