/- Nodes marked and found marked; what a law holds of nodes: several lists at a time. Made by program. -/
import Derived.Test.YtiifjhalkihlbaaNodeCopy
import Derived.Test.YtiifjhalkihlbaaNodeW
import Derived.Test.YtiifjhalkihlbaaLEn
import Derived.Test.YtiifjhalkihlbaaInts
import Derived.Deep.RegionHeld3
import Derived.Test.YtiifjhalkihlbaaLaw
namespace Go.Proofs.Ytiifjhalkihlbaa
open Go.RowKit
set_option linter.unusedVariables false
set_option linter.unusedSimpArgs false
def rowsOf (n : NodeL) (a1 : Option Addr) (c1 : Nat) (a2 : Option Addr) (c2 : Nat) (a3 : Option Addr) (c3 : Nat) (a4 : Option Addr) (c4 : Nat) : List RowD := [⟨.slice a1 n.conf.length c1, 3, 1, n.conf.length, cellsI n.conf⟩, ⟨.slice a2 n.log.ents.length c2, 74, 3, n.log.ents.length, cellsEn n.log.ents⟩, ⟨.slice a3 n.votes.length c3, 3, 1, n.votes.length, cellsI n.votes⟩, ⟨.slice a4 n.peers.length c4, 60, 4, n.peers.length, cellsPe n.peers⟩]
def m2 (n : NodeL) : Nat := 1 + n.conf.length
def m3 (n : NodeL) : Nat := m2 n + 3 * n.log.ents.length
def m4 (n : NodeL) : Nat := m3 n + n.votes.length
def m5 (n : NodeL) : Nat := m4 n + 4 * n.peers.length
def rowsM (n : NodeL) (a1 : Option Addr) (c1 : Nat) (a2 : Option Addr) (c2 : Nat) (a3 : Option Addr) (c3 : Nat) (a4 : Option Addr) (c4 : Nat) : List RowD := [⟨.slice a1 n.conf.length c1, 3, 1, n.conf.length, cellsI (marksI 1 n.conf.length)⟩, ⟨.slice a2 n.log.ents.length c2, 74, 3, n.log.ents.length, cellsEn (marksEn (m2 n) n.log.ents.length)⟩, ⟨.slice a3 n.votes.length c3, 3, 1, n.votes.length, cellsI (marksI (m3 n) n.votes.length)⟩, ⟨.slice a4 n.peers.length c4, 60, 4, n.peers.length, cellsPe (marksPe (m4 n) n.peers.length)⟩]
theorem LawS.callN {w W W' : World} {bs : List (Nat × Obj)} {rows : List RowD} (h : LawS w bs rows W) (hb : Below W.heap.size W W') (ns : List RowD) (hv : ∀ r ∈ ns, W'.ownsRow W.heap.size r.e r.z r.v r.n r.xs) (hp : ns.Pairwise fun r s => r.v.ownBlock = none ∨ r.v.ownBlock ≠ s.v.ownBlock) : LawS w bs (ns ++ rows) W' := by
  have h2 := h.step hb
  refine ⟨h2.below, h2.has, fun r hr => ?_, fun p hp' r hr => ?_, ?_, h.dist, h.up⟩
  · rcases List.mem_append.1 hr with hr | hr
    · exact own_mono (hv r hr) h.below.size
    · exact h2.own r hr
  · rcases List.mem_append.1 hr with hr | hr
    · intro e
      have h3 := ((hv r hr).lt _ e).1
      have h4 := h.bsz p hp'
      omega
    · exact h2.sep p hp' r hr
  · refine List.pairwise_append.2 ⟨hp, h.apart, fun r hr s hs => ?_⟩
    cases e : r.v.ownBlock with
    | none => exact Or.inl rfl
    | some k =>
      refine Or.inr (fun e2 => ?_)
      have h3 := ((hv r hr).lt k e).1
      have h4 := h.rsz s hs k e2.symm
      omega
theorem LawS.dropB {w W : World} {p : Nat × Obj} {bs : List (Nat × Obj)} {rows : List RowD} (h : LawS w (p :: bs) rows W) : LawS w bs rows W :=
  ⟨h.below, fun q hq => h.has q (List.mem_cons_of_mem _ hq), h.own, fun q hq => h.sep q (List.mem_cons_of_mem _ hq), h.apart, (List.pairwise_cons.1 h.dist).2, fun q hq => h.up q (List.mem_cons_of_mem _ hq)⟩
theorem LawS.markAt {w W W' : World} {bs : List (Nat × Obj)} {pre post : List RowD} {r : RowD} (h : LawS w bs (pre ++ r :: post) W) (hg : W.grownBy W' r.v.ownBlock) {xs : List Value} (hv : W'.ownsRow w.heap.size r.e r.z r.v r.n xs) : LawS w bs (pre ++ ⟨r.v, r.e, r.z, r.n, xs⟩ :: post) W' := by
  have := h.mark pre.length (r := r) (by simp) hg hv
  simpa using this
/-- A node whose lists the call owns, as a law holds it. -/
theorem LawS.node {w W W' : World} {bs : List (Nat × Obj)} {rows : List RowD} (h : LawS w bs rows W) (hb : Below W.heap.size W W') {n : NodeL} {a1 a2 a3 a4 : Option Addr} {c1 c2 c3 c4 : Nat} (ho : NodeOwn4 W' W.heap.size n a1 c1 a2 c2 a3 c3 a4 c4) : LawS w bs (rowsOf n a1 c1 a2 c2 a3 c3 a4 c4 ++ rows) W' := by
  have far : ∀ {k1 k2 : TypeId} {z1 z2 n1 n2 : Nat} {v1 v2 : Value} {x1 x2 : List Value}, W'.ownsRow W.heap.size k1 z1 v1 n1 x1 → W'.ownsRow W.heap.size k2 z2 v2 n2 x2 → k1 ≠ k2 → (v1.ownBlock = none ∨ v1.ownBlock ≠ v2.ownBlock) := by
    intro k1 k2 z1 z2 n1 n2 v1 v2 x1 x2 h1 h2 hne
    cases e : v1.ownBlock with
    | none => exact Or.inl rfl
    | some j =>
      refine Or.inr (fun e2 => ?_)
      rcases h1.2 with ⟨q1, _⟩ | ⟨g, cap, cur, q1, _, hh, _⟩
      · rw [q1] at e; simp [Value.ownBlock] at e
      · rw [q1] at e
        obtain rfl : g = j := by simpa [Value.ownBlock] using e
        exact own_not h2 hh (fun x => hne x.symm) e2.symm
  refine h.callN hb _ (fun r hr => ?_) ?_
  · simp only [rowsOf, List.mem_cons, List.not_mem_nil, or_false] at hr
    rcases hr with rfl | rfl | rfl | rfl
    · exact ho.conf
    · exact ho.ents
    · exact ho.votes
    · exact ho.peers
  · refine List.Pairwise.cons (fun s hs => ?_) (List.Pairwise.cons (fun s hs => ?_) (List.Pairwise.cons (fun s hs => ?_) (List.Pairwise.cons (fun s hs => by simp at hs) List.Pairwise.nil)))
    · simp only [List.mem_cons, List.not_mem_nil, or_false] at hs
      rcases hs with rfl | rfl | rfl
      · exact far ho.conf ho.ents (by decide)
      · exact ho.apart
      · exact far ho.conf ho.peers (by decide)
    · simp only [List.mem_cons, List.not_mem_nil, or_false] at hs
      rcases hs with rfl | rfl
      · exact far ho.ents ho.votes (by decide)
      · exact far ho.ents ho.peers (by decide)
    · simp only [List.mem_cons, List.not_mem_nil, or_false] at hs
      subst hs
      exact far ho.votes ho.peers (by decide)
theorem LawS.nodeR {w W : World} {bs : List (Nat × Obj)} {rows : List RowD} (h : LawS w bs rows W) {n : NodeL} {a1 a2 a3 a4 : Option Addr} {c1 c2 c3 c4 : Nat} (hm : ∀ r ∈ rowsOf n a1 c1 a2 c2 a3 c3 a4 c4, r ∈ rows) : ∃ g1 g2 g3 g4 : Nat, NodeR W n a1 g1 0 a2 g2 0 a3 g3 0 a4 g4 0 := by
  have o1 := h.own _ (hm _ (List.Mem.head _))
  have o2 := h.own _ (hm _ (List.Mem.tail _ (List.Mem.head _)))
  have o3 := h.own _ (hm _ (List.Mem.tail _ (List.Mem.tail _ (List.Mem.head _))))
  have o4 := h.own _ (hm _ (List.Mem.tail _ (List.Mem.tail _ (List.Mem.tail _ (List.Mem.head _)))))
  obtain ⟨_, g1, _, e1, i1⟩ := cellsI_slice o1
  cases e1
  obtain ⟨_, g2, _, e2, i2⟩ := cellsEn_slice o2
  cases e2
  obtain ⟨_, g3, _, e3, i3⟩ := cellsI_slice o3
  cases e3
  obtain ⟨_, g4, _, e4, i4⟩ := cellsPe_slice o4
  cases e4
  exact ⟨g1, g2, g3, g4, i1, i2, i3, i4⟩
set_option maxHeartbeats 4000000 in
set_option maxRecDepth 100000 in
theorem markNode_law {w W : World} {bs : List (Nat × Obj)} {pre post : List RowD} {n : NodeL} {a1 a2 a3 a4 : Option Addr} {c1 c2 c3 c4 : Nat} (hs : NodeS n) (h : LawS w bs (pre ++ (rowsOf n a1 c1 a2 c2 a3 c3 a4 c4 ++ post)) W) :
    Calls Try.prog 16 #[.agg #[.int .i64 n.id, .int .i64 n.term, .int .i64 n.vote, .int .i64 n.role, .int .i64 n.lead, .slice a1 n.conf.length c1, .int .i64 n.log.start, .int .i64 n.log.sterm, .slice a2 n.log.ents.length c2, .int .i64 n.commit, .int .i64 n.clock, .int .i64 n.limit, .slice a3 n.votes.length c3, .slice a4 n.peers.length c4], .int .i64 1] W fun e W' => e = .returned (.int .i64 ((m5 n : Nat) : Int)) ∧ LawS w bs (pre ++ (rowsM n a1 c1 a2 c2 a3 c3 a4 c4 ++ post)) W' := by
  have HS : Hid (NodeS n) := hs
  obtain ⟨X, hX⟩ : ∃ X, X = W.alloc (.cells #[.int .i64 n.id, .int .i64 n.term, .int .i64 n.vote, .int .i64 n.role, .int .i64 n.lead, .slice a1 n.conf.length c1, .int .i64 n.log.start, .int .i64 n.log.sterm, .slice a2 n.log.ents.length c2, .int .i64 n.commit, .int .i64 n.clock, .int .i64 n.limit, .slice a3 n.votes.length c3, .slice a4 n.peers.length c4] 36) := ⟨_, rfl⟩
  obtain ⟨q, hq⟩ : ∃ q, q = W.heap.size := ⟨_, rfl⟩
  have L0 : Hid (LawS w ((q, .cells #[.int .i64 n.id, .int .i64 n.term, .int .i64 n.vote, .int .i64 n.role, .int .i64 n.lead, .slice a1 n.conf.length c1, .int .i64 n.log.start, .int .i64 n.log.sterm, .slice a2 n.log.ents.length c2, .int .i64 n.commit, .int .i64 n.clock, .int .i64 n.limit, .slice a3 n.votes.length c3, .slice a4 n.peers.length c4] 36) :: bs) (pre ++ (rowsOf n a1 c1 a2 c2 a3 c3 a4 c4 ++ post)) X) := by show LawS _ _ _ _; rw [hX, hq]; exact h.alloc _
  have HWD : Hid (W.alloc (Obj.cells #[.int .i64 n.id, .int .i64 n.term, .int .i64 n.vote, .int .i64 n.role, .int .i64 n.lead, .slice a1 n.conf.length c1, .int .i64 n.log.start, .int .i64 n.log.sterm, .slice a2 n.log.ents.length c2, .int .i64 n.commit, .int .i64 n.clock, .int .i64 n.limit, .slice a3 n.votes.length c3, .slice a4 n.peers.length c4] 36) = X) := hX.symm
  have p5 : X.cell? ⟨q, 5, none⟩ = some (.slice a1 n.conf.length c1) := cell_of_row _ _ 5 _ _ _ (L0.out.has _ (List.Mem.head _))
  rw [hX, hq] at p5
  clear hX hs h
  go_enter Try.func16, Try.ntmps16
  go_wp2_with fail
  rw [HWD.out, ← hq]
  clear HWD hq p5
  have L0a : Hid (LawS w ((q, .cells #[.int .i64 n.id, .int .i64 n.term, .int .i64 n.vote, .int .i64 n.role, .int .i64 n.lead, .slice a1 n.conf.length c1, .int .i64 n.log.start, .int .i64 n.log.sterm, .slice a2 n.log.ents.length c2, .int .i64 n.commit, .int .i64 n.clock, .int .i64 n.limit, .slice a3 n.votes.length c3, .slice a4 n.peers.length c4] 36) :: bs) (pre ++ (⟨.slice a1 n.conf.length c1, 3, 1, n.conf.length, cellsI n.conf⟩ : RowD) :: ((⟨.slice a2 n.log.ents.length c2, 74, 3, n.log.ents.length, cellsEn n.log.ents⟩ : RowD) :: (⟨.slice a3 n.votes.length c3, 3, 1, n.votes.length, cellsI n.votes⟩ : RowD) :: (⟨.slice a4 n.peers.length c4, 60, 4, n.peers.length, cellsPe n.peers⟩ : RowD) :: post)) X) := L0.out
  have hc0 := markIntS_own n.conf HS.out.conf 1 (by omega) X (L0a.out.own _ (List.mem_append_right _ (List.Mem.head _)))
  refine Calls.mono hc0 ?_
  clear hc0
  rintro e w1 ⟨rfl, ho, hg⟩
  have L1 := L0a.out.markAt hg ho
  have L1b : LawS w ((q, .cells #[.int .i64 n.id, .int .i64 n.term, .int .i64 n.vote, .int .i64 n.role, .int .i64 n.lead, .slice a1 n.conf.length c1, .int .i64 n.log.start, .int .i64 n.log.sterm, .slice a2 n.log.ents.length c2, .int .i64 n.commit, .int .i64 n.clock, .int .i64 n.limit, .slice a3 n.votes.length c3, .slice a4 n.peers.length c4] 36) :: bs) ((pre ++ [(⟨.slice a1 n.conf.length c1, 3, 1, n.conf.length, cellsI (marksI 1 n.conf.length)⟩ : RowD)]) ++ (⟨.slice a2 n.log.ents.length c2, 74, 3, n.log.ents.length, cellsEn n.log.ents⟩ : RowD) :: ((⟨.slice a3 n.votes.length c3, 3, 1, n.votes.length, cellsI n.votes⟩ : RowD) :: (⟨.slice a4 n.peers.length c4, 60, 4, n.peers.length, cellsPe n.peers⟩ : RowD) :: post)) w1 := by simpa [List.append_assoc] using L1
  have HL1 : Hid (LawS w ((q, .cells #[.int .i64 n.id, .int .i64 n.term, .int .i64 n.vote, .int .i64 n.role, .int .i64 n.lead, .slice a1 n.conf.length c1, .int .i64 n.log.start, .int .i64 n.log.sterm, .slice a2 n.log.ents.length c2, .int .i64 n.commit, .int .i64 n.clock, .int .i64 n.limit, .slice a3 n.votes.length c3, .slice a4 n.peers.length c4] 36) :: bs) ((pre ++ [(⟨.slice a1 n.conf.length c1, 3, 1, n.conf.length, cellsI (marksI 1 n.conf.length)⟩ : RowD)]) ++ (⟨.slice a2 n.log.ents.length c2, 74, 3, n.log.ents.length, cellsEn n.log.ents⟩ : RowD) :: ((⟨.slice a3 n.votes.length c3, 3, 1, n.votes.length, cellsI n.votes⟩ : RowD) :: (⟨.slice a4 n.peers.length c4, 60, 4, n.peers.length, cellsPe n.peers⟩ : RowD) :: post)) w1) := L1b
  have hmk : (1 + n.conf.length) = m2 n := rfl
  rw [hmk]
  have hc := markLog_own n.log HS.out.ents (m2 n) (by unfold m2; omega) (by have := HS.out.conf; unfold m2; omega) w1 L1b.below.size (L1b.own _ (List.mem_append_right _ (List.Mem.head _)))
  have a6 : w1.cell? ⟨q, 6, none⟩ = some (.int .i64 n.log.start) := cell_of_row _ _ 6 _ _ _ (L1b.has _ (List.Mem.head _))
  have a7 : w1.cell? ⟨q, 7, none⟩ = some (.int .i64 n.log.sterm) := cell_of_row _ _ 7 _ _ _ (L1b.has _ (List.Mem.head _))
  have a8 : w1.cell? ⟨q, 8, none⟩ = some (.slice a2 n.log.ents.length c2) := cell_of_row _ _ 8 _ _ _ (L1b.has _ (List.Mem.head _))
  have HCC : Hid _ := hc
  clear hmk hc ho hg L1 L1b
  go_wp2_with fail
  clear a6 a7 a8
  refine Calls.mono HCC.out ?_
  clear HCC
  rintro e w2 ⟨rfl, ho, hg⟩
  have L2 := HL1.out.markAt hg ho
  have L2b : LawS w ((q, .cells #[.int .i64 n.id, .int .i64 n.term, .int .i64 n.vote, .int .i64 n.role, .int .i64 n.lead, .slice a1 n.conf.length c1, .int .i64 n.log.start, .int .i64 n.log.sterm, .slice a2 n.log.ents.length c2, .int .i64 n.commit, .int .i64 n.clock, .int .i64 n.limit, .slice a3 n.votes.length c3, .slice a4 n.peers.length c4] 36) :: bs) ((pre ++ [(⟨.slice a1 n.conf.length c1, 3, 1, n.conf.length, cellsI (marksI 1 n.conf.length)⟩ : RowD), (⟨.slice a2 n.log.ents.length c2, 74, 3, n.log.ents.length, cellsEn (marksEn (m2 n) n.log.ents.length)⟩ : RowD)]) ++ (⟨.slice a3 n.votes.length c3, 3, 1, n.votes.length, cellsI n.votes⟩ : RowD) :: ((⟨.slice a4 n.peers.length c4, 60, 4, n.peers.length, cellsPe n.peers⟩ : RowD) :: post)) w2 := by simpa [List.append_assoc] using L2
  have HL2 : Hid (LawS w ((q, .cells #[.int .i64 n.id, .int .i64 n.term, .int .i64 n.vote, .int .i64 n.role, .int .i64 n.lead, .slice a1 n.conf.length c1, .int .i64 n.log.start, .int .i64 n.log.sterm, .slice a2 n.log.ents.length c2, .int .i64 n.commit, .int .i64 n.clock, .int .i64 n.limit, .slice a3 n.votes.length c3, .slice a4 n.peers.length c4] 36) :: bs) ((pre ++ [(⟨.slice a1 n.conf.length c1, 3, 1, n.conf.length, cellsI (marksI 1 n.conf.length)⟩ : RowD), (⟨.slice a2 n.log.ents.length c2, 74, 3, n.log.ents.length, cellsEn (marksEn (m2 n) n.log.ents.length)⟩ : RowD)]) ++ (⟨.slice a3 n.votes.length c3, 3, 1, n.votes.length, cellsI n.votes⟩ : RowD) :: ((⟨.slice a4 n.peers.length c4, 60, 4, n.peers.length, cellsPe n.peers⟩ : RowD) :: post)) w2) := L2b
  have hmk : (m2 n + 3 * n.log.ents.length) = m3 n := rfl
  rw [hmk]
  have hc := markIntS_own n.votes HS.out.votes (m3 n) (by have := HS.out.conf; have := HS.out.ents; unfold m3 m2; omega) w2 (L2b.own _ (List.mem_append_right _ (List.Mem.head _)))
  have a12 : w2.cell? ⟨q, 12, none⟩ = some (.slice a3 n.votes.length c3) := cell_of_row _ _ 12 _ _ _ (L2b.has _ (List.Mem.head _))
  have HCC : Hid _ := hc
  clear hmk hc ho hg L2 L2b
  go_wp2_with fail
  clear a12
  refine Calls.mono HCC.out ?_
  clear HCC
  rintro e w3 ⟨rfl, ho, hg⟩
  have L3 := HL2.out.markAt hg ho
  have L3b : LawS w ((q, .cells #[.int .i64 n.id, .int .i64 n.term, .int .i64 n.vote, .int .i64 n.role, .int .i64 n.lead, .slice a1 n.conf.length c1, .int .i64 n.log.start, .int .i64 n.log.sterm, .slice a2 n.log.ents.length c2, .int .i64 n.commit, .int .i64 n.clock, .int .i64 n.limit, .slice a3 n.votes.length c3, .slice a4 n.peers.length c4] 36) :: bs) ((pre ++ [(⟨.slice a1 n.conf.length c1, 3, 1, n.conf.length, cellsI (marksI 1 n.conf.length)⟩ : RowD), (⟨.slice a2 n.log.ents.length c2, 74, 3, n.log.ents.length, cellsEn (marksEn (m2 n) n.log.ents.length)⟩ : RowD), (⟨.slice a3 n.votes.length c3, 3, 1, n.votes.length, cellsI (marksI (m3 n) n.votes.length)⟩ : RowD)]) ++ (⟨.slice a4 n.peers.length c4, 60, 4, n.peers.length, cellsPe n.peers⟩ : RowD) :: (post)) w3 := by simpa [List.append_assoc] using L3
  have HL3 : Hid (LawS w ((q, .cells #[.int .i64 n.id, .int .i64 n.term, .int .i64 n.vote, .int .i64 n.role, .int .i64 n.lead, .slice a1 n.conf.length c1, .int .i64 n.log.start, .int .i64 n.log.sterm, .slice a2 n.log.ents.length c2, .int .i64 n.commit, .int .i64 n.clock, .int .i64 n.limit, .slice a3 n.votes.length c3, .slice a4 n.peers.length c4] 36) :: bs) ((pre ++ [(⟨.slice a1 n.conf.length c1, 3, 1, n.conf.length, cellsI (marksI 1 n.conf.length)⟩ : RowD), (⟨.slice a2 n.log.ents.length c2, 74, 3, n.log.ents.length, cellsEn (marksEn (m2 n) n.log.ents.length)⟩ : RowD), (⟨.slice a3 n.votes.length c3, 3, 1, n.votes.length, cellsI (marksI (m3 n) n.votes.length)⟩ : RowD)]) ++ (⟨.slice a4 n.peers.length c4, 60, 4, n.peers.length, cellsPe n.peers⟩ : RowD) :: (post)) w3) := L3b
  have hmk : (m3 n + n.votes.length) = m4 n := rfl
  rw [hmk]
  have hc := markPeS_own n.peers HS.out.peers (m4 n) (by unfold m4 m3 m2; omega) (by have := HS.out.conf; have := HS.out.ents; have := HS.out.votes; unfold m4 m3 m2; omega) w3 (L3b.own _ (List.mem_append_right _ (List.Mem.head _)))
  have a13 : w3.cell? ⟨q, 13, none⟩ = some (.slice a4 n.peers.length c4) := cell_of_row _ _ 13 _ _ _ (L3b.has _ (List.Mem.head _))
  have HCC : Hid _ := hc
  clear hmk hc ho hg L3 L3b
  go_wp2_with fail
  clear a13
  refine Calls.mono HCC.out ?_
  clear HCC
  rintro e w4 ⟨rfl, ho, hg⟩
  have L4 := HL3.out.markAt hg ho
  have hmk : (m4 n + 4 * n.peers.length) = m5 n := rfl
  rw [hmk]
  have HL : Hid (LawS w bs (pre ++ (rowsM n a1 c1 a2 c2 a3 c3 a4 c4 ++ post)) w4) := by
    have := L4.dropB
    show LawS _ _ _ _
    simpa [List.append_assoc, rowsM] using this
  clear hmk ho hg L4
  go_wp2
  go_ret
  exact ⟨rfl, HL.out⟩
set_option maxHeartbeats 2000000 in
set_option maxRecDepth 100000 in
theorem heldPeS_is {a : Option Addr} {g off cap : Nat} (n : Nat) (hlen : n ≤ 1048576) (k : Nat) (h0 : 0 < k) (hk : k ≤ 100000000) (w : World) (hf : PeAt w a g off (marksPe k n)) :
    Calls Try.prog 44 #[.slice a n cap, .int .i64 (k : Int)] w fun e w' => e = .returned (.int .i64 ((k + 4 * n : Nat) : Int)) ∧ Below w.heap.size w w' := by
  have HF : Hid (PeAt w a g off (marksPe k n)) := hf
  clear hf
  go_enter Try.func44, Try.ntmps44
  go_wp2
  go_loopw [1, 5] (fun x i wr => ∃ j : Nat, j ≤ n ∧ i = .int .i64 (j : Int) ∧ x = .int .i64 ((k + 4 * j : Nat) : Int) ∧ Below w.heap.size w wr) (fun _ i _ => n - (intOf i).toNat)
  case atStart => exact ⟨0, Nat.zero_le _, rfl, rfl, Below.refl _ _⟩
  case round =>
    obtain ⟨j, hj, rfl, rfl, hbel⟩ := hrel
    by_cases hlt : j < n
    · have hjl : j < (marksPe k n).length := by rw [marksPe_len]; exact hlt
      obtain ⟨c0, c1, c2, c3⟩ := (HF.out.kept hbel).2 j hjl
      rw [marksPe_at] at c0 c1 c2 c3
      have ea := HF.out.1 (by omega)
      subst ea
      have hk0 : (0 : Int) ≤ (j : Int) := by omega
      have hk1 : (j : Int) < (n : Int) := by omega
      obtain ⟨M, hM⟩ : ∃ M : Nat, M = k + 4 * j := ⟨_, rfl⟩
      have hMb : 0 < M ∧ M ≤ 900000000 := by omega
      have HM : Hid (M = k + 4 * j) := hM
      rw [← hM] at c0 c1 c2 c3 ⊢
      clear hM hjl
      simp only [markPe1] at c0 c1 c2 c3
      have e1 : ((M + 1 : Nat) : Int) = (M : Int) + 1 := by omega
      have e2 : ((M + 2 : Nat) : Int) = (M : Int) + 1 + 1 := by omega
      have e3 : ((M + 3 : Nat) : Int) = (M : Int) + 1 + 1 + 1 := by omega
      rw [e1] at c1
      rw [e2] at c2
      rw [e3] at c3
      clear e1 e2 e3
      go_wp2
      go_roundw
      case rel =>
        refine ⟨j + 1, by omega, by go_num, ?_, hbel⟩
        refine congrArg (Value.int .i64) ?_
        have := HM.out
        omega
      case measure => simp [intOf]; omega
    · have hk1 : ¬ (j : Int) < (n : Int) := by omega
      have HE : Hid (j = n) := by show _ = _; omega
      go_wp2
      go_ret
      exact ⟨by rw [← HE.out]; rfl, hbel⟩
structure NodeM (w : World) (n : NodeL) (a1 : Option Addr) (c1 : Nat) (a2 : Option Addr) (c2 : Nat) (a3 : Option Addr) (c3 : Nat) (a4 : Option Addr) (c4 : Nat) : Prop where
  conf : ∃ g, IntAt w a1 g 0 (marksI 1 n.conf.length)
  ents : ∃ g, EnAt w a2 g 0 (marksEn (m2 n) n.log.ents.length)
  votes : ∃ g, IntAt w a3 g 0 (marksI (m3 n) n.votes.length)
  peers : ∃ g, PeAt w a4 g 0 (marksPe (m4 n) n.peers.length)
theorem NodeM.kept {w w' : World} {n : NodeL} {a1 a2 a3 a4 : Option Addr} {c1 c2 c3 c4 : Nat} (h : NodeM w n a1 c1 a2 c2 a3 c3 a4 c4) (hb : Below w.heap.size w w') : NodeM w' n a1 c1 a2 c2 a3 c3 a4 c4 :=
  ⟨h.conf.elim fun g hg => ⟨g, hg.kept hb⟩, h.ents.elim fun g hg => ⟨g, hg.kept hb⟩, h.votes.elim fun g hg => ⟨g, hg.kept hb⟩, h.peers.elim fun g hg => ⟨g, hg.kept hb⟩⟩
theorem LawS.nodeM {w W : World} {bs : List (Nat × Obj)} {rows : List RowD} (h : LawS w bs rows W) {n : NodeL} {a1 a2 a3 a4 : Option Addr} {c1 c2 c3 c4 : Nat} (hm : ∀ r ∈ rowsM n a1 c1 a2 c2 a3 c3 a4 c4, r ∈ rows) : NodeM W n a1 c1 a2 c2 a3 c3 a4 c4 := by
  have o1 := h.own _ (hm _ (List.Mem.head _))
  have o2 := h.own _ (hm _ (List.Mem.tail _ (List.Mem.head _)))
  have o3 := h.own _ (hm _ (List.Mem.tail _ (List.Mem.tail _ (List.Mem.head _))))
  have o4 := h.own _ (hm _ (List.Mem.tail _ (List.Mem.tail _ (List.Mem.tail _ (List.Mem.head _)))))
  refine ⟨?_, ?_, ?_, ?_⟩
  · have o1' : W.ownsRow w.heap.size 3 1 (.slice a1 n.conf.length c1) (marksI 1 n.conf.length).length (cellsI (marksI 1 n.conf.length)) := by rw [marksI_len]; exact o1
    obtain ⟨_, g1, _, e1, i1⟩ := cellsI_slice o1'
    rw [marksI_len] at e1
    cases e1
    exact ⟨g1, i1⟩
  · have o2' : W.ownsRow w.heap.size 74 3 (.slice a2 n.log.ents.length c2) (marksEn (m2 n) n.log.ents.length).length (cellsEn (marksEn (m2 n) n.log.ents.length)) := by rw [marksEn_len]; exact o2
    obtain ⟨_, g1, _, e1, i1⟩ := cellsEn_slice o2'
    rw [marksEn_len] at e1
    cases e1
    exact ⟨g1, i1⟩
  · have o3' : W.ownsRow w.heap.size 3 1 (.slice a3 n.votes.length c3) (marksI (m3 n) n.votes.length).length (cellsI (marksI (m3 n) n.votes.length)) := by rw [marksI_len]; exact o3
    obtain ⟨_, g1, _, e1, i1⟩ := cellsI_slice o3'
    rw [marksI_len] at e1
    cases e1
    exact ⟨g1, i1⟩
  · have o4' : W.ownsRow w.heap.size 60 4 (.slice a4 n.peers.length c4) (marksPe (m4 n) n.peers.length).length (cellsPe (marksPe (m4 n) n.peers.length)) := by rw [marksPe_len]; exact o4
    obtain ⟨_, g1, _, e1, i1⟩ := cellsPe_slice o4'
    rw [marksPe_len] at e1
    cases e1
    exact ⟨g1, i1⟩
set_option maxHeartbeats 4000000 in
set_option maxRecDepth 100000 in
theorem heldNode_is {n : NodeL} {a1 a2 a3 a4 : Option Addr} {c1 c2 c3 c4 : Nat} (hs : NodeS n) (w : World) (h : NodeM w n a1 c1 a2 c2 a3 c3 a4 c4) :
    Calls Try.prog 17 #[.agg #[.int .i64 n.id, .int .i64 n.term, .int .i64 n.vote, .int .i64 n.role, .int .i64 n.lead, .slice a1 n.conf.length c1, .int .i64 n.log.start, .int .i64 n.log.sterm, .slice a2 n.log.ents.length c2, .int .i64 n.commit, .int .i64 n.clock, .int .i64 n.limit, .slice a3 n.votes.length c3, .slice a4 n.peers.length c4], .int .i64 1] w fun e w' => e = .returned (.int .i64 ((m5 n : Nat) : Int)) ∧ Below w.heap.size w w' := by
  have HS : Hid (NodeS n) := hs
  obtain ⟨W, hW⟩ : ∃ X, X = w.alloc (.cells #[.int .i64 n.id, .int .i64 n.term, .int .i64 n.vote, .int .i64 n.role, .int .i64 n.lead, .slice a1 n.conf.length c1, .int .i64 n.log.start, .int .i64 n.log.sterm, .slice a2 n.log.ents.length c2, .int .i64 n.commit, .int .i64 n.clock, .int .i64 n.limit, .slice a3 n.votes.length c3, .slice a4 n.peers.length c4] 36) := ⟨_, rfl⟩
  have hb : Below w.heap.size w W := by rw [hW]; exact (Below.refl _ _).alloc (Nat.le_refl _) _
  have hn0 : NodeAt W w.heap.size n a1 c1 a2 c2 a3 c3 a4 c4 := by rw [hW]; exact NodeAt.new w n _ _ _ _ _ _ _ _ 36
  have HB : Hid (Below w.heap.size w W) := hb
  have HX : Hid (∀ w', Below W.heap.size W w' → NodeAt w' w.heap.size n a1 c1 a2 c2 a3 c3 a4 c4 ∧ NodeM w' n a1 c1 a2 c2 a3 c3 a4 c4) := fun w' x => ⟨hn0.kept x, (h.kept hb).kept x⟩
  have H0 : Hid (Below W.heap.size W W) := Below.refl _ _
  obtain ⟨p0, p1, p2, p3, p4, p5, p6, p7, p8, p9, p10, p11, p12, p13⟩ := hn0
  rw [hW] at p0 p1 p2 p3 p4 p5 p6 p7 p8 p9 p10 p11 p12 p13
  clear hb hs h
  go_enter Try.func17, Try.ntmps17
  go_wp2_with fail
  rw [← hW]
  clear hW p0 p1 p2 p3 p4 p5 p6 p7 p8 p9 p10 p11 p12 p13
  obtain ⟨gg, hc⟩ := (HX.out W H0.out).2.conf
  refine Calls.mono (heldIntS_is (cap := c1) HS.out.conf 1 (by omega) W hc) ?_
  clear hc
  rintro e w1 ⟨rfl, hw⟩
  have H1 : Hid (Below W.heap.size W w1) := by show Below _ _ _; rw [← hw]; exact H0.out
  clear hw H0
  have hmk : (1 + n.conf.length) = m2 n := rfl
  rw [hmk]
  clear hmk
  have hp0 : ¬ ((m2 n : Nat) : Int) < 0 := by omega
  obtain ⟨p0, p1, p2, p3, p4, p5, p6, p7, p8, p9, p10, p11, p12, p13⟩ := (HX.out w1 H1.out).1
  go_wp2_with fail
  clear p0 p1 p2 p3 p4 p5 p6 p7 p8 p9 p10 p11 p12 p13
  obtain ⟨gg, hc⟩ := (HX.out w1 H1.out).2.ents
  refine Calls.mono (heldLog_is (cap := c2) n.log.start n.log.sterm n.log.ents.length HS.out.ents (m2 n) (by unfold m2; omega) (by have := HS.out.conf; unfold m2; omega) w1 hc) ?_
  clear hc
  rintro e w2 ⟨rfl, hb⟩
  have H2 : Hid (Below W.heap.size W w2) := H1.out.trans (hb.mono H1.out.size)
  clear hb H1
  have hmk : (m2 n + 3 * n.log.ents.length) = m3 n := rfl
  rw [hmk]
  clear hmk
  have hp1 : ¬ ((m3 n : Nat) : Int) < 0 := by omega
  obtain ⟨p0, p1, p2, p3, p4, p5, p6, p7, p8, p9, p10, p11, p12, p13⟩ := (HX.out w2 H2.out).1
  go_wp2_with fail
  clear p0 p1 p2 p3 p4 p5 p6 p7 p8 p9 p10 p11 p12 p13
  obtain ⟨gg, hc⟩ := (HX.out w2 H2.out).2.votes
  refine Calls.mono (heldIntS_is (cap := c3) HS.out.votes (m3 n) (by have := HS.out.conf; have := HS.out.ents; unfold m3 m2; omega) w2 hc) ?_
  clear hc
  rintro e w3 ⟨rfl, hw⟩
  have H3 : Hid (Below W.heap.size W w3) := by show Below _ _ _; rw [← hw]; exact H2.out
  clear hw H2
  have hmk : (m3 n + n.votes.length) = m4 n := rfl
  rw [hmk]
  clear hmk
  have hp2 : ¬ ((m4 n : Nat) : Int) < 0 := by omega
  obtain ⟨p0, p1, p2, p3, p4, p5, p6, p7, p8, p9, p10, p11, p12, p13⟩ := (HX.out w3 H3.out).1
  go_wp2_with fail
  clear p0 p1 p2 p3 p4 p5 p6 p7 p8 p9 p10 p11 p12 p13
  obtain ⟨gg, hc⟩ := (HX.out w3 H3.out).2.peers
  refine Calls.mono (heldPeS_is (cap := c4) n.peers.length HS.out.peers (m4 n) (by unfold m4 m3 m2; omega) (by have := HS.out.conf; have := HS.out.ents; have := HS.out.votes; unfold m4 m3 m2; omega) w3 hc) ?_
  clear hc
  rintro e w4 ⟨rfl, hb⟩
  have H4 : Hid (Below W.heap.size W w4) := H3.out.trans (hb.mono H3.out.size)
  clear hb H3
  have hmk : (m4 n + 4 * n.peers.length) = m5 n := rfl
  rw [hmk]
  clear hmk
  have hp3 : ¬ ((m5 n : Nat) : Int) < 0 := by omega
  clear HX
  go_wp2
  go_ret
  exact ⟨rfl, HB.out.trans (H4.out.mono HB.out.size)⟩
end Go.Proofs.Ytiifjhalkihlbaa
