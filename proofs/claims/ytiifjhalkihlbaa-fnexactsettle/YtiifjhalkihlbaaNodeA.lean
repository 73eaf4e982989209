/- A node in memory, fourteen cells; eqNode, markNode and heldNode of the laws, walked. Made by program. -/
import Derived.Test.YtiifjhalkihlbaaLPe
import Derived.Test.YtiifjhalkihlbaaLogArg
import Derived.Test.YtiifjhalkihlbaaInts
import Derived.Test.YtiifjhalkihlbaaMarkI
import Derived.Deep.RegionHeld3
namespace Go.Proofs.Ytiifjhalkihlbaa
open Go.RowKit
set_option linter.unusedVariables false
set_option linter.unusedSimpArgs false
structure NodeL where
  id : Int
  term : Int
  vote : Int
  role : Int
  lead : Int
  conf : List Int
  log : LogL
  commit : Int
  clock : Int
  limit : Int
  votes : List Int
  peers : List PeerL
def nodeC (n : NodeL) (ca : Option Addr) (cc : Nat) (ea : Option Addr) (ec : Nat) (va : Option Addr) (vc : Nat) (pa : Option Addr) (pc : Nat) : Array Value := #[.int .i64 n.id, .int .i64 n.term, .int .i64 n.vote, .int .i64 n.role, .int .i64 n.lead, .slice ca n.conf.length cc, .int .i64 n.log.start, .int .i64 n.log.sterm, .slice ea n.log.ents.length ec, .int .i64 n.commit, .int .i64 n.clock, .int .i64 n.limit, .slice va n.votes.length vc, .slice pa n.peers.length pc]
def nodeV (n : NodeL) (ca : Option Addr) (cc : Nat) (ea : Option Addr) (ec : Nat) (va : Option Addr) (vc : Nat) (pa : Option Addr) (pc : Nat) : Value := .agg (nodeC n ca cc ea ec va vc pa pc)
/-- The cells of a node that lies at g. -/
structure NodeAt (W : World) (g : Nat) (n : NodeL) (ca : Option Addr) (cc : Nat) (ea : Option Addr) (ec : Nat) (va : Option Addr) (vc : Nat) (pa : Option Addr) (pc : Nat) : Prop where
  c0 : W.cell? ⟨g, 0, none⟩ = some (.int .i64 n.id)
  c1 : W.cell? ⟨g, 1, none⟩ = some (.int .i64 n.term)
  c2 : W.cell? ⟨g, 2, none⟩ = some (.int .i64 n.vote)
  c3 : W.cell? ⟨g, 3, none⟩ = some (.int .i64 n.role)
  c4 : W.cell? ⟨g, 4, none⟩ = some (.int .i64 n.lead)
  c5 : W.cell? ⟨g, 5, none⟩ = some (.slice ca n.conf.length cc)
  c6 : W.cell? ⟨g, 6, none⟩ = some (.int .i64 n.log.start)
  c7 : W.cell? ⟨g, 7, none⟩ = some (.int .i64 n.log.sterm)
  c8 : W.cell? ⟨g, 8, none⟩ = some (.slice ea n.log.ents.length ec)
  c9 : W.cell? ⟨g, 9, none⟩ = some (.int .i64 n.commit)
  c10 : W.cell? ⟨g, 10, none⟩ = some (.int .i64 n.clock)
  c11 : W.cell? ⟨g, 11, none⟩ = some (.int .i64 n.limit)
  c12 : W.cell? ⟨g, 12, none⟩ = some (.slice va n.votes.length vc)
  c13 : W.cell? ⟨g, 13, none⟩ = some (.slice pa n.peers.length pc)
theorem NodeAt.new (w : World) (n : NodeL) (ca : Option Addr) (cc : Nat) (ea : Option Addr) (ec : Nat) (va : Option Addr) (vc : Nat) (pa : Option Addr) (pc : Nat) (t : TypeId) : NodeAt (w.alloc (Obj.cells (nodeC n ca cc ea ec va vc pa pc) t)) w.heap.size n ca cc ea ec va vc pa pc := by
  have p0 := heap_alloc_new w (Obj.cells (nodeC n ca cc ea ec va vc pa pc) t)
  exact ⟨cell_of_row _ _ 0 _ _ _ p0, cell_of_row _ _ 1 _ _ _ p0, cell_of_row _ _ 2 _ _ _ p0, cell_of_row _ _ 3 _ _ _ p0, cell_of_row _ _ 4 _ _ _ p0, cell_of_row _ _ 5 _ _ _ p0, cell_of_row _ _ 6 _ _ _ p0, cell_of_row _ _ 7 _ _ _ p0, cell_of_row _ _ 8 _ _ _ p0, cell_of_row _ _ 9 _ _ _ p0, cell_of_row _ _ 10 _ _ _ p0, cell_of_row _ _ 11 _ _ _ p0, cell_of_row _ _ 12 _ _ _ p0, cell_of_row _ _ 13 _ _ _ p0⟩
theorem NodeAt.lt {W : World} {g : Nat} {n : NodeL} {ca ea va pa : Option Addr} {cc ec vc pc : Nat} (h : NodeAt W g n ca cc ea ec va vc pa pc) : g < W.heap.size := World.block_lt_of_cell? W _ h.c0
theorem NodeAt.kept {W W' : World} {g : Nat} {n : NodeL} {ca ea va pa : Option Addr} {cc ec vc pc : Nat} (h : NodeAt W g n ca cc ea ec va vc pa pc) (hb : Below W.heap.size W W') : NodeAt W' g n ca cc ea ec va vc pa pc :=
  ⟨(hb.cell (p := ⟨g, 0, none⟩) h.lt).trans h.c0, (hb.cell (p := ⟨g, 1, none⟩) h.lt).trans h.c1, (hb.cell (p := ⟨g, 2, none⟩) h.lt).trans h.c2, (hb.cell (p := ⟨g, 3, none⟩) h.lt).trans h.c3, (hb.cell (p := ⟨g, 4, none⟩) h.lt).trans h.c4, (hb.cell (p := ⟨g, 5, none⟩) h.lt).trans h.c5, (hb.cell (p := ⟨g, 6, none⟩) h.lt).trans h.c6, (hb.cell (p := ⟨g, 7, none⟩) h.lt).trans h.c7, (hb.cell (p := ⟨g, 8, none⟩) h.lt).trans h.c8, (hb.cell (p := ⟨g, 9, none⟩) h.lt).trans h.c9, (hb.cell (p := ⟨g, 10, none⟩) h.lt).trans h.c10, (hb.cell (p := ⟨g, 11, none⟩) h.lt).trans h.c11, (hb.cell (p := ⟨g, 12, none⟩) h.lt).trans h.c12, (hb.cell (p := ⟨g, 13, none⟩) h.lt).trans h.c13⟩
/-- The lists of a node, each lying somewhere. -/
structure NodeR (w : World) (n : NodeL) (ca : Option Addr) (gc oc : Nat) (ea : Option Addr) (ge oe : Nat) (va : Option Addr) (gv ov : Nat) (pa : Option Addr) (gp op : Nat) : Prop where
  conf : IntAt w ca gc oc n.conf
  ents : EnAt w ea ge oe n.log.ents
  votes : IntAt w va gv ov n.votes
  peers : PeAt w pa gp op n.peers
theorem NodeR.kept {w w' : World} {n : NodeL} {ca ea va pa : Option Addr} {gc oc ge oe gv ov gp op : Nat} (h : NodeR w n ca gc oc ea ge oe va gv ov pa gp op) (hb : Below w.heap.size w w') : NodeR w' n ca gc oc ea ge oe va gv ov pa gp op := ⟨h.conf.kept hb, h.ents.kept hb, h.votes.kept hb, h.peers.kept hb⟩
structure NodeS (n : NodeL) : Prop where
  conf : n.conf.length ≤ 1048576
  ents : n.log.ents.length ≤ 1048576
  votes : n.votes.length ≤ 1048576
  peers : n.peers.length ≤ 1048576

set_option maxHeartbeats 4000000 in
set_option maxRecDepth 100000 in
theorem eqNode_same {ca ea va pa ca' ea' va' pa' : Option Addr} {cc ec vc pc cc' ec' vc' pc' gc oc ge oe gv ov gp op gc' oc' ge' oe' gv' ov' gp' op' : Nat} (n : NodeL) (hs : NodeS n) (w : World) (hA : NodeR w n ca gc oc ea ge oe va gv ov pa gp op) (hB : NodeR w n ca' gc' oc' ea' ge' oe' va' gv' ov' pa' gp' op') :
    Calls Try.prog 10 #[nodeV n ca cc ea ec va vc pa pc, nodeV n ca' cc' ea' ec' va' vc' pa' pc'] w fun e w' => e = .returned (.bool true) ∧ Below w.heap.size w w' := by
  obtain ⟨W, hW⟩ : ∃ W, W = (w.alloc (.cells #[.int .i64 n.id, .int .i64 n.term, .int .i64 n.vote, .int .i64 n.role, .int .i64 n.lead, .slice ca n.conf.length cc, .int .i64 n.log.start, .int .i64 n.log.sterm, .slice ea n.log.ents.length ec, .int .i64 n.commit, .int .i64 n.clock, .int .i64 n.limit, .slice va n.votes.length vc, .slice pa n.peers.length pc] 36)).alloc (.cells #[.int .i64 n.id, .int .i64 n.term, .int .i64 n.vote, .int .i64 n.role, .int .i64 n.lead, .slice ca' n.conf.length cc', .int .i64 n.log.start, .int .i64 n.log.sterm, .slice ea' n.log.ents.length ec', .int .i64 n.commit, .int .i64 n.clock, .int .i64 n.limit, .slice va' n.votes.length vc', .slice pa' n.peers.length pc'] 36) := ⟨_, rfl⟩
  have hb : Below w.heap.size w W := by rw [hW]; exact ((Below.refl _ _).alloc (Nat.le_refl _) _).alloc (by simp) _
  have hn0 : NodeAt W w.heap.size n ca cc ea ec va vc pa pc := by rw [hW]; exact (NodeAt.new w n ca cc ea ec va vc pa pc 36).kept ((Below.refl _ _).alloc (Nat.le_refl _) _)
  have hn1 : NodeAt W (w.heap.size + 1) n ca' cc' ea' ec' va' vc' pa' pc' := by
    rw [hW]
    have := NodeAt.new (w.alloc (.cells (nodeC n ca cc ea ec va vc pa pc) 36)) n ca' cc' ea' ec' va' vc' pa' pc' 36
    simpa [nodeC] using this
  have HX : Hid (∀ w', Below W.heap.size W w' → NodeAt w' w.heap.size n ca cc ea ec va vc pa pc ∧ NodeAt w' (w.heap.size + 1) n ca' cc' ea' ec' va' vc' pa' pc' ∧ NodeR w' n ca gc oc ea ge oe va gv ov pa gp op ∧ NodeR w' n ca' gc' oc' ea' ge' oe' va' gv' ov' pa' gp' op' ∧ Below w.heap.size w w') := fun w' h => ⟨hn0.kept h, hn1.kept h, (hA.kept hb).kept h, (hB.kept hb).kept h, hb.trans (h.mono hb.size)⟩
  have HS : Hid (NodeS n) := hs
  obtain ⟨p0, p1, p2, p3, p4, p5, p6, p7, p8, p9, p10, p11, p12, p13⟩ := hn0
  obtain ⟨q0, q1, q2, q3, q4, q5, q6, q7, q8, q9, q10, q11, q12, q13⟩ := hn1
  rw [hW] at p0 p1 p2 p3 p4 p5 q0 q1 q2 q3 q4 q5
  clear hA hB hb hs p6 q6 p7 q7 p8 q8 p9 q9 p10 q10 p11 q11 p12 q12 p13 q13
  unfold nodeV nodeC
  go_enter Try.func10, Try.ntmps10
  go_wp2_with fail
  rw [← hW]
  clear hW p0 q0 p1 q1 p2 q2 p3 q3 p4 q4 p5 q5
  obtain ⟨_, _, r, r', _⟩ := HX.out W (Below.refl _ _)
  refine Calls.mono (eqIntS_same n.conf HS.out.conf W r.conf r'.conf) ?_
  clear r r'
  rintro e w1 ⟨rfl, hb1⟩
  have H1 : Hid (Below W.heap.size W w1) := hb1
  clear hb1
  obtain ⟨⟨p0, p1, p2, p3, p4, p5, p6, p7, p8, p9, p10, p11, p12, p13⟩, ⟨q0, q1, q2, q3, q4, q5, q6, q7, q8, q9, q10, q11, q12, q13⟩, _⟩ := HX.out w1 H1.out
  clear p0 q0 p1 q1 p2 q2 p3 q3 p4 q4 p5 q5 p9 q9 p10 q10 p11 q11 p12 q12 p13 q13
  go_wp2_with fail
  clear p6 q6 p7 q7 p8 q8
  obtain ⟨_, _, r, r', _⟩ := HX.out w1 H1.out
  refine Calls.mono (eqLog_same n.log HS.out.ents w1 r.ents r'.ents) ?_
  clear r r'
  rintro e w2 ⟨rfl, hb2⟩
  have H2 : Hid (Below W.heap.size W w2) := H1.out.trans (hb2.mono H1.out.size)
  clear hb2 H1
  obtain ⟨⟨p0, p1, p2, p3, p4, p5, p6, p7, p8, p9, p10, p11, p12, p13⟩, ⟨q0, q1, q2, q3, q4, q5, q6, q7, q8, q9, q10, q11, q12, q13⟩, _⟩ := HX.out w2 H2.out
  clear p0 q0 p1 q1 p2 q2 p3 q3 p4 q4 p5 q5 p6 q6 p7 q7 p8 q8 p13 q13
  go_wp2_with fail
  clear p9 q9 p10 q10 p11 q11 p12 q12
  obtain ⟨_, _, r, r', _⟩ := HX.out w2 H2.out
  refine Calls.mono (eqIntS_same n.votes HS.out.votes w2 r.votes r'.votes) ?_
  clear r r'
  rintro e w3 ⟨rfl, hb3⟩
  have H3 : Hid (Below W.heap.size W w3) := H2.out.trans (hb3.mono H2.out.size)
  clear hb3 H2
  obtain ⟨⟨p0, p1, p2, p3, p4, p5, p6, p7, p8, p9, p10, p11, p12, p13⟩, ⟨q0, q1, q2, q3, q4, q5, q6, q7, q8, q9, q10, q11, q12, q13⟩, _⟩ := HX.out w3 H3.out
  clear p0 q0 p1 q1 p2 q2 p3 q3 p4 q4 p5 q5 p6 q6 p7 q7 p8 q8 p9 q9 p10 q10 p11 q11 p12 q12
  go_wp2_with fail
  clear p13 q13
  obtain ⟨_, _, r, r', _⟩ := HX.out w3 H3.out
  refine Calls.mono (eqPeS_same n.peers HS.out.peers w3 r.peers r'.peers) ?_
  clear r r'
  rintro e w4 ⟨rfl, hb4⟩
  have HB4 : Hid (Below w.heap.size w w4) := (HX.out w4 (H3.out.trans (hb4.mono H3.out.size))).2.2.2.2
  clear hb4 HX H3
  go_wp2
  go_ret
  exact ⟨rfl, HB4.out⟩
end Go.Proofs.Ytiifjhalkihlbaa
