/- The exact law of NodeOk, walked. Made by program. -/
import Derived.Test.YtiifjhalkihlbaaNodeI
import Derived.Test.YtiifjhalkihlbaaSzNode
import Derived.Test.YtiifjhalkihlbaaToNode
import Derived.Test.YtiifjhalkihlbaaRegInv
namespace Go.Proofs.Ytiifjhalkihlbaa
open Go.RowKit
open Logs (okL)
set_option linter.unusedVariables false
set_option linter.unusedSimpArgs false
/-- A node whose lists lie somewhere. -/
def LaidN (n : NodeL) (v : Value) (W : World) : Prop := ∃ g1 g2 g3 g4 : Nat, v = .agg #[.int .i64 n.id, .int .i64 n.term, .int .i64 n.vote, .int .i64 n.role, .int .i64 n.lead, .slice (some ⟨g1, 0, none⟩) n.conf.length n.conf.length, .int .i64 n.log.start, .int .i64 n.log.sterm, .slice (some ⟨g2, 0, none⟩) n.log.ents.length n.log.ents.length, .int .i64 n.commit, .int .i64 n.clock, .int .i64 n.limit, .slice (some ⟨g3, 0, none⟩) n.votes.length n.votes.length, .slice (some ⟨g4, 0, none⟩) n.peers.length n.peers.length] ∧ NodeR W n (some ⟨g1, 0, none⟩) g1 0 (some ⟨g2, 0, none⟩) g2 0 (some ⟨g3, 0, none⟩) g3 0 (some ⟨g4, 0, none⟩) g4 0
theorem LaidN.kept {n : NodeL} {v : Value} {W W' : World} (h : LaidN n v W) (hb : Below W.heap.size W W') : LaidN n v W' := by
  obtain ⟨g1, g2, g3, g4, e, h1⟩ := h
  exact ⟨g1, g2, g3, g4, e, h1.kept hb⟩
theorem LaidN.elim {n : NodeL} {v : Value} {W : World} {p : Prop} (h : LaidN n v W) (k : ∀ g1 g2 g3 g4 : Nat, v = .agg #[.int .i64 n.id, .int .i64 n.term, .int .i64 n.vote, .int .i64 n.role, .int .i64 n.lead, .slice (some ⟨g1, 0, none⟩) n.conf.length n.conf.length, .int .i64 n.log.start, .int .i64 n.log.sterm, .slice (some ⟨g2, 0, none⟩) n.log.ents.length n.log.ents.length, .int .i64 n.commit, .int .i64 n.clock, .int .i64 n.limit, .slice (some ⟨g3, 0, none⟩) n.votes.length n.votes.length, .slice (some ⟨g4, 0, none⟩) n.peers.length n.peers.length] → NodeR W n (some ⟨g1, 0, none⟩) g1 0 (some ⟨g2, 0, none⟩) g2 0 (some ⟨g3, 0, none⟩) g3 0 (some ⟨g4, 0, none⟩) g4 0 → p) : p := by
  obtain ⟨g1, g2, g3, g4, e, h1⟩ := h
  exact k g1 g2 g3 g4 e h1
set_option maxHeartbeats 16000000 in
set_option maxRecDepth 100000 in
theorem lawNodeOk_any {ca ea va pa : Option Addr} {cc ec vc pc gc oc ge oe gv ov gp op : Nat} (n : NodeL) (h1 : n.conf.length ≤ maxLen) (h2 : n.log.ents.length ≤ maxLen) (h3 : ∀ r ∈ n.log.ents, smallEn maxLen r) (h4 : n.votes.length ≤ maxLen) (h5 : n.peers.length ≤ maxLen) (w : World) (hR : NodeR w n ca gc oc ea ge oe va gv ov pa gp op) :
    Calls Try.prog 3 #[nodeV n ca cc ea ec va vc pa pc] w fun e w' => e = .returned (.bool true) ∧ Below w.heap.size w w' := by
  have HR : Hid (∀ X, Below w.heap.size w X → NodeR X n ca gc oc ea ge oe va gv ov pa gp op) := fun X h => hR.kept h
  have HSZ : Hid (∀ X, Below w.heap.size w X → Calls Try.prog 6 #[.agg #[.int .i64 n.id, .int .i64 n.term, .int .i64 n.vote, .int .i64 n.role, .int .i64 n.lead, .slice ca n.conf.length cc, .int .i64 n.log.start, .int .i64 n.log.sterm, .slice ea n.log.ents.length ec, .int .i64 n.commit, .int .i64 n.clock, .int .i64 n.limit, .slice va n.votes.length vc, .slice pa n.peers.length pc], .int .i64 1048576] X fun e w' => ∃ x : Int, e = .returned (.int .i64 x) ∧ SzN n x ∧ Below X.heap.size X w') := fun X h => szNode_any n h1 h2 h3 h4 h5 X (HR.out X h)
  clear hR h1 h2 h3 h4 h5
  show Calls Try.prog 3 #[.agg #[.int .i64 n.id, .int .i64 n.term, .int .i64 n.vote, .int .i64 n.role, .int .i64 n.lead, .slice ca n.conf.length cc, .int .i64 n.log.start, .int .i64 n.log.sterm, .slice ea n.log.ents.length ec, .int .i64 n.commit, .int .i64 n.clock, .int .i64 n.limit, .slice va n.votes.length vc, .slice pa n.peers.length pc]] w _
  obtain ⟨W, hW⟩ : ∃ W, W = w.alloc (.cells #[.int .i64 n.id, .int .i64 n.term, .int .i64 n.vote, .int .i64 n.role, .int .i64 n.lead, .slice ca n.conf.length cc, .int .i64 n.log.start, .int .i64 n.log.sterm, .slice ea n.log.ents.length ec, .int .i64 n.commit, .int .i64 n.clock, .int .i64 n.limit, .slice va n.votes.length vc, .slice pa n.peers.length pc] 28) := ⟨_, rfl⟩
  have hWb : Below w.heap.size w W := by rw [hW]; exact (Below.refl _ _).alloc (Nat.le_refl _) _
  have hla : NodeAt W w.heap.size n ca cc ea ec va vc pa pc := by rw [hW]; exact NodeAt.new w n ca cc ea ec va vc pa pc 28
  obtain ⟨q, hq⟩ : ∃ q, q = w.heap.size := ⟨_, rfl⟩
  rw [← hq] at hla
  have HC : Hid (∀ w', Below W.heap.size W w' → NodeAt w' q n ca cc ea ec va vc pa pc) := fun w' h => hla.kept h
  have HWB : Hid (Below w.heap.size w W) := hWb
  have HWD : Hid (w.alloc (Obj.cells #[.int .i64 n.id, .int .i64 n.term, .int .i64 n.vote, .int .i64 n.role, .int .i64 n.lead, .slice ca n.conf.length cc, .int .i64 n.log.start, .int .i64 n.log.sterm, .slice ea n.log.ents.length ec, .int .i64 n.commit, .int .i64 n.clock, .int .i64 n.limit, .slice va n.votes.length vc, .slice pa n.peers.length pc] 28) = W) := hW.symm
  clear hla hWb hW
  go_enter Try.func3, Try.ntmps3
  go_wp2_with fail
  rw [HWD.out, ← hq]
  clear HWD hq
  refine Calls.mono (HSZ.out W HWB.out) ?_
  rintro e w1 ⟨x, rfl, hx, hb1⟩
  have HC1 : Hid (Below W.heap.size W w1) := hb1
  have HB1 : Hid (Below w.heap.size w w1) := HWB.out.trans (hb1.mono HWB.out.size)
  clear hb1 HSZ
  by_cases hn : x < 0
  · clear hx
    go_wp2
    go_ret
    exact ⟨rfl, HB1.out⟩
  obtain ⟨hs, hd⟩ := hx (by omega)
  have HTO : Hid (∀ X, NodeR X n ca gc oc ea ge oe va gv ov pa gp op → Calls Try.prog 8 #[.agg #[.int .i64 n.id, .int .i64 n.term, .int .i64 n.vote, .int .i64 n.role, .int .i64 n.lead, .slice ca n.conf.length cc, .int .i64 n.log.start, .int .i64 n.log.sterm, .slice ea n.log.ents.length ec, .int .i64 n.commit, .int .i64 n.clock, .int .i64 n.limit, .slice va n.votes.length vc, .slice pa n.peers.length pc]] X fun e w' => ∃ g1 g2 g3 g4 : Nat, e = .returned (.agg #[.int .i64 n.id, .int .i64 n.term, .int .i64 n.vote, .int .i64 n.role, .int .i64 n.lead, .slice (some ⟨g1, 0, none⟩) n.conf.length n.conf.length, .int .i64 n.log.start, .int .i64 n.log.sterm, .slice (some ⟨g2, 0, none⟩) n.log.ents.length n.log.ents.length, .int .i64 n.commit, .int .i64 n.clock, .int .i64 n.limit, .slice (some ⟨g3, 0, none⟩) n.votes.length n.votes.length, .slice (some ⟨g4, 0, none⟩) n.peers.length n.peers.length]) ∧ NodeR w' n (some ⟨g1, 0, none⟩) g1 0 (some ⟨g2, 0, none⟩) g2 0 (some ⟨g3, 0, none⟩) g3 0 (some ⟨g4, 0, none⟩) g4 0 ∧ Below X.heap.size X w') := fun X x => by
    refine (toNode_any n hs X x).mono ?_
    rintro e w' ⟨g1, g2, g3, g4, he, ho, hb⟩
    exact ⟨g1, g2, g3, g4, he, ho.r, hb⟩
  obtain ⟨O, hO⟩ : ∃ O : Bool, O = true ↔ OkN n := by
    by_cases h : OkN n
    · exact ⟨true, by simp [h]⟩
    · exact ⟨false, by simp [h]⟩
  have HSP : Hid (∀ (X : World) (g1 g2 g3 g4 : Nat), NodeR X n (some ⟨g1, 0, none⟩) g1 0 (some ⟨g2, 0, none⟩) g2 0 (some ⟨g3, 0, none⟩) g3 0 (some ⟨g4, 0, none⟩) g4 0 → Calls Try.prog 7 #[.agg #[.int .i64 n.id, .int .i64 n.term, .int .i64 n.vote, .int .i64 n.role, .int .i64 n.lead, .slice (some ⟨g1, 0, none⟩) n.conf.length n.conf.length, .int .i64 n.log.start, .int .i64 n.log.sterm, .slice (some ⟨g2, 0, none⟩) n.log.ents.length n.log.ents.length, .int .i64 n.commit, .int .i64 n.clock, .int .i64 n.limit, .slice (some ⟨g3, 0, none⟩) n.votes.length n.votes.length, .slice (some ⟨g4, 0, none⟩) n.peers.length n.peers.length]] X fun en w' => en = .returned (.bool O) ∧ Below X.heap.size X w') := fun X g1 g2 g3 g4 x => specNodeOk_is n hs hd (fun h => by cases h) O hO X x
  have HIM : Hid (∀ (X : World) (g1 g2 g3 g4 : Nat), NodeR X n (some ⟨g1, 0, none⟩) g1 0 (some ⟨g2, 0, none⟩) g2 0 (some ⟨g3, 0, none⟩) g3 0 (some ⟨g4, 0, none⟩) g4 0 → Calls Try.prog 9 #[.agg #[.int .i64 n.id, .int .i64 n.term, .int .i64 n.vote, .int .i64 n.role, .int .i64 n.lead, .slice (some ⟨g1, 0, none⟩) n.conf.length n.conf.length, .int .i64 n.log.start, .int .i64 n.log.sterm, .slice (some ⟨g2, 0, none⟩) n.log.ents.length n.log.ents.length, .int .i64 n.commit, .int .i64 n.clock, .int .i64 n.limit, .slice (some ⟨g3, 0, none⟩) n.votes.length n.votes.length, .slice (some ⟨g4, 0, none⟩) n.peers.length n.peers.length]] X fun en w' => en = .returned (.bool O) ∧ Below X.heap.size X w') := fun X g1 g2 g3 g4 x => implNodeOk_is n hs hd (Nat.le_refl _) (by have := hs.ents; omega) O hO X x
  have HEQ : Hid (∀ (X : World) (k1 k2 k3 k4 h1 h2 h3 h4 : Nat), NodeR X n (some ⟨k1, 0, none⟩) k1 0 (some ⟨k2, 0, none⟩) k2 0 (some ⟨k3, 0, none⟩) k3 0 (some ⟨k4, 0, none⟩) k4 0 → NodeR X n (some ⟨h1, 0, none⟩) h1 0 (some ⟨h2, 0, none⟩) h2 0 (some ⟨h3, 0, none⟩) h3 0 (some ⟨h4, 0, none⟩) h4 0 → Calls Try.prog 10 #[.agg #[.int .i64 n.id, .int .i64 n.term, .int .i64 n.vote, .int .i64 n.role, .int .i64 n.lead, .slice (some ⟨k1, 0, none⟩) n.conf.length n.conf.length, .int .i64 n.log.start, .int .i64 n.log.sterm, .slice (some ⟨k2, 0, none⟩) n.log.ents.length n.log.ents.length, .int .i64 n.commit, .int .i64 n.clock, .int .i64 n.limit, .slice (some ⟨k3, 0, none⟩) n.votes.length n.votes.length, .slice (some ⟨k4, 0, none⟩) n.peers.length n.peers.length], .agg #[.int .i64 n.id, .int .i64 n.term, .int .i64 n.vote, .int .i64 n.role, .int .i64 n.lead, .slice (some ⟨h1, 0, none⟩) n.conf.length n.conf.length, .int .i64 n.log.start, .int .i64 n.log.sterm, .slice (some ⟨h2, 0, none⟩) n.log.ents.length n.log.ents.length, .int .i64 n.commit, .int .i64 n.clock, .int .i64 n.limit, .slice (some ⟨h3, 0, none⟩) n.votes.length n.votes.length, .slice (some ⟨h4, 0, none⟩) n.peers.length n.peers.length]] X fun e w' => e = .returned (.bool true) ∧ Below X.heap.size X w') := fun X k1 k2 k3 k4 h1 h2 h3 h4 x y => eqNode_same n hs X x y
  clear hs hd hO hx
  obtain ⟨p0, p1, p2, p3, p4, p5, p6, p7, p8, p9, p10, p11, p12, p13⟩ := HC.out w1 HC1.out
  go_wp2_with fail
  clear p0 p1 p2 p3 p4 p5 p6 p7 p8 p9 p10 p11 p12 p13
  refine Calls.mono (HTO.out w1 (HR.out w1 HB1.out)) ?_
  rintro e w2 ⟨g1, g2, g3, g4, rfl, hp2, hb2⟩
  have HB2 : Hid (Below w.heap.size w w2) := HB1.out.trans (hb2.mono HB1.out.size)
  have HC2 : Hid (Below W.heap.size W w2) := HC1.out.trans (hb2.mono HC1.out.size)
  clear hb2 HB1 HC1
  go_wp2_with fail
  refine Calls.mono (HSP.out w2 g1 g2 g3 g4 hp2) ?_
  rintro e w3 ⟨rfl, hb3⟩
  have HB3 : Hid (Below w.heap.size w w3) := HB2.out.trans (hb3.mono HB2.out.size)
  have HC3 : Hid (Below W.heap.size W w3) := HC2.out.trans (hb3.mono HC2.out.size)
  clear hb3 hp2 HB2 HC2 HSP
  obtain ⟨p0, p1, p2, p3, p4, p5, p6, p7, p8, p9, p10, p11, p12, p13⟩ := HC.out w3 HC3.out
  go_wp2_with fail
  clear p0 p1 p2 p3 p4 p5 p6 p7 p8 p9 p10 p11 p12 p13
  refine Calls.mono (HTO.out w3 (HR.out w3 HB3.out)) ?_
  rintro e w4 ⟨k1, k2, k3, k4, rfl, hp4, hb4⟩
  have HB4 : Hid (Below w.heap.size w w4) := HB3.out.trans (hb4.mono HB3.out.size)
  have HC4 : Hid (Below W.heap.size W w4) := HC3.out.trans (hb4.mono HC3.out.size)
  have HF4 : Hid (NodeR w4 n (some ⟨k1, 0, none⟩) k1 0 (some ⟨k2, 0, none⟩) k2 0 (some ⟨k3, 0, none⟩) k3 0 (some ⟨k4, 0, none⟩) k4 0) := hp4
  clear hb4 hp4 HB3 HC3
  obtain ⟨W5, hW5⟩ : ∃ W5, W5 = w4.alloc (Obj.cells #[.int .i64 n.id, .int .i64 n.term, .int .i64 n.vote, .int .i64 n.role, .int .i64 n.lead, .slice (some ⟨k1, 0, none⟩) n.conf.length n.conf.length, .int .i64 n.log.start, .int .i64 n.log.sterm, .slice (some ⟨k2, 0, none⟩) n.log.ents.length n.log.ents.length, .int .i64 n.commit, .int .i64 n.clock, .int .i64 n.limit, .slice (some ⟨k3, 0, none⟩) n.votes.length n.votes.length, .slice (some ⟨k4, 0, none⟩) n.peers.length n.peers.length] 36) := ⟨_, rfl⟩
  have HWD5 : Hid (w4.alloc (Obj.cells #[.int .i64 n.id, .int .i64 n.term, .int .i64 n.vote, .int .i64 n.role, .int .i64 n.lead, .slice (some ⟨k1, 0, none⟩) n.conf.length n.conf.length, .int .i64 n.log.start, .int .i64 n.log.sterm, .slice (some ⟨k2, 0, none⟩) n.log.ents.length n.log.ents.length, .int .i64 n.commit, .int .i64 n.clock, .int .i64 n.limit, .slice (some ⟨k3, 0, none⟩) n.votes.length n.votes.length, .slice (some ⟨k4, 0, none⟩) n.peers.length n.peers.length] 36) = W5) := hW5.symm
  have hb5 : Below w4.heap.size w4 W5 := by rw [hW5]; exact (Below.refl _ _).alloc (Nat.le_refl _) _
  have hla5 : NodeAt W5 w4.heap.size n (some ⟨k1, 0, none⟩) n.conf.length (some ⟨k2, 0, none⟩) n.log.ents.length (some ⟨k3, 0, none⟩) n.votes.length (some ⟨k4, 0, none⟩) n.peers.length := by rw [hW5]; exact NodeAt.new w4 n _ _ _ _ _ _ _ _ 36
  obtain ⟨q5, hq5⟩ : ∃ q5, q5 = w4.heap.size := ⟨_, rfl⟩
  rw [← hq5] at hla5
  have HX5 : Hid (∀ w', Below W5.heap.size W5 w' → NodeAt w' q5 n (some ⟨k1, 0, none⟩) n.conf.length (some ⟨k2, 0, none⟩) n.log.ents.length (some ⟨k3, 0, none⟩) n.votes.length (some ⟨k4, 0, none⟩) n.peers.length) := fun w' h => hla5.kept h
  have HB5 : Hid (Below w.heap.size w W5) := HB4.out.trans (hb5.mono HB4.out.size)
  have HC5 : Hid (Below W.heap.size W W5) := HC4.out.trans (hb5.mono HC4.out.size)
  have HF5 : Hid (NodeR W5 n (some ⟨k1, 0, none⟩) k1 0 (some ⟨k2, 0, none⟩) k2 0 (some ⟨k3, 0, none⟩) k3 0 (some ⟨k4, 0, none⟩) k4 0) := HF4.out.kept hb5
  obtain ⟨p0, p1, p2, p3, p4, p5, p6, p7, p8, p9, p10, p11, p12, p13⟩ := hla5
  rw [hW5] at p0 p1 p2 p3 p4 p5 p6 p7 p8 p9 p10 p11 p12 p13
  clear hW5 hb5 HB4 HC4 HF4
  go_wp2_with fail
  rw [HWD5.out, ← hq5]
  clear HWD5 hq5 p0 p1 p2 p3 p4 p5 p6 p7 p8 p9 p10 p11 p12 p13
  refine Calls.mono (HIM.out W5 k1 k2 k3 k4 HF5.out) ?_
  rintro e w6 ⟨rfl, hb6⟩
  have HB6 : Hid (Below w.heap.size w w6) := HB5.out.trans (hb6.mono HB5.out.size)
  have HL6 : Hid (∀ w', Below w6.heap.size w6 w' → NodeAt w' q5 n (some ⟨k1, 0, none⟩) n.conf.length (some ⟨k2, 0, none⟩) n.log.ents.length (some ⟨k3, 0, none⟩) n.votes.length (some ⟨k4, 0, none⟩) n.peers.length ∧ NodeAt w' q n ca cc ea ec va vc pa pc) := fun w' h => ⟨HX5.out w' (hb6.trans (h.mono hb6.size)), HC.out w' ((HC5.out.trans (hb6.mono HC5.out.size)).trans (h.mono ((HC5.out.trans (hb6.mono HC5.out.size)).size)))⟩
  have HF6 : Hid (∀ w', Below w6.heap.size w6 w' → NodeR w' n (some ⟨k1, 0, none⟩) k1 0 (some ⟨k2, 0, none⟩) k2 0 (some ⟨k3, 0, none⟩) k3 0 (some ⟨k4, 0, none⟩) k4 0 ∧ NodeR w' n ca gc oc ea ge oe va gv ov pa gp op) := fun w' hh => ⟨(HF5.out.kept hb6).kept hh, HR.out w' (HB6.out.trans (hh.mono HB6.out.size))⟩
  clear hb6 HB5 HC5 HF5 HIM HC HX5 HR HWB
  go_wp2_with fail
  refine Inv.region_walk 27 (fun i v W => if i = 2 then LaidN n v W else v = [.agg #[.int .i64 n.id, .int .i64 n.term, .int .i64 n.vote, .int .i64 n.role, .int .i64 n.lead, .slice (some ⟨k1, 0, none⟩) n.conf.length n.conf.length, .int .i64 n.log.start, .int .i64 n.log.sterm, .slice (some ⟨k2, 0, none⟩) n.log.ents.length n.log.ents.length, .int .i64 n.commit, .int .i64 n.clock, .int .i64 n.limit, .slice (some ⟨k3, 0, none⟩) n.votes.length n.votes.length, .slice (some ⟨k4, 0, none⟩) n.peers.length n.peers.length], .agg #[.int .i64 n.id, .int .i64 n.term, .int .i64 n.vote, .int .i64 n.role, .int .i64 n.lead, .slice ca n.conf.length cc, .int .i64 n.log.start, .int .i64 n.log.sterm, .slice ea n.log.ents.length ec, .int .i64 n.commit, .int .i64 n.clock, .int .i64 n.limit, .slice va n.votes.length vc, .slice pa n.peers.length pc], undef, .bool true, .bool false].getD i undef) rfl rfl (by kernel_rfl) ?_ ?_ ?_
  · intro i v W W' h hb
    by_cases h2 : i = 2
    · simp only [h2, if_true] at h ⊢
      exact h.kept hb
    · simp only [h2, if_false] at h ⊢
      exact h
  · refine ⟨?_, ?_, ?_, ?_, ?_, trivial⟩
    · intro f W K hb hf hd hk
      have e1 : f 5 = .pointer (some ⟨q5, 0, none⟩) := hf 5 rfl
      have M := (HL6.out W hb).1
      have c0 := M.c0; have c1 := M.c1; have c2 := M.c2; have c3 := M.c3; have c4 := M.c4; have c5 := M.c5; have c6 := M.c6; have c7 := M.c7; have c8 := M.c8; have c9 := M.c9; have c10 := M.c10; have c11 := M.c11; have c12 := M.c12; have c13 := M.c13
      refine Inv.pay_value (v := .agg #[.int .i64 n.id, .int .i64 n.term, .int .i64 n.vote, .int .i64 n.role, .int .i64 n.lead, .slice (some ⟨k1, 0, none⟩) n.conf.length n.conf.length, .int .i64 n.log.start, .int .i64 n.log.sterm, .slice (some ⟨k2, 0, none⟩) n.log.ents.length n.log.ents.length, .int .i64 n.commit, .int .i64 n.clock, .int .i64 n.limit, .slice (some ⟨k3, 0, none⟩) n.votes.length n.votes.length, .slice (some ⟨k4, 0, none⟩) n.peers.length n.peers.length]) (w' := W) ?_ ?_
      · simp [execOp, go_sem, Inv.act_get, e1, c0, c1, c2, c3, c4, c5, c6, c7, c8, c9, c10, c11, c12, c13]
      · exact hk (.agg #[.int .i64 n.id, .int .i64 n.term, .int .i64 n.vote, .int .i64 n.role, .int .i64 n.lead, .slice (some ⟨k1, 0, none⟩) n.conf.length n.conf.length, .int .i64 n.log.start, .int .i64 n.log.sterm, .slice (some ⟨k2, 0, none⟩) n.log.ents.length n.log.ents.length, .int .i64 n.commit, .int .i64 n.clock, .int .i64 n.limit, .slice (some ⟨k3, 0, none⟩) n.votes.length n.votes.length, .slice (some ⟨k4, 0, none⟩) n.peers.length n.peers.length]) W (Below.refl _ _) rfl
    · intro f W K hb hf hd hk
      have e1 : f 1 = .pointer (some ⟨q, 0, none⟩) := hf 1 rfl
      have M := (HL6.out W hb).2
      have c0 := M.c0; have c1 := M.c1; have c2 := M.c2; have c3 := M.c3; have c4 := M.c4; have c5 := M.c5; have c6 := M.c6; have c7 := M.c7; have c8 := M.c8; have c9 := M.c9; have c10 := M.c10; have c11 := M.c11; have c12 := M.c12; have c13 := M.c13
      refine Inv.pay_value (v := .agg #[.int .i64 n.id, .int .i64 n.term, .int .i64 n.vote, .int .i64 n.role, .int .i64 n.lead, .slice ca n.conf.length cc, .int .i64 n.log.start, .int .i64 n.log.sterm, .slice ea n.log.ents.length ec, .int .i64 n.commit, .int .i64 n.clock, .int .i64 n.limit, .slice va n.votes.length vc, .slice pa n.peers.length pc]) (w' := W) ?_ ?_
      · simp [execOp, go_sem, Inv.act_get, e1, c0, c1, c2, c3, c4, c5, c6, c7, c8, c9, c10, c11, c12, c13]
      · exact hk (.agg #[.int .i64 n.id, .int .i64 n.term, .int .i64 n.vote, .int .i64 n.role, .int .i64 n.lead, .slice ca n.conf.length cc, .int .i64 n.log.start, .int .i64 n.log.sterm, .slice ea n.log.ents.length ec, .int .i64 n.commit, .int .i64 n.clock, .int .i64 n.limit, .slice va n.votes.length vc, .slice pa n.peers.length pc]) W (Below.refl _ _) rfl
    · intro f W K hb hf hd hk
      have d1 : f 23 = .agg #[.int .i64 n.id, .int .i64 n.term, .int .i64 n.vote, .int .i64 n.role, .int .i64 n.lead, .slice ca n.conf.length cc, .int .i64 n.log.start, .int .i64 n.log.sterm, .slice ea n.log.ents.length ec, .int .i64 n.commit, .int .i64 n.clock, .int .i64 n.limit, .slice va n.votes.length vc, .slice pa n.peers.length pc] := hd 1 rfl
      refine Inv.pay_callE (f := 8) (args := #[.agg #[.int .i64 n.id, .int .i64 n.term, .int .i64 n.vote, .int .i64 n.role, .int .i64 n.lead, .slice ca n.conf.length cc, .int .i64 n.log.start, .int .i64 n.log.sterm, .slice ea n.log.ents.length ec, .int .i64 n.commit, .int .i64 n.clock, .int .i64 n.limit, .slice va n.votes.length vc, .slice pa n.peers.length pc]]) (R := fun v w' => LaidN n v w' ∧ Below W.heap.size W w') ?_ ?_ (fun v w5 hv => hk v w5 hv.2 hv.1)
      · simp [execOp, go_sem, Inv.act_get, d1]
      · refine (HTO.out W (HF6.out W hb).2).mono ?_
        rintro e w' ⟨h1, h2, h3, h4, rfl, hp, hb7⟩
        exact ⟨_, rfl, ⟨h1, h2, h3, h4, rfl, hp⟩, hb7⟩
    · intro f W K hb hf hd hk
      have d0 : f 22 = .agg #[.int .i64 n.id, .int .i64 n.term, .int .i64 n.vote, .int .i64 n.role, .int .i64 n.lead, .slice (some ⟨k1, 0, none⟩) n.conf.length n.conf.length, .int .i64 n.log.start, .int .i64 n.log.sterm, .slice (some ⟨k2, 0, none⟩) n.log.ents.length n.log.ents.length, .int .i64 n.commit, .int .i64 n.clock, .int .i64 n.limit, .slice (some ⟨k3, 0, none⟩) n.votes.length n.votes.length, .slice (some ⟨k4, 0, none⟩) n.peers.length n.peers.length] := hd 0 rfl
      have d2 : LaidN n (f 24) W := hd 2 rfl
      have hc9 : Calls Try.prog 10 #[.agg #[.int .i64 n.id, .int .i64 n.term, .int .i64 n.vote, .int .i64 n.role, .int .i64 n.lead, .slice (some ⟨k1, 0, none⟩) n.conf.length n.conf.length, .int .i64 n.log.start, .int .i64 n.log.sterm, .slice (some ⟨k2, 0, none⟩) n.log.ents.length n.log.ents.length, .int .i64 n.commit, .int .i64 n.clock, .int .i64 n.limit, .slice (some ⟨k3, 0, none⟩) n.votes.length n.votes.length, .slice (some ⟨k4, 0, none⟩) n.peers.length n.peers.length], f 24] W fun e w' => e = .returned (.bool true) ∧ Below W.heap.size W w' := by
        generalize f 24 = v at d2
        exact LaidN.elim d2 fun h1 h2 h3 h4 e x => by
          rw [e]
          exact HEQ.out W k1 k2 k3 k4 h1 h2 h3 h4 (HF6.out W hb).1 x
      refine Inv.pay_call (f := 10) (args := #[.agg #[.int .i64 n.id, .int .i64 n.term, .int .i64 n.vote, .int .i64 n.role, .int .i64 n.lead, .slice (some ⟨k1, 0, none⟩) n.conf.length n.conf.length, .int .i64 n.log.start, .int .i64 n.log.sterm, .slice (some ⟨k2, 0, none⟩) n.log.ents.length n.log.ents.length, .int .i64 n.commit, .int .i64 n.clock, .int .i64 n.limit, .slice (some ⟨k3, 0, none⟩) n.votes.length n.votes.length, .slice (some ⟨k4, 0, none⟩) n.peers.length n.peers.length], f 24]) (u := .bool true) (R := fun w' => Below W.heap.size W w') ?_ hc9 (fun w5 hb5 => hk (.bool true) w5 hb5 rfl)
      simp [execOp, go_sem, Inv.act_get, d0]
    · intro f W K hb hf hd hk
      have d3 : f 25 = .bool true := hd 3 rfl
      refine Inv.pay_value (v := .bool false) (w' := W) ?_ ?_
      · simp [execOp, go_sem, Inv.act_get, d3]
      · exact hk (.bool false) W (Below.refl _ _) rfl
  · intro f w7 hb7 hf hv
    have e4 : f 26 = .bool false := hv 4 (by decide)
    have hact : Inv.act 27 [] f = ⟨(f 0 :: f 1 :: f 2 :: f 3 :: f 4 :: f 5 :: f 6 :: f 7 :: f 8 :: f 9 :: f 10 :: f 11 :: f 12 :: f 13 :: f 14 :: f 15 :: f 16 :: f 17 :: f 18 :: f 19 :: f 20 :: f 21 :: f 22 :: f 23 :: f 24 :: f 25 :: f 26 :: []).toArray, []⟩ := by kernel_rfl
    rw [hact, e4]
    clear hact hf hv
    go_wp2
    go_ret
    exact ⟨rfl, HB6.out.trans (hb7.mono HB6.out.size)⟩
end Go.Proofs.Ytiifjhalkihlbaa
