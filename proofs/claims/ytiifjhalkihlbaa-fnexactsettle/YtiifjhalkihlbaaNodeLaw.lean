/- The exact law of NodeOk, walked. Made by program. -/
import Derived.Test.YtiifjhalkihlbaaNodeI
import Derived.Test.YtiifjhalkihlbaaSzNode
import Derived.Test.YtiifjhalkihlbaaToNode
import Derived.Test.YtiifjhalkihlbaaRegInv
namespace Go.Proofs.Ytiifjhalkihlbaa
open Go.RowKit
open Logs (okL)
set_option linter.unusedVariables false
set_option linter.unusedSimpArgs false
/-- A node whose lists lie somewhere. -/
def LaidN (n : NodeL) (v : Value) (W : World) : Prop := ∃ g1 g2 g3 g4 : Nat, v = .agg #[.int .i64 n.id, .int .i64 n.term, .int .i64 n.vote, .int .i64 n.role, .int .i64 n.lead, .slice (some ⟨g1, 0, none⟩) n.conf.length n.conf.length, .int .i64 n.log.start, .int .i64 n.log.sterm, .slice (some ⟨g2, 0, none⟩) n.log.ents.length n.log.ents.length, .int .i64 n.commit, .int .i64 n.clock, .int .i64 n.limit, .slice (some ⟨g3, 0, none⟩) n.votes.length n.votes.length, .slice (some ⟨g4, 0, none⟩) n.peers.length n.peers.length] ∧ NodeR W n (some ⟨g1, 0, none⟩) g1 0 (some ⟨g2, 0, none⟩) g2 0 (some ⟨g3, 0, none⟩) g3 0 (some ⟨g4, 0, none⟩) g4 0
theorem LaidN.kept {n : NodeL} {v : Value} {W W' : World} (h : LaidN n v W) (hb : Below W.heap.size W W') : LaidN n v W' := by
  obtain ⟨g1, g2, g3, g4, e, h1⟩ := h
  exact ⟨g1, g2, g3, g4, e, h1.kept hb⟩
theorem LaidN.elim {n : NodeL} {v : Value} {W : World} {p : Prop} (h : LaidN n v W) (k : ∀ g1 g2 g3 g4 : Nat, v = .agg #[.int .i64 n.id, .int .i64 n.term, .int .i64 n.vote, .int .i64 n.role, .int .i64 n.lead, .slice (some ⟨g1, 0, none⟩) n.conf.length n.conf.length, .int .i64 n.log.start, .int .i64 n.log.sterm, .slice (some ⟨g2, 0, none⟩) n.log.ents.length n.log.ents.length, .int .i64 n.commit, .int .i64 n.clock, .int .i64 n.limit, .slice (some ⟨g3, 0, none⟩) n.votes.length n.votes.length, .slice (some ⟨g4, 0, none⟩) n.peers.length n.peers.length] → NodeR W n (some ⟨g1, 0, none⟩) g1 0 (some ⟨g2, 0, none⟩) g2 0 (some ⟨g3, 0, none⟩) g3 0 (some ⟨g4, 0, none⟩) g4 0 → p) : p := by
  obtain ⟨g1, g2, g3, g4, e, h1⟩ := h
  exact k g1 g2 g3 g4 e h1
end Go.Proofs.Ytiifjhalkihlbaa
