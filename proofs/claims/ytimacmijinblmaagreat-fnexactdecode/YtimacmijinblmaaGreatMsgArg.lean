/- A message as an argument and as an answer: szMessage, eqMessage, markMessage, heldMessage, walked. -/
import Derived.Test.YtimacmijinblmaaGreatSpecMsg
import Derived.Test.YtimacmijinblmaaGreatHeldEn
namespace Go.Proofs.YtimacmijinblmaaGreat
open Go.RowKit
set_option linter.unusedVariables false
set_option linter.unusedSimpArgs false

set_option maxHeartbeats 4000000 in
set_option maxRecDepth 100000 in
theorem eqMsg_same {a a' b b' : Option Addr} {g g' off off' cap cap' h h' o o' capb capb' : Nat} (m : MsgL) (hlen : m.ents.length ≤ 1048576) (hlc : m.conf.length ≤ 1048576) (w : World) (hA : EnAt w a g off m.ents) (hB : EnAt w a' g' off' m.ents) (hC : IntAt w b h o m.conf) (hD : IntAt w b' h' o' m.conf) :
    Calls Tryz.prog 7 #[msgV m a cap b capb, msgV m a' cap' b' capb'] w fun e w' => e = .returned (.bool true) ∧ Below w.heap.size w w' := by
  unfold msgV
  obtain ⟨W, hW⟩ : ∃ W, W = (w.alloc (.cells (msgC m a cap b capb) 25)).alloc (.cells (msgC m a' cap' b' capb') 25) := ⟨_, rfl⟩
  have hb : Below w.heap.size w W := by rw [hW]; exact ((Below.refl _ _).alloc (Nat.le_refl _) _).alloc (by simp) _
  have hp0 : MsgAt W w.heap.size m a cap b capb := by rw [hW]; exact (MsgAt.new w m a cap b capb 25).kept ((Below.refl _ _).alloc (Nat.le_refl _) _)
  have hp1 : MsgAt W (w.heap.size + 1) m a' cap' b' capb' := by
    rw [hW]; have := MsgAt.new (w.alloc (.cells (msgC m a cap b capb) 25)) m a' cap' b' capb' 25; simpa using this
  have HB : Hid (Below w.heap.size w W) := hb
  have HWD : Hid ((w.alloc (Obj.cells #[.int .i64 m.kind, .int .i64 m.frm, .int .i64 m.dst, .int .i64 m.term, .int .i64 m.index, .int .i64 m.lterm, .int .i64 m.commit, .bool m.ok, .slice a m.ents.length cap, .slice b m.conf.length capb, .string m.data, .bool m.last] 25)).alloc (Obj.cells #[.int .i64 m.kind, .int .i64 m.frm, .int .i64 m.dst, .int .i64 m.term, .int .i64 m.index, .int .i64 m.lterm, .int .i64 m.commit, .bool m.ok, .slice a' m.ents.length cap', .slice b' m.conf.length capb', .string m.data, .bool m.last] 25) = W) := hW.symm
  have HM : Hid (Calls Tryz.prog 27 #[.slice a m.ents.length cap, .slice a' m.ents.length cap'] W fun e w' => e = .returned (.bool true) ∧ Below W.heap.size W w') := eqEnS_same m.ents hlen W (hA.kept hb) (hB.kept hb)
  have HC : Hid (∀ W', Below W.heap.size W W' → Calls Tryz.prog 28 #[.slice b m.conf.length capb, .slice b' m.conf.length capb'] W' fun e w' => e = .returned (.bool true) ∧ Below W'.heap.size W' w') := fun W' x => eqIntS_same m.conf hlc W' ((hC.kept hb).kept x) ((hD.kept hb).kept x)
  have H0 : Hid (∀ W', Below W.heap.size W W' → MsgAt W' w.heap.size m a cap b capb) := fun W' x => hp0.kept x
  have H1 : Hid (∀ W', Below W.heap.size W W' → MsgAt W' (w.heap.size + 1) m a' cap' b' capb') := fun W' x => hp1.kept x
  obtain ⟨q, hq⟩ : ∃ q, q = w.heap.size := ⟨_, rfl⟩
  have M0 := hp0
  have M1 := hp1
  obtain ⟨p0, p1, p2, p3, p4, p5, p6, p7, p8, p9, p10, p11⟩ := M0
  obtain ⟨q0, q1, q2, q3, q4, q5, q6, q7, q8, q9, q10, q11⟩ := M1
  rw [← HWD.out] at p0 p1 p2 p3 p4 p5 p6 p7 p8 p9 p10 p11 q0 q1 q2 q3 q4 q5 q6 q7 q8 q9 q10 q11
  clear hA hB hC hD hb hp0 hp1 hW
  go_enter Tryz.func7, Tryz.ntmps7
  go_wp2_with fail
  rw [HWD.out]
  clear HWD p0 p1 p2 p3 p4 p5 p6 p7 p8 p9 p10 p11 q0 q1 q2 q3 q4 q5 q6 q7 q8 q9 q10 q11
  refine Calls.mono HM.out ?_
  rintro e w1 ⟨rfl, hb1⟩
  have HB1 : Hid (Below W.heap.size W w1) := hb1
  have M0 := H0.out _ hb1
  have M1 := H1.out _ hb1
  have p9 := M0.c9
  have q9 := M1.c9
  clear hb1 M0 M1 HM
  go_wp2_with fail
  refine Calls.mono (HC.out _ HB1.out) ?_
  rintro e w2 ⟨rfl, hb2⟩
  have HB2 : Hid (Below W.heap.size W w2) := HB1.out.trans (hb2.mono HB1.out.size)
  have M0 := H0.out _ HB2.out
  have M1 := H1.out _ HB2.out
  have p10 := M0.c10
  have q10 := M1.c10
  have p11 := M0.c11
  have q11 := M1.c11
  clear hb2 M0 M1 HC p9 q9
  go_wp2
  go_ret
  exact ⟨rfl, HB.out.trans (HB2.out.mono HB.out.size)⟩
set_option maxHeartbeats 4000000 in
set_option maxRecDepth 100000 in
theorem heldMsg_is {a b : Option Addr} {g off cap h capb : Nat} (m : MsgL) (n nc : Nat) (hlen : n ≤ 1048576) (hlc : nc ≤ 1048576) (k : Nat) (h0 : 0 < k) (hk : k ≤ 10000000) (w : World) (hf : EnAt w a g off (marksEn k n)) (hc : IntAt w b h 0 (marksI (k + 3 * n) nc)) :
    Calls Tryz.prog 9 #[.agg #[.int .i64 m.kind, .int .i64 m.frm, .int .i64 m.dst, .int .i64 m.term, .int .i64 m.index, .int .i64 m.lterm, .int .i64 m.commit, .bool m.ok, .slice a n cap, .slice b nc capb, .string m.data, .bool m.last], .int .i64 (k : Int)] w fun e w' => e = .returned (.int .i64 ((k + 3 * n + nc : Nat) : Int)) ∧ Below w.heap.size w w' := by
  obtain ⟨W, hW⟩ : ∃ W, W = w.alloc (Obj.cells #[.int .i64 m.kind, .int .i64 m.frm, .int .i64 m.dst, .int .i64 m.term, .int .i64 m.index, .int .i64 m.lterm, .int .i64 m.commit, .bool m.ok, .slice a n cap, .slice b nc capb, .string m.data, .bool m.last] 25) := ⟨_, rfl⟩
  have hb : Below w.heap.size w W := by rw [hW]; exact (Below.refl _ _).alloc (Nat.le_refl _) _
  have HB : Hid (Below w.heap.size w W) := hb
  have hc9 : W.cell? ⟨w.heap.size, 9, none⟩ = some (.slice b nc capb) := by rw [hW]; exact cell_of_row _ _ 9 _ _ _ (heap_alloc_new w _)
  have HC9 : Hid (∀ W', Below W.heap.size W W' → W'.cell? ⟨w.heap.size, 9, none⟩ = some (.slice b nc capb)) := fun W' x => (x.cell (p := ⟨w.heap.size, 9, none⟩) (World.block_lt_of_cell? W _ hc9)).trans hc9
  obtain ⟨N, hN⟩ : ∃ N : Nat, N = k + 3 * n := ⟨_, rfl⟩
  have HM : Hid (Calls Tryz.prog 31 #[.slice a n cap, .int .i64 (k : Int)] W fun e w' => e = .returned (.int .i64 (N : Int)) ∧ Below W.heap.size W w') := by rw [hN]; exact heldEnS_is n hlen k h0 (by omega) W (hf.kept hb)
  rw [← hN] at hc ⊢
  obtain ⟨N2, hN2⟩ : ∃ N2 : Nat, N2 = N + nc := ⟨_, rfl⟩
  have HI : Hid (∀ W', Below W.heap.size W W' → Calls Tryz.prog 32 #[.slice b nc capb, .int .i64 (N : Int)] W' fun e w' => e = .returned (.int .i64 (N2 : Int)) ∧ W' = w') := fun W' x => by rw [hN2]; exact heldIntS_is hlc N (by omega) W' ((hc.kept hb).kept x)
  rw [← hN2]
  obtain ⟨q, hq⟩ : ∃ q, q = w.heap.size := ⟨_, rfl⟩
  rw [← hq] at HC9
  clear hb hf hN hc hN2 hc9
  go_enter Tryz.func9, Tryz.ntmps9
  go_wp2_with fail
  rw [← hW, ← hq]
  clear hW hq
  refine Calls.mono HM.out ?_
  rintro e w1 ⟨rfl, hb1⟩
  have HB1 : Hid (Below W.heap.size W w1) := hb1
  have c9 := HC9.out _ hb1
  have hn : ¬ (N : Int) < 0 := by omega
  clear hb1 HM HC9
  go_wp2_with fail
  refine Calls.mono (HI.out _ HB1.out) ?_
  rintro e w2 ⟨rfl, hw2⟩
  subst hw2
  have hn2 : ¬ (N2 : Int) < 0 := by omega
  clear HI c9
  go_wp2
  go_ret
  exact ⟨rfl, HB.out.trans (HB1.out.mono HB.out.size)⟩
/-- Rows of two types lie in two blocks. -/
theorem own_diff {W : World} {B B' k k' n n' : Nat} {e e' : TypeId} {v v' : Value} {xs xs' : List Value} (h : W.ownsRow B e k v n xs) (h' : W.ownsRow B' e' k' v' n' xs') (hne : e' ≠ e) : v.ownBlock = none ∨ v.ownBlock ≠ v'.ownBlock := by
  rcases h.2 with ⟨h1, h2⟩ | ⟨g, cap, cur, h1, h2⟩
  · subst h1; exact Or.inl rfl
  · subst h1
    right
    intro x
    have hg : (W.heap[g]? = some (.cells cur e (0, 0))) := by simp only [h2]
    exact own_not h' hg hne (by rw [← x]; rfl)
set_option maxHeartbeats 4000000 in
set_option maxRecDepth 100000 in
theorem markMsg_own {B : Nat} {a b : Option Addr} {cap capb : Nat} (m : MsgL) (hlen : m.ents.length ≤ 1048576) (hlc : m.conf.length ≤ 1048576) (k : Nat) (h0 : 0 < k) (hk : k ≤ 10000000) (w : World) (hB : B ≤ w.heap.size) (hA : w.ownsRow B 44 3 (.slice a m.ents.length cap) m.ents.length (cellsEn m.ents)) (hI : w.ownsRow B 3 1 (.slice b m.conf.length capb) m.conf.length (cellsI m.conf)) :
    Calls Tryz.prog 8 #[msgV m a cap b capb, .int .i64 (k : Int)] w fun e w' => e = .returned (.int .i64 ((k + 3 * m.ents.length + m.conf.length : Nat) : Int)) ∧ w'.ownsRow B 44 3 (.slice a m.ents.length cap) m.ents.length (cellsEn (marksEn k m.ents.length)) ∧ w'.ownsRow B 3 1 (.slice b m.conf.length capb) m.conf.length (cellsI (marksI (k + 3 * m.ents.length) m.conf.length)) ∧
      ∃ w1, w.grownBy w1 (Value.slice a m.ents.length cap).ownBlock ∧ w1.grownBy w' (Value.slice b m.conf.length capb).ownBlock := by
  unfold msgV
  obtain ⟨W, hW⟩ : ∃ W, W = w.alloc (Obj.cells (msgC m a cap b capb) 25) := ⟨_, rfl⟩
  have hb : Below w.heap.size w W := by rw [hW]; exact (Below.refl _ _).alloc (Nat.le_refl _) _
  have hg : W.heap[w.heap.size]? = some (.cells (msgC m a cap b capb) 25 (0, 0)) := by rw [hW]; exact heap_alloc_new w _
  have HWD : Hid (w.alloc (Obj.cells #[.int .i64 m.kind, .int .i64 m.frm, .int .i64 m.dst, .int .i64 m.term, .int .i64 m.index, .int .i64 m.lterm, .int .i64 m.commit, .bool m.ok, .slice a m.ents.length cap, .slice b m.conf.length capb, .string m.data, .bool m.last] 25) = W) := hW.symm
  have hA2 : W.ownsRow B 44 3 (.slice a m.ents.length cap) m.ents.length (cellsEn m.ents) := by rw [hW]; exact hA.alloc _
  have hI2 : W.ownsRow B 3 1 (.slice b m.conf.length capb) m.conf.length (cellsI m.conf) := by rw [hW]; exact hI.alloc _
  have hne1 : (Value.slice a m.ents.length cap).ownBlock ≠ some w.heap.size := own_not hA2 hg (by decide)
  have HG : Hid (w.grownBy W (Value.slice a m.ents.length cap).ownBlock) := ⟨hb.os, hb.tape, hb.output, hb.size, fun k hk _ => hb.block k hk⟩
  have hd1 := own_diff hI2 hA2 (by decide)
  obtain ⟨N, hN⟩ : ∃ N : Nat, N = k + 3 * m.ents.length := ⟨_, rfl⟩
  have HM : Hid (Calls Tryz.prog 29 #[.slice a m.ents.length cap, .int .i64 (k : Int)] W fun e w' => e = .returned (.int .i64 (N : Int)) ∧ w'.ownsRow B 44 3 (.slice a m.ents.length cap) m.ents.length (cellsEn (marksEn k m.ents.length)) ∧ W.grownBy w' (Value.slice a m.ents.length cap).ownBlock) := by rw [hN]; exact markEnS_own m.ents hlen k h0 (by omega) W hA2
  rw [← hN]
  obtain ⟨N2, hN2⟩ : ∃ N2 : Nat, N2 = N + m.conf.length := ⟨_, rfl⟩
  have HI : Hid (∀ W' : World, W'.ownsRow B 3 1 (.slice b m.conf.length capb) m.conf.length (cellsI m.conf) → Calls Tryz.prog 30 #[.slice b m.conf.length capb, .int .i64 (N : Int)] W' fun e w' => e = .returned (.int .i64 (N2 : Int)) ∧ w'.ownsRow B 3 1 (.slice b m.conf.length capb) m.conf.length (cellsI (marksI N m.conf.length)) ∧ W'.grownBy w' (Value.slice b m.conf.length capb).ownBlock) := fun W' x => by rw [hN2]; exact markIntS_own m.conf hlc N (by omega) W' x
  rw [← hN2]
  have HI2 : Hid (W.ownsRow B 3 1 (.slice b m.conf.length capb) m.conf.length (cellsI m.conf)) := hI2
  have HD1 : Hid ((Value.slice b m.conf.length capb).ownBlock = none ∨ (Value.slice b m.conf.length capb).ownBlock ≠ (Value.slice a m.ents.length cap).ownBlock) := hd1
  have HGB : Hid (W.heap[w.heap.size]? = some (.cells (msgC m a cap b capb) 25 (0, 0))) := hg
  have HNE : Hid ((Value.slice a m.ents.length cap).ownBlock ≠ some w.heap.size) := hne1
  obtain ⟨q, hq⟩ : ∃ q, q = w.heap.size := ⟨_, rfl⟩
  rw [← hq] at HGB HNE
  clear hA2 hI2 hA hI hb hd1 hg hne1 hN hN2 hW hB
  go_enter Tryz.func8, Tryz.ntmps8
  go_wp2_with fail
  rw [HWD.out, ← hq]
  clear HWD hq
  refine Calls.mono HM.out ?_
  rintro e w1 ⟨rfl, hown, hgr⟩
  have HO : Hid (w1.ownsRow B 44 3 (.slice a m.ents.length cap) m.ents.length (cellsEn (marksEn k m.ents.length))) := hown
  have HI1 : Hid (w1.ownsRow B 3 1 (.slice b m.conf.length capb) m.conf.length (cellsI m.conf)) := HI2.out.kept hgr HD1.out
  have HG1 : Hid (w.grownBy w1 (Value.slice a m.ents.length cap).ownBlock) := HG.out.trans hgr
  have hq1 := grown_keep' HGB.out hgr HNE.out
  have c9 : w1.cell? ⟨q, 9, none⟩ = some (.slice b m.conf.length capb) := cell_of_row _ _ 9 _ _ _ hq1
  clear hown hgr hq1 HM HG HI2 HGB HNE HD1
  go_wp2_with fail
  refine Calls.mono (HI.out _ HI1.out) ?_
  rintro e w2 ⟨rfl, hown2, hgr2⟩
  have HO2 : Hid (w2.ownsRow B 3 1 (.slice b m.conf.length capb) m.conf.length (cellsI (marksI N m.conf.length))) := hown2
  have HO3 : Hid (w2.ownsRow B 44 3 (.slice a m.ents.length cap) m.ents.length (cellsEn (marksEn k m.ents.length))) := HO.out.kept hgr2 (own_diff HO.out HI1.out (by decide))
  have HG2 : Hid (w1.grownBy w2 (Value.slice b m.conf.length capb).ownBlock) := hgr2
  clear hown2 hgr2 HI c9
  go_wp2
  go_ret
  exact ⟨rfl, HO3.out, HO2.out, _, HG1.out, HG2.out⟩
end Go.Proofs.YtimacmijinblmaaGreat
