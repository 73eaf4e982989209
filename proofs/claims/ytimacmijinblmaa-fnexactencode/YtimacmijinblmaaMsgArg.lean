/- A message as an argument and as an answer: szMessage, eqMessage, markMessage, heldMessage, walked. -/
import Derived.Test.YtimacmijinblmaaSpecMsg
import Derived.Test.YtimacmijinblmaaHeldEn
namespace Go.Proofs.Ytimacmijinblmaa
open Go.RowKit
set_option linter.unusedVariables false
set_option linter.unusedSimpArgs false

/-- What szMessage takes of the measure. -/
def totM (m : MsgL) : Nat := totEn m.ents + m.conf.length + m.data.size
set_option maxHeartbeats 4000000 in
set_option maxRecDepth 100000 in
theorem szMsg_any {a b : Option Addr} {g off cap capb : Nat} (m : MsgL) (hlen : m.ents.length ≤ maxLen) (hsz : ∀ r ∈ m.ents, smallEn maxLen r) (hlc : m.conf.length ≤ maxLen) (hds : m.data.size ≤ maxLen) (left : Nat) (hl : left ≤ 1048576) (w : World) (hf : EnAt w a g off m.ents) :
    Calls Try.prog 5 #[msgV m a cap b capb, .int .i64 (left : Int)] w fun e w' => ∃ x : Int, e = .returned (.int .i64 x) ∧ Left left (totM m) x ∧ Below w.heap.size w w' := by
  unfold msgV
  obtain ⟨W, hW⟩ : ∃ W, W = w.alloc (Obj.cells (msgC m a cap b capb) 25) := ⟨_, rfl⟩
  have hb : Below w.heap.size w W := by rw [hW]; exact (Below.refl _ _).alloc (Nat.le_refl _) _
  have HB : Hid (Below w.heap.size w W) := hb
  have hla : MsgAt W w.heap.size m a cap b capb := by rw [hW]; exact MsgAt.new w m a cap b capb 25
  have HWD : Hid (w.alloc (Obj.cells #[.int .i64 m.kind, .int .i64 m.frm, .int .i64 m.dst, .int .i64 m.term, .int .i64 m.index, .int .i64 m.lterm, .int .i64 m.commit, .bool m.ok, .slice a m.ents.length cap, .slice b m.conf.length capb, .string m.data, .bool m.last] 25) = W) := hW.symm
  have HM : Hid (Calls Try.prog 12 #[.slice a m.ents.length cap, .int .i64 (left : Int)] W fun e w' => ∃ x : Int, e = .returned (.int .i64 x) ∧ Left left (totEn m.ents) x ∧ Below W.heap.size W w') := szEnS_is m.ents hlen hsz left hl W (hf.kept hb)
  have HLA : Hid (∀ W', Below W.heap.size W W' → MsgAt W' w.heap.size m a cap b capb) := fun W' x => hla.kept x
  obtain ⟨q, hq⟩ : ∃ q, q = w.heap.size := ⟨_, rfl⟩
  unfold maxLen at hds
  clear hb hf hsz hla hW
  go_enter Try.func5, Try.ntmps5
  go_wp2_with fail
  rw [HWD.out, ← hq]
  rw [← hq] at HLA
  clear HWD hq
  refine Calls.mono HM.out ?_
  rintro e w1 ⟨x, rfl, hx, hb1⟩
  have HB1 : Hid (Below w.heap.size w w1) := HB.out.trans (hb1.mono HB.out.size)
  have HL1 : Hid (Below W.heap.size W w1) := hb1
  clear hb1 HM
  rcases hx with ⟨hx1, hx2⟩ | ⟨hx1, hx2⟩
  · obtain ⟨l1, hl1⟩ : ∃ l1 : Nat, l1 = left - totEn m.ents := ⟨_, rfl⟩
    rw [← hl1] at hx2
    subst hx2
    have hn : ¬ (l1 : Int) < 0 := by omega
    have c9 := (HLA.out _ HL1.out).c9
    have HS : Hid (∀ W', Calls Try.prog 13 #[.slice b m.conf.length capb, .int .i64 (l1 : Int)] W' fun e w' => ∃ x : Int, e = .returned (.int .i64 x) ∧ Left l1 m.conf.length x ∧ Below W'.heap.size W' w') := fun W' => szIntS_is hlc (by omega) W'
    have HL : Hid (totEn m.ents ≤ left ∧ l1 = left - totEn m.ents) := ⟨hx1, hl1⟩
    clear hx1 hl1
    go_wp2_with fail
    refine Calls.mono (HS.out _) ?_
    rintro e w2 ⟨x, rfl, hx, hb2⟩
    have HB2 : Hid (Below w.heap.size w w2) := HB1.out.trans (hb2.mono HB1.out.size)
    have c10 := (HLA.out _ (HL1.out.trans (hb2.mono HL1.out.size))).c10
    clear hb2 HS c9
    rcases hx with ⟨hx1, hx2⟩ | ⟨hx1, hx2⟩
    · have hn2 : ¬ x < 0 := by omega
      by_cases hd : x - (m.data.size : Int) < 0
      · have HX : Hid (Left left (totM m) (-1)) := Or.inr ⟨by obtain ⟨a1, a2⟩ := HL.out; unfold totM; omega, rfl⟩
        clear hx1 hx2 HL
        go_wp2
        go_ret
        exact ⟨-1, rfl, HX.out, HB2.out⟩
      · have HX : Hid (Left left (totM m) (x - (m.data.size : Int))) := Or.inl (by obtain ⟨a1, a2⟩ := HL.out; unfold totM; omega)
        have b0 : x ≤ 1048576 := by have := HL.out; omega
        clear hx1 hx2 HL
        go_wp2
        go_ret
        exact ⟨x - (m.data.size : Int), rfl, HX.out, HB2.out⟩
    · have hn2 : x < 0 := by omega
      have HX : Hid (Left left (totM m) (-1)) := Or.inr ⟨by obtain ⟨a1, a2⟩ := HL.out; unfold totM; omega, rfl⟩
      clear hx1 hx2 HL
      go_wp2
      go_ret
      exact ⟨-1, rfl, HX.out, HB2.out⟩
  · have hn : x < 0 := by omega
    have HX : Hid (Left left (totM m) (-1)) := Or.inr ⟨by unfold totM; omega, rfl⟩
    clear hx1 hx2
    go_wp2
    go_ret
    exact ⟨-1, rfl, HX.out, HB1.out⟩
set_option maxHeartbeats 4000000 in
set_option maxRecDepth 100000 in
theorem eqMsg_same {a a' b b' : Option Addr} {g g' off off' cap cap' h h' o o' capb capb' : Nat} (m : MsgL) (hlen : m.ents.length ≤ 1048576) (hlc : m.conf.length ≤ 1048576) (w : World) (hA : EnAt w a g off m.ents) (hB : EnAt w a' g' off' m.ents) (hC : IntAt w b h o m.conf) (hD : IntAt w b' h' o' m.conf) :
    Calls Try.prog 9 #[msgV m a cap b capb, msgV m a' cap' b' capb'] w fun e w' => e = .returned (.bool true) ∧ Below w.heap.size w w' := by
  unfold msgV
  obtain ⟨W, hW⟩ : ∃ W, W = (w.alloc (.cells (msgC m a cap b capb) 30)).alloc (.cells (msgC m a' cap' b' capb') 30) := ⟨_, rfl⟩
  have hb : Below w.heap.size w W := by rw [hW]; exact ((Below.refl _ _).alloc (Nat.le_refl _) _).alloc (by simp) _
  have hp0 : MsgAt W w.heap.size m a cap b capb := by rw [hW]; exact (MsgAt.new w m a cap b capb 30).kept ((Below.refl _ _).alloc (Nat.le_refl _) _)
  have hp1 : MsgAt W (w.heap.size + 1) m a' cap' b' capb' := by
    rw [hW]; have := MsgAt.new (w.alloc (.cells (msgC m a cap b capb) 30)) m a' cap' b' capb' 30; simpa using this
  have HB : Hid (Below w.heap.size w W) := hb
  have HWD : Hid ((w.alloc (Obj.cells #[.int .i64 m.kind, .int .i64 m.frm, .int .i64 m.dst, .int .i64 m.term, .int .i64 m.index, .int .i64 m.lterm, .int .i64 m.commit, .bool m.ok, .slice a m.ents.length cap, .slice b m.conf.length capb, .string m.data, .bool m.last] 30)).alloc (Obj.cells #[.int .i64 m.kind, .int .i64 m.frm, .int .i64 m.dst, .int .i64 m.term, .int .i64 m.index, .int .i64 m.lterm, .int .i64 m.commit, .bool m.ok, .slice a' m.ents.length cap', .slice b' m.conf.length capb', .string m.data, .bool m.last] 30) = W) := hW.symm
  have HM : Hid (Calls Try.prog 22 #[.slice a m.ents.length cap, .slice a' m.ents.length cap'] W fun e w' => e = .returned (.bool true) ∧ Below W.heap.size W w') := eqEnS_same m.ents hlen W (hA.kept hb) (hB.kept hb)
  have HC : Hid (∀ W', Below W.heap.size W W' → Calls Try.prog 23 #[.slice b m.conf.length capb, .slice b' m.conf.length capb'] W' fun e w' => e = .returned (.bool true) ∧ Below W'.heap.size W' w') := fun W' x => eqIntS_same m.conf hlc W' ((hC.kept hb).kept x) ((hD.kept hb).kept x)
  have H0 : Hid (∀ W', Below W.heap.size W W' → MsgAt W' w.heap.size m a cap b capb) := fun W' x => hp0.kept x
  have H1 : Hid (∀ W', Below W.heap.size W W' → MsgAt W' (w.heap.size + 1) m a' cap' b' capb') := fun W' x => hp1.kept x
  obtain ⟨q, hq⟩ : ∃ q, q = w.heap.size := ⟨_, rfl⟩
  have M0 := hp0
  have M1 := hp1
  obtain ⟨p0, p1, p2, p3, p4, p5, p6, p7, p8, p9, p10, p11⟩ := M0
  obtain ⟨q0, q1, q2, q3, q4, q5, q6, q7, q8, q9, q10, q11⟩ := M1
  rw [← HWD.out] at p0 p1 p2 p3 p4 p5 p6 p7 p8 p9 p10 p11 q0 q1 q2 q3 q4 q5 q6 q7 q8 q9 q10 q11
  clear hA hB hC hD hb hp0 hp1 hW
  go_enter Try.func9, Try.ntmps9
  go_wp2_with fail
  rw [HWD.out]
  clear HWD p0 p1 p2 p3 p4 p5 p6 p7 p8 p9 p10 p11 q0 q1 q2 q3 q4 q5 q6 q7 q8 q9 q10 q11
  refine Calls.mono HM.out ?_
  rintro e w1 ⟨rfl, hb1⟩
  have HB1 : Hid (Below W.heap.size W w1) := hb1
  have M0 := H0.out _ hb1
  have M1 := H1.out _ hb1
  have p9 := M0.c9
  have q9 := M1.c9
  clear hb1 M0 M1 HM
  go_wp2_with fail
  refine Calls.mono (HC.out _ HB1.out) ?_
  rintro e w2 ⟨rfl, hb2⟩
  have HB2 : Hid (Below W.heap.size W w2) := HB1.out.trans (hb2.mono HB1.out.size)
  have M0 := H0.out _ HB2.out
  have M1 := H1.out _ HB2.out
  have p10 := M0.c10
  have q10 := M1.c10
  have p11 := M0.c11
  have q11 := M1.c11
  clear hb2 M0 M1 HC p9 q9
  go_wp2
  go_ret
  exact ⟨rfl, HB.out.trans (HB2.out.mono HB.out.size)⟩
/-- Rows of two types lie in two blocks. -/
theorem own_diff {W : World} {B B' k k' n n' : Nat} {e e' : TypeId} {v v' : Value} {xs xs' : List Value} (h : W.ownsRow B e k v n xs) (h' : W.ownsRow B' e' k' v' n' xs') (hne : e' ≠ e) : v.ownBlock = none ∨ v.ownBlock ≠ v'.ownBlock := by
  rcases h.2 with ⟨h1, h2⟩ | ⟨g, cap, cur, h1, h2⟩
  · subst h1; exact Or.inl rfl
  · subst h1
    right
    intro x
    have hg : (W.heap[g]? = some (.cells cur e (0, 0))) := by simp only [h2]
    exact own_not h' hg hne (by rw [← x]; rfl)
end Go.Proofs.Ytimacmijinblmaa
