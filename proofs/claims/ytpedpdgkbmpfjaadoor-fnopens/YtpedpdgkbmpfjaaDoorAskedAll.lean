/- The program's asked, walked: what a session's command changes, and what is replied. -/
import Derived.Test.YtpedpdgkbmpfjaaDoorAskedDo
namespace Go.Proofs.YtpedpdgkbmpfjaaDoor
open Go.RowKit
open Acts (decS skey sval nkey kkey sess parse Enc get nextN least pickL findS opC opR opM doneM openM leftM act)
set_option linter.unusedVariables false
set_option linter.unusedSimpArgs false

/-- What a session's command changes. -/
def askCs (m : List PairL) (i : Nat) (c : CmdL) : List ChangeL := match findS m c.ses with
  | none => []
  | some s => if c.seq ≤ (s.seq : Int) ∨ (s.seq : Int) + 1 < c.seq then [] else opC m c ++ [⟨skey s.id, sval ⟨s.id, c.seq.toNat, i, opR m c⟩, false⟩]
theorem askCs_act {T : Nat} {m : List PairL} (hT : T ≤ 60) (hG : Acts.Good T m) (i : Nat) (c : CmdL) (h1 : c.op ≠ 1) : (act m i c).1 = (askCs m i c).foldl Maps.stepC m := by
  unfold act askCs
  rw [if_neg h1]
  cases hf : findS m c.ses with
  | none => rfl
  | some s =>
    simp only
    have hid : c.ses.toNat = s.id := by have := (Acts.find_mem hf).2; omega
    by_cases q1 : c.seq < (s.seq : Int)
    · rw [if_pos q1, if_pos (by omega)]; rfl
    · rw [if_neg q1]
      by_cases q2 : c.seq = (s.seq : Int)
      · rw [if_pos q2, if_pos (by omega)]; rfl
      · rw [if_neg q2]
        by_cases q3 : (s.seq : Int) + 1 < c.seq
        · rw [if_pos q3, if_pos (by omega)]; rfl
        · rw [if_neg q3, if_neg (by omega), List.foldl_append]
          unfold doneM opM
          rw [hid]
          rfl
set_option maxHeartbeats 1000000 in
theorem asked_done {T : Nat} {a b : Option Addr} {g off cap capb g2 off2 i : Nat} (m : List PairL) (hG : Acts.Good T m) (hT : T ≤ 30) (L : List Ses) (hL : L.length ≤ 200) (c : CmdL) (hk : c.key.size ≤ 9) (ho : 1 ≤ c.op ∧ c.op ≤ 5) (ho1 : c.op ≠ 1) (s : Ses) (h1 : s.id ≤ 99) (h2 : s.seq ≤ 90) (hi : i ≤ 99)
    (hs : L.find? (fun s => (s.id : Int) == c.ses) = some s) (hq : c.seq = (s.seq : Int) + 1) (w : World) (hfm : PairAt w a g off m) (hf : SesAt w b g2 off2 L) :
    Calls Tryd.prog 37 #[.slice a m.length cap, .int .i64 (i : Int), .agg #[.int .i64 c.op, .int .i64 c.ses, .int .i64 c.seq, .string c.key, .string c.val, .string c.old], .slice b L.length capb] w fun e w' => ∃ v, e = .returned (.tuple #[v, .string (opR m c)]) ∧ w'.ownsRow w.heap.size 100 3 v (opC m c ++ [(⟨skey s.id, sval ⟨s.id, c.seq.toNat, i, opR m c⟩, false⟩ : ChangeL)]).length (cellsChange (opC m c ++ [(⟨skey s.id, sval ⟨s.id, c.seq.toNat, i, opR m c⟩, false⟩ : ChangeL)])) ∧ Below w.heap.size w w' := by
  have hc : c.op = 2 ∨ c.op = 3 ∨ c.op = 4 ∨ c.op = 5 := by omega
  rcases hc with h | h | h | h
  · have hl : ∀ (W : World) (r : Nat), W.heap[r]? = some (.map opsM 4) → (Instr.lookup 110 (.map (some r)) (.int .i64 c.op) false).run Tryd.prog W = .ok (opF 83) W := fun W r hb => by rw [h]; exact (look_op W r hb).1
    exact asked_core (fn := 83) m hG hT L hL c hk s h1 h2 hi hl (fun _ _ => by kernel_rfl) (fun W B ab hB ha hp => opGet_is m hG hT hk W hB ha hp h) hs hq w hfm hf
  · have hl : ∀ (W : World) (r : Nat), W.heap[r]? = some (.map opsM 4) → (Instr.lookup 110 (.map (some r)) (.int .i64 c.op) false).run Tryd.prog W = .ok (opF 84) W := fun W r hb => by rw [h]; exact (look_op W r hb).2.1
    exact asked_core (fn := 84) m hG hT L hL c hk s h1 h2 hi hl (fun _ _ => by kernel_rfl) (fun W B ab hB ha hp => opPut_is m hG hT hk W hB ha hp h) hs hq w hfm hf
  · have hl : ∀ (W : World) (r : Nat), W.heap[r]? = some (.map opsM 4) → (Instr.lookup 110 (.map (some r)) (.int .i64 c.op) false).run Tryd.prog W = .ok (opF 85) W := fun W r hb => by rw [h]; exact (look_op W r hb).2.2.1
    exact asked_core (fn := 85) m hG hT L hL c hk s h1 h2 hi hl (fun _ _ => by kernel_rfl) (fun W B ab hB ha hp => opCut_is m hG hT hk W hB ha hp h) hs hq w hfm hf
  · have hl : ∀ (W : World) (r : Nat), W.heap[r]? = some (.map opsM 4) → (Instr.lookup 110 (.map (some r)) (.int .i64 c.op) false).run Tryd.prog W = .ok (opF 86) W := fun W r hb => by rw [h]; exact (look_op W r hb).2.2.2
    exact asked_core (fn := 86) m hG hT L hL c hk s h1 h2 hi hl (fun _ _ => by kernel_rfl) (fun W B ab hB ha hp => opSwap_is m hG hT hk W hB ha hp h) hs hq w hfm hf
set_option maxHeartbeats 1000000 in
theorem asked_is {T : Nat} {a b : Option Addr} {g off cap capb g2 off2 i : Nat} (m : List PairL) (hG : Acts.Good T m) (hT : T ≤ 30) (c : CmdL) (hok : Cmds.okC c = true) (hop : c.op ≠ 1) (hi : i ≤ 99) (w : World) (hfm : PairAt w a g off m) (hf : SesAt w b g2 off2 (sess m)) :
    Calls Tryd.prog 37 #[.slice a m.length cap, .int .i64 (i : Int), .agg #[.int .i64 c.op, .int .i64 c.ses, .int .i64 c.seq, .string c.key, .string c.val, .string c.old], .slice b (sess m).length capb] w fun e w' => ∃ v, e = .returned (.tuple #[v, .string (act m i c).2]) ∧ w'.ownsRow w.heap.size 100 3 v (askCs m i c).length (cellsChange (askCs m i c)) ∧ Below w.heap.size w w' := by
  have F := Cmds.fits hok
  have hk := F.key
  have hL : (sess m).length ≤ 200 := by have := hG.few; omega
  unfold act askCs
  rw [if_neg hop]
  cases hs : findS m c.ses with
  | none => exact (asked_none m (sess m) hL c hs w hf).mono fun e w' ⟨x, y⟩ => ⟨_, x, World.ownsRow_nil _ _ _ _, y⟩
  | some s =>
    obtain ⟨f1, f2⟩ := Acts.find_mem hs
    obtain ⟨g1, g2', g3, g4, g5⟩ := Acts.mem_sess (by omega) hG.enc f1
    simp only
    by_cases hq' : c.seq ≤ (s.seq : Int) ∨ (s.seq : Int) + 1 < c.seq
    · rw [if_pos hq']
      refine (asked_old m (sess m) hL c s ⟨by omega, by omega⟩ hs hq' w hf).mono fun e w' ⟨x, y⟩ => ⟨_, ?_, World.ownsRow_nil _ _ _ _, y⟩
      rw [x]
      by_cases q1 : c.seq < (s.seq : Int)
      · rw [if_pos q1, if_pos q1]
      · rw [if_neg q1, if_neg q1]
        by_cases q2 : c.seq = (s.seq : Int)
        · rw [if_pos q2, if_pos q2]
        · rw [if_neg q2, if_neg q2, if_pos (by omega)]
    · rw [if_neg hq', if_neg (by omega), if_neg (by omega), if_neg (by omega)]
      exact asked_done m hG hT (sess m) hL c hk F.op hop s (by omega) (by omega) hi hs (by omega) w hfm hf
end Go.Proofs.YtpedpdgkbmpfjaaDoor
