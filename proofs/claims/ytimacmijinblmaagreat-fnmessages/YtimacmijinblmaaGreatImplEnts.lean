/- The program's stampOk and entriesOk, walked. -/
import Derived.Test.YtimacmijinblmaaGreatSpecMsg
import Derived.Test.YtimacmijinblmaaGreatLApp
import Derived.Test.YtimacmijinblmaaGreatImplEnt2
namespace Go.Proofs.YtimacmijinblmaaGreat
open Go.RowKit
open Ents (okB)
open Msgs (rises)
set_option linter.unusedVariables false
set_option linter.unusedSimpArgs false

theorem stampOk_is (x : Int) (R : Bool) (hR : R = decide (0 ≤ x ∧ x ≤ 100000)) (w : World) : Calls Tryz.prog 109 #[.int .i64 x] w fun en w' => en = .returned (.bool R) ∧ w' = w := by
  by_cases h0 : 0 ≤ x
  · by_cases h1 : x ≤ 100000
    · have HR : Hid (R = true) := by show _ = _; rw [hR]; simp [h0, h1]
      clear hR
      go_enter Tryz.func109, Tryz.ntmps109
      go_wp2
      go_ret
      exact ⟨by rw [HR.out]; simp [h1], rfl⟩
    · have HR : Hid (R = false) := by show _ = _; rw [hR]; simp [h1]
      clear hR
      go_enter Tryz.func109, Tryz.ntmps109
      go_wp2
      go_ret
      exact ⟨by rw [HR.out]; simp [h1], rfl⟩
  · have HR : Hid (R = false) := by show _ = _; rw [hR]; simp [h0]
    clear hR
    go_enter Tryz.func109, Tryz.ntmps109
    go_wp2
    go_ret
    exact ⟨by rw [HR.out]; rfl, rfl⟩

set_option maxHeartbeats 4000000 in
set_option maxRecDepth 100000 in
theorem entriesOk_is {a : Option Addr} {g off cap : Nat} (l : List EntL) (t : Int) (hlen : l.length ≤ 1048576) (hd : ∀ e ∈ l, e.data.size ≤ 1048576) (w : World) (hf : EnAt w a g off l) :
    Calls Tryz.prog 110 #[.slice a l.length cap, .int .i64 t] w fun en w' => en = .returned (.bool (rises t l)) ∧ Below w.heap.size w w' := by
  obtain ⟨O, hO⟩ : ∃ O, O = rises t l := ⟨_, rfl⟩
  have HR : Hid (rises t (l.drop 0) = O) := hO.symm
  rw [← hO]
  have HEN : Hid (∀ W', Below w.heap.size w W' → EnAt W' a g off l) := fun W' h => hf.kept h
  clear hO hf
  go_enter Tryz.func110, Tryz.ntmps110
  go_wp2
  go_loopw [1, 6, 9] (fun t _ i wr => ∃ (k : Nat) (u : Int), k ≤ l.length ∧ i = .int .i64 (k : Int) ∧ t = .int .i64 u ∧ Hid (rises u (l.drop k) = O) ∧ Hid (Below w.heap.size w wr)) (fun _ _ i _ => l.length - (intOf i).toNat)
  case atStart => exact ⟨0, _, Nat.zero_le _, rfl, rfl, HR, Below.refl _ _⟩
  case round =>
    clear HR
    obtain ⟨k, u, hk, rfl, rfl, HU, HBW⟩ := hrel
    by_cases hlt : k < l.length
    · have hA := HEN.out _ HBW.out
      have ea := hA.1 (by omega)
      obtain ⟨d0, d1, d2⟩ := hA.2 k hlt
      have HD : Hid (l[k].data.size ≤ 1048576) := hd _ (List.getElem_mem _)
      have HST : Hid (okB l[k] = true → u ≤ l[k].term → rises l[k].term (l.drop (k + 1)) = O) := fun h1 h2 => Msgs.rises_step hlt HU.out h1 h2
      have HBD : Hid (okB l[k] = false ∨ ¬ u ≤ l[k].term → O = false) := fun h1 => Msgs.rises_bad hlt HU.out h1
      obtain ⟨e, he⟩ : ∃ e, e = l[k] := ⟨_, rfl⟩
      rw [← he] at d0 d1 d2 HD HST HBD
      subst ea
      have hk0 : (0 : Int) ≤ (k : Int) := by omega
      have hk1 : (k : Int) < (l.length : Int) := by omega
      obtain ⟨Q, hQ⟩ : ∃ Q, Q = okB e := ⟨_, rfl⟩
      have HE : Hid (∀ W, Calls Tryz.prog 116 #[.agg #[.int .i64 e.term, .int .i64 e.kind, .string e.data]] W fun en w' => en = .returned (.bool Q) ∧ Below W.heap.size W w') := fun W => by rw [hQ]; exact implEntOk_is e HD.out W
      rw [← hQ] at HST HBD
      clear hA he hQ
      obtain ⟨W2, hW2⟩ : ∃ W2, W2 = wr.alloc (Obj.cells #[.int .i64 e.term, .int .i64 e.kind, .string e.data] 44) := ⟨_, rfl⟩
      have hE2 : EntAt W2 wr.heap.size e := by rw [hW2]; exact EntAt.new wr e
      have HB2 : Hid (Below w.heap.size w W2) := by rw [hW2]; exact HBW.out.alloc HBW.out.size _
      have HE2 : Hid (∀ X, Below W2.heap.size W2 X → X.cell? ⟨wr.heap.size, 0, none⟩ = some (.int .i64 e.term)) := fun X h => (h.cell (p := ⟨wr.heap.size, 0, none⟩) (World.block_lt_of_cell? _ _ hE2.1)).trans hE2.1
      clear hE2
      go_wp2_with fail
      rw [← hW2]
      refine Calls.mono (HE.out _) ?_
      rintro en w5 ⟨rfl, hb5⟩
      have HB5 : Hid (Below w.heap.size w w5) := HB2.out.trans (hb5.mono HB2.out.size)
      have x0 := HE2.out _ hb5
      clear hb5 hW2 d0 d1 d2 HE HBW HB2 HE2
      cases Q with
      | false =>
        have hOf : O = false := HBD.out (Or.inl rfl)
        subst hOf
        go_wp2
        go_ret
        exact ⟨rfl, HB5.out⟩
      | true =>
        by_cases hu : u ≤ e.term
        · have HST2 : Hid (rises e.term (l.drop (k + 1)) = O) := HST.out rfl hu
          have hu' : ¬ e.term < u := by omega
          clear HST HBD hu
          go_wp2
          go_roundw
          case rel => exact ⟨k + 1, e.term, by omega, by go_num, rfl, HST2, HB5⟩
          case measure => simp [intOf]; omega
        · have hOf : O = false := HBD.out (Or.inr (by omega))
          subst hOf
          have hu' : e.term < u := by omega
          clear HST HBD hu
          go_wp2
          go_ret
          exact ⟨rfl, HB5.out⟩
    · have hk1 : ¬ (k : Int) < (l.length : Int) := by omega
      have hOt : O = true := Msgs.rises_end (by omega) HU.out
      subst hOt
      go_wp2
      go_ret
      exact ⟨rfl, HBW.out⟩
end Go.Proofs.YtimacmijinblmaaGreat
