/- The program's LogOk, LogLast and LogTerm, walked. -/
import Derived.Test.YtddmogggdckneaaSpecLog
import Derived.Test.YtddmogggdckneaaImplEntA
namespace Go.Proofs.Ytddmogggdckneaa
open Go.RowKit
open Ents (okB)
open Logs (okL rises Fits inB)
set_option linter.unusedVariables false
set_option linter.unusedSimpArgs false

theorem stampOk_is (x : Int) (R : Bool) (hR : R = decide (0 ≤ x ∧ x ≤ 100000)) (w : World) : Calls Try.prog 67 #[.int .i64 x] w fun en w' => en = .returned (.bool R) ∧ w' = w := by
  by_cases h0 : 0 ≤ x
  · by_cases h1 : x ≤ 100000
    · have HR : Hid (R = true) := by show _ = _; rw [hR]; simp [h0, h1]
      clear hR
      go_enter Try.func67, Try.ntmps67
      go_wp2
      go_ret
      exact ⟨by rw [HR.out]; simp [h1], rfl⟩
    · have HR : Hid (R = false) := by show _ = _; rw [hR]; simp [h1]
      clear hR
      go_enter Try.func67, Try.ntmps67
      go_wp2
      go_ret
      exact ⟨by rw [HR.out]; simp [h1], rfl⟩
  · have HR : Hid (R = false) := by show _ = _; rw [hR]; simp [h0]
    clear hR
    go_enter Try.func67, Try.ntmps67
    go_wp2
    go_ret
    exact ⟨by rw [HR.out]; rfl, rfl⟩

set_option maxHeartbeats 4000000 in
set_option maxRecDepth 100000 in
theorem entriesOk_is {a : Option Addr} {g off cap : Nat} (l : List EntL) (t : Int) (hlen : l.length ≤ 1048576) (hd : ∀ e ∈ l, e.data.size ≤ 1048576) (w : World) (hf : EnAt w a g off l) :
    Calls Try.prog 69 #[.slice a l.length cap, .int .i64 t] w fun en w' => en = .returned (.bool (rises t l)) ∧ Below w.heap.size w w' := by
  obtain ⟨O, hO⟩ : ∃ O, O = rises t l := ⟨_, rfl⟩
  have HR : Hid (rises t (l.drop 0) = O) := hO.symm
  rw [← hO]
  have HEN : Hid (∀ W', Below w.heap.size w W' → EnAt W' a g off l) := fun W' h => hf.kept h
  clear hO hf
  go_enter Try.func69, Try.ntmps69
  go_wp2
  go_loopw [1, 6, 9] (fun t _ i wr => ∃ (k : Nat) (u : Int), k ≤ l.length ∧ i = .int .i64 (k : Int) ∧ t = .int .i64 u ∧ Hid (rises u (l.drop k) = O) ∧ Hid (Below w.heap.size w wr)) (fun _ _ i _ => l.length - (intOf i).toNat)
  case atStart => exact ⟨0, _, Nat.zero_le _, rfl, rfl, HR, Below.refl _ _⟩
  case round =>
    clear HR
    obtain ⟨k, u, hk, rfl, rfl, HU, HBW⟩ := hrel
    by_cases hlt : k < l.length
    · have hA := HEN.out _ HBW.out
      have ea := hA.1 (by omega)
      obtain ⟨d0, d1, d2⟩ := hA.2 k hlt
      have HD : Hid (l[k].data.size ≤ 1048576) := hd _ (List.getElem_mem _)
      have HST : Hid (okB l[k] = true → u ≤ l[k].term → rises l[k].term (l.drop (k + 1)) = O) := fun h1 h2 => Logs.rises_step hlt HU.out h1 h2
      have HBD : Hid (okB l[k] = false ∨ ¬ u ≤ l[k].term → O = false) := fun h1 => Logs.rises_bad hlt HU.out h1
      obtain ⟨e, he⟩ : ∃ e, e = l[k] := ⟨_, rfl⟩
      rw [← he] at d0 d1 d2 HD HST HBD
      subst ea
      have hk0 : (0 : Int) ≤ (k : Int) := by omega
      have hk1 : (k : Int) < (l.length : Int) := by omega
      obtain ⟨Q, hQ⟩ : ∃ Q, Q = okB e := ⟨_, rfl⟩
      have HE : Hid (∀ W, Calls Try.prog 82 #[.agg #[.int .i64 e.term, .int .i64 e.kind, .string e.data]] W fun en w' => en = .returned (.bool Q) ∧ Below W.heap.size W w') := fun W => by rw [hQ]; exact implEntOk_is e HD.out W
      rw [← hQ] at HST HBD
      clear hA he hQ
      obtain ⟨W2, hW2⟩ : ∃ W2, W2 = wr.alloc (Obj.cells #[.int .i64 e.term, .int .i64 e.kind, .string e.data] 27) := ⟨_, rfl⟩
      have hE2 : EntAt W2 wr.heap.size e := by rw [hW2]; exact EntAt.new wr e
      have HB2 : Hid (Below w.heap.size w W2) := by rw [hW2]; exact HBW.out.alloc HBW.out.size _
      have HE2 : Hid (∀ X, Below W2.heap.size W2 X → X.cell? ⟨wr.heap.size, 0, none⟩ = some (.int .i64 e.term)) := fun X h => (h.cell (p := ⟨wr.heap.size, 0, none⟩) (World.block_lt_of_cell? _ _ hE2.1)).trans hE2.1
      clear hE2
      go_wp2_with fail
      rw [← hW2]
      refine Calls.mono (HE.out _) ?_
      rintro en w5 ⟨rfl, hb5⟩
      have HB5 : Hid (Below w.heap.size w w5) := HB2.out.trans (hb5.mono HB2.out.size)
      have x0 := HE2.out _ hb5
      clear hb5 hW2 d0 d1 d2 HE HBW HB2 HE2
      cases Q with
      | false =>
        have hOf : O = false := HBD.out (Or.inl rfl)
        subst hOf
        go_wp2
        go_ret
        exact ⟨rfl, HB5.out⟩
      | true =>
        by_cases hu : u ≤ e.term
        · have HST2 : Hid (rises e.term (l.drop (k + 1)) = O) := HST.out rfl hu
          have hu' : ¬ e.term < u := by omega
          clear HST HBD hu
          go_wp2
          go_roundw
          case rel => exact ⟨k + 1, e.term, by omega, by go_num, rfl, HST2, HB5⟩
          case measure => simp [intOf]; omega
        · have hOf : O = false := HBD.out (Or.inr (by omega))
          subst hOf
          have hu' : e.term < u := by omega
          clear HST HBD hu
          go_wp2
          go_ret
          exact ⟨rfl, HB5.out⟩
    · have hk1 : ¬ (k : Int) < (l.length : Int) := by omega
      have hOt : O = true := Logs.rises_end (by omega) HU.out
      subst hOt
      go_wp2
      go_ret
      exact ⟨rfl, HBW.out⟩
set_option maxHeartbeats 4000000 in
set_option maxRecDepth 100000 in
theorem implLogOk_is {a : Option Addr} {g off cap : Nat} (l : LogL) (hlen : l.ents.length ≤ 1048576) (hd : ∀ e ∈ l.ents, e.data.size ≤ 1048576) (w : World) (hf : EnAt w a g off l.ents) :
    Calls Try.prog 38 #[logV l a cap] w fun en w' => en = .returned (.bool (okL l)) ∧ Below w.heap.size w w' := by
  obtain ⟨O, hO⟩ : ∃ O, O = okL l := ⟨_, rfl⟩
  rw [← hO]
  unfold logV
  obtain ⟨W, hW⟩ : ∃ W, W = w.alloc (Obj.cells #[.int .i64 l.start, .int .i64 l.sterm, .slice a l.ents.length cap] 32) := ⟨_, rfl⟩
  have hb : Below w.heap.size w W := by rw [hW]; exact (Below.refl _ _).alloc (Nat.le_refl _) _
  have HB : Hid (Below w.heap.size w W) := hb
  have hla : LogAt W w.heap.size l a cap := by rw [hW]; exact LogAt.new w l a cap 32
  have HEN : Hid (EnAt W a g off l.ents) := hf.kept hb
  obtain ⟨R1, hR1⟩ : ∃ R1, R1 = inB 0 100000 l.start := ⟨_, rfl⟩
  obtain ⟨R2, hR2⟩ : ∃ R2, R2 = inB 0 100000 l.sterm := ⟨_, rfl⟩
  obtain ⟨R3, hR3⟩ : ∃ R3, R3 = rises l.sterm l.ents := ⟨_, rfl⟩
  have HI1 : Hid (∀ W, Calls Try.prog 67 #[.int .i64 l.start] W fun en w' => en = .returned (.bool R1) ∧ w' = W) := fun W => stampOk_is _ _ (by rw [hR1]; simp [inB]) W
  have HI2 : Hid (∀ W, Calls Try.prog 68 #[.int .i64 l.sterm] W fun en w' => en = .returned (.bool R2) ∧ w' = W) := fun W => termOk_is _ _ (by rw [hR2]; simp [inB]) W
  have HI3 : Hid (Calls Try.prog 69 #[.slice a l.ents.length cap, .int .i64 l.sterm] W fun en w' => en = .returned (.bool R3) ∧ Below W.heap.size W w') := by rw [hR3]; exact entriesOk_is l.ents l.sterm hlen hd W HEN.out
  have HO : Hid (O = ((R1 && R2) && (decide (l.ents.length ≤ 120) && decide (l.start + (l.ents.length : Int) ≤ 100000)) && R3)) := by show _ = _; rw [hO, hR1, hR2, hR3]; rfl
  have HS : Hid (R1 = true → 0 ≤ l.start ∧ l.start ≤ 100000) := fun h => by rw [hR1] at h; simpa [inB] using h
  obtain ⟨c0, c1, c2⟩ := hla
  rw [hW] at c0 c1 c2
  clear hO hR1 hR2 hR3 hf hb HEN
  cases R1 with
  | false =>
    have HN : Hid (O = false) := HO.out
    clear HO HS
    go_enter Try.func38, Try.ntmps38
    go_wp2_with (go_at_call 67; (first | (with_reducible refine Calls.mono (HI1.out _) ?_) | fail); rintro en w2 ⟨rfl, hw2⟩; subst hw2)
    go_ret
    exact ⟨by rw [HN.out]; rfl, by rw [← hW]; exact HB.out⟩
  | true =>
  obtain ⟨s0, s1⟩ := HS.out rfl
  clear HS
  by_cases hn : ¬ l.ents.length ≤ 120
  · have HN : Hid (O = false) := by show _ = _; rw [HO.out]; simp [hn]
    have hn' : ¬ (l.ents.length : Int) ≤ 120 := by omega
    clear HO
    go_enter Try.func38, Try.ntmps38
    go_wp2_with (go_at_call 67; (first | (with_reducible refine Calls.mono (HI1.out _) ?_) | fail); rintro en w2 ⟨rfl, hw2⟩; subst hw2)
    go_ret
    exact ⟨by rw [HN.out]; rfl, by rw [← hW]; exact HB.out⟩
  replace hn := Decidable.not_not.1 hn
  have hn' : (l.ents.length : Int) ≤ 120 := by omega
  obtain ⟨R4, hR4⟩ : ∃ R4 : Bool, R4 = decide (l.start + (l.ents.length : Int) ≤ 100000) := ⟨_, rfl⟩
  have HI4 : Hid (∀ W, Calls Try.prog 67 #[.int .i64 (l.start + (l.ents.length : Int))] W fun en w' => en = .returned (.bool R4) ∧ w' = W) := fun W => stampOk_is _ _ (by rw [hR4]; congr 1; simp; omega) W
  rw [← hR4] at HO
  clear hR4
  cases R4 with
  | false =>
    have HN : Hid (O = false) := by show _ = _; rw [HO.out]; simp
    clear HO
    go_enter Try.func38, Try.ntmps38
    go_wp2_with (go_at_call 67; (first | (with_reducible refine Calls.mono (HI1.out _) ?_) | (with_reducible refine Calls.mono (HI4.out _) ?_) | fail); rintro en w2 ⟨rfl, hw2⟩; subst hw2)
    go_ret
    exact ⟨by rw [HN.out]; rfl, by rw [← hW]; exact HB.out⟩
  | true =>
  cases R2 with
  | false =>
    have HN : Hid (O = false) := by show _ = _; rw [HO.out]; simp
    clear HO
    go_enter Try.func38, Try.ntmps38
    go_wp2_with (first | (go_at_call 67; (first | (with_reducible refine Calls.mono (HI1.out _) ?_) | (with_reducible refine Calls.mono (HI4.out _) ?_) | fail); rintro en w2 ⟨rfl, hw2⟩; subst hw2) | (go_at_call 68; (first | (with_reducible refine Calls.mono (HI2.out _) ?_) | fail); rintro en w2 ⟨rfl, hw2⟩; subst hw2))
    go_ret
    exact ⟨by rw [HN.out]; rfl, by rw [← hW]; exact HB.out⟩
  | true =>
    have HN : Hid (O = R3) := by show _ = _; rw [HO.out]; simp [hn]
    clear HO
    go_enter Try.func38, Try.ntmps38
    go_wp2_with (first | (go_at_call 67; (first | (with_reducible refine Calls.mono (HI1.out _) ?_) | (with_reducible refine Calls.mono (HI4.out _) ?_) | fail); rintro en w2 ⟨rfl, hw2⟩; subst hw2) | (go_at_call 68; (first | (with_reducible refine Calls.mono (HI2.out _) ?_) | fail); rintro en w2 ⟨rfl, hw2⟩; subst hw2))
    rw [← hW]
    refine Calls.mono HI3.out ?_
    rintro en w5 ⟨rfl, hb5⟩
    clear c0 c1 c2 hW
    go_wp2
    go_ret
    exact ⟨by rw [HN.out]; rfl, HB.out.trans (hb5.mono HB.out.size)⟩
set_option maxHeartbeats 1000000 in
set_option maxRecDepth 100000 in
theorem implLast_is {a : Option Addr} {g off cap : Nat} (l : LogL) (hlen : l.ents.length ≤ 1048576) (w : World) (hf : EnAt w a g off l.ents) :
    Calls Try.prog 37 #[logV l a cap] w fun en w' => en = .returned (.tuple #[.int .i64 (if l.ents.length = 0 then l.start else lastI l), .int .i64 (Logs.lastT l)]) ∧ Below w.heap.size w w' := by
  unfold logV
  obtain ⟨W, hW⟩ : ∃ W, W = w.alloc (Obj.cells #[.int .i64 l.start, .int .i64 l.sterm, .slice a l.ents.length cap] 32) := ⟨_, rfl⟩
  have hb : Below w.heap.size w W := by rw [hW]; exact (Below.refl _ _).alloc (Nat.le_refl _) _
  have HB : Hid (Below w.heap.size w W) := hb
  have hla : LogAt W w.heap.size l a cap := by rw [hW]; exact LogAt.new w l a cap 32
  have hA := hf.kept hb
  obtain ⟨c0, c1, c2⟩ := hla
  obtain ⟨q, hq⟩ : ∃ q, q = w.heap.size := ⟨_, rfl⟩
  clear hf hb
  by_cases h0 : l.ents.length = 0
  · rw [if_pos h0, Logs.lastT_nil h0]
    have e0 : ((l.ents.length : Int) == 0) = true := by simp [h0]
    rw [hW] at c0 c1 c2
    clear hA h0
    go_enter Try.func37, Try.ntmps37
    go_wp2_with fail
    go_quiet (fail)
    go_wp2
    go_ret2
    exact ⟨rfl, below_drewN (by rw [← hW]; exact HB.out) _⟩
  · obtain ⟨n, hn⟩ : ∃ n, l.ents.length = n + 1 := ⟨l.ents.length - 1, by omega⟩
    have hlt : n < l.ents.length := by omega
    rw [if_neg h0, Logs.lastT_some hn hlt]
    have e0 : ((l.ents.length : Int) == 0) = false := by simp [h0]
    have ea := hA.1 (by omega)
    obtain ⟨d0, d1, d2⟩ := hA.2 n hlt
    subst ea
    obtain ⟨e, he⟩ : ∃ e, e = l.ents[n] := ⟨_, rfl⟩
    rw [← he] at d0 d1 d2 ⊢
    have n0 : (0 : Int) ≤ (n : Int) := by omega
    have n1 : (n : Int) < (l.ents.length : Int) := by omega
    have ns : IntKind.i64.wrap ((l.ents.length : Int) - 1) = (n : Int) := by
      have : (l.ents.length : Int) - 1 = (n : Int) := by omega
      rw [this, IntWalk.i64_in _ (by omega)]
    rw [← hq] at c0 c1 c2
    clear hA h0 he hn
    go_enter Try.func37, Try.ntmps37
    go_wp2_with fail
    rw [← hW, ← hq]
    clear hW hq
    go_quiet (fail)
    go_wp2
    go_ret2
    exact ⟨rfl, below_drewN HB.out _⟩
theorem term_in {l : LogL} {i : Int} (s0 : 0 ≤ l.start) (s1 : l.start ≤ 1000000000) (hlen : l.ents.length ≤ 1048576) : lastI l = l.start + (l.ents.length : Int) := by unfold lastI wrap64; omega
end Go.Proofs.Ytddmogggdckneaa
