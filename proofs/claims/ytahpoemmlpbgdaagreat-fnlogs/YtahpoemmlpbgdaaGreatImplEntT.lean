/- The program's LogOk, LogLast and LogTerm, walked. The program's EntryText, walked; the laws of EntryOk and EntryText. -/
import Derived.Test.YtahpoemmlpbgdaaGreatSpecLog
import Derived.Test.YtahpoemmlpbgdaaGreatImplEntA
namespace Go.Proofs.YtahpoemmlpbgdaaGreat
open Go.RowKit
open Ents (okB)
open Logs (okL rises Fits inB)
set_option linter.unusedVariables false
set_option linter.unusedSimpArgs false

theorem stampOk_is (x : Int) (R : Bool) (hR : R = decide (0 ≤ x ∧ x ≤ 100000)) (w : World) : Calls Tryz.prog 48 #[.int .i64 x] w fun en w' => en = .returned (.bool R) ∧ w' = w := by
  by_cases h0 : 0 ≤ x
  · by_cases h1 : x ≤ 100000
    · have HR : Hid (R = true) := by show _ = _; rw [hR]; simp [h0, h1]
      clear hR
      go_enter Tryz.func48, Tryz.ntmps48
      go_wp2
      go_ret
      exact ⟨by rw [HR.out]; simp [h1], rfl⟩
    · have HR : Hid (R = false) := by show _ = _; rw [hR]; simp [h1]
      clear hR
      go_enter Tryz.func48, Tryz.ntmps48
      go_wp2
      go_ret
      exact ⟨by rw [HR.out]; simp [h1], rfl⟩
  · have HR : Hid (R = false) := by show _ = _; rw [hR]; simp [h0]
    clear hR
    go_enter Tryz.func48, Tryz.ntmps48
    go_wp2
    go_ret
    exact ⟨by rw [HR.out]; rfl, rfl⟩

set_option maxHeartbeats 4000000 in
set_option maxRecDepth 100000 in
theorem entriesOk_is {a : Option Addr} {g off cap : Nat} (l : List EntL) (t : Int) (hlen : l.length ≤ 1048576) (hd : ∀ e ∈ l, e.data.size ≤ 1048576) (w : World) (hf : EnAt w a g off l) :
    Calls Tryz.prog 50 #[.slice a l.length cap, .int .i64 t] w fun en w' => en = .returned (.bool (rises t l)) ∧ Below w.heap.size w w' := by
  obtain ⟨O, hO⟩ : ∃ O, O = rises t l := ⟨_, rfl⟩
  have HR : Hid (rises t (l.drop 0) = O) := hO.symm
  rw [← hO]
  have HEN : Hid (∀ W', Below w.heap.size w W' → EnAt W' a g off l) := fun W' h => hf.kept h
  clear hO hf
  go_enter Tryz.func50, Tryz.ntmps50
  go_wp2
  go_loopw [1, 6, 9] (fun t _ i wr => ∃ (k : Nat) (u : Int), k ≤ l.length ∧ i = .int .i64 (k : Int) ∧ t = .int .i64 u ∧ Hid (rises u (l.drop k) = O) ∧ Hid (Below w.heap.size w wr)) (fun _ _ i _ => l.length - (intOf i).toNat)
  case atStart => exact ⟨0, _, Nat.zero_le _, rfl, rfl, HR, Below.refl _ _⟩
  case round =>
    clear HR
    obtain ⟨k, u, hk, rfl, rfl, HU, HBW⟩ := hrel
    by_cases hlt : k < l.length
    · have hA := HEN.out _ HBW.out
      have ea := hA.1 (by omega)
      obtain ⟨d0, d1, d2⟩ := hA.2 k hlt
      have HD : Hid (l[k].data.size ≤ 1048576) := hd _ (List.getElem_mem _)
      have HST : Hid (okB l[k] = true → u ≤ l[k].term → rises l[k].term (l.drop (k + 1)) = O) := fun h1 h2 => Logs.rises_step hlt HU.out h1 h2
      have HBD : Hid (okB l[k] = false ∨ ¬ u ≤ l[k].term → O = false) := fun h1 => Logs.rises_bad hlt HU.out h1
      obtain ⟨e, he⟩ : ∃ e, e = l[k] := ⟨_, rfl⟩
      rw [← he] at d0 d1 d2 HD HST HBD
      subst ea
      have hk0 : (0 : Int) ≤ (k : Int) := by omega
      have hk1 : (k : Int) < (l.length : Int) := by omega
      obtain ⟨Q, hQ⟩ : ∃ Q, Q = okB e := ⟨_, rfl⟩
      have HE : Hid (∀ W, Calls Tryz.prog 82 #[.agg #[.int .i64 e.term, .int .i64 e.kind, .string e.data]] W fun en w' => en = .returned (.bool Q) ∧ Below W.heap.size W w') := fun W => by rw [hQ]; exact implEntOk_is e HD.out W
      rw [← hQ] at HST HBD
      clear hA he hQ
      obtain ⟨W2, hW2⟩ : ∃ W2, W2 = wr.alloc (Obj.cells #[.int .i64 e.term, .int .i64 e.kind, .string e.data] 51) := ⟨_, rfl⟩
      have hE2 : EntAt W2 wr.heap.size e := by rw [hW2]; exact EntAt.new wr e
      have HB2 : Hid (Below w.heap.size w W2) := by rw [hW2]; exact HBW.out.alloc HBW.out.size _
      have HE2 : Hid (∀ X, Below W2.heap.size W2 X → X.cell? ⟨wr.heap.size, 0, none⟩ = some (.int .i64 e.term)) := fun X h => (h.cell (p := ⟨wr.heap.size, 0, none⟩) (World.block_lt_of_cell? _ _ hE2.1)).trans hE2.1
      clear hE2
      go_wp2_with fail
      rw [← hW2]
      refine Calls.mono (HE.out _) ?_
      rintro en w5 ⟨rfl, hb5⟩
      have HB5 : Hid (Below w.heap.size w w5) := HB2.out.trans (hb5.mono HB2.out.size)
      have x0 := HE2.out _ hb5
      clear hb5 hW2 d0 d1 d2 HE HBW HB2 HE2
      cases Q with
      | false =>
        have hOf : O = false := HBD.out (Or.inl rfl)
        subst hOf
        go_wp2
        go_ret
        exact ⟨rfl, HB5.out⟩
      | true =>
        by_cases hu : u ≤ e.term
        · have HST2 : Hid (rises e.term (l.drop (k + 1)) = O) := HST.out rfl hu
          have hu' : ¬ e.term < u := by omega
          clear HST HBD hu
          go_wp2
          go_roundw
          case rel => exact ⟨k + 1, e.term, by omega, by go_num, rfl, HST2, HB5⟩
          case measure => simp [intOf]; omega
        · have hOf : O = false := HBD.out (Or.inr (by omega))
          subst hOf
          have hu' : e.term < u := by omega
          clear HST HBD hu
          go_wp2
          go_ret
          exact ⟨rfl, HB5.out⟩
    · have hk1 : ¬ (k : Int) < (l.length : Int) := by omega
      have hOt : O = true := Logs.rises_end (by omega) HU.out
      subst hOt
      go_wp2
      go_ret
      exact ⟨rfl, HBW.out⟩
set_option maxHeartbeats 4000000 in
set_option maxRecDepth 100000 in
theorem implLogOk_is {a : Option Addr} {g off cap : Nat} (l : LogL) (hlen : l.ents.length ≤ 1048576) (hd : ∀ e ∈ l.ents, e.data.size ≤ 1048576) (w : World) (hf : EnAt w a g off l.ents) :
    Calls Tryz.prog 21 #[logV l a cap] w fun en w' => en = .returned (.bool (okL l)) ∧ Below w.heap.size w w' := by
  obtain ⟨O, hO⟩ : ∃ O, O = okL l := ⟨_, rfl⟩
  rw [← hO]
  unfold logV
  obtain ⟨W, hW⟩ : ∃ W, W = w.alloc (Obj.cells #[.int .i64 l.start, .int .i64 l.sterm, .slice a l.ents.length cap] 26) := ⟨_, rfl⟩
  have hb : Below w.heap.size w W := by rw [hW]; exact (Below.refl _ _).alloc (Nat.le_refl _) _
  have HB : Hid (Below w.heap.size w W) := hb
  have hla : LogAt W w.heap.size l a cap := by rw [hW]; exact LogAt.new w l a cap 26
  have HEN : Hid (EnAt W a g off l.ents) := hf.kept hb
  obtain ⟨R1, hR1⟩ : ∃ R1, R1 = inB 0 100000 l.start := ⟨_, rfl⟩
  obtain ⟨R2, hR2⟩ : ∃ R2, R2 = inB 0 100000 l.sterm := ⟨_, rfl⟩
  obtain ⟨R3, hR3⟩ : ∃ R3, R3 = rises l.sterm l.ents := ⟨_, rfl⟩
  have HI1 : Hid (∀ W, Calls Tryz.prog 48 #[.int .i64 l.start] W fun en w' => en = .returned (.bool R1) ∧ w' = W) := fun W => stampOk_is _ _ (by rw [hR1]; simp [inB]) W
  have HI2 : Hid (∀ W, Calls Tryz.prog 49 #[.int .i64 l.sterm] W fun en w' => en = .returned (.bool R2) ∧ w' = W) := fun W => termOk_is _ _ (by rw [hR2]; simp [inB]) W
  have HI3 : Hid (Calls Tryz.prog 50 #[.slice a l.ents.length cap, .int .i64 l.sterm] W fun en w' => en = .returned (.bool R3) ∧ Below W.heap.size W w') := by rw [hR3]; exact entriesOk_is l.ents l.sterm hlen hd W HEN.out
  have HO : Hid (O = ((R1 && R2) && (decide (l.ents.length ≤ 120) && decide (l.start + (l.ents.length : Int) ≤ 100000)) && R3)) := by show _ = _; rw [hO, hR1, hR2, hR3]; rfl
  have HS : Hid (R1 = true → 0 ≤ l.start ∧ l.start ≤ 100000) := fun h => by rw [hR1] at h; simpa [inB] using h
  obtain ⟨c0, c1, c2⟩ := hla
  rw [hW] at c0 c1 c2
  clear hO hR1 hR2 hR3 hf hb HEN
  cases R1 with
  | false =>
    have HN : Hid (O = false) := HO.out
    clear HO HS
    go_enter Tryz.func21, Tryz.ntmps21
    go_wp2_with (go_at_call 48; (first | (with_reducible refine Calls.mono (HI1.out _) ?_) | fail); rintro en w2 ⟨rfl, hw2⟩; subst hw2)
    go_ret
    exact ⟨by rw [HN.out]; rfl, by rw [← hW]; exact HB.out⟩
  | true =>
  obtain ⟨s0, s1⟩ := HS.out rfl
  clear HS
  by_cases hn : ¬ l.ents.length ≤ 120
  · have HN : Hid (O = false) := by show _ = _; rw [HO.out]; simp [hn]
    have hn' : ¬ (l.ents.length : Int) ≤ 120 := by omega
    clear HO
    go_enter Tryz.func21, Tryz.ntmps21
    go_wp2_with (go_at_call 48; (first | (with_reducible refine Calls.mono (HI1.out _) ?_) | fail); rintro en w2 ⟨rfl, hw2⟩; subst hw2)
    go_ret
    exact ⟨by rw [HN.out]; rfl, by rw [← hW]; exact HB.out⟩
  replace hn := Decidable.not_not.1 hn
  have hn' : (l.ents.length : Int) ≤ 120 := by omega
  obtain ⟨R4, hR4⟩ : ∃ R4 : Bool, R4 = decide (l.start + (l.ents.length : Int) ≤ 100000) := ⟨_, rfl⟩
  have HI4 : Hid (∀ W, Calls Tryz.prog 48 #[.int .i64 (l.start + (l.ents.length : Int))] W fun en w' => en = .returned (.bool R4) ∧ w' = W) := fun W => stampOk_is _ _ (by rw [hR4]; congr 1; simp; omega) W
  rw [← hR4] at HO
  clear hR4
  cases R4 with
  | false =>
    have HN : Hid (O = false) := by show _ = _; rw [HO.out]; simp
    clear HO
    go_enter Tryz.func21, Tryz.ntmps21
    go_wp2_with (go_at_call 48; (first | (with_reducible refine Calls.mono (HI1.out _) ?_) | (with_reducible refine Calls.mono (HI4.out _) ?_) | fail); rintro en w2 ⟨rfl, hw2⟩; subst hw2)
    go_ret
    exact ⟨by rw [HN.out]; rfl, by rw [← hW]; exact HB.out⟩
  | true =>
  cases R2 with
  | false =>
    have HN : Hid (O = false) := by show _ = _; rw [HO.out]; simp
    clear HO
    go_enter Tryz.func21, Tryz.ntmps21
    go_wp2_with (first | (go_at_call 48; (first | (with_reducible refine Calls.mono (HI1.out _) ?_) | (with_reducible refine Calls.mono (HI4.out _) ?_) | fail); rintro en w2 ⟨rfl, hw2⟩; subst hw2) | (go_at_call 49; (first | (with_reducible refine Calls.mono (HI2.out _) ?_) | fail); rintro en w2 ⟨rfl, hw2⟩; subst hw2))
    go_ret
    exact ⟨by rw [HN.out]; rfl, by rw [← hW]; exact HB.out⟩
  | true =>
    have HN : Hid (O = R3) := by show _ = _; rw [HO.out]; simp [hn]
    clear HO
    go_enter Tryz.func21, Tryz.ntmps21
    go_wp2_with (first | (go_at_call 48; (first | (with_reducible refine Calls.mono (HI1.out _) ?_) | (with_reducible refine Calls.mono (HI4.out _) ?_) | fail); rintro en w2 ⟨rfl, hw2⟩; subst hw2) | (go_at_call 49; (first | (with_reducible refine Calls.mono (HI2.out _) ?_) | fail); rintro en w2 ⟨rfl, hw2⟩; subst hw2))
    rw [← hW]
    refine Calls.mono HI3.out ?_
    rintro en w5 ⟨rfl, hb5⟩
    clear c0 c1 c2 hW
    go_wp2
    go_ret
    exact ⟨by rw [HN.out]; rfl, HB.out.trans (hb5.mono HB.out.size)⟩
set_option maxHeartbeats 1000000 in
set_option maxRecDepth 100000 in
theorem implLast_is {a : Option Addr} {g off cap : Nat} (l : LogL) (hlen : l.ents.length ≤ 1048576) (w : World) (hf : EnAt w a g off l.ents) :
    Calls Tryz.prog 63 #[logV l a cap] w fun en w' => en = .returned (.tuple #[.int .i64 (if l.ents.length = 0 then l.start else lastI l), .int .i64 (Logs.lastT l)]) ∧ Below w.heap.size w w' := by
  unfold logV
  obtain ⟨W, hW⟩ : ∃ W, W = w.alloc (Obj.cells #[.int .i64 l.start, .int .i64 l.sterm, .slice a l.ents.length cap] 26) := ⟨_, rfl⟩
  have hb : Below w.heap.size w W := by rw [hW]; exact (Below.refl _ _).alloc (Nat.le_refl _) _
  have HB : Hid (Below w.heap.size w W) := hb
  have hla : LogAt W w.heap.size l a cap := by rw [hW]; exact LogAt.new w l a cap 26
  have hA := hf.kept hb
  obtain ⟨c0, c1, c2⟩ := hla
  obtain ⟨q, hq⟩ : ∃ q, q = w.heap.size := ⟨_, rfl⟩
  clear hf hb
  by_cases h0 : l.ents.length = 0
  · rw [if_pos h0, Logs.lastT_nil h0]
    have e0 : ((l.ents.length : Int) == 0) = true := by simp [h0]
    rw [hW] at c0 c1 c2
    clear hA h0
    go_enter Tryz.func63, Tryz.ntmps63
    go_wp2_with fail
    go_quiet (fail)
    go_wp2
    go_ret2
    exact ⟨rfl, below_drewN (by rw [← hW]; exact HB.out) _⟩
  · obtain ⟨n, hn⟩ : ∃ n, l.ents.length = n + 1 := ⟨l.ents.length - 1, by omega⟩
    have hlt : n < l.ents.length := by omega
    rw [if_neg h0, Logs.lastT_some hn hlt]
    have e0 : ((l.ents.length : Int) == 0) = false := by simp [h0]
    have ea := hA.1 (by omega)
    obtain ⟨d0, d1, d2⟩ := hA.2 n hlt
    subst ea
    obtain ⟨e, he⟩ : ∃ e, e = l.ents[n] := ⟨_, rfl⟩
    rw [← he] at d0 d1 d2 ⊢
    have n0 : (0 : Int) ≤ (n : Int) := by omega
    have n1 : (n : Int) < (l.ents.length : Int) := by omega
    have ns : IntKind.i64.wrap ((l.ents.length : Int) - 1) = (n : Int) := by
      have : (l.ents.length : Int) - 1 = (n : Int) := by omega
      rw [this, IntWalk.i64_in _ (by omega)]
    rw [← hq] at c0 c1 c2
    clear hA h0 he hn
    go_enter Tryz.func63, Tryz.ntmps63
    go_wp2_with fail
    rw [← hW, ← hq]
    clear hW hq
    go_quiet (fail)
    go_wp2
    go_ret2
    exact ⟨rfl, below_drewN HB.out _⟩
end Go.Proofs.YtahpoemmlpbgdaaGreat
namespace Go.Proofs.YtahpoemmlpbgdaaGreat
open Go.RowKit
open Ents (okB kindB text textS right confOf confS)
set_option linter.unusedVariables false
set_option linter.unusedSimpArgs false

theorem varOf_q2 (x : Int) (h0 : 0 ≤ x) (h1 : x ≤ 100000) (T : ByteArray) (hT : T = varS x) (w : World) : Calls Tryz.prog 52 #[.int .i64 x] w fun en w' => en = .returned (.string T) ∧ Below w.heap.size w w' := by
  rw [hT]; exact varOf_q x h0 (by omega) w
theorem textS_is2 (n : Nat) (e : EntL) : (⟨#[69]⟩ : ByteArray) ++ varS (n : Int) ++ varS e.term ++ (⟨#[UInt8.ofNat e.kind.toNat]⟩ ++ e.data) = textS n e := by
  rw [← textS_is n e ⟨#[]⟩ _ rfl]
  apply Batches.by_inj
  simp [Batches.by_]
set_option maxHeartbeats 4000000 in
set_option maxRecDepth 100000 in
theorem implEntText_yes (n : Nat) (e : EntL) (h : right (n : Int) e) (w : World) : Calls Tryz.prog 54 #[.int .i64 (n : Int), entV e] w fun en w' => en = .returned (.tuple #[.string (textS n e), .bool true]) ∧ Below w.heap.size w w' := by
  obtain ⟨h1, h2, h3⟩ := h
  obtain ⟨⟨t0, t1⟩, hk⟩ := Ents.okB_iff.1 h1
  obtain ⟨⟨k0, k1⟩, hd⟩ := Ents.kind_in hk
  have hq := implEntOk_is e (by omega)
  rw [h1] at hq
  unfold entV at hq ⊢
  have HQ : Hid (∀ W, Calls Tryz.prog 82 #[.agg #[.int .i64 e.term, .int .i64 e.kind, .string e.data]] W fun en w' => en = .returned (.bool true) ∧ Below W.heap.size W w') := hq
  have HPL : Hid (∀ W, Calls Tryz.prog 86 #[.int .i64 (n : Int)] W fun en w' => en = .returned (.bool true) ∧ w' = W) := fun W => placeOk_is _ true (by simp [h2, h3]) W
  obtain ⟨W, hW⟩ : ∃ W, W = w.alloc (Obj.cells #[.int .i64 e.term, .int .i64 e.kind, .string e.data] 51) := ⟨_, rfl⟩
  have HE : Hid (EntAt W w.heap.size e) := by rw [hW]; exact EntAt.new w e
  have HB : Hid (Below w.heap.size w W) := by show Below _ _ _; rw [hW]; exact (Below.refl _ _).alloc (Nat.le_refl _) _
  obtain ⟨T1, hT1⟩ : ∃ T, T = varS (n : Int) := ⟨_, rfl⟩
  obtain ⟨T2, hT2⟩ : ∃ T, T = varS e.term := ⟨_, rfl⟩
  obtain ⟨T3, hT3⟩ : ∃ T : ByteArray, T = ⟨#[UInt8.ofNat e.kind.toNat]⟩ ++ e.data := ⟨_, rfl⟩
  have HT : Hid ((⟨#[69]⟩ : ByteArray) ++ T1 ++ T2 ++ T3 = textS n e) := by show _ = _; rw [hT1, hT2, hT3]; exact textS_is2 n e
  have sz1 := varS_size (n : Int) 100000 (by omega)
  have sz2 := varS_size e.term 100000 (by omega)
  have sz3 : T3.size ≤ 121 := by
    have q : (⟨#[UInt8.ofNat e.kind.toNat]⟩ : ByteArray).size = 1 := rfl
    rw [hT3, ByteArray.size_append]; omega
  have HV1 : Hid (∀ (W : World), Calls Tryz.prog 52 #[.int .i64 (n : Int)] W fun en w' => en = .returned (.string T1) ∧ Below W.heap.size W w') := fun W => varOf_q2 _ (by omega) h3 T1 hT1 W
  have HV2 : Hid (∀ (W : World), Calls Tryz.prog 52 #[.int .i64 e.term] W fun en w' => en = .returned (.string T2) ∧ Below W.heap.size W w') := fun W => varOf_q2 _ t0 t1 T2 hT2 W
  have HCO : Hid (∀ W, Calls Tryz.prog 88 #[.int .i64 e.kind, .string e.data] W fun en w' => ∃ v, en = .returned v ∧ ContV w' W.heap.size e v ∧ Below W.heap.size W w') := fun W => (contentOf_is e (by omega) W).mono fun en w' ⟨v, q1, q2, q3⟩ => by
    rcases q2 with ⟨q, _⟩ | ⟨_, q⟩
    · rw [hk] at q; cases q
    · exact ⟨v, q1, q, q3⟩
  have HCT : Hid (∀ (W : World) (B : Nat) (v : Value), ContV W B e v → Calls Tryz.prog 87 #[v] W fun en w' => en = .returned (.string T3) ∧ Below W.heap.size W w') := fun W B v q => by rw [hT3]; exact contentText_is hd W q
  rw [← hT1] at sz1
  rw [← hT2] at sz2
  obtain ⟨g, hg⟩ : ∃ g, g = w.heap.size := ⟨_, rfl⟩
  rw [← hg] at HE
  have HC : Hid (∀ W', Below W.heap.size W W' → EntAt W' g e) := fun W' h => HE.out.kept h
  clear HE hq hk h1 hT1 hT2 hT3
  have z1 : ¬ 9223372036854775807 < 1 + T1.size := by omega
  have z2 : ¬ 9223372036854775807 < 1 + T1.size + T2.size := by omega
  have z3 : ¬ 9223372036854775807 < 1 + T1.size + T2.size + T3.size := by omega
  go_enter Tryz.func54, Tryz.ntmps54
  go_wp2_with fail
  rw [← hW, ← hg]
  clear hW hg
  refine Calls.mono (HQ.out _) ?_
  rintro en w1 ⟨rfl, hb1⟩
  have HB1 : Hid (Below w.heap.size w w1) := HB.out.trans (hb1.mono HB.out.size)
  have HE1 : Hid (EntAt w1 g e) := HC.out _ hb1
  clear hb1 HB HC
  go_wp2_with (go_at_call 86; refine Calls.mono (HPL.out _) ?_; rintro en w2 ⟨rfl, hw2⟩; have hw3 := hw2.symm; clear hw2; subst hw3)
  have HK : Hid (∀ W W' : World, Below w1.heap.size w1 W → Below W.heap.size W W' → Below w1.heap.size w1 W') := fun W W' a b => a.trans (b.mono a.size)
  have HEC : Hid (∀ W, Below w1.heap.size w1 W → W.cell? ⟨g, 0, none⟩ = some (.int .i64 e.term) ∧ W.cell? ⟨g, 1, none⟩ = some (.int .i64 e.kind) ∧ W.cell? ⟨g, 2, none⟩ = some (.string e.data)) := fun W a => HE1.out.kept a
  have HEND : Hid (∀ W, Below w1.heap.size w1 W → Below w.heap.size w W) := fun W a => HB1.out.trans (a.mono HB1.out.size)
  have BD : Below w1.heap.size w1 w1.drew := (Below.refl _ _).drew
  go_region_held (fun w' => (w'.cell? ⟨g, 0, none⟩ = some (.int .i64 e.term) ∧ w'.cell? ⟨g, 1, none⟩ = some (.int .i64 e.kind) ∧ w'.cell? ⟨g, 2, none⟩ = some (.string e.data)) ∧ Below w1.heap.size w1 w')
    (first | assumption | exact ⟨HEC.out _ (by assumption), by assumption⟩ | fail)
    (first | (go_at_call 52; (first | (with_reducible refine Calls.mono (HV1.out _) ?_) | (with_reducible refine Calls.mono (HV2.out _) ?_) | fail); rintro en w5 ⟨rfl, hb5⟩; have hq5 := HK.out _ _ (And.right (by assumption)) hb5; clear hb5) | (go_at_call 88; refine Calls.mono (HCO.out _) ?_; rintro en w5 ⟨v5, rfl, hv5, hb5⟩; have hq5 := HK.out _ _ (And.right (by assumption)) hb5; have HV5 : Hid (ContV w5 _ e v5) := hv5; clear hb5 hv5) | (go_at_call 87; refine Calls.mono (HCT.out _ _ _ (Hid.out (by assumption))) ?_; rintro en w5 ⟨rfl, hb5⟩; have hq5 := HK.out _ _ (And.right (by assumption)) hb5; clear hb5) | fail)
  all_goals (
    go_wp2
    go_ret2
    exact ⟨by rw [← HT.out]; rfl, HEND.out _ (And.right (by assumption))⟩)
end Go.Proofs.YtahpoemmlpbgdaaGreat
