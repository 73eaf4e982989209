/- The program's EntryText, walked; the laws of EntryOk and EntryText. -/
import Derived.Test.YtimacmijinblmaaImplEnt2
namespace Go.Proofs.Ytimacmijinblmaa
open Go.RowKit
open Ents (okB kindB text textS right confOf confS)
set_option linter.unusedVariables false
set_option linter.unusedSimpArgs false

theorem varOf_q2 (x : Int) (h0 : 0 ≤ x) (h1 : x ≤ 100000) (T : ByteArray) (hT : T = varS x) (w : World) : Calls Try.prog 50 #[.int .i64 x] w fun en w' => en = .returned (.string T) ∧ Below w.heap.size w w' := by
  rw [hT]; exact varOf_q x h0 (by omega) w
theorem textS_is2 (n : Nat) (e : EntL) : (⟨#[69]⟩ : ByteArray) ++ varS (n : Int) ++ varS e.term ++ (⟨#[UInt8.ofNat e.kind.toNat]⟩ ++ e.data) = textS n e := by
  rw [← textS_is n e ⟨#[]⟩ _ rfl]
  apply Batches.by_inj
  simp [Batches.by_]
set_option maxHeartbeats 4000000 in
set_option maxRecDepth 100000 in
theorem implEntText_yes (n : Nat) (e : EntL) (h : right (n : Int) e) (w : World) : Calls Try.prog 82 #[.int .i64 (n : Int), entV e] w fun en w' => en = .returned (.tuple #[.string (textS n e), .bool true]) ∧ Below w.heap.size w w' := by
  obtain ⟨h1, h2, h3⟩ := h
  obtain ⟨⟨t0, t1⟩, hk⟩ := Ents.okB_iff.1 h1
  obtain ⟨⟨k0, k1⟩, hd⟩ := Ents.kind_in hk
  have hq := implEntOk_is e (by omega)
  rw [h1] at hq
  unfold entV at hq ⊢
  have HQ : Hid (∀ W, Calls Try.prog 77 #[.agg #[.int .i64 e.term, .int .i64 e.kind, .string e.data]] W fun en w' => en = .returned (.bool true) ∧ Below W.heap.size W w') := hq
  have HPL : Hid (∀ W, Calls Try.prog 90 #[.int .i64 (n : Int)] W fun en w' => en = .returned (.bool true) ∧ w' = W) := fun W => placeOk_is _ true (by simp [h2, h3]) W
  obtain ⟨W, hW⟩ : ∃ W, W = w.alloc (Obj.cells #[.int .i64 e.term, .int .i64 e.kind, .string e.data] 41) := ⟨_, rfl⟩
  have HE : Hid (EntAt W w.heap.size e) := by rw [hW]; exact EntAt.new w e
  have HB : Hid (Below w.heap.size w W) := by show Below _ _ _; rw [hW]; exact (Below.refl _ _).alloc (Nat.le_refl _) _
  obtain ⟨T1, hT1⟩ : ∃ T, T = varS (n : Int) := ⟨_, rfl⟩
  obtain ⟨T2, hT2⟩ : ∃ T, T = varS e.term := ⟨_, rfl⟩
  obtain ⟨T3, hT3⟩ : ∃ T : ByteArray, T = ⟨#[UInt8.ofNat e.kind.toNat]⟩ ++ e.data := ⟨_, rfl⟩
  have HT : Hid ((⟨#[69]⟩ : ByteArray) ++ T1 ++ T2 ++ T3 = textS n e) := by show _ = _; rw [hT1, hT2, hT3]; exact textS_is2 n e
  have sz1 := varS_size (n : Int) 100000 (by omega)
  have sz2 := varS_size e.term 100000 (by omega)
  have sz3 : T3.size ≤ 121 := by
    have q : (⟨#[UInt8.ofNat e.kind.toNat]⟩ : ByteArray).size = 1 := rfl
    rw [hT3, ByteArray.size_append]; omega
  have HV1 : Hid (∀ (W : World), Calls Try.prog 50 #[.int .i64 (n : Int)] W fun en w' => en = .returned (.string T1) ∧ Below W.heap.size W w') := fun W => varOf_q2 _ (by omega) h3 T1 hT1 W
  have HV2 : Hid (∀ (W : World), Calls Try.prog 50 #[.int .i64 e.term] W fun en w' => en = .returned (.string T2) ∧ Below W.heap.size W w') := fun W => varOf_q2 _ t0 t1 T2 hT2 W
  have HCO : Hid (∀ W, Calls Try.prog 89 #[.int .i64 e.kind, .string e.data] W fun en w' => ∃ v, en = .returned v ∧ ContV w' W.heap.size e v ∧ Below W.heap.size W w') := fun W => (contentOf_is e (by omega) W).mono fun en w' ⟨v, q1, q2, q3⟩ => by
    rcases q2 with ⟨q, _⟩ | ⟨_, q⟩
    · rw [hk] at q; cases q
    · exact ⟨v, q1, q, q3⟩
  have HCT : Hid (∀ (W : World) (B : Nat) (v : Value), ContV W B e v → Calls Try.prog 91 #[v] W fun en w' => en = .returned (.string T3) ∧ Below W.heap.size W w') := fun W B v q => by rw [hT3]; exact contentText_is hd W q
  rw [← hT1] at sz1
  rw [← hT2] at sz2
  obtain ⟨g, hg⟩ : ∃ g, g = w.heap.size := ⟨_, rfl⟩
  rw [← hg] at HE
  have HC : Hid (∀ W', Below W.heap.size W W' → EntAt W' g e) := fun W' h => HE.out.kept h
  clear HE hq hk h1 hT1 hT2 hT3
  have z1 : ¬ 9223372036854775807 < 1 + T1.size := by omega
  have z2 : ¬ 9223372036854775807 < 1 + T1.size + T2.size := by omega
  have z3 : ¬ 9223372036854775807 < 1 + T1.size + T2.size + T3.size := by omega
  go_enter Try.func82, Try.ntmps82
  go_wp2_with fail
  rw [← hW, ← hg]
  clear hW hg
  refine Calls.mono (HQ.out _) ?_
  rintro en w1 ⟨rfl, hb1⟩
  have HB1 : Hid (Below w.heap.size w w1) := HB.out.trans (hb1.mono HB.out.size)
  have HE1 : Hid (EntAt w1 g e) := HC.out _ hb1
  clear hb1 HB HC
  go_wp2_with (go_at_call 90; refine Calls.mono (HPL.out _) ?_; rintro en w2 ⟨rfl, hw2⟩; have hw3 := hw2.symm; clear hw2; subst hw3)
  have HK : Hid (∀ W W' : World, Below w1.heap.size w1 W → Below W.heap.size W W' → Below w1.heap.size w1 W') := fun W W' a b => a.trans (b.mono a.size)
  have HEC : Hid (∀ W, Below w1.heap.size w1 W → W.cell? ⟨g, 0, none⟩ = some (.int .i64 e.term) ∧ W.cell? ⟨g, 1, none⟩ = some (.int .i64 e.kind) ∧ W.cell? ⟨g, 2, none⟩ = some (.string e.data)) := fun W a => HE1.out.kept a
  have HEND : Hid (∀ W, Below w1.heap.size w1 W → Below w.heap.size w W) := fun W a => HB1.out.trans (a.mono HB1.out.size)
  have BD : Below w1.heap.size w1 w1.drew := (Below.refl _ _).drew
  go_region_held (fun w' => (w'.cell? ⟨g, 0, none⟩ = some (.int .i64 e.term) ∧ w'.cell? ⟨g, 1, none⟩ = some (.int .i64 e.kind) ∧ w'.cell? ⟨g, 2, none⟩ = some (.string e.data)) ∧ Below w1.heap.size w1 w')
    (first | assumption | exact ⟨HEC.out _ (by assumption), by assumption⟩ | fail)
    (first | (go_at_call 50; (first | (with_reducible refine Calls.mono (HV1.out _) ?_) | (with_reducible refine Calls.mono (HV2.out _) ?_) | fail); rintro en w5 ⟨rfl, hb5⟩; have hq5 := HK.out _ _ (And.right (by assumption)) hb5; clear hb5) | (go_at_call 89; refine Calls.mono (HCO.out _) ?_; rintro en w5 ⟨v5, rfl, hv5, hb5⟩; have hq5 := HK.out _ _ (And.right (by assumption)) hb5; have HV5 : Hid (ContV w5 _ e v5) := hv5; clear hb5 hv5) | (go_at_call 91; refine Calls.mono (HCT.out _ _ _ (Hid.out (by assumption))) ?_; rintro en w5 ⟨rfl, hb5⟩; have hq5 := HK.out _ _ (And.right (by assumption)) hb5; clear hb5) | fail)
  all_goals (
    go_wp2
    go_ret2
    exact ⟨by rw [← HT.out]; rfl, HEND.out _ (And.right (by assumption))⟩)
set_option maxHeartbeats 400000 in
theorem implEntText_no (i : Int) (e : EntL) (hs : e.data.size ≤ 1048576) (h : ¬ (okB e = true ∧ 1 ≤ i ∧ i ≤ 100000)) (w : World) : Calls Try.prog 82 #[.int .i64 i, entV e] w fun en w' => en = .returned (.tuple #[.string ⟨#[]⟩, .bool false]) ∧ Below w.heap.size w w' := by
  obtain ⟨R, hR⟩ : ∃ R, R = okB e := ⟨_, rfl⟩
  have hq := implEntOk_is e hs
  rw [← hR] at hq h
  unfold entV at hq ⊢
  have HQ : Hid (∀ W, Calls Try.prog 77 #[.agg #[.int .i64 e.term, .int .i64 e.kind, .string e.data]] W fun en w' => en = .returned (.bool R) ∧ Below W.heap.size W w') := hq
  obtain ⟨W, hW⟩ : ∃ W, W = w.alloc (Obj.cells #[.int .i64 e.term, .int .i64 e.kind, .string e.data] 41) := ⟨_, rfl⟩
  have HB : Hid (Below w.heap.size w W) := by show Below _ _ _; rw [hW]; exact (Below.refl _ _).alloc (Nat.le_refl _) _
  clear hq hR
  cases R with
  | false =>
    go_enter Try.func82, Try.ntmps82
    go_wp2_with fail
    rw [← hW]
    clear hW
    refine Calls.mono (HQ.out _) ?_
    rintro en w1 ⟨rfl, hb1⟩
    have HB1 : Hid (Below w.heap.size w w1) := HB.out.trans (hb1.mono HB.out.size)
    clear hb1
    go_wp2
    go_ret2
    exact ⟨rfl, HB1.out⟩
  | true =>
    have hi : ¬ (1 ≤ i ∧ i ≤ 100000) := fun x => h ⟨rfl, x⟩
    have HPL : Hid (∀ W, Calls Try.prog 90 #[.int .i64 i] W fun en w' => en = .returned (.bool false) ∧ w' = W) := fun W => placeOk_is _ false (by simp [hi]) W
    clear h hi
    go_enter Try.func82, Try.ntmps82
    go_wp2_with fail
    rw [← hW]
    clear hW
    refine Calls.mono (HQ.out _) ?_
    rintro en w1 ⟨rfl, hb1⟩
    have HB1 : Hid (Below w.heap.size w w1) := HB.out.trans (hb1.mono HB.out.size)
    clear hb1
    go_wp2_with (go_at_call 90; refine Calls.mono (HPL.out _) ?_; rintro en w2 ⟨rfl, hw2⟩; have hw3 := hw2.symm; clear hw2; subst hw3)
    go_ret2
    exact ⟨rfl, HB1.out⟩
theorem implEntText_is (i : Int) (e : EntL) (hs : e.data.size ≤ 1048576) (w : World) : Calls Try.prog 82 #[.int .i64 i, entV e] w fun en w' => en = .returned (entTuple i e) ∧ Below w.heap.size w w' := by
  unfold entTuple
  split
  · rename_i h
    obtain ⟨n, rfl⟩ := Int.eq_ofNat_of_zero_le (show 0 ≤ i by omega)
    exact implEntText_yes n e ⟨h.1, h.2⟩ w
  · rename_i h
    exact implEntText_no i e hs h w
end Go.Proofs.Ytimacmijinblmaa
