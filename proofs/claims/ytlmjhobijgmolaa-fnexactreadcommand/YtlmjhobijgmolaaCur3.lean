/- The specification's cursor: a short text, taken or not. -/
import Derived.Test.YtlmjhobijgmolaaCur2
import Derived.Deep.Cut
import Derived.Deep.CutBlock
namespace Go.Proofs.Ytlmjhobijgmolaa
open Go.RowKit
set_option linter.unusedVariables false
set_option linter.unusedSimpArgs false

theorem rdShort_parts {t : ByteArray} {a b : Nat} {x : ByteArray} (ha : a ≤ t.size) (h : Batches.rdShort t a = some (x, b)) : ∃ n k, rdZ t (a : Int) = some (n, k) ∧ n ≤ 20000 ∧ k + n ≤ t.size ∧ x = t.extract k (k + n) ∧ b = k + n := by
  unfold Batches.rdShort at h
  split at h
  · cases h
  · rename_i n k hr
    split at h
    · rename_i hn
      simp only [Option.some.injEq, Prod.mk.injEq] at h
      exact ⟨n, k, (rdZ_at ha).trans hr, hn.1, hn.2, h.1.symm, h.2.symm⟩
    · cases h
theorem rdShort_not {t : ByteArray} {a : Nat} (ha : a ≤ t.size) (h : Batches.rdShort t a = none) : rdZ t (a : Int) = none ∨ ∃ n k, rdZ t (a : Int) = some (n, k) ∧ (20000 < n ∨ t.size < k + n) ∧ k ≤ t.size ∧ n ≤ 1000000000 := by
  unfold Batches.rdShort at h
  split at h
  · rename_i hr; exact Or.inl ((rdZ_at ha).trans hr)
  · rename_i n k hr
    split at h
    · cases h
    · rename_i hn
      obtain ⟨_, h2, _, h4⟩ := Batches.rd_cut hr
      exact Or.inr ⟨n, k, (rdZ_at ha).trans hr, by omega, h2, h4⟩
set_option maxHeartbeats 1000000 in
theorem short5_ok {cb : Nat} {t : ByteArray} {a b : Nat} {x : ByteArray} (hs : t.size ≤ 1048576) (w : World) (hc : C5 w cb t a false) (h : Batches.rdShort t a = some (x, b)) :
    Calls Try.prog 28 #[.pointer (some ⟨cb, 0, none⟩)] w fun e w' => e = .returned (.string x) ∧ C5 w' cb t b false ∧ w.grownBy w' (some cb) := by
  obtain ⟨n, k, h1, h2, h3, rfl, rfl⟩ := rdShort_parts hc.2 h
  have HC : Hid (C5 w cb t a false) := hc
  have H1 : Hid (Words.rd t.data.toList a = some (n, k)) := by show _ = _; rw [← rdZ_at hc.2]; exact h1
  clear hc h h1
  go_enter Try.func28, Try.ntmps28
  go_wp2_with (first | (go_at_call 27; refine (l05Var_ok hs _ HC.out H1.out).mono ?_; rintro e w1 ⟨rfl, hc1, hg1⟩) | (go_at_call 26; refine (take_ok hs _ hc1 h3).mono ?_; rintro e w2 ⟨rfl, hc2, hg2⟩))
  go_ret
  exact ⟨rfl, hc2, hg1.trans hg2⟩
theorem take_any {cb : Nat} {t : ByteArray} {a n : Nat} (hs : t.size ≤ 1048576) (w : World) (bad : Bool) (hc : C5 w cb t a bad) (hn : n ≤ 1000000000) :
    Calls Try.prog 26 #[.pointer (some ⟨cb, 0, none⟩), .int .i64 (n : Int)] w fun e w' => ∃ x : ByteArray, e = .returned (.string x) ∧ x.size ≤ t.size ∧ ∃ a' bad', C5 w' cb t a' bad' ∧ a ≤ a' ∧ (bad = true → bad' = true) ∧ w.grownBy w' (some cb) := by
  cases bad with
  | true => exact (take_bad hs w true hc (Or.inl rfl) (by omega)).mono fun e w' ⟨h1, h2, h3⟩ => ⟨_, h1, Nat.zero_le _, a, true, h2, Nat.le_refl _, fun _ => rfl, h3⟩
  | false =>
    by_cases h : a + n ≤ t.size
    · exact (take_ok hs w hc h).mono fun e w' ⟨h1, h2, h3⟩ => ⟨_, h1, by rw [ByteArray.size_extract]; omega, a + n, false, h2, by omega, fun h => h, h3⟩
    · have ha := hc.2
      exact (take_bad hs w false hc (Or.inr (by omega)) (by omega)).mono fun e w' ⟨h1, h2, h3⟩ => ⟨_, h1, Nat.zero_le _, a, true, h2, Nat.le_refl _, fun _ => rfl, h3⟩
set_option maxHeartbeats 1000000 in
theorem short5_any {cb : Nat} {t : ByteArray} {a : Nat} (hs : t.size ≤ 1048576) (w : World) (bad : Bool) (hc : C5 w cb t a bad) :
    Calls Try.prog 28 #[.pointer (some ⟨cb, 0, none⟩)] w fun e w' => ∃ x : ByteArray, e = .returned (.string x) ∧ x.size ≤ t.size ∧ Some5 w w' cb t a := by
  have HC : Hid (C5 w cb t a bad) := hc
  clear hc
  go_enter Try.func28, Try.ntmps28
  go_wp2_with fail
  refine (l05Var_any hs _ bad HC.out).mono ?_
  rintro e w1 ⟨n, rfl, hn, a1, bad1, hc1, ha1, hb1, hg1⟩
  have HC1 : Hid (C5 w1 cb t a1 bad1) := hc1
  have HG1 : Hid (w.grownBy w1 (some cb)) := hg1
  have HB1 : Hid (bad1 = true ∨ a < a1) := hb1
  clear hc1 hg1 hb1
  go_wp2_with fail
  refine (take_any hs _ bad1 HC1.out hn).mono ?_
  rintro e w2 ⟨x, rfl, hx, a2, bad2, hc2, ha2, hb2, hg2⟩
  have HC2 : Hid (C5 w2 cb t a2 bad2) := hc2
  have HB2 : Hid (bad1 = true → bad2 = true) := hb2
  have HG2 : Hid (w.grownBy w2 (some cb)) := HG1.out.trans hg2
  clear hc2 hg2 hb2
  go_wp2
  go_ret
  refine ⟨x, rfl, hx, a2, bad2, HC2.out, by omega, ?_, HG2.out⟩
  rcases HB1.out with h | h
  · exact Or.inl (HB2.out h)
  · exact Or.inr (by omega)
theorem l05Var_both {cb : Nat} {t : ByteArray} {a : Nat} (hs : t.size ≤ 1048576) (w : World) (bad : Bool) (hc : C5 w cb t a bad) :
    Calls Try.prog 27 #[.pointer (some ⟨cb, 0, none⟩)] w fun e w' => ∃ (n a' : Nat) (bad' : Bool), e = .returned (.int .i64 (n : Int)) ∧ n ≤ 1000000000 ∧ C5 w' cb t a' bad' ∧ w.grownBy w' (some cb) ∧ (bad = false → ∀ m b, Words.rd t.data.toList a = some (m, b) → n = m ∧ a' = b ∧ bad' = false) := by
  have any : (bad = true ∨ Words.rd t.data.toList a = none) → Calls Try.prog 27 #[.pointer (some ⟨cb, 0, none⟩)] w fun e w' => ∃ (n a' : Nat) (bad' : Bool), e = .returned (.int .i64 (n : Int)) ∧ n ≤ 1000000000 ∧ C5 w' cb t a' bad' ∧ w.grownBy w' (some cb) ∧ (bad = false → ∀ m b, Words.rd t.data.toList a = some (m, b) → n = m ∧ a' = b ∧ bad' = false) := fun hh =>
    (l05Var_any hs w bad hc).mono fun e w' ⟨n, h1, h2, a', bad', h3, _, _, h4⟩ => ⟨n, a', bad', h1, h2, h3, h4, fun hb m b hr => by
      rcases hh with h | h
      · rw [h] at hb; cases hb
      · rw [h] at hr; cases hr⟩
  cases bad with
  | true => exact any (Or.inl rfl)
  | false =>
    cases h : Words.rd t.data.toList a with
    | none => rw [h] at any; exact any (Or.inr rfl)
    | some p =>
      obtain ⟨n, b⟩ := p
      exact (l05Var_ok hs w hc h).mono fun e w' ⟨h1, h2, h3⟩ => ⟨n, b, false, h1, (Batches.rd_cut h).2.2.2, h2, h3, fun _ m b' hr => by
        simp only [Option.some.injEq, Prod.mk.injEq] at hr
        exact ⟨hr.1, hr.2, rfl⟩⟩
theorem short5_both {cb : Nat} {t : ByteArray} {a : Nat} (hs : t.size ≤ 1048576) (w : World) (bad : Bool) (hc : C5 w cb t a bad) :
    Calls Try.prog 28 #[.pointer (some ⟨cb, 0, none⟩)] w fun e w' => ∃ (x : ByteArray) (a' : Nat) (bad' : Bool), e = .returned (.string x) ∧ x.size ≤ t.size ∧ C5 w' cb t a' bad' ∧ w.grownBy w' (some cb) ∧ (bad = false → ∀ y b, Batches.rdShort t a = some (y, b) → x = y ∧ a' = b ∧ bad' = false) := by
  have any : (bad = true ∨ Batches.rdShort t a = none) → Calls Try.prog 28 #[.pointer (some ⟨cb, 0, none⟩)] w fun e w' => ∃ (x : ByteArray) (a' : Nat) (bad' : Bool), e = .returned (.string x) ∧ x.size ≤ t.size ∧ C5 w' cb t a' bad' ∧ w.grownBy w' (some cb) ∧ (bad = false → ∀ y b, Batches.rdShort t a = some (y, b) → x = y ∧ a' = b ∧ bad' = false) := fun hh =>
    (short5_any hs w bad hc).mono fun e w' ⟨n, h1, h2, a', bad', h3, _, _, h4⟩ => ⟨n, a', bad', h1, h2, h3, h4, fun hb m b hr => by
      rcases hh with h | h
      · rw [h] at hb; cases hb
      · rw [h] at hr; cases hr⟩
  cases bad with
  | true => exact any (Or.inl rfl)
  | false =>
    cases h : Batches.rdShort t a with
    | none => rw [h] at any; exact any (Or.inr rfl)
    | some p =>
      obtain ⟨n, b⟩ := p
      have hc1 := Batches.rdShort_cut h
      exact (short5_ok hs w hc h).mono fun e w' ⟨h1, h2, h3⟩ => ⟨n, b, false, h1, by
        have := congrArg List.length hc1.2.2.1
        simp only [Batches.cut, Batches.short, List.length_append, List.length_take, List.length_drop, Words.size_list] at this
        omega, h2, h3, fun _ m b' hr => by
        simp only [Option.some.injEq, Prod.mk.injEq] at hr
        exact ⟨hr.1, hr.2, rfl⟩⟩
end Go.Proofs.Ytlmjhobijgmolaa
