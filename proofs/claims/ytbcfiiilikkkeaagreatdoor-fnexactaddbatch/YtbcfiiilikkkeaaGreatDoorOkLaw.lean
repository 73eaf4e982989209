/- The calls of the program's stampOk, changeOk, BatchOk, walked. The calls of the program's readWhole and ReadBatch, walked: the deferred closure that recovers, the closure that reads. The call of the program's readWhole, walked. The call of the program's ReadBatch, walked. The call of the program's ShortText, walked. The call of the program's BatchText, walked. The exact law of BatchOk, walked. -/
import Derived.Test.YtbcfiiilikkkeaaGreatDoorSpecOk
import Derived.Defers
import Derived.Recover
import Derived.Test.YtbcfiiilikkkeaaGreatDoorVar
import Derived.Deep.RegionHeld3
namespace Go.Proofs.YtbcfiiilikkkeaaGreatDoor
open Go.RowKit

set_option maxHeartbeats 400000 in
theorem stampOk_is (st : Int) (R : Bool) (hR : R = true ↔ 0 ≤ st ∧ st ≤ 100000) (w : World) :
    Calls Tryz.prog 189 #[.int .i64 st] w fun e w' => e = .returned (.bool R) ∧ w' = w := by
  by_cases h1 : 0 ≤ st
  · by_cases h2 : st ≤ 100000
    · obtain rfl : R = true := hR.2 ⟨h1, h2⟩
      clear hR
      go_enter Tryz.func189, Tryz.ntmps189
      go_wp2
      go_ret
      exact ⟨rfl, rfl⟩
    · obtain rfl : R = false := ans_no hR (fun h => h2 h.2)
      clear hR
      go_enter Tryz.func189, Tryz.ntmps189
      go_wp2
      go_ret
      exact ⟨rfl, rfl⟩
  · obtain rfl : R = false := ans_no hR (fun h => h1 h.1)
    clear hR
    go_enter Tryz.func189, Tryz.ntmps189
    go_wp2
    go_ret
    exact ⟨rfl, rfl⟩
set_option maxHeartbeats 400000 in
theorem keyOk_is (k : ByteArray) (hk : k.size ≤ 9223372036854775807) (R : Bool) (hR : R = true ↔ 1 ≤ k.size ∧ k.size ≤ 10) (w : World) :
    Calls Tryz.prog 199 #[.string k] w fun e w' => e = .returned (.bool R) ∧ w' = w := by
  by_cases h1 : 1 ≤ k.size
  · have a1 : (1 : Int) ≤ (k.size : Int) := by omega
    by_cases h2 : k.size ≤ 10
    · have a2 : (k.size : Int) ≤ 10 := by omega
      obtain rfl : R = true := hR.2 ⟨h1, h2⟩
      clear hR
      go_enter Tryz.func199, Tryz.ntmps199
      go_wp2
      go_ret
      exact ⟨rfl, rfl⟩
    · have a2 : ¬ (k.size : Int) ≤ 10 := by omega
      obtain rfl : R = false := ans_no hR (fun h => h2 h.2)
      clear hR
      go_enter Tryz.func199, Tryz.ntmps199
      go_wp2
      go_ret
      exact ⟨rfl, rfl⟩
  · have a1 : ¬ (1 : Int) ≤ (k.size : Int) := by omega
    obtain rfl : R = false := ans_no hR (fun h => h1 h.1)
    clear hR
    go_enter Tryz.func199, Tryz.ntmps199
    go_wp2
    go_ret
    exact ⟨rfl, rfl⟩
set_option maxHeartbeats 400000 in
theorem valueOk_is (v : ByteArray) (hk : v.size ≤ 9223372036854775807) (R : Bool) (hR : R = true ↔ v.size ≤ 40) (w : World) :
    Calls Tryz.prog 237 #[.string v] w fun e w' => e = .returned (.bool R) ∧ w' = w := by
  by_cases h1 : v.size ≤ 40
  · have a1 : (v.size : Int) ≤ 40 := by omega
    obtain rfl : R = true := hR.2 h1
    clear hR
    go_enter Tryz.func237, Tryz.ntmps237
    go_wp2
    go_ret
    exact ⟨rfl, rfl⟩
  · have a1 : ¬ (v.size : Int) ≤ 40 := by omega
    obtain rfl : R = false := ans_no hR h1
    clear hR
    go_enter Tryz.func237, Tryz.ntmps237
    go_wp2
    go_ret
    exact ⟨rfl, rfl⟩
set_option maxHeartbeats 1000000 in
theorem changeOk_is (c : ChangeL) (hk : c.key.size ≤ 2097152) (hv : c.value.size ≤ 2097152) (R : Bool) (hR : R = true ↔ Batches.changeOk c) (w : World) :
    Calls Tryz.prog 190 #[changeV c] w fun e w' => e = .returned (.bool R) ∧ Below w.heap.size w w' := by
  obtain ⟨A, V, G⟩ := c
  unfold changeV
  simp only at hk hv ⊢
  by_cases h1 : 1 ≤ A.size ∧ A.size ≤ 10
  · by_cases h2 : V.size ≤ 40
    · by_cases h3 : V.size = 0
      · have e4 : (V.toList == []) = true := by rw [Batches.toList_by, (empty_iff V).1 h3]; rfl
        obtain rfl : R = true := hR.2 ⟨h1.1, h1.2, h2, fun _ => h3⟩
        clear hR
        cases G with
        | false =>
          go_enter Tryz.func190, Tryz.ntmps190
          go_wp2_with (first | (go_at_call 199; refine (keyOk_is A (by omega) true (by simp [h1]) _).mono ?_; rintro e w1 ⟨rfl, rfl⟩) | (go_at_call 237; refine (valueOk_is V (by omega) true (by simp [h2]) _).mono ?_; rintro e w1 ⟨rfl, rfl⟩))
          go_ret
          exact ⟨rfl, (Below.refl _ _).alloc (Nat.le_refl _) _⟩
        | true =>
          go_enter Tryz.func190, Tryz.ntmps190
          go_wp2_with (first | (go_at_call 199; refine (keyOk_is A (by omega) true (by simp [h1]) _).mono ?_; rintro e w1 ⟨rfl, rfl⟩) | (go_at_call 237; refine (valueOk_is V (by omega) true (by simp [h2]) _).mono ?_; rintro e w1 ⟨rfl, rfl⟩))
          go_ret
          exact ⟨rfl, (Below.refl _ _).alloc (Nat.le_refl _) _⟩
      · have e4 : (V.toList == []) = false := empty_no (fun h => h3 ((empty_iff V).2 h))
        cases G with
        | false =>
          obtain rfl : R = true := hR.2 ⟨h1.1, h1.2, h2, fun h => by cases h⟩
          clear hR
          go_enter Tryz.func190, Tryz.ntmps190
          go_wp2_with (first | (go_at_call 199; refine (keyOk_is A (by omega) true (by simp [h1]) _).mono ?_; rintro e w1 ⟨rfl, rfl⟩) | (go_at_call 237; refine (valueOk_is V (by omega) true (by simp [h2]) _).mono ?_; rintro e w1 ⟨rfl, rfl⟩))
          go_ret
          exact ⟨rfl, (Below.refl _ _).alloc (Nat.le_refl _) _⟩
        | true =>
          obtain rfl : R = false := ans_no hR (fun h => h3 (h.2.2.2 rfl))
          clear hR
          go_enter Tryz.func190, Tryz.ntmps190
          go_wp2_with (first | (go_at_call 199; refine (keyOk_is A (by omega) true (by simp [h1]) _).mono ?_; rintro e w1 ⟨rfl, rfl⟩) | (go_at_call 237; refine (valueOk_is V (by omega) true (by simp [h2]) _).mono ?_; rintro e w1 ⟨rfl, rfl⟩))
          go_ret
          exact ⟨rfl, (Below.refl _ _).alloc (Nat.le_refl _) _⟩
    · obtain rfl : R = false := ans_no hR (fun h => h2 h.2.2.1)
      clear hR
      go_enter Tryz.func190, Tryz.ntmps190
      go_wp2_with (first | (go_at_call 199; refine (keyOk_is A (by omega) true (by simp [h1]) _).mono ?_; rintro e w1 ⟨rfl, rfl⟩) | (go_at_call 237; refine (valueOk_is V (by omega) false (by simp [h2]) _).mono ?_; rintro e w1 ⟨rfl, rfl⟩))
      go_ret
      exact ⟨rfl, (Below.refl _ _).alloc (Nat.le_refl _) _⟩
  · obtain rfl : R = false := ans_no hR (fun h => h1 ⟨h.1, h.2.1⟩)
    clear hR
    go_enter Tryz.func190, Tryz.ntmps190
    go_wp2_with (first | (go_at_call 199; refine (keyOk_is A (by omega) false (by simp [h1]) _).mono ?_; rintro e w1 ⟨rfl, rfl⟩))
    go_ret
    exact ⟨rfl, (Below.refl _ _).alloc (Nat.le_refl _) _⟩

/-- The key ahead of the k-th. -/
def Prev (l : List ChangeL) (k : Nat) (S : ByteArray) : Prop := (k = 0 ∧ S = ⟨#[]⟩) ∨ (0 < k ∧ ∃ h : k - 1 < l.length, S = l[k - 1].key)
theorem prev_okAt {l : List ChangeL} {k : Nat} {S A : ByteArray} (hk : k < l.length) (hp : Prev l k S) (hA : A = l[k].key) : Batches.okAt l k ↔ Batches.changeOk l[k] ∧ Batches.lt S A = true := by
  subst hA
  rcases hp with ⟨h0, rfl⟩ | ⟨h0, h1, rfl⟩
  · constructor
    · rintro ⟨_, h2, _⟩
      refine ⟨h2, (Batches.lt_iff _ _).2 ?_⟩
      have h3 := h2.1
      rw [← Words.size_list] at h3
      show ([] : List UInt8) < _
      cases e : l[k].key.data.toList with
      | nil => rw [e] at h3; simp at h3
      | cons x r => rw [Batches.by_, e]; exact List.nil_lt_cons _ _
    · rintro ⟨h2, _⟩
      exact ⟨hk, h2, fun h => absurd h (by omega)⟩
  · constructor
    · rintro ⟨_, h2, h3⟩
      exact ⟨h2, (h3 h0).2⟩
    · rintro ⟨h2, h3⟩
      exact ⟨hk, h2, fun _ => ⟨h1, h3⟩⟩
theorem le_of_lt {S A : ByteArray} (h : Batches.lt S A = true) : (Op.bytesLess A.toList S.toList || A.toList == S.toList) = false := by
  have h1 := Batches.lt_asymm h
  unfold Batches.lt at h1
  rw [h1, Bool.false_or]
  cases e : (A.toList == S.toList)
  · rfl
  · have e2 : A.toList = S.toList := by simpa using e
    rw [Batches.toList_by, Batches.toList_by] at e2
    rw [Batches.by_inj e2, Batches.lt_irrefl] at h
    cases h
theorem le_of_not {S A : ByteArray} (h : ¬ Batches.lt S A = true) : (Op.bytesLess A.toList S.toList || A.toList == S.toList) = true := by
  have h1 : Batches.lt S A = false := by simpa using h
  cases e : Batches.lt A S
  · have := Batches.lt_total e h1
    rw [this]; simp
  · unfold Batches.lt at e
    rw [e]; rfl
set_option maxHeartbeats 1000000 in
set_option maxRecDepth 100000 in
theorem implOk_any (R : Bool) (st : Int) {a : Option Addr} {g off cap : Nat} (l : List ChangeL) (hlen : l.length ≤ 2097152) (w : World) (hf : ChangeAt w a g off l) (hsz : ∀ c ∈ l, smallChange 2097152 c) (hR : R = true ↔ Batches.ok st l) :
    Calls Tryz.prog 137 #[.agg #[.int .i64 st, .slice a l.length cap]] w fun e w' => e = .returned (.bool R) ∧ Below w.heap.size w w' := by
  have HR : Hid (R = true ↔ Batches.ok st l) := hR
  clear hR
  have HF : Hid (ChangeAt w a g off l) := hf
  have HS : Hid (∀ c ∈ l, smallChange 2097152 c) := hsz
  clear hf hsz
  by_cases hst : 0 ≤ st ∧ st ≤ 100000
  · by_cases h60 : 60 < l.length
    · have h1 : (60 : Int) < (l.length : Int) := by omega
      go_enter Tryz.func137, Tryz.ntmps137
      go_wp2_with (go_at_call 189; refine (stampOk_is st true (by simp [hst]) _).mono ?_; rintro e w1 ⟨rfl, rfl⟩)
      go_ret
      exact ⟨by rw [ans_no HR.out (fun h => by have := h.2.1; omega)]; rfl, (Below.refl _ _).alloc (Nat.le_refl _) _⟩
    · have h1 : ¬ (60 : Int) < (l.length : Int) := by omega
      go_enter Tryz.func137, Tryz.ntmps137
      go_wp2_with (go_at_call 189; refine (stampOk_is st true (by simp [hst]) _).mono ?_; rintro e w1 ⟨rfl, rfl⟩)
      go_loopw [3, 19] (fun x i wr => ∃ (k : Nat) (S : ByteArray), k ≤ l.length ∧ i = .int .i64 (k : Int) ∧ x = .string S ∧ Prev l k S ∧ (∀ j, j < k → Batches.okAt l j) ∧ Below w.heap.size w wr)
        (fun _ i _ => l.length - (intOf i).toNat)
      case atStart => exact ⟨0, ⟨#[]⟩, Nat.zero_le _, rfl, rfl, Or.inl ⟨rfl, rfl⟩, fun j hj => absurd hj (Nat.not_lt_zero _), (Below.refl _ _).alloc (Nat.le_refl _) _⟩
      case round =>
        obtain ⟨k, S, hk, rfl, rfl, hprev, hall, hbel⟩ := hrel
        have HP : Hid (Prev l k S) := hprev
        have HA : Hid (∀ j, j < k → Batches.okAt l j) := hall
        clear hall hprev
        by_cases hlt : k < l.length
        · obtain ⟨c0, c1, c2⟩ := (HF.out.kept hbel).2 k hlt
          have ea := HF.out.1 (by omega)
          subst ea
          obtain ⟨A, hA⟩ : ∃ A, A = l[k].key := ⟨_, rfl⟩
          obtain ⟨V, hV⟩ : ∃ V, V = l[k].value := ⟨_, rfl⟩
          obtain ⟨G, hG⟩ : ∃ G, G = l[k].gone := ⟨_, rfl⟩
          obtain ⟨s0, s1⟩ := HS.out l[k] (List.getElem_mem _)
          rw [← hA] at c0 s0
          rw [← hV] at c1 s1
          rw [← hG] at c2
          have HAA : Hid (A = l[k].key) := hA
          have HE : Hid (l[k] = ⟨A, V, G⟩) := by show _ = _; rw [hA, hV, hG]
          clear hA hV hG
          have hk0 : (0 : Int) ≤ (k : Int) := by omega
          have hk1 : (k : Int) < (l.length : Int) := by omega
          go_wp2_with fail
          obtain ⟨W1, hW1⟩ : ∃ W1, W1 = wr.alloc (Obj.cells #[Value.string A, Value.string V, Value.bool G] 149) := ⟨_, rfl⟩
          rw [← hW1]
          have hB1 : Below wr.heap.size wr W1 := by rw [hW1]; exact (Below.refl _ _).alloc (Nat.le_refl _) _
          have f0 : W1.cell? ⟨wr.heap.size, 0, none⟩ = some (.string A) := by rw [hW1]; exact cell_of_row _ _ 0 _ _ _ (heap_alloc_new wr _)
          have hz1 : wr.heap.size < W1.heap.size := World.block_lt_of_cell? W1 _ f0
          have hw1 : Below w.heap.size w W1 := hbel.trans (hB1.mono hbel.size)
          clear hW1 c0 c1 c2
          by_cases hch : Batches.changeOk ⟨A, V, G⟩
          · refine (changeOk_is ⟨A, V, G⟩ s0 s1 true (by simp [hch]) W1).mono ?_
            rintro e w2 ⟨rfl, hb2⟩
            have hw2 : Below w.heap.size w w2 := hw1.trans (hb2.mono hw1.size)
            have f2 : w2.cell? ⟨wr.heap.size, 0, none⟩ = some (.string A) := (hb2.cell (p := ⟨wr.heap.size, 0, none⟩) hz1).trans f0
            clear f0 hw1 hb2 hB1 hz1
            by_cases hls : Batches.lt S A = true
            · have hle := le_of_lt hls
              have HN : Hid (Batches.okAt l k) := (prev_okAt hlt HP.out HAA.out).2 ⟨by rw [HE.out]; exact hch, hls⟩
              clear hls hch
              go_wp2
              go_roundw
              case rel => exact ⟨k + 1, A, by omega, by go_num, rfl, Or.inr ⟨by omega, hlt, HAA.out⟩, Batches.ok_step HA.out HN.out, hw2⟩
              case measure => simp [intOf]; omega
            · have hle := le_of_not hls
              have HN : Hid (¬ Batches.okAt l k) := fun h => hls ((prev_okAt hlt HP.out HAA.out).1 h).2
              clear hls hch
              go_wp2
              go_ret
              exact ⟨by rw [ans_no HR.out (Batches.not_ok hlt HN.out)]; rfl, hw2⟩
          · refine (changeOk_is ⟨A, V, G⟩ s0 s1 false (by simp [hch]) W1).mono ?_
            rintro e w2 ⟨rfl, hb2⟩
            have hw2 : Below w.heap.size w w2 := hw1.trans (hb2.mono hw1.size)
            have HN : Hid (¬ Batches.okAt l k) := fun h => hch (by have := h.2.1; rw [HE.out] at this; exact this)
            clear hch
            go_wp2
            go_ret
            exact ⟨by rw [ans_no HR.out (Batches.not_ok hlt HN.out)]; rfl, hw2⟩
        · have hk1 : ¬ (k : Int) < (l.length : Int) := by omega
          go_wp2
          go_ret
          exact ⟨by rw [HR.out.2 ⟨hst, by omega, fun j hj => HA.out j (by omega)⟩]; rfl, hbel⟩
  · go_enter Tryz.func137, Tryz.ntmps137
    go_wp2_with (go_at_call 189; refine (stampOk_is st false (by simp [hst]) _).mono ?_; rintro e w1 ⟨rfl, rfl⟩)
    go_ret
    exact ⟨by rw [ans_no HR.out (fun h => hst h.1)]; rfl, (Below.refl _ _).alloc (Nat.le_refl _) _⟩
end Go.Proofs.YtbcfiiilikkkeaaGreatDoor
namespace Go.Proofs.YtbcfiiilikkkeaaGreatDoor
open Go.RowKit
set_option linter.unusedVariables false

theorem catch_panicking (p : Addr) (x : Bool) (u : TypeId) (pv : Value) (older : List PanicEntry) (w : World) (hc : w.cell? p = some (.bool x)) (hz : w.frozen? p = false) :
    CallsD Tryz.prog 243 #[.pointer (some p)] (.panicking ({ v := .iface u pv, recovered := false } :: older)) w fun e u' w' =>
      e = .returned (.tuple #[]) ∧ u' = .panicking ({ v := .iface u pv, recovered := true } :: older) ∧ w' = w.setCell p (.bool false) := by
  refine callsD_of_wpS Tryz.func243 rfl fun c₀ cs hu => ?_
  apply wpS_seq
  apply wpS_region
  simp [wpOpsS, go_sem, recoverD, hu, Tryz.ntmps243, Exit.thenS]
  refine wpS_cond (t := true) (by simp [Act.eval, Array.replicate]) ?_
  simp only [if_true]
  apply wpS_region
  simp [wpOpsS, go_sem, hc, hz, bodyPostS, results, Tryz.results243]

theorem catch_idle (p : Addr) (w : World) :
    CallsD Tryz.prog 243 #[.pointer (some p)] .returning w fun e u' w' => e = .returned (.tuple #[]) ∧ u' = .returning ∧ w' = w := by
  refine callsD_of_wpS Tryz.func243 rfl fun c₀ cs hu => ?_
  apply wpS_seq
  apply wpS_region
  simp [wpOpsS, go_sem, recoverD, hu, Tryz.ntmps243, Exit.thenS]
  refine wpS_cond (t := false) (by simp [Act.eval, Array.replicate]) ?_
  simp only [Bool.false_eq_true, if_false]
  refine wpS_of_wp (wp_skip ?_)
  cases c₀
  simp_all [bodyPostS, results, Tryz.results243]

/-- How the reading of a text breaks off. -/
def Reads (t : ByteArray) : Prop := Words.rd t.data.toList 0 = none ∨ (∃ st a1, Words.rd t.data.toList 0 = some (st, a1) ∧ Words.rd t.data.toList a1 = none) ∨
  (∃ st a1 n a2, Words.rd t.data.toList 0 = some (st, a1) ∧ Words.rd t.data.toList a1 = some (n, a2) ∧ ¬ n ≤ 60) ∨ (∃ st a1 n a2, Words.rd t.data.toList 0 = some (st, a1) ∧ Words.rd t.data.toList a1 = some (n, a2) ∧ n ≤ 60 ∧ Batches.rdMany t n a2 = none)
theorem Reads.nostamp {t : ByteArray} (h1 : Words.rd t.data.toList 0 = none) : Reads t := Or.inl h1
theorem Reads.nocount {t : ByteArray} (st a1 : Nat) (h1 : Words.rd t.data.toList 0 = some (st, a1)) (h2 : Words.rd t.data.toList a1 = none) : Reads t := Or.inr (Or.inl ⟨st, a1, h1, h2⟩)
theorem Reads.over {t : ByteArray} (st a1 n a2 : Nat) (h1 : Words.rd t.data.toList 0 = some (st, a1)) (h2 : Words.rd t.data.toList a1 = some (n, a2)) (hn : ¬ n ≤ 60) : Reads t := Or.inr (Or.inr (Or.inl ⟨st, a1, n, a2, h1, h2, hn⟩))
theorem Reads.torn {t : ByteArray} (st a1 n a2 : Nat) (h1 : Words.rd t.data.toList 0 = some (st, a1)) (h2 : Words.rd t.data.toList a1 = some (n, a2)) (hn : n ≤ 60) (h3 : Batches.rdMany t n a2 = none) : Reads t := Or.inr (Or.inr (Or.inr ⟨st, a1, n, a2, h1, h2, hn, h3⟩))
theorem batch_thrown {rb : Nat} {t : ByteArray} (hs : t.size ≤ 1048576) (w : World) (hr : Rd w rb t 0) (h : Reads t) :
    Calls Tryz.prog 228 #[.pointer (some ⟨rb, 0, none⟩)] w fun en w' => en = .panicked thrown ∧ w.grownBy w' (some rb) := by
  rcases h with h1 | ⟨st, a1, h1, h2⟩ | ⟨st, a1, n, a2, h1, h2, hn⟩ | ⟨st, a1, n, a2, h1, h2, hn, h3⟩
  · exact batch_nostamp hs w hr h1
  · exact batch_nocount hs w hr h1 h2
  · exact batch_over hs w hr h1 h2 hn
  · exact batch_torn hs w hr h1 h2 hn h3
/-- What is read, up to e. -/
def Gets (t : ByteArray) (st : Nat) (l : List ChangeL) (e : Nat) : Prop := ∃ a1 n a2, Words.rd t.data.toList 0 = some (st, a1) ∧ Words.rd t.data.toList a1 = some (n, a2) ∧ n ≤ 60 ∧ Batches.rdMany t n a2 = some (l, e)
theorem reads_or (t : ByteArray) : Reads t ∨ ∃ st l e, Gets t st l e := by
  cases h1 : Words.rd t.data.toList 0 with
  | none => exact Or.inl (Reads.nostamp h1)
  | some p =>
    obtain ⟨st, a1⟩ := p
    cases h2 : Words.rd t.data.toList a1 with
    | none => exact Or.inl (Reads.nocount st a1 h1 h2)
    | some q =>
      obtain ⟨n, a2⟩ := q
      by_cases hn : n ≤ 60
      · cases h3 : Batches.rdMany t n a2 with
        | none => exact Or.inl (Reads.torn st a1 n a2 h1 h2 hn h3)
        | some r => obtain ⟨l, e⟩ := r; exact Or.inr ⟨st, l, e, a1, n, a2, h1, h2, hn, h3⟩
      · exact Or.inl (Reads.over st a1 n a2 h1 h2 hn)
theorem batch_gets {rb : Nat} {t : ByteArray} {st e : Nat} {l : List ChangeL} (hs : t.size ≤ 1048576) (w : World) (hr : Rd w rb t 0) (h : Gets t st l e) :
    Calls Tryz.prog 228 #[.pointer (some ⟨rb, 0, none⟩)] w fun en w' => ∃ v, en = .returned (.agg #[.int .i64 (st : Int), v]) ∧ w'.ownsRow w.heap.size 149 3 v l.length (cellsChange l) ∧ Rd w' rb t e ∧ w.grownBy w' (some rb) := by
  obtain ⟨a1, n, a2, h1, h2, hn, h3⟩ := h
  exact batch_some hs w hr h1 h2 hn h3

set_option maxHeartbeats 400000 in
theorem lit_thrown {rb B0 : Nat} {t : ByteArray} (hs : t.size ≤ 1048576) (w : World) (hr : Rd w rb t 0) (h : Reads t) :
    Calls Tryz.prog 227 #[.pointer (some ⟨rb, 0, none⟩), .pointer (some ⟨B0, 0, none⟩)] w fun en w' => en = .panicked thrown ∧ w.grownBy w' (some rb) := by
  have HR : Hid (Rd w rb t 0) := hr
  clear hr
  go_enter Tryz.func227, Tryz.ntmps227
  go_wp2_with (go_at_call 228; refine (batch_thrown hs _ HR.out h).mono ?_; rintro e w1 ⟨rfl, hg1⟩)
  exact ⟨rfl, rfl, hg1⟩
set_option maxHeartbeats 400000 in
theorem lit_gets {rb B0 : Nat} {t : ByteArray} {st e : Nat} {l : List ChangeL} (hs : t.size ≤ 1048576) (w : World) (hr : Rd w rb t 0) (h : Gets t st l e) (hne : B0 ≠ rb) (hB : w.heap[B0]? = some (.cells #[.int .i64 0, .slice none 0 0] 51 (0, 0))) :
    Calls Tryz.prog 227 #[.pointer (some ⟨rb, 0, none⟩), .pointer (some ⟨B0, 0, none⟩)] w fun en w' => en = .returned (.tuple #[]) ∧
      ∃ v w1, w.grownBy w1 (some rb) ∧ w1.grownBy w' (some B0) ∧ w'.heap[B0]? = some (.cells #[.int .i64 (st : Int), v] 51 (0, 0)) ∧ w'.ownsRow w.heap.size 149 3 v l.length (cellsChange l) ∧ Rd w' rb t e := by
  have HR : Hid (Rd w rb t 0) := hr
  have HB : Hid (_ = _) := hB
  clear hr hB
  go_enter Tryz.func227, Tryz.ntmps227
  go_wp2_with fail
  refine (batch_gets hs _ HR.out h).mono ?_
  rintro en w1 ⟨v, rfl, hown, hr1, hg1⟩
  obtain ⟨va, vc, rfl⟩ := own_slice hown
  have hb1 := grown_keep HB.out hg1 hne
  have HB1 : Hid (_ = _) := hb1
  have HO1 : Hid (w1.ownsRow w.heap.size 149 3 (.slice va l.length vc) l.length (cellsChange l)) := hown
  have HR1 : Hid (Rd w1 rb t e) := hr1
  have HG1 : Hid (w.grownBy w1 (some rb)) := hg1
  have c0 := cell_of_row _ _ 0 _ _ _ hb1
  have c1 := cell_of_row _ _ 1 _ _ _ hb1
  have f0 := frozen_of_row _ _ 0 _ _ hb1
  have f1 := frozen_of_row _ _ 1 _ _ hb1
  simp at c0 c1
  clear hown hr1 hg1 hb1
  go_wp2
  go_end0
  refine ⟨rfl, .slice va l.length vc, w1, HG1.out, (grown_set _ _ _ _).trans (grown_set _ _ _ _), two_set HB1.out _ _, ?_, (HR1.out.setNew hne.symm 0 _).setNew hne.symm 1 _⟩
  exact own_set (own_set HO1.out _ _ _ (own_not HO1.out HB1.out (by decide))) _ _ _ (own_not HO1.out HB1.out (by decide))
end Go.Proofs.YtbcfiiilikkkeaaGreatDoor
namespace Go.Proofs.YtbcfiiilikkkeaaGreatDoor
open Go.RowKit
set_option linter.unusedVariables false

/-- What readWhole lays ahead of the reading: the named result, the reader. -/
theorem whole_start (t : ByteArray) (w : World) (B0 : Nat) : ∃ W, W = ((w.alloc (Obj.cells #[Value.bool false] 4)).alloc (Obj.cells #[Value.string t, Value.int IntKind.i64 0] 299)) ∧ Rd W (w.heap.size + 1) t 0 ∧ W.heap[w.heap.size]? = some (.cells #[.bool false] 4 (0, 0)) ∧ w.grownBy W (some B0) ∧ w.heap.size + 2 ≤ W.heap.size := by
  refine ⟨_, rfl, ⟨?_, Nat.zero_le _⟩, ?_, (grown_alloc _ _).trans (grown_alloc _ _), by simp⟩
  · have := heap_alloc_new (w.alloc (Obj.cells #[Value.bool false] 4)) (Obj.cells #[Value.string t, Value.int IntKind.i64 0] 299)
    simpa using this
  · rw [Below.heap_alloc _ _ _ (by simp)]
    exact heap_alloc_new w _

set_option maxHeartbeats 400000 in
set_option maxRecDepth 100000 in
theorem whole_thrown {B0 : Nat} {t : ByteArray} (hs : t.size ≤ 1048576) (w : World) (hB0 : B0 < w.heap.size) (h : Reads t) :
    Calls Tryz.prog 201 #[.string t, .func (.func 227) #[] #[.pointer (some ⟨B0, 0, none⟩)]] w fun en w' => en = .returned (.bool false) ∧ w.grownBy w' (some B0) := by
  have hmf : ∀ (fn : Fn) (first cap : Array Value) (w : World), (Instr.makeFunc fn first cap).run Tryz.prog w = .ok (.func fn first cap) w := fun _ _ _ _ => rfl
  have HH : Hid (Reads t) := h
  clear h
  obtain ⟨W, hW, hr, hwh, hg, hz⟩ := whole_start t w B0
  have HR : Hid (Rd W (w.heap.size + 1) t 0) := hr
  have HW : Hid (_ = _) := hwh
  have HG : Hid (w.grownBy W (some B0)) := hg
  clear hr hwh hg
  go_enter_defers Tryz.func201, Tryz.ntmps201
  go_wp2_with fail
  rw [← hW]
  refine (lit_thrown hs W HR.out HH.out).mono ?_
  rintro en w1 ⟨rfl, hg1⟩
  have hw1 := grown_keep HW.out hg1 (by omega)
  have hg2 : w.grownBy w1 (some B0) := HG.out.andThen hg1 (fun r e => Or.inl (by cases e; omega))
  have c0 := cell_of_row _ _ 0 _ _ _ hw1
  have f0 := frozen_of_row _ _ 0 _ _ hw1
  simp at c0
  refine leaves_cons (f := 243) (args := #[.pointer (some ⟨w.heap.size, 0, none⟩)]) (by simp) (by simp [go_sem]) ?_
  refine (catch_panicking ⟨w.heap.size, 0, none⟩ false 375 (.agg #[]) [] w1 c0 f0).mono ?_
  rintro e u' w'' ⟨rfl, rfl, rfl⟩
  have c1 : (w1.setCell ⟨w.heap.size, 0, none⟩ (.bool false)).cell? ⟨w.heap.size, 0, none⟩ = some (.bool false) := World.cell?_setCell_same _ _ _ c0
  simp [Leaves, settle, results, Tryz.results201, go_sem, c1]
  exact grown_new hg2 (Nat.le_refl _) _ _

set_option maxHeartbeats 400000 in
set_option maxRecDepth 100000 in
theorem whole_gets {B0 : Nat} {t : ByteArray} {st e : Nat} {l : List ChangeL} (hs : t.size ≤ 1048576) (w : World) (hB : w.heap[B0]? = some (.cells #[.int .i64 0, .slice none 0 0] 51 (0, 0))) (h : Gets t st l e) (R : Bool) (hR : R = ((e : Int) == (t.size : Int))) :
    Calls Tryz.prog 201 #[.string t, .func (.func 227) #[] #[.pointer (some ⟨B0, 0, none⟩)]] w fun en w' => en = .returned (.bool R) ∧ w.grownBy w' (some B0) ∧
      ∃ v, w'.heap[B0]? = some (.cells #[.int .i64 (st : Int), v] 51 (0, 0)) ∧ w'.ownsRow w.heap.size 149 3 v l.length (cellsChange l) := by
  have hmf : ∀ (fn : Fn) (first cap : Array Value) (w : World), (Instr.makeFunc fn first cap).run Tryz.prog w = .ok (.func fn first cap) w := fun _ _ _ _ => rfl
  have hB0 : B0 < w.heap.size := (Array.getElem?_eq_some_iff.1 hB).1
  obtain ⟨W, hW, hr, hwh, hg, hz⟩ := whole_start t w B0
  have HH : Hid (Gets t st l e) := h
  have HB : Hid (W.heap[B0]? = some (.cells #[.int .i64 0, .slice none 0 0] 51 (0, 0))) := by
    show _ = _
    rw [hW, Below.heap_alloc _ _ _ (by simp; omega), Below.heap_alloc _ _ _ hB0]; exact hB
  have HR : Hid (Rd W (w.heap.size + 1) t 0) := hr
  have HW : Hid (W.heap[w.heap.size]? = some (.cells #[.bool false] 4 (0, 0))) := hwh
  have HG : Hid (w.grownBy W (some B0)) := hg
  clear hr hwh hg h hB
  go_enter_defers Tryz.func201, Tryz.ntmps201
  go_wp2_with fail
  rw [← hW]
  refine (lit_gets hs W HR.out HH.out (by omega) HB.out).mono ?_
  rintro en w2 ⟨rfl, v, w1, hg1, hg2, hb2, hown, hr2⟩
  have hw2 := grown_keep (grown_keep HW.out hg1 (by omega)) hg2 (by omega)
  have HG2 : Hid (w.grownBy w2 (some B0)) := (HG.out.andThen hg1 (fun r e => Or.inl (by cases e; omega))).trans hg2
  have HB2 : Hid (_ = _) := hb2
  have HO2 : Hid (w2.ownsRow w.heap.size 149 3 v l.length (cellsChange l)) := own_mono hown (by omega)
  have HW2 : Hid (w2.heap[w.heap.size]? = some (.cells #[.bool false] 4 (0, 0))) := hw2
  have c0 := cell_of_row _ _ 0 _ _ _ hw2
  have f0 := frozen_of_row _ _ 0 _ _ hw2
  have q0 := hr2.c0
  have q1 := hr2.c1
  simp at c0
  clear hw2 hg1 hg2 hb2 hown hr2 hW
  go_wp2
  refine leaves_cons (f := 243) (args := #[.pointer (some ⟨w.heap.size, 0, none⟩)]) (by simp) (by simp [go_sem]) ?_
  refine (catch_idle ⟨w.heap.size, 0, none⟩ _).mono ?_
  rintro e u' w'' ⟨rfl, rfl, rfl⟩
  rw [← hR]
  have c1 : (w2.setCell ⟨w.heap.size, 0, none⟩ (.bool R)).cell? ⟨w.heap.size, 0, none⟩ = some (.bool R) := World.cell?_setCell_same _ _ _ c0
  simp [Leaves, settle, results, Tryz.results201, go_sem, c1]
  exact ⟨grown_new HG2.out (Nat.le_refl _) _ _, v, set_far HB2.out (by omega) _ _, own_set HO2.out _ _ _ (own_not HO2.out HW2.out (by decide))⟩
end Go.Proofs.YtbcfiiilikkkeaaGreatDoor
namespace Go.Proofs.YtbcfiiilikkkeaaGreatDoor
open Go.RowKit
set_option linter.unusedVariables false

theorem rdMany_small {t : ByteArray} : ∀ (n a e : Nat) (l : List ChangeL), Batches.rdMany t n a = some (l, e) → l.length = n ∧ ∀ c ∈ l, Batches.small c
  | 0, a, e, l, h => by
    simp only [Batches.rdMany, Option.some.injEq, Prod.mk.injEq] at h
    obtain ⟨rfl, rfl⟩ := h
    exact ⟨rfl, fun c hc => (List.not_mem_nil hc).elim⟩
  | n + 1, a, e, l, h => by
    obtain ⟨c, a1, r, h1, h2, rfl⟩ := rdMany_next h
    obtain ⟨b1, b2, g1, g2, g3⟩ := rdOne_parts h1
    obtain ⟨q1, q2⟩ := rdMany_small n a1 e r h2
    refine ⟨by simp [q1], fun x hx => ?_⟩
    rcases List.mem_cons.1 hx with rfl | hx
    · exact ⟨(Batches.rdShort_cut g1).2.2.2, (Batches.rdShort_cut g3).2.2.2⟩
    · exact q2 x hx
theorem Gets.small {t : ByteArray} {st e : Nat} {l : List ChangeL} (h : Gets t st l e) : l.length ≤ 60 ∧ ∀ c ∈ l, smallChange 2097152 c := by
  obtain ⟨a1, n, a2, _, _, hn, h3⟩ := h
  obtain ⟨q1, q2⟩ := rdMany_small _ _ _ _ h3
  exact ⟨by omega, fun c hc => ⟨Nat.le_trans (q2 c hc).1 (by omega), Nat.le_trans (q2 c hc).2 (by omega)⟩⟩

/-- What ReadBatch lays ahead of the reading: the result, the variable b. -/
theorem read_start (w : World) : ∃ W, W = ((w.alloc (Obj.cells #[Value.int IntKind.i64 0, Value.slice none 0 0] 51)).alloc (Obj.cells #[Value.int IntKind.i64 0, Value.slice none 0 0] 51)) ∧ W.heap[w.heap.size]? = some (.cells #[.int .i64 0, .slice none 0 0] 51 (0, 0)) ∧ W.heap[w.heap.size + 1]? = some (.cells #[.int .i64 0, .slice none 0 0] 51 (0, 0)) ∧ Below w.heap.size w W ∧ W.heap.size = w.heap.size + 2 := by
  refine ⟨_, rfl, ?_, ?_, ((Below.refl _ _).alloc (Nat.le_refl _) _).alloc (by simp) _, by simp⟩
  · rw [Below.heap_alloc _ _ _ (by simp)]
    exact heap_alloc_new w _
  · have := heap_alloc_new (w.alloc (Obj.cells #[Value.int IntKind.i64 0, Value.slice none 0 0] 51)) (Obj.cells #[Value.int IntKind.i64 0, Value.slice none 0 0] 51)
    simpa using this

set_option maxHeartbeats 400000 in
set_option maxRecDepth 100000 in
theorem implReadB_thrown {t : ByteArray} (hs : t.size ≤ 1048576) (w : World) (h : Reads t) :
    Calls Tryz.prog 171 #[.string t] w fun en w' => en = .returned (.tuple #[.agg #[.int .i64 0, .slice none 0 0], .bool false]) ∧ Below w.heap.size w w' := by
  have hmf : ∀ (fn : Fn) (first cap : Array Value) (w : World), (Instr.makeFunc fn first cap).run Tryz.prog w = .ok (.func fn first cap) w := fun _ _ _ _ => rfl
  have HH : Hid (Reads t) := h
  clear h
  obtain ⟨W, hW, h0, h1, hb, hz⟩ := read_start w
  have HZ : Hid (_ = _) := h0
  clear h0 h1
  go_enter Tryz.func171, Tryz.ntmps171
  go_wp2_with fail
  rw [← hW]
  clear hW
  refine (whole_thrown hs W (by omega) HH.out).mono ?_
  rintro en w1 ⟨rfl, hg1⟩
  have hr1 := grown_keep HZ.out hg1 (by omega)
  have HR1 : Hid (_ = _) := hr1
  have hB : Below w.heap.size w w1 := hb.grown hg1 (by omega) (fun k e => by cases e; omega)
  have c0 := cell_of_row _ _ 0 _ _ _ hr1
  have c1 := cell_of_row _ _ 1 _ _ _ hr1
  have f0 := frozen_of_row _ _ 0 _ _ hr1
  have f1 := frozen_of_row _ _ 1 _ _ hr1
  simp at c0 c1
  clear hr1 hg1 hb
  go_wp2
  obtain ⟨l0, l1⟩ := two_cell HR1.out (.int .i64 0) (.slice none 0 0)
  exact bodyPost_ret (v := .tuple #[.agg #[.int .i64 0, .slice none 0 0], .bool false]) (by simp [results, Tryz.results171, go_sem, l0, l1]) rfl ⟨rfl, (hB.setCell (by simp) _).setCell (by simp) _⟩
set_option maxHeartbeats 400000 in
set_option maxRecDepth 100000 in
theorem implReadB_short {t : ByteArray} {st e : Nat} {l : List ChangeL} (hs : t.size ≤ 1048576) (w : World) (h : Gets t st l e) (he : ¬ e = t.size) :
    Calls Tryz.prog 171 #[.string t] w fun en w' => en = .returned (.tuple #[.agg #[.int .i64 0, .slice none 0 0], .bool false]) ∧ Below w.heap.size w w' := by
  have hmf : ∀ (fn : Fn) (first cap : Array Value) (w : World), (Instr.makeFunc fn first cap).run Tryz.prog w = .ok (.func fn first cap) w := fun _ _ _ _ => rfl
  have HH : Hid (Gets t st l e) := h
  clear h
  obtain ⟨W, hW, h0, h1, hb, hz⟩ := read_start w
  have HZ : Hid (_ = _) := h0
  have HB : Hid (_ = _) := h1
  clear h0 h1
  go_enter Tryz.func171, Tryz.ntmps171
  go_wp2_with fail
  rw [← hW]
  clear hW
  refine (whole_gets hs W HB.out HH.out false (by symm; simpa using fun h : (e : Int) = t.size => he (by omega))).mono ?_
  rintro en w1 ⟨rfl, hg1, v, _, _⟩
  have hr1 := grown_keep HZ.out hg1 (by omega)
  have HR1 : Hid (_ = _) := hr1
  have hB : Below w.heap.size w w1 := hb.grown hg1 (by omega) (fun k e => by cases e; omega)
  have c0 := cell_of_row _ _ 0 _ _ _ hr1
  have c1 := cell_of_row _ _ 1 _ _ _ hr1
  have f0 := frozen_of_row _ _ 0 _ _ hr1
  have f1 := frozen_of_row _ _ 1 _ _ hr1
  simp at c0 c1
  clear hr1 hg1 hb
  go_wp2
  obtain ⟨l0, l1⟩ := two_cell HR1.out (.int .i64 0) (.slice none 0 0)
  exact bodyPost_ret (v := .tuple #[.agg #[.int .i64 0, .slice none 0 0], .bool false]) (by simp [results, Tryz.results171, go_sem, l0, l1]) rfl ⟨rfl, (hB.setCell (by simp) _).setCell (by simp) _⟩
set_option maxHeartbeats 400000 in
set_option maxRecDepth 100000 in
theorem implReadB_got {t : ByteArray} {st : Nat} {l : List ChangeL} (hs : t.size ≤ 1048576) (w : World) (h : Gets t st l t.size) (ho : Batches.ok (st : Int) l) :
    Calls Tryz.prog 171 #[.string t] w fun en w' => ∃ v, en = .returned (.tuple #[.agg #[.int .i64 (st : Int), v], .bool true]) ∧ w'.ownsRow w.heap.size 149 3 v l.length (cellsChange l) ∧ Below w.heap.size w w' := by
  have hmf : ∀ (fn : Fn) (first cap : Array Value) (w : World), (Instr.makeFunc fn first cap).run Tryz.prog w = .ok (.func fn first cap) w := fun _ _ _ _ => rfl
  have HH : Hid (Gets t st l t.size) := h
  have HS : Hid (∀ c ∈ l, smallChange 2097152 c) := h.small.2
  have hl := h.small.1
  have HK : Hid (Batches.ok (st : Int) l) := ho
  clear h ho
  obtain ⟨W, hW, h0, h1, hb, hz⟩ := read_start w
  have HZ : Hid (_ = _) := h0
  have HB : Hid (_ = _) := h1
  clear h0 h1
  go_enter Tryz.func171, Tryz.ntmps171
  go_wp2_with fail
  rw [← hW]
  clear hW
  refine (whole_gets hs W HB.out HH.out true (by simp)).mono ?_
  rintro en w1 ⟨rfl, hg1, v, hb1, hown⟩
  obtain ⟨va, gg, vc, rfl, hat⟩ := cellsChange_slice hown
  have hr1 := grown_keep HZ.out hg1 (by omega)
  have HR1 : Hid (_ = _) := hr1
  have HO1 : Hid (w1.ownsRow w.heap.size 149 3 (.slice va l.length vc) l.length (cellsChange l)) := own_mono hown (by omega)
  have hB : Below w.heap.size w w1 := hb.grown hg1 (by omega) (fun k e => by cases e; omega)
  have HA : Hid (ChangeAt w1 va gg 0 l) := hat
  have HB1 : Hid (_ = _) := hb1
  have d0 := cell_of_row _ _ 0 _ _ _ hb1
  have d1 := cell_of_row _ _ 1 _ _ _ hb1
  simp at d0 d1
  clear hr1 hg1 hb hown hat hb1
  go_wp2_with fail
  refine (implOk_any true (st : Int) l (by omega) w1 HA.out HS.out (by simp [HK.out])).mono ?_
  rintro en w2 ⟨rfl, hb2⟩
  have hz1 : w.heap.size + 1 < w1.heap.size := (Array.getElem?_eq_some_iff.1 HB1.out).1
  have hr2 : w2.heap[w.heap.size]? = some (.cells #[.int .i64 0, .slice none 0 0] 51 (0, 0)) := (hb2.block _ (by omega)).trans HR1.out
  have HR2 : Hid (w2.heap[w.heap.size]? = some (.cells #[.int .i64 0, .slice none 0 0] 51 (0, 0))) := hr2
  have hb3 := (hb2.block _ hz1).trans HB1.out
  have HO2 : Hid (w2.ownsRow w.heap.size 149 3 (.slice va l.length vc) l.length (cellsChange l)) := own_kept HO1.out hb2
  have hB2 : Below w.heap.size w w2 := hB.trans (hb2.mono hB.size)
  have c0 := cell_of_row _ _ 0 _ _ _ hr2
  have c1 := cell_of_row _ _ 1 _ _ _ hr2
  have f0 := frozen_of_row _ _ 0 _ _ hr2
  have f1 := frozen_of_row _ _ 1 _ _ hr2
  have e0 := cell_of_row _ _ 0 _ _ _ hb3
  have e1 := cell_of_row _ _ 1 _ _ _ hb3
  simp at c0 c1 e0 e1
  clear hr2 hb2 hb3 d0 d1 hB
  go_wp2
  obtain ⟨l0, l1⟩ := two_cell HR2.out (.int .i64 (st : Int)) (.slice va l.length vc)
  exact bodyPost_ret (v := .tuple #[.agg #[.int .i64 (st : Int), .slice va l.length vc], .bool true]) (by simp [results, Tryz.results171, go_sem, l0, l1]) rfl ⟨.slice va l.length vc, rfl, own_set (own_set HO2.out _ _ _ (own_not HO2.out HR2.out (by decide))) _ _ _ (own_not HO2.out HR2.out (by decide)), (hB2.setCell (by simp) _).setCell (by simp) _⟩
set_option maxHeartbeats 400000 in
set_option maxRecDepth 100000 in
theorem implReadB_wrong {t : ByteArray} {st : Nat} {l : List ChangeL} (hs : t.size ≤ 1048576) (w : World) (h : Gets t st l t.size) (ho : ¬ Batches.ok (st : Int) l) :
    Calls Tryz.prog 171 #[.string t] w fun en w' => en = .returned (.tuple #[.agg #[.int .i64 0, .slice none 0 0], .bool false]) ∧ Below w.heap.size w w' := by
  have hmf : ∀ (fn : Fn) (first cap : Array Value) (w : World), (Instr.makeFunc fn first cap).run Tryz.prog w = .ok (.func fn first cap) w := fun _ _ _ _ => rfl
  have HH : Hid (Gets t st l t.size) := h
  have HS : Hid (∀ c ∈ l, smallChange 2097152 c) := h.small.2
  have hl := h.small.1
  have HK : Hid (¬ Batches.ok (st : Int) l) := ho
  clear h ho
  obtain ⟨W, hW, h0, h1, hb, hz⟩ := read_start w
  have HZ : Hid (_ = _) := h0
  have HB : Hid (_ = _) := h1
  clear h0 h1
  go_enter Tryz.func171, Tryz.ntmps171
  go_wp2_with fail
  rw [← hW]
  clear hW
  refine (whole_gets hs W HB.out HH.out true (by simp)).mono ?_
  rintro en w1 ⟨rfl, hg1, v, hb1, hown⟩
  obtain ⟨va, gg, vc, rfl, hat⟩ := cellsChange_slice hown
  have hr1 := grown_keep HZ.out hg1 (by omega)
  have HR1 : Hid (_ = _) := hr1
  have HO1 : Hid (w1.ownsRow w.heap.size 149 3 (.slice va l.length vc) l.length (cellsChange l)) := own_mono hown (by omega)
  have hB : Below w.heap.size w w1 := hb.grown hg1 (by omega) (fun k e => by cases e; omega)
  have HA : Hid (ChangeAt w1 va gg 0 l) := hat
  have HB1 : Hid (_ = _) := hb1
  have d0 := cell_of_row _ _ 0 _ _ _ hb1
  have d1 := cell_of_row _ _ 1 _ _ _ hb1
  simp at d0 d1
  clear hr1 hg1 hb hown hat hb1
  go_wp2_with fail
  refine (implOk_any false (st : Int) l (by omega) w1 HA.out HS.out (by simp [HK.out])).mono ?_
  rintro en w2 ⟨rfl, hb2⟩
  have hz1 : w.heap.size + 1 < w1.heap.size := (Array.getElem?_eq_some_iff.1 HB1.out).1
  have hr2 : w2.heap[w.heap.size]? = some (.cells #[.int .i64 0, .slice none 0 0] 51 (0, 0)) := (hb2.block _ (by omega)).trans HR1.out
  have HR2 : Hid (w2.heap[w.heap.size]? = some (.cells #[.int .i64 0, .slice none 0 0] 51 (0, 0))) := hr2
  have hb3 := (hb2.block _ hz1).trans HB1.out
  have HO2 : Hid (w2.ownsRow w.heap.size 149 3 (.slice va l.length vc) l.length (cellsChange l)) := own_kept HO1.out hb2
  have hB2 : Below w.heap.size w w2 := hB.trans (hb2.mono hB.size)
  have c0 := cell_of_row _ _ 0 _ _ _ hr2
  have c1 := cell_of_row _ _ 1 _ _ _ hr2
  have f0 := frozen_of_row _ _ 0 _ _ hr2
  have f1 := frozen_of_row _ _ 1 _ _ hr2
  have e0 := cell_of_row _ _ 0 _ _ _ hb3
  have e1 := cell_of_row _ _ 1 _ _ _ hb3
  simp at c0 c1 e0 e1
  clear hr2 hb2 hb3 d0 d1 hB
  go_wp2
  obtain ⟨l0, l1⟩ := two_cell HR2.out (.int .i64 0) (.slice none 0 0)
  exact bodyPost_ret (v := .tuple #[.agg #[.int .i64 0, .slice none 0 0], .bool false]) (by simp [results, Tryz.results171, go_sem, l0, l1]) rfl ⟨rfl, (hB2.setCell (by simp) _).setCell (by simp) _⟩

theorem got_gets {t : ByteArray} {st : Nat} {l : List ChangeL} (h : Batches.Got t st l) : Gets t st l t.size := by
  obtain ⟨a, b, h1, h2, h3⟩ := Batches.got_read h
  exact ⟨a, l.length, b, h1, h2, h.2.2.1, h3⟩
theorem gets_got {t : ByteArray} {st : Nat} {l : List ChangeL} (h : Gets t st l t.size) (ho : Batches.ok (st : Int) l) : Batches.Got t st l := by
  obtain ⟨a, n, b, h1, h2, _, h3⟩ := h
  exact Batches.read_got h1 h2 h3 ho
theorem implReadB_yes {t : ByteArray} {st : Nat} {l : List ChangeL} (hs : t.size ≤ 1048576) (w : World) (h : Batches.Got t st l) :
    Calls Tryz.prog 171 #[.string t] w fun en w' => ∃ v, en = .returned (.tuple #[.agg #[.int .i64 (st : Int), v], .bool true]) ∧ w'.ownsRow w.heap.size 149 3 v l.length (cellsChange l) ∧ Below w.heap.size w w' :=
  implReadB_got hs w (got_gets h) h.2
theorem implReadB_no {t : ByteArray} (hs : t.size ≤ 1048576) (w : World) (h : ∀ st l, ¬ Batches.Got t st l) :
    Calls Tryz.prog 171 #[.string t] w fun en w' => en = .returned (.tuple #[.agg #[.int .i64 0, .slice none 0 0], .bool false]) ∧ Below w.heap.size w w' := by
  rcases reads_or t with hr | ⟨st, l, e, hg⟩
  · exact implReadB_thrown hs w hr
  · by_cases he : e = t.size
    · subst he
      exact implReadB_wrong hs w hg (fun ho => h st l (gets_got hg ho))
    · exact implReadB_short hs w hg he
end Go.Proofs.YtbcfiiilikkkeaaGreatDoor
namespace Go.Proofs.YtbcfiiilikkkeaaGreatDoor
open Go.RowKit

theorem var_size (n : Nat) : (⟨(Words.var n).toArray⟩ : ByteArray).size ≤ n + 1 := by
  have := Words.var_len n
  simpa [ByteArray.size] using this

set_option maxHeartbeats 400000 in
theorem implShort_yes (s : ByteArray) (h : s.size ≤ 20000) (w : World) :
    Calls Tryz.prog 191 #[.string s] w fun e w' => e = .returned (.tuple #[.string (⟨(Words.var s.size).toArray⟩ ++ s), .bool true]) ∧ Below w.heap.size w w' := by
  have hv := var_size s.size
  go_enter Tryz.func191, Tryz.ntmps191
  go_wp2_with (go_at_call 142; refine (implVar_yes s.size (by omega) _).mono ?_; rintro e w1 ⟨rfl, hb1⟩)
  go_ret2
  exact ⟨rfl, hb1⟩

end Go.Proofs.YtbcfiiilikkkeaaGreatDoor
namespace Go.Proofs.YtbcfiiilikkkeaaGreatDoor
open Go.RowKit

theorem app_list (a b : ByteArray) : (a ++ b).data.toList = a.data.toList ++ b.data.toList := by simp
/-- A text of these bytes. -/
def Is (S : ByteArray) (l : List UInt8) : Prop := S.data.toList = l
theorem Is.app {S T : ByteArray} {l m : List UInt8} (h1 : Is S l) (h2 : Is T m) : Is (S ++ T) (l ++ m) := by
  unfold Is at *; rw [app_list, h1, h2]
theorem Is.size {S : ByteArray} {l : List UInt8} (h : Is S l) : S.size = l.length := by unfold Is at h; rw [← h]; rfl
theorem Is.eq {S : ByteArray} {l : List UInt8} (h : Is S l) : S = ⟨l.toArray⟩ := by
  unfold Is at h
  cases S; simp at h; subst h; simp
theorem Is.mk (l : List UInt8) : Is ⟨l.toArray⟩ l := rfl

theorem Is.of {S : ByteArray} {l : List UInt8} (h : Is S l) : (⟨l.toArray⟩ : ByteArray) = S := h.eq.symm
set_option maxHeartbeats 400000 in
theorem varOf_is (x : Int) (h0 : 0 ≤ x) (h1 : x ≤ 1000000) (S : ByteArray) (hS : Is S (Words.var x.toNat)) (w : World) :
    Calls Tryz.prog 138 #[.int .i64 x] w fun e w' => e = .returned (.string S) ∧ Below w.heap.size w w' := by
  obtain ⟨n, rfl⟩ := Int.eq_ofNat_of_zero_le h0
  have HS : Hid (Value.string S = .string ⟨(Words.var n).toArray⟩) := by show _ = _; rw [hS.eq]; rfl
  clear hS
  go_enter Tryz.func138, Tryz.ntmps138
  go_wp2_with (go_at_call 142; refine (implVar_yes n (by omega) _).mono ?_; rintro e w1 ⟨rfl, hb1⟩)
  go_ret
  exact ⟨by rw [HS.out]; rfl, hb1⟩
set_option maxHeartbeats 400000 in
theorem shortOf_is (s : ByteArray) (h : s.size ≤ 20000) (S : ByteArray) (hS : Is S (Batches.short s)) (w : World) :
    Calls Tryz.prog 139 #[.string s] w fun e w' => e = .returned (.string S) ∧ Below w.heap.size w w' := by
  have hi : Is (⟨(Words.var s.size).toArray⟩ ++ s) (Batches.short s) := (Is.mk _).app rfl
  have HS : Hid (Value.string S = .string (⟨(Words.var s.size).toArray⟩ ++ s)) := by show _ = _; rw [hS.eq, hi.eq]
  clear hS hi
  go_enter Tryz.func139, Tryz.ntmps139
  go_wp2_with (go_at_call 191; refine (implShort_yes s (by omega) _).mono ?_; rintro e w1 ⟨rfl, hb1⟩)
  go_ret
  exact ⟨by rw [HS.out]; rfl, hb1⟩
set_option maxHeartbeats 400000 in
theorem flagOf_is (G : Bool) (S : ByteArray) (hS : Is S [Batches.flag G]) (w : World) : Calls Tryz.prog 140 #[.bool G] w fun e w' => e = .returned (.string S) ∧ Below w.heap.size w w' := by
  cases G with
  | true =>
    have HS : Hid (Value.string S = .string ⟨#[1]⟩) := by show _ = _; rw [hS.eq]; rfl
    clear hS
    go_enter Tryz.func140, Tryz.ntmps140
    go_wp2
    go_ret
    exact ⟨by rw [HS.out]; rfl, Below.refl _ _⟩
  | false =>
    have HS : Hid (Value.string S = .string ⟨#[0]⟩) := by show _ = _; rw [hS.eq]; rfl
    clear hS
    go_enter Tryz.func140, Tryz.ntmps140
    go_wp2
    go_ret
    exact ⟨by rw [HS.out]; rfl, Below.refl _ _⟩
def varS (x : Int) : ByteArray := ⟨(Words.var x.toNat).toArray⟩
def shortS (s : ByteArray) : ByteArray := ⟨(Batches.short s).toArray⟩
def flagS (g : Bool) : ByteArray := ⟨#[Batches.flag g]⟩
theorem varS_is (x : Int) : Is (varS x) (Words.var x.toNat) := rfl
theorem shortS_is (s : ByteArray) : Is (shortS s) (Batches.short s) := rfl
theorem flagS_is (g : Bool) : Is (flagS g) [Batches.flag g] := rfl
theorem varS_size (x : Int) (B : Nat) (h : x ≤ B) : (varS x).size ≤ B + 1 := by rw [(varS_is x).size]; have := Words.var_len x.toNat; omega
theorem shortS_size (s : ByteArray) (B : Nat) (h : s.size ≤ B) : (shortS s).size ≤ 2 * B + 1 := by rw [(shortS_is s).size]; have := Batches.short_len s; omega
theorem flagS_size (g : Bool) : (flagS g).size = 1 := rfl
theorem varOf_q (x : Int) (h0 : 0 ≤ x) (h1 : x ≤ 1000000) (w : World) : Calls Tryz.prog 138 #[.int .i64 x] w fun e w' => e = .returned (.string (varS x)) ∧ Below w.heap.size w w' := varOf_is x h0 h1 _ (varS_is x) w
theorem shortOf_q (s : ByteArray) (h : s.size ≤ 20000) (w : World) : Calls Tryz.prog 139 #[.string s] w fun e w' => e = .returned (.string (shortS s)) ∧ Below w.heap.size w w' := shortOf_is s h _ (shortS_is s) w
theorem flagOf_q (G : Bool) (w : World) : Calls Tryz.prog 140 #[.bool G] w fun e w' => e = .returned (.string (flagS G)) ∧ Below w.heap.size w w' := flagOf_is G _ (flagS_is G) w
/-- The text as far as the k-th change. -/
def Upto (st : Int) (l : List ChangeL) (k : Nat) (S : ByteArray) : Prop := Is S (Words.var st.toNat ++ (Words.var l.length ++ Batches.many (l.take k)))
theorem upto_zero (st : Int) (l : List ChangeL) : Upto st l 0 (varS st ++ varS l.length) := by
  have := (varS_is st).app (varS_is l.length)
  unfold Upto
  simpa [Batches.many] using this
theorem upto_step {st : Int} {l : List ChangeL} {k : Nat} {S A V T : ByteArray} {G : Bool} (hk : k < l.length) (h : Upto st l k S) (he : l[k] = ⟨A, V, G⟩) (hT : Is T (Batches.one ⟨A, V, G⟩)) : Upto st l (k + 1) (S ++ T) := by
  have := Is.app h hT
  unfold Upto
  rw [Batches.many_take hk, he]
  simpa using this
theorem one_is (A V : ByteArray) (G : Bool) : Is (shortS A ++ flagS G ++ shortS V) (Batches.one ⟨A, V, G⟩) := by
  have := ((shortS_is A).app (flagS_is G)).app (shortS_is V)
  unfold Batches.one
  simpa using this
theorem upto_all {st : Int} {l : List ChangeL} {k : Nat} {S : ByteArray} (hk : l.length ≤ k) (h : Upto st l k S) : S = ⟨(Batches.text st.toNat l).toArray⟩ := by
  unfold Upto at h
  rw [List.take_of_length_le hk] at h
  exact h.eq
end Go.Proofs.YtbcfiiilikkkeaaGreatDoor
namespace Go.Proofs.YtbcfiiilikkkeaaGreatDoor
open Go.RowKit

theorem below_undrew {w w' : World} (h : Below w.drew.heap.size w.drew w') : Below w.heap.size w w' := ((Below.refl _ _).drew).trans h
end Go.Proofs.YtbcfiiilikkkeaaGreatDoor
