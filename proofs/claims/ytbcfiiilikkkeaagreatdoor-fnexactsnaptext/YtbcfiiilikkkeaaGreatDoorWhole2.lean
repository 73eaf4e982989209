/- The calls of the program's stampOk, changeOk, BatchOk, walked. The calls of the program's readWhole and ReadBatch, walked: the deferred closure that recovers, the closure that reads. The call of the program's readWhole, walked. -/
import Derived.Test.YtbcfiiilikkkeaaGreatDoorSpecOk
import Derived.Test.YtbcfiiilikkkeaaGreatDoorReadBatch
import Derived.Defers
import Derived.Recover
namespace Go.Proofs.YtbcfiiilikkkeaaGreatDoor
open Go.RowKit

set_option maxHeartbeats 400000 in
theorem stampOk_is (st : Int) (R : Bool) (hR : R = true ↔ 0 ≤ st ∧ st ≤ 100000) (w : World) :
    Calls Tryz.prog 189 #[.int .i64 st] w fun e w' => e = .returned (.bool R) ∧ w' = w := by
  by_cases h1 : 0 ≤ st
  · by_cases h2 : st ≤ 100000
    · obtain rfl : R = true := hR.2 ⟨h1, h2⟩
      clear hR
      go_enter Tryz.func189, Tryz.ntmps189
      go_wp2
      go_ret
      exact ⟨rfl, rfl⟩
    · obtain rfl : R = false := ans_no hR (fun h => h2 h.2)
      clear hR
      go_enter Tryz.func189, Tryz.ntmps189
      go_wp2
      go_ret
      exact ⟨rfl, rfl⟩
  · obtain rfl : R = false := ans_no hR (fun h => h1 h.1)
    clear hR
    go_enter Tryz.func189, Tryz.ntmps189
    go_wp2
    go_ret
    exact ⟨rfl, rfl⟩
set_option maxHeartbeats 400000 in
theorem keyOk_is (k : ByteArray) (hk : k.size ≤ 9223372036854775807) (R : Bool) (hR : R = true ↔ 1 ≤ k.size ∧ k.size ≤ 10) (w : World) :
    Calls Tryz.prog 199 #[.string k] w fun e w' => e = .returned (.bool R) ∧ w' = w := by
  by_cases h1 : 1 ≤ k.size
  · have a1 : (1 : Int) ≤ (k.size : Int) := by omega
    by_cases h2 : k.size ≤ 10
    · have a2 : (k.size : Int) ≤ 10 := by omega
      obtain rfl : R = true := hR.2 ⟨h1, h2⟩
      clear hR
      go_enter Tryz.func199, Tryz.ntmps199
      go_wp2
      go_ret
      exact ⟨rfl, rfl⟩
    · have a2 : ¬ (k.size : Int) ≤ 10 := by omega
      obtain rfl : R = false := ans_no hR (fun h => h2 h.2)
      clear hR
      go_enter Tryz.func199, Tryz.ntmps199
      go_wp2
      go_ret
      exact ⟨rfl, rfl⟩
  · have a1 : ¬ (1 : Int) ≤ (k.size : Int) := by omega
    obtain rfl : R = false := ans_no hR (fun h => h1 h.1)
    clear hR
    go_enter Tryz.func199, Tryz.ntmps199
    go_wp2
    go_ret
    exact ⟨rfl, rfl⟩
set_option maxHeartbeats 400000 in
theorem valueOk_is (v : ByteArray) (hk : v.size ≤ 9223372036854775807) (R : Bool) (hR : R = true ↔ v.size ≤ 40) (w : World) :
    Calls Tryz.prog 237 #[.string v] w fun e w' => e = .returned (.bool R) ∧ w' = w := by
  by_cases h1 : v.size ≤ 40
  · have a1 : (v.size : Int) ≤ 40 := by omega
    obtain rfl : R = true := hR.2 h1
    clear hR
    go_enter Tryz.func237, Tryz.ntmps237
    go_wp2
    go_ret
    exact ⟨rfl, rfl⟩
  · have a1 : ¬ (v.size : Int) ≤ 40 := by omega
    obtain rfl : R = false := ans_no hR h1
    clear hR
    go_enter Tryz.func237, Tryz.ntmps237
    go_wp2
    go_ret
    exact ⟨rfl, rfl⟩
set_option maxHeartbeats 1000000 in
theorem changeOk_is (c : ChangeL) (hk : c.key.size ≤ 2097152) (hv : c.value.size ≤ 2097152) (R : Bool) (hR : R = true ↔ Batches.changeOk c) (w : World) :
    Calls Tryz.prog 190 #[changeV c] w fun e w' => e = .returned (.bool R) ∧ Below w.heap.size w w' := by
  obtain ⟨A, V, G⟩ := c
  unfold changeV
  simp only at hk hv ⊢
  by_cases h1 : 1 ≤ A.size ∧ A.size ≤ 10
  · by_cases h2 : V.size ≤ 40
    · by_cases h3 : V.size = 0
      · have e4 : (V.toList == []) = true := by rw [Batches.toList_by, (empty_iff V).1 h3]; rfl
        obtain rfl : R = true := hR.2 ⟨h1.1, h1.2, h2, fun _ => h3⟩
        clear hR
        cases G with
        | false =>
          go_enter Tryz.func190, Tryz.ntmps190
          go_wp2_with (first | (go_at_call 199; refine (keyOk_is A (by omega) true (by simp [h1]) _).mono ?_; rintro e w1 ⟨rfl, rfl⟩) | (go_at_call 237; refine (valueOk_is V (by omega) true (by simp [h2]) _).mono ?_; rintro e w1 ⟨rfl, rfl⟩))
          go_ret
          exact ⟨rfl, (Below.refl _ _).alloc (Nat.le_refl _) _⟩
        | true =>
          go_enter Tryz.func190, Tryz.ntmps190
          go_wp2_with (first | (go_at_call 199; refine (keyOk_is A (by omega) true (by simp [h1]) _).mono ?_; rintro e w1 ⟨rfl, rfl⟩) | (go_at_call 237; refine (valueOk_is V (by omega) true (by simp [h2]) _).mono ?_; rintro e w1 ⟨rfl, rfl⟩))
          go_ret
          exact ⟨rfl, (Below.refl _ _).alloc (Nat.le_refl _) _⟩
      · have e4 : (V.toList == []) = false := empty_no (fun h => h3 ((empty_iff V).2 h))
        cases G with
        | false =>
          obtain rfl : R = true := hR.2 ⟨h1.1, h1.2, h2, fun h => by cases h⟩
          clear hR
          go_enter Tryz.func190, Tryz.ntmps190
          go_wp2_with (first | (go_at_call 199; refine (keyOk_is A (by omega) true (by simp [h1]) _).mono ?_; rintro e w1 ⟨rfl, rfl⟩) | (go_at_call 237; refine (valueOk_is V (by omega) true (by simp [h2]) _).mono ?_; rintro e w1 ⟨rfl, rfl⟩))
          go_ret
          exact ⟨rfl, (Below.refl _ _).alloc (Nat.le_refl _) _⟩
        | true =>
          obtain rfl : R = false := ans_no hR (fun h => h3 (h.2.2.2 rfl))
          clear hR
          go_enter Tryz.func190, Tryz.ntmps190
          go_wp2_with (first | (go_at_call 199; refine (keyOk_is A (by omega) true (by simp [h1]) _).mono ?_; rintro e w1 ⟨rfl, rfl⟩) | (go_at_call 237; refine (valueOk_is V (by omega) true (by simp [h2]) _).mono ?_; rintro e w1 ⟨rfl, rfl⟩))
          go_ret
          exact ⟨rfl, (Below.refl _ _).alloc (Nat.le_refl _) _⟩
    · obtain rfl : R = false := ans_no hR (fun h => h2 h.2.2.1)
      clear hR
      go_enter Tryz.func190, Tryz.ntmps190
      go_wp2_with (first | (go_at_call 199; refine (keyOk_is A (by omega) true (by simp [h1]) _).mono ?_; rintro e w1 ⟨rfl, rfl⟩) | (go_at_call 237; refine (valueOk_is V (by omega) false (by simp [h2]) _).mono ?_; rintro e w1 ⟨rfl, rfl⟩))
      go_ret
      exact ⟨rfl, (Below.refl _ _).alloc (Nat.le_refl _) _⟩
  · obtain rfl : R = false := ans_no hR (fun h => h1 ⟨h.1, h.2.1⟩)
    clear hR
    go_enter Tryz.func190, Tryz.ntmps190
    go_wp2_with (first | (go_at_call 199; refine (keyOk_is A (by omega) false (by simp [h1]) _).mono ?_; rintro e w1 ⟨rfl, rfl⟩))
    go_ret
    exact ⟨rfl, (Below.refl _ _).alloc (Nat.le_refl _) _⟩

/-- The key ahead of the k-th. -/
def Prev (l : List ChangeL) (k : Nat) (S : ByteArray) : Prop := (k = 0 ∧ S = ⟨#[]⟩) ∨ (0 < k ∧ ∃ h : k - 1 < l.length, S = l[k - 1].key)
theorem prev_okAt {l : List ChangeL} {k : Nat} {S A : ByteArray} (hk : k < l.length) (hp : Prev l k S) (hA : A = l[k].key) : Batches.okAt l k ↔ Batches.changeOk l[k] ∧ Batches.lt S A = true := by
  subst hA
  rcases hp with ⟨h0, rfl⟩ | ⟨h0, h1, rfl⟩
  · constructor
    · rintro ⟨_, h2, _⟩
      refine ⟨h2, (Batches.lt_iff _ _).2 ?_⟩
      have h3 := h2.1
      rw [← Words.size_list] at h3
      show ([] : List UInt8) < _
      cases e : l[k].key.data.toList with
      | nil => rw [e] at h3; simp at h3
      | cons x r => rw [Batches.by_, e]; exact List.nil_lt_cons _ _
    · rintro ⟨h2, _⟩
      exact ⟨hk, h2, fun h => absurd h (by omega)⟩
  · constructor
    · rintro ⟨_, h2, h3⟩
      exact ⟨h2, (h3 h0).2⟩
    · rintro ⟨h2, h3⟩
      exact ⟨hk, h2, fun _ => ⟨h1, h3⟩⟩
theorem le_of_lt {S A : ByteArray} (h : Batches.lt S A = true) : (Op.bytesLess A.toList S.toList || A.toList == S.toList) = false := by
  have h1 := Batches.lt_asymm h
  unfold Batches.lt at h1
  rw [h1, Bool.false_or]
  cases e : (A.toList == S.toList)
  · rfl
  · have e2 : A.toList = S.toList := by simpa using e
    rw [Batches.toList_by, Batches.toList_by] at e2
    rw [Batches.by_inj e2, Batches.lt_irrefl] at h
    cases h
theorem le_of_not {S A : ByteArray} (h : ¬ Batches.lt S A = true) : (Op.bytesLess A.toList S.toList || A.toList == S.toList) = true := by
  have h1 : Batches.lt S A = false := by simpa using h
  cases e : Batches.lt A S
  · have := Batches.lt_total e h1
    rw [this]; simp
  · unfold Batches.lt at e
    rw [e]; rfl
set_option maxHeartbeats 1000000 in
set_option maxRecDepth 100000 in
theorem implOk_any (R : Bool) (st : Int) {a : Option Addr} {g off cap : Nat} (l : List ChangeL) (hlen : l.length ≤ 2097152) (w : World) (hf : ChangeAt w a g off l) (hsz : ∀ c ∈ l, smallChange 2097152 c) (hR : R = true ↔ Batches.ok st l) :
    Calls Tryz.prog 137 #[.agg #[.int .i64 st, .slice a l.length cap]] w fun e w' => e = .returned (.bool R) ∧ Below w.heap.size w w' := by
  have HR : Hid (R = true ↔ Batches.ok st l) := hR
  clear hR
  have HF : Hid (ChangeAt w a g off l) := hf
  have HS : Hid (∀ c ∈ l, smallChange 2097152 c) := hsz
  clear hf hsz
  by_cases hst : 0 ≤ st ∧ st ≤ 100000
  · by_cases h60 : 60 < l.length
    · have h1 : (60 : Int) < (l.length : Int) := by omega
      go_enter Tryz.func137, Tryz.ntmps137
      go_wp2_with (go_at_call 189; refine (stampOk_is st true (by simp [hst]) _).mono ?_; rintro e w1 ⟨rfl, rfl⟩)
      go_ret
      exact ⟨by rw [ans_no HR.out (fun h => by have := h.2.1; omega)]; rfl, (Below.refl _ _).alloc (Nat.le_refl _) _⟩
    · have h1 : ¬ (60 : Int) < (l.length : Int) := by omega
      go_enter Tryz.func137, Tryz.ntmps137
      go_wp2_with (go_at_call 189; refine (stampOk_is st true (by simp [hst]) _).mono ?_; rintro e w1 ⟨rfl, rfl⟩)
      go_loopw [3, 19] (fun x i wr => ∃ (k : Nat) (S : ByteArray), k ≤ l.length ∧ i = .int .i64 (k : Int) ∧ x = .string S ∧ Prev l k S ∧ (∀ j, j < k → Batches.okAt l j) ∧ Below w.heap.size w wr)
        (fun _ i _ => l.length - (intOf i).toNat)
      case atStart => exact ⟨0, ⟨#[]⟩, Nat.zero_le _, rfl, rfl, Or.inl ⟨rfl, rfl⟩, fun j hj => absurd hj (Nat.not_lt_zero _), (Below.refl _ _).alloc (Nat.le_refl _) _⟩
      case round =>
        obtain ⟨k, S, hk, rfl, rfl, hprev, hall, hbel⟩ := hrel
        have HP : Hid (Prev l k S) := hprev
        have HA : Hid (∀ j, j < k → Batches.okAt l j) := hall
        clear hall hprev
        by_cases hlt : k < l.length
        · obtain ⟨c0, c1, c2⟩ := (HF.out.kept hbel).2 k hlt
          have ea := HF.out.1 (by omega)
          subst ea
          obtain ⟨A, hA⟩ : ∃ A, A = l[k].key := ⟨_, rfl⟩
          obtain ⟨V, hV⟩ : ∃ V, V = l[k].value := ⟨_, rfl⟩
          obtain ⟨G, hG⟩ : ∃ G, G = l[k].gone := ⟨_, rfl⟩
          obtain ⟨s0, s1⟩ := HS.out l[k] (List.getElem_mem _)
          rw [← hA] at c0 s0
          rw [← hV] at c1 s1
          rw [← hG] at c2
          have HAA : Hid (A = l[k].key) := hA
          have HE : Hid (l[k] = ⟨A, V, G⟩) := by show _ = _; rw [hA, hV, hG]
          clear hA hV hG
          have hk0 : (0 : Int) ≤ (k : Int) := by omega
          have hk1 : (k : Int) < (l.length : Int) := by omega
          go_wp2_with fail
          obtain ⟨W1, hW1⟩ : ∃ W1, W1 = wr.alloc (Obj.cells #[Value.string A, Value.string V, Value.bool G] 149) := ⟨_, rfl⟩
          rw [← hW1]
          have hB1 : Below wr.heap.size wr W1 := by rw [hW1]; exact (Below.refl _ _).alloc (Nat.le_refl _) _
          have f0 : W1.cell? ⟨wr.heap.size, 0, none⟩ = some (.string A) := by rw [hW1]; exact cell_of_row _ _ 0 _ _ _ (heap_alloc_new wr _)
          have hz1 : wr.heap.size < W1.heap.size := World.block_lt_of_cell? W1 _ f0
          have hw1 : Below w.heap.size w W1 := hbel.trans (hB1.mono hbel.size)
          clear hW1 c0 c1 c2
          by_cases hch : Batches.changeOk ⟨A, V, G⟩
          · refine (changeOk_is ⟨A, V, G⟩ s0 s1 true (by simp [hch]) W1).mono ?_
            rintro e w2 ⟨rfl, hb2⟩
            have hw2 : Below w.heap.size w w2 := hw1.trans (hb2.mono hw1.size)
            have f2 : w2.cell? ⟨wr.heap.size, 0, none⟩ = some (.string A) := (hb2.cell (p := ⟨wr.heap.size, 0, none⟩) hz1).trans f0
            clear f0 hw1 hb2 hB1 hz1
            by_cases hls : Batches.lt S A = true
            · have hle := le_of_lt hls
              have HN : Hid (Batches.okAt l k) := (prev_okAt hlt HP.out HAA.out).2 ⟨by rw [HE.out]; exact hch, hls⟩
              clear hls hch
              go_wp2
              go_roundw
              case rel => exact ⟨k + 1, A, by omega, by go_num, rfl, Or.inr ⟨by omega, hlt, HAA.out⟩, Batches.ok_step HA.out HN.out, hw2⟩
              case measure => simp [intOf]; omega
            · have hle := le_of_not hls
              have HN : Hid (¬ Batches.okAt l k) := fun h => hls ((prev_okAt hlt HP.out HAA.out).1 h).2
              clear hls hch
              go_wp2
              go_ret
              exact ⟨by rw [ans_no HR.out (Batches.not_ok hlt HN.out)]; rfl, hw2⟩
          · refine (changeOk_is ⟨A, V, G⟩ s0 s1 false (by simp [hch]) W1).mono ?_
            rintro e w2 ⟨rfl, hb2⟩
            have hw2 : Below w.heap.size w w2 := hw1.trans (hb2.mono hw1.size)
            have HN : Hid (¬ Batches.okAt l k) := fun h => hch (by have := h.2.1; rw [HE.out] at this; exact this)
            clear hch
            go_wp2
            go_ret
            exact ⟨by rw [ans_no HR.out (Batches.not_ok hlt HN.out)]; rfl, hw2⟩
        · have hk1 : ¬ (k : Int) < (l.length : Int) := by omega
          go_wp2
          go_ret
          exact ⟨by rw [HR.out.2 ⟨hst, by omega, fun j hj => HA.out j (by omega)⟩]; rfl, hbel⟩
  · go_enter Tryz.func137, Tryz.ntmps137
    go_wp2_with (go_at_call 189; refine (stampOk_is st false (by simp [hst]) _).mono ?_; rintro e w1 ⟨rfl, rfl⟩)
    go_ret
    exact ⟨by rw [ans_no HR.out (fun h => hst h.1)]; rfl, (Below.refl _ _).alloc (Nat.le_refl _) _⟩
end Go.Proofs.YtbcfiiilikkkeaaGreatDoor
namespace Go.Proofs.YtbcfiiilikkkeaaGreatDoor
open Go.RowKit
set_option linter.unusedVariables false

theorem catch_panicking (p : Addr) (x : Bool) (u : TypeId) (pv : Value) (older : List PanicEntry) (w : World) (hc : w.cell? p = some (.bool x)) (hz : w.frozen? p = false) :
    CallsD Tryz.prog 243 #[.pointer (some p)] (.panicking ({ v := .iface u pv, recovered := false } :: older)) w fun e u' w' =>
      e = .returned (.tuple #[]) ∧ u' = .panicking ({ v := .iface u pv, recovered := true } :: older) ∧ w' = w.setCell p (.bool false) := by
  refine callsD_of_wpS Tryz.func243 rfl fun c₀ cs hu => ?_
  apply wpS_seq
  apply wpS_region
  simp [wpOpsS, go_sem, recoverD, hu, Tryz.ntmps243, Exit.thenS]
  refine wpS_cond (t := true) (by simp [Act.eval, Array.replicate]) ?_
  simp only [if_true]
  apply wpS_region
  simp [wpOpsS, go_sem, hc, hz, bodyPostS, results, Tryz.results243]

theorem catch_idle (p : Addr) (w : World) :
    CallsD Tryz.prog 243 #[.pointer (some p)] .returning w fun e u' w' => e = .returned (.tuple #[]) ∧ u' = .returning ∧ w' = w := by
  refine callsD_of_wpS Tryz.func243 rfl fun c₀ cs hu => ?_
  apply wpS_seq
  apply wpS_region
  simp [wpOpsS, go_sem, recoverD, hu, Tryz.ntmps243, Exit.thenS]
  refine wpS_cond (t := false) (by simp [Act.eval, Array.replicate]) ?_
  simp only [Bool.false_eq_true, if_false]
  refine wpS_of_wp (wp_skip ?_)
  cases c₀
  simp_all [bodyPostS, results, Tryz.results243]

/-- How the reading of a text breaks off. -/
def Reads (t : ByteArray) : Prop := Words.rd t.data.toList 0 = none ∨ (∃ st a1, Words.rd t.data.toList 0 = some (st, a1) ∧ Words.rd t.data.toList a1 = none) ∨
  (∃ st a1 n a2, Words.rd t.data.toList 0 = some (st, a1) ∧ Words.rd t.data.toList a1 = some (n, a2) ∧ ¬ n ≤ 60) ∨ (∃ st a1 n a2, Words.rd t.data.toList 0 = some (st, a1) ∧ Words.rd t.data.toList a1 = some (n, a2) ∧ n ≤ 60 ∧ Batches.rdMany t n a2 = none)
theorem Reads.nostamp {t : ByteArray} (h1 : Words.rd t.data.toList 0 = none) : Reads t := Or.inl h1
theorem Reads.nocount {t : ByteArray} (st a1 : Nat) (h1 : Words.rd t.data.toList 0 = some (st, a1)) (h2 : Words.rd t.data.toList a1 = none) : Reads t := Or.inr (Or.inl ⟨st, a1, h1, h2⟩)
theorem Reads.over {t : ByteArray} (st a1 n a2 : Nat) (h1 : Words.rd t.data.toList 0 = some (st, a1)) (h2 : Words.rd t.data.toList a1 = some (n, a2)) (hn : ¬ n ≤ 60) : Reads t := Or.inr (Or.inr (Or.inl ⟨st, a1, n, a2, h1, h2, hn⟩))
theorem Reads.torn {t : ByteArray} (st a1 n a2 : Nat) (h1 : Words.rd t.data.toList 0 = some (st, a1)) (h2 : Words.rd t.data.toList a1 = some (n, a2)) (hn : n ≤ 60) (h3 : Batches.rdMany t n a2 = none) : Reads t := Or.inr (Or.inr (Or.inr ⟨st, a1, n, a2, h1, h2, hn, h3⟩))
theorem batch_thrown {rb : Nat} {t : ByteArray} (hs : t.size ≤ 1048576) (w : World) (hr : Rd w rb t 0) (h : Reads t) :
    Calls Tryz.prog 228 #[.pointer (some ⟨rb, 0, none⟩)] w fun en w' => en = .panicked thrown ∧ w.grownBy w' (some rb) := by
  rcases h with h1 | ⟨st, a1, h1, h2⟩ | ⟨st, a1, n, a2, h1, h2, hn⟩ | ⟨st, a1, n, a2, h1, h2, hn, h3⟩
  · exact batch_nostamp hs w hr h1
  · exact batch_nocount hs w hr h1 h2
  · exact batch_over hs w hr h1 h2 hn
  · exact batch_torn hs w hr h1 h2 hn h3
/-- What is read, up to e. -/
def Gets (t : ByteArray) (st : Nat) (l : List ChangeL) (e : Nat) : Prop := ∃ a1 n a2, Words.rd t.data.toList 0 = some (st, a1) ∧ Words.rd t.data.toList a1 = some (n, a2) ∧ n ≤ 60 ∧ Batches.rdMany t n a2 = some (l, e)
theorem reads_or (t : ByteArray) : Reads t ∨ ∃ st l e, Gets t st l e := by
  cases h1 : Words.rd t.data.toList 0 with
  | none => exact Or.inl (Reads.nostamp h1)
  | some p =>
    obtain ⟨st, a1⟩ := p
    cases h2 : Words.rd t.data.toList a1 with
    | none => exact Or.inl (Reads.nocount st a1 h1 h2)
    | some q =>
      obtain ⟨n, a2⟩ := q
      by_cases hn : n ≤ 60
      · cases h3 : Batches.rdMany t n a2 with
        | none => exact Or.inl (Reads.torn st a1 n a2 h1 h2 hn h3)
        | some r => obtain ⟨l, e⟩ := r; exact Or.inr ⟨st, l, e, a1, n, a2, h1, h2, hn, h3⟩
      · exact Or.inl (Reads.over st a1 n a2 h1 h2 hn)
theorem batch_gets {rb : Nat} {t : ByteArray} {st e : Nat} {l : List ChangeL} (hs : t.size ≤ 1048576) (w : World) (hr : Rd w rb t 0) (h : Gets t st l e) :
    Calls Tryz.prog 228 #[.pointer (some ⟨rb, 0, none⟩)] w fun en w' => ∃ v, en = .returned (.agg #[.int .i64 (st : Int), v]) ∧ w'.ownsRow w.heap.size 149 3 v l.length (cellsChange l) ∧ Rd w' rb t e ∧ w.grownBy w' (some rb) := by
  obtain ⟨a1, n, a2, h1, h2, hn, h3⟩ := h
  exact batch_some hs w hr h1 h2 hn h3

set_option maxHeartbeats 400000 in
theorem lit_thrown {rb B0 : Nat} {t : ByteArray} (hs : t.size ≤ 1048576) (w : World) (hr : Rd w rb t 0) (h : Reads t) :
    Calls Tryz.prog 227 #[.pointer (some ⟨rb, 0, none⟩), .pointer (some ⟨B0, 0, none⟩)] w fun en w' => en = .panicked thrown ∧ w.grownBy w' (some rb) := by
  have HR : Hid (Rd w rb t 0) := hr
  clear hr
  go_enter Tryz.func227, Tryz.ntmps227
  go_wp2_with (go_at_call 228; refine (batch_thrown hs _ HR.out h).mono ?_; rintro e w1 ⟨rfl, hg1⟩)
  exact ⟨rfl, rfl, hg1⟩
set_option maxHeartbeats 400000 in
theorem lit_gets {rb B0 : Nat} {t : ByteArray} {st e : Nat} {l : List ChangeL} (hs : t.size ≤ 1048576) (w : World) (hr : Rd w rb t 0) (h : Gets t st l e) (hne : B0 ≠ rb) (hB : w.heap[B0]? = some (.cells #[.int .i64 0, .slice none 0 0] 51 (0, 0))) :
    Calls Tryz.prog 227 #[.pointer (some ⟨rb, 0, none⟩), .pointer (some ⟨B0, 0, none⟩)] w fun en w' => en = .returned (.tuple #[]) ∧
      ∃ v w1, w.grownBy w1 (some rb) ∧ w1.grownBy w' (some B0) ∧ w'.heap[B0]? = some (.cells #[.int .i64 (st : Int), v] 51 (0, 0)) ∧ w'.ownsRow w.heap.size 149 3 v l.length (cellsChange l) ∧ Rd w' rb t e := by
  have HR : Hid (Rd w rb t 0) := hr
  have HB : Hid (_ = _) := hB
  clear hr hB
  go_enter Tryz.func227, Tryz.ntmps227
  go_wp2_with fail
  refine (batch_gets hs _ HR.out h).mono ?_
  rintro en w1 ⟨v, rfl, hown, hr1, hg1⟩
  obtain ⟨va, vc, rfl⟩ := own_slice hown
  have hb1 := grown_keep HB.out hg1 hne
  have HB1 : Hid (_ = _) := hb1
  have HO1 : Hid (w1.ownsRow w.heap.size 149 3 (.slice va l.length vc) l.length (cellsChange l)) := hown
  have HR1 : Hid (Rd w1 rb t e) := hr1
  have HG1 : Hid (w.grownBy w1 (some rb)) := hg1
  have c0 := cell_of_row _ _ 0 _ _ _ hb1
  have c1 := cell_of_row _ _ 1 _ _ _ hb1
  have f0 := frozen_of_row _ _ 0 _ _ hb1
  have f1 := frozen_of_row _ _ 1 _ _ hb1
  simp at c0 c1
  clear hown hr1 hg1 hb1
  go_wp2
  go_end0
  refine ⟨rfl, .slice va l.length vc, w1, HG1.out, (grown_set _ _ _ _).trans (grown_set _ _ _ _), two_set HB1.out _ _, ?_, (HR1.out.setNew hne.symm 0 _).setNew hne.symm 1 _⟩
  exact own_set (own_set HO1.out _ _ _ (own_not HO1.out HB1.out (by decide))) _ _ _ (own_not HO1.out HB1.out (by decide))
end Go.Proofs.YtbcfiiilikkkeaaGreatDoor
namespace Go.Proofs.YtbcfiiilikkkeaaGreatDoor
open Go.RowKit
set_option linter.unusedVariables false

/-- What readWhole lays ahead of the reading: the named result, the reader. -/
theorem whole_start (t : ByteArray) (w : World) (B0 : Nat) : ∃ W, W = ((w.alloc (Obj.cells #[Value.bool false] 4)).alloc (Obj.cells #[Value.string t, Value.int IntKind.i64 0] 299)) ∧ Rd W (w.heap.size + 1) t 0 ∧ W.heap[w.heap.size]? = some (.cells #[.bool false] 4 (0, 0)) ∧ w.grownBy W (some B0) ∧ w.heap.size + 2 ≤ W.heap.size := by
  refine ⟨_, rfl, ⟨?_, Nat.zero_le _⟩, ?_, (grown_alloc _ _).trans (grown_alloc _ _), by simp⟩
  · have := heap_alloc_new (w.alloc (Obj.cells #[Value.bool false] 4)) (Obj.cells #[Value.string t, Value.int IntKind.i64 0] 299)
    simpa using this
  · rw [Below.heap_alloc _ _ _ (by simp)]
    exact heap_alloc_new w _

set_option maxHeartbeats 400000 in
set_option maxRecDepth 100000 in
theorem whole_thrown {B0 : Nat} {t : ByteArray} (hs : t.size ≤ 1048576) (w : World) (hB0 : B0 < w.heap.size) (h : Reads t) :
    Calls Tryz.prog 201 #[.string t, .func (.func 227) #[] #[.pointer (some ⟨B0, 0, none⟩)]] w fun en w' => en = .returned (.bool false) ∧ w.grownBy w' (some B0) := by
  have hmf : ∀ (fn : Fn) (first cap : Array Value) (w : World), (Instr.makeFunc fn first cap).run Tryz.prog w = .ok (.func fn first cap) w := fun _ _ _ _ => rfl
  have HH : Hid (Reads t) := h
  clear h
  obtain ⟨W, hW, hr, hwh, hg, hz⟩ := whole_start t w B0
  have HR : Hid (Rd W (w.heap.size + 1) t 0) := hr
  have HW : Hid (_ = _) := hwh
  have HG : Hid (w.grownBy W (some B0)) := hg
  clear hr hwh hg
  go_enter_defers Tryz.func201, Tryz.ntmps201
  go_wp2_with fail
  rw [← hW]
  refine (lit_thrown hs W HR.out HH.out).mono ?_
  rintro en w1 ⟨rfl, hg1⟩
  have hw1 := grown_keep HW.out hg1 (by omega)
  have hg2 : w.grownBy w1 (some B0) := HG.out.andThen hg1 (fun r e => Or.inl (by cases e; omega))
  have c0 := cell_of_row _ _ 0 _ _ _ hw1
  have f0 := frozen_of_row _ _ 0 _ _ hw1
  simp at c0
  refine leaves_cons (f := 243) (args := #[.pointer (some ⟨w.heap.size, 0, none⟩)]) (by simp) (by simp [go_sem]) ?_
  refine (catch_panicking ⟨w.heap.size, 0, none⟩ false 375 (.agg #[]) [] w1 c0 f0).mono ?_
  rintro e u' w'' ⟨rfl, rfl, rfl⟩
  have c1 : (w1.setCell ⟨w.heap.size, 0, none⟩ (.bool false)).cell? ⟨w.heap.size, 0, none⟩ = some (.bool false) := World.cell?_setCell_same _ _ _ c0
  simp [Leaves, settle, results, Tryz.results201, go_sem, c1]
  exact grown_new hg2 (Nat.le_refl _) _ _

set_option maxHeartbeats 400000 in
set_option maxRecDepth 100000 in
theorem whole_gets {B0 : Nat} {t : ByteArray} {st e : Nat} {l : List ChangeL} (hs : t.size ≤ 1048576) (w : World) (hB : w.heap[B0]? = some (.cells #[.int .i64 0, .slice none 0 0] 51 (0, 0))) (h : Gets t st l e) (R : Bool) (hR : R = ((e : Int) == (t.size : Int))) :
    Calls Tryz.prog 201 #[.string t, .func (.func 227) #[] #[.pointer (some ⟨B0, 0, none⟩)]] w fun en w' => en = .returned (.bool R) ∧ w.grownBy w' (some B0) ∧
      ∃ v, w'.heap[B0]? = some (.cells #[.int .i64 (st : Int), v] 51 (0, 0)) ∧ w'.ownsRow w.heap.size 149 3 v l.length (cellsChange l) := by
  have hmf : ∀ (fn : Fn) (first cap : Array Value) (w : World), (Instr.makeFunc fn first cap).run Tryz.prog w = .ok (.func fn first cap) w := fun _ _ _ _ => rfl
  have hB0 : B0 < w.heap.size := (Array.getElem?_eq_some_iff.1 hB).1
  obtain ⟨W, hW, hr, hwh, hg, hz⟩ := whole_start t w B0
  have HH : Hid (Gets t st l e) := h
  have HB : Hid (W.heap[B0]? = some (.cells #[.int .i64 0, .slice none 0 0] 51 (0, 0))) := by
    show _ = _
    rw [hW, Below.heap_alloc _ _ _ (by simp; omega), Below.heap_alloc _ _ _ hB0]; exact hB
  have HR : Hid (Rd W (w.heap.size + 1) t 0) := hr
  have HW : Hid (W.heap[w.heap.size]? = some (.cells #[.bool false] 4 (0, 0))) := hwh
  have HG : Hid (w.grownBy W (some B0)) := hg
  clear hr hwh hg h hB
  go_enter_defers Tryz.func201, Tryz.ntmps201
  go_wp2_with fail
  rw [← hW]
  refine (lit_gets hs W HR.out HH.out (by omega) HB.out).mono ?_
  rintro en w2 ⟨rfl, v, w1, hg1, hg2, hb2, hown, hr2⟩
  have hw2 := grown_keep (grown_keep HW.out hg1 (by omega)) hg2 (by omega)
  have HG2 : Hid (w.grownBy w2 (some B0)) := (HG.out.andThen hg1 (fun r e => Or.inl (by cases e; omega))).trans hg2
  have HB2 : Hid (_ = _) := hb2
  have HO2 : Hid (w2.ownsRow w.heap.size 149 3 v l.length (cellsChange l)) := own_mono hown (by omega)
  have HW2 : Hid (w2.heap[w.heap.size]? = some (.cells #[.bool false] 4 (0, 0))) := hw2
  have c0 := cell_of_row _ _ 0 _ _ _ hw2
  have f0 := frozen_of_row _ _ 0 _ _ hw2
  have q0 := hr2.c0
  have q1 := hr2.c1
  simp at c0
  clear hw2 hg1 hg2 hb2 hown hr2 hW
  go_wp2
  refine leaves_cons (f := 243) (args := #[.pointer (some ⟨w.heap.size, 0, none⟩)]) (by simp) (by simp [go_sem]) ?_
  refine (catch_idle ⟨w.heap.size, 0, none⟩ _).mono ?_
  rintro e u' w'' ⟨rfl, rfl, rfl⟩
  rw [← hR]
  have c1 : (w2.setCell ⟨w.heap.size, 0, none⟩ (.bool R)).cell? ⟨w.heap.size, 0, none⟩ = some (.bool R) := World.cell?_setCell_same _ _ _ c0
  simp [Leaves, settle, results, Tryz.results201, go_sem, c1]
  exact ⟨grown_new HG2.out (Nat.le_refl _) _ _, v, set_far HB2.out (by omega) _ _, own_set HO2.out _ _ _ (own_not HO2.out HW2.out (by decide))⟩
end Go.Proofs.YtbcfiiilikkkeaaGreatDoor
