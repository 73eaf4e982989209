/- The calls of the program's stampOk, changeOk, BatchOk, walked. -/
import Derived.Test.YtpedpdgkbmpfjaaDoorMathCmd
import Derived.Test.YtpedpdgkbmpfjaaDoorSpecOk
namespace Go.Proofs.YtpedpdgkbmpfjaaDoor
open Go.RowKit

set_option maxHeartbeats 400000 in
theorem keyOk_is (k : ByteArray) (hk : k.size ≤ 9223372036854775807) (R : Bool) (hR : R = true ↔ 1 ≤ k.size ∧ k.size ≤ 10) (w : World) :
    Calls Tryd.prog 71 #[.string k] w fun e w' => e = .returned (.bool R) ∧ w' = w := by
  by_cases h1 : 1 ≤ k.size
  · have a1 : (1 : Int) ≤ (k.size : Int) := by omega
    by_cases h2 : k.size ≤ 10
    · have a2 : (k.size : Int) ≤ 10 := by omega
      obtain rfl : R = true := hR.2 ⟨h1, h2⟩
      clear hR
      go_enter Tryd.func71, Tryd.ntmps71
      go_wp2
      go_ret
      exact ⟨rfl, rfl⟩
    · have a2 : ¬ (k.size : Int) ≤ 10 := by omega
      obtain rfl : R = false := ans_no hR (fun h => h2 h.2)
      clear hR
      go_enter Tryd.func71, Tryd.ntmps71
      go_wp2
      go_ret
      exact ⟨rfl, rfl⟩
  · have a1 : ¬ (1 : Int) ≤ (k.size : Int) := by omega
    obtain rfl : R = false := ans_no hR (fun h => h1 h.1)
    clear hR
    go_enter Tryd.func71, Tryd.ntmps71
    go_wp2
    go_ret
    exact ⟨rfl, rfl⟩
set_option maxHeartbeats 400000 in
theorem valueOk_is (v : ByteArray) (hk : v.size ≤ 9223372036854775807) (R : Bool) (hR : R = true ↔ v.size ≤ 40) (w : World) :
    Calls Tryd.prog 72 #[.string v] w fun e w' => e = .returned (.bool R) ∧ w' = w := by
  by_cases h1 : v.size ≤ 40
  · have a1 : (v.size : Int) ≤ 40 := by omega
    obtain rfl : R = true := hR.2 h1
    clear hR
    go_enter Tryd.func72, Tryd.ntmps72
    go_wp2
    go_ret
    exact ⟨rfl, rfl⟩
  · have a1 : ¬ (v.size : Int) ≤ 40 := by omega
    obtain rfl : R = false := ans_no hR h1
    clear hR
    go_enter Tryd.func72, Tryd.ntmps72
    go_wp2
    go_ret
    exact ⟨rfl, rfl⟩
set_option maxHeartbeats 1000000 in
theorem changeOk_is (c : ChangeL) (hk : c.key.size ≤ 2097152) (hv : c.value.size ≤ 2097152) (R : Bool) (hR : R = true ↔ Batches.changeOk c) (w : World) :
    Calls Tryd.prog 90 #[changeV c] w fun e w' => e = .returned (.bool R) ∧ Below w.heap.size w w' := by
  obtain ⟨A, V, G⟩ := c
  unfold changeV
  simp only at hk hv ⊢
  by_cases h1 : 1 ≤ A.size ∧ A.size ≤ 10
  · by_cases h2 : V.size ≤ 40
    · by_cases h3 : V.size = 0
      · have e4 : (V.toList == []) = true := by rw [Batches.toList_by, (empty_iff V).1 h3]; rfl
        obtain rfl : R = true := hR.2 ⟨h1.1, h1.2, h2, fun _ => h3⟩
        clear hR
        cases G with
        | false =>
          go_enter Tryd.func90, Tryd.ntmps90
          go_wp2_with (first | (go_at_call 71; refine (keyOk_is A (by omega) true (by simp [h1]) _).mono ?_; rintro e w1 ⟨rfl, rfl⟩) | (go_at_call 72; refine (valueOk_is V (by omega) true (by simp [h2]) _).mono ?_; rintro e w1 ⟨rfl, rfl⟩))
          go_ret
          exact ⟨rfl, (Below.refl _ _).alloc (Nat.le_refl _) _⟩
        | true =>
          go_enter Tryd.func90, Tryd.ntmps90
          go_wp2_with (first | (go_at_call 71; refine (keyOk_is A (by omega) true (by simp [h1]) _).mono ?_; rintro e w1 ⟨rfl, rfl⟩) | (go_at_call 72; refine (valueOk_is V (by omega) true (by simp [h2]) _).mono ?_; rintro e w1 ⟨rfl, rfl⟩))
          go_ret
          exact ⟨rfl, (Below.refl _ _).alloc (Nat.le_refl _) _⟩
      · have e4 : (V.toList == []) = false := empty_no (fun h => h3 ((empty_iff V).2 h))
        cases G with
        | false =>
          obtain rfl : R = true := hR.2 ⟨h1.1, h1.2, h2, fun h => by cases h⟩
          clear hR
          go_enter Tryd.func90, Tryd.ntmps90
          go_wp2_with (first | (go_at_call 71; refine (keyOk_is A (by omega) true (by simp [h1]) _).mono ?_; rintro e w1 ⟨rfl, rfl⟩) | (go_at_call 72; refine (valueOk_is V (by omega) true (by simp [h2]) _).mono ?_; rintro e w1 ⟨rfl, rfl⟩))
          go_ret
          exact ⟨rfl, (Below.refl _ _).alloc (Nat.le_refl _) _⟩
        | true =>
          obtain rfl : R = false := ans_no hR (fun h => h3 (h.2.2.2 rfl))
          clear hR
          go_enter Tryd.func90, Tryd.ntmps90
          go_wp2_with (first | (go_at_call 71; refine (keyOk_is A (by omega) true (by simp [h1]) _).mono ?_; rintro e w1 ⟨rfl, rfl⟩) | (go_at_call 72; refine (valueOk_is V (by omega) true (by simp [h2]) _).mono ?_; rintro e w1 ⟨rfl, rfl⟩))
          go_ret
          exact ⟨rfl, (Below.refl _ _).alloc (Nat.le_refl _) _⟩
    · obtain rfl : R = false := ans_no hR (fun h => h2 h.2.2.1)
      clear hR
      go_enter Tryd.func90, Tryd.ntmps90
      go_wp2_with (first | (go_at_call 71; refine (keyOk_is A (by omega) true (by simp [h1]) _).mono ?_; rintro e w1 ⟨rfl, rfl⟩) | (go_at_call 72; refine (valueOk_is V (by omega) false (by simp [h2]) _).mono ?_; rintro e w1 ⟨rfl, rfl⟩))
      go_ret
      exact ⟨rfl, (Below.refl _ _).alloc (Nat.le_refl _) _⟩
  · obtain rfl : R = false := ans_no hR (fun h => h1 ⟨h.1, h.2.1⟩)
    clear hR
    go_enter Tryd.func90, Tryd.ntmps90
    go_wp2_with (first | (go_at_call 71; refine (keyOk_is A (by omega) false (by simp [h1]) _).mono ?_; rintro e w1 ⟨rfl, rfl⟩))
    go_ret
    exact ⟨rfl, (Below.refl _ _).alloc (Nat.le_refl _) _⟩

/-- The key ahead of the k-th. -/
def Prev (l : List ChangeL) (k : Nat) (S : ByteArray) : Prop := (k = 0 ∧ S = ⟨#[]⟩) ∨ (0 < k ∧ ∃ h : k - 1 < l.length, S = l[k - 1].key)
theorem prev_okAt {l : List ChangeL} {k : Nat} {S A : ByteArray} (hk : k < l.length) (hp : Prev l k S) (hA : A = l[k].key) : Batches.okAt l k ↔ Batches.changeOk l[k] ∧ Batches.lt S A = true := by
  subst hA
  rcases hp with ⟨h0, rfl⟩ | ⟨h0, h1, rfl⟩
  · constructor
    · rintro ⟨_, h2, _⟩
      refine ⟨h2, (Batches.lt_iff _ _).2 ?_⟩
      have h3 := h2.1
      rw [← Words.size_list] at h3
      show ([] : List UInt8) < _
      cases e : l[k].key.data.toList with
      | nil => rw [e] at h3; simp at h3
      | cons x r => rw [Batches.by_, e]; exact List.nil_lt_cons _ _
    · rintro ⟨h2, _⟩
      exact ⟨hk, h2, fun h => absurd h (by omega)⟩
  · constructor
    · rintro ⟨_, h2, h3⟩
      exact ⟨h2, (h3 h0).2⟩
    · rintro ⟨h2, h3⟩
      exact ⟨hk, h2, fun _ => ⟨h1, h3⟩⟩
theorem le_of_lt {S A : ByteArray} (h : Batches.lt S A = true) : (Op.bytesLess A.toList S.toList || A.toList == S.toList) = false := by
  have h1 := Batches.lt_asymm h
  unfold Batches.lt at h1
  rw [h1, Bool.false_or]
  cases e : (A.toList == S.toList)
  · rfl
  · have e2 : A.toList = S.toList := by simpa using e
    rw [Batches.toList_by, Batches.toList_by] at e2
    rw [Batches.by_inj e2, Batches.lt_irrefl] at h
    cases h
theorem le_of_not {S A : ByteArray} (h : ¬ Batches.lt S A = true) : (Op.bytesLess A.toList S.toList || A.toList == S.toList) = true := by
  have h1 : Batches.lt S A = false := by simpa using h
  cases e : Batches.lt A S
  · have := Batches.lt_total e h1
    rw [this]; simp
  · unfold Batches.lt at e
    rw [e]; rfl
set_option maxHeartbeats 1000000 in
set_option maxRecDepth 100000 in
theorem implOk_any (R : Bool) (st : Int) {a : Option Addr} {g off cap : Nat} (l : List ChangeL) (hlen : l.length ≤ 2097152) (w : World) (hf : ChangeAt w a g off l) (hsz : ∀ c ∈ l, smallChange 2097152 c) (hR : R = true ↔ Batches.ok st l) :
    Calls Tryd.prog 77 #[.agg #[.int .i64 st, .slice a l.length cap]] w fun e w' => e = .returned (.bool R) ∧ Below w.heap.size w w' := by
  have HR : Hid (R = true ↔ Batches.ok st l) := hR
  clear hR
  have HF : Hid (ChangeAt w a g off l) := hf
  have HS : Hid (∀ c ∈ l, smallChange 2097152 c) := hsz
  clear hf hsz
  by_cases hst : 0 ≤ st ∧ st ≤ 100000
  · by_cases h60 : 60 < l.length
    · have h1 : (60 : Int) < (l.length : Int) := by omega
      go_enter Tryd.func77, Tryd.ntmps77
      go_wp2_with (go_at_call 33; refine (stampOk_is st true (by simp [hst]) _).mono ?_; rintro e w1 ⟨rfl, rfl⟩)
      go_ret
      exact ⟨by rw [ans_no HR.out (fun h => by have := h.2.1; omega)]; rfl, (Below.refl _ _).alloc (Nat.le_refl _) _⟩
    · have h1 : ¬ (60 : Int) < (l.length : Int) := by omega
      go_enter Tryd.func77, Tryd.ntmps77
      go_wp2_with (go_at_call 33; refine (stampOk_is st true (by simp [hst]) _).mono ?_; rintro e w1 ⟨rfl, rfl⟩)
      go_loopw [3, 19] (fun x i wr => ∃ (k : Nat) (S : ByteArray), k ≤ l.length ∧ i = .int .i64 (k : Int) ∧ x = .string S ∧ Prev l k S ∧ (∀ j, j < k → Batches.okAt l j) ∧ Below w.heap.size w wr)
        (fun _ i _ => l.length - (intOf i).toNat)
      case atStart => exact ⟨0, ⟨#[]⟩, Nat.zero_le _, rfl, rfl, Or.inl ⟨rfl, rfl⟩, fun j hj => absurd hj (Nat.not_lt_zero _), (Below.refl _ _).alloc (Nat.le_refl _) _⟩
      case round =>
        obtain ⟨k, S, hk, rfl, rfl, hprev, hall, hbel⟩ := hrel
        have HP : Hid (Prev l k S) := hprev
        have HA : Hid (∀ j, j < k → Batches.okAt l j) := hall
        clear hall hprev
        by_cases hlt : k < l.length
        · obtain ⟨c0, c1, c2⟩ := (HF.out.kept hbel).2 k hlt
          have ea := HF.out.1 (by omega)
          subst ea
          obtain ⟨A, hA⟩ : ∃ A, A = l[k].key := ⟨_, rfl⟩
          obtain ⟨V, hV⟩ : ∃ V, V = l[k].value := ⟨_, rfl⟩
          obtain ⟨G, hG⟩ : ∃ G, G = l[k].gone := ⟨_, rfl⟩
          obtain ⟨s0, s1⟩ := HS.out l[k] (List.getElem_mem _)
          rw [← hA] at c0 s0
          rw [← hV] at c1 s1
          rw [← hG] at c2
          have HAA : Hid (A = l[k].key) := hA
          have HE : Hid (l[k] = ⟨A, V, G⟩) := by show _ = _; rw [hA, hV, hG]
          clear hA hV hG
          have hk0 : (0 : Int) ≤ (k : Int) := by omega
          have hk1 : (k : Int) < (l.length : Int) := by omega
          go_wp2_with fail
          obtain ⟨W1, hW1⟩ : ∃ W1, W1 = wr.alloc (Obj.cells #[Value.string A, Value.string V, Value.bool G] 100) := ⟨_, rfl⟩
          rw [← hW1]
          have hB1 : Below wr.heap.size wr W1 := by rw [hW1]; exact (Below.refl _ _).alloc (Nat.le_refl _) _
          have f0 : W1.cell? ⟨wr.heap.size, 0, none⟩ = some (.string A) := by rw [hW1]; exact cell_of_row _ _ 0 _ _ _ (heap_alloc_new wr _)
          have hz1 : wr.heap.size < W1.heap.size := World.block_lt_of_cell? W1 _ f0
          have hw1 : Below w.heap.size w W1 := hbel.trans (hB1.mono hbel.size)
          clear hW1 c0 c1 c2
          by_cases hch : Batches.changeOk ⟨A, V, G⟩
          · refine (changeOk_is ⟨A, V, G⟩ s0 s1 true (by simp [hch]) W1).mono ?_
            rintro e w2 ⟨rfl, hb2⟩
            have hw2 : Below w.heap.size w w2 := hw1.trans (hb2.mono hw1.size)
            have f2 : w2.cell? ⟨wr.heap.size, 0, none⟩ = some (.string A) := (hb2.cell (p := ⟨wr.heap.size, 0, none⟩) hz1).trans f0
            clear f0 hw1 hb2 hB1 hz1
            by_cases hls : Batches.lt S A = true
            · have hle := le_of_lt hls
              have HN : Hid (Batches.okAt l k) := (prev_okAt hlt HP.out HAA.out).2 ⟨by rw [HE.out]; exact hch, hls⟩
              clear hls hch
              go_wp2
              go_roundw
              case rel => exact ⟨k + 1, A, by omega, by go_num, rfl, Or.inr ⟨by omega, hlt, HAA.out⟩, Batches.ok_step HA.out HN.out, hw2⟩
              case measure => simp [intOf]; omega
            · have hle := le_of_not hls
              have HN : Hid (¬ Batches.okAt l k) := fun h => hls ((prev_okAt hlt HP.out HAA.out).1 h).2
              clear hls hch
              go_wp2
              go_ret
              exact ⟨by rw [ans_no HR.out (Batches.not_ok hlt HN.out)]; rfl, hw2⟩
          · refine (changeOk_is ⟨A, V, G⟩ s0 s1 false (by simp [hch]) W1).mono ?_
            rintro e w2 ⟨rfl, hb2⟩
            have hw2 : Below w.heap.size w w2 := hw1.trans (hb2.mono hw1.size)
            have HN : Hid (¬ Batches.okAt l k) := fun h => hch (by have := h.2.1; rw [HE.out] at this; exact this)
            clear hch
            go_wp2
            go_ret
            exact ⟨by rw [ans_no HR.out (Batches.not_ok hlt HN.out)]; rfl, hw2⟩
        · have hk1 : ¬ (k : Int) < (l.length : Int) := by omega
          go_wp2
          go_ret
          exact ⟨by rw [HR.out.2 ⟨hst, by omega, fun j hj => HA.out j (by omega)⟩]; rfl, hbel⟩
  · go_enter Tryd.func77, Tryd.ntmps77
    go_wp2_with (go_at_call 33; refine (stampOk_is st false (by simp [hst]) _).mono ?_; rintro e w1 ⟨rfl, rfl⟩)
    go_ret
    exact ⟨by rw [ans_no HR.out (fun h => hst h.1)]; rfl, (Below.refl _ _).alloc (Nat.le_refl _) _⟩
end Go.Proofs.YtpedpdgkbmpfjaaDoor
