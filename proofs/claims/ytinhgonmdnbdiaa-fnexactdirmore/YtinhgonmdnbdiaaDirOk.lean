/- The call of the program's DirOk, walked. -/
import Derived.Test.YtinhgonmdnbdiaaImplOk
import Derived.Test.YtinhgonmdnbdiaaLSpot
namespace Go.Proofs.Ytinhgonmdnbdiaa
open Go.RowKit
set_option linter.unusedVariables false
set_option maxHeartbeats 1000000 in
theorem spotOk_is (c : SpotL) (hk : c.key.size ≤ 2097152) (R : Bool) (hR : R = true ↔ Dirs.spotOk c) (w : World) :
    Calls Try.prog 38 #[spotV c] w fun e w' => e = .returned (.bool R) ∧ Below w.heap.size w w' := by
  obtain ⟨A, S, P, Z⟩ := c
  unfold spotV
  unfold Dirs.spotOk at hR
  simp only at hR hk
  by_cases h1 : 1 ≤ A.size ∧ A.size ≤ 10
  · skip
    by_cases k0 : 0 ≤ S
    case neg =>
      obtain rfl : R = false := ans_no hR (fun h => k0 h.2.1.1)
      clear hR
      go_enter Try.func38, Try.ntmps38
      go_wp2_with (first | (go_at_call 61; refine (keyOk_is A (by omega) true (by simp [h1]) _).mono ?_; rintro e w1 ⟨rfl, rfl⟩))
      go_ret
      exact ⟨by first | rfl | (rw [decide_eq_false (show ¬ Z ≤ 40 by omega)]; rfl) | (rw [decide_eq_true (show Z ≤ 40 by omega)]; rfl), (Below.refl _ _).alloc (Nat.le_refl _) _⟩
    case pos =>
    by_cases k1 : S ≤ 999
    case neg =>
      obtain rfl : R = false := ans_no hR (fun h => k1 h.2.1.2)
      clear hR
      go_enter Try.func38, Try.ntmps38
      go_wp2_with (first | (go_at_call 61; refine (keyOk_is A (by omega) true (by simp [h1]) _).mono ?_; rintro e w1 ⟨rfl, rfl⟩))
      go_ret
      exact ⟨by first | rfl | (rw [decide_eq_false (show ¬ Z ≤ 40 by omega)]; rfl) | (rw [decide_eq_true (show Z ≤ 40 by omega)]; rfl), (Below.refl _ _).alloc (Nat.le_refl _) _⟩
    case pos =>
    by_cases k2 : 0 ≤ P
    case neg =>
      obtain rfl : R = false := ans_no hR (fun h => k2 h.2.2.1.1)
      clear hR
      go_enter Try.func38, Try.ntmps38
      go_wp2_with (first | (go_at_call 61; refine (keyOk_is A (by omega) true (by simp [h1]) _).mono ?_; rintro e w1 ⟨rfl, rfl⟩))
      go_ret
      exact ⟨by first | rfl | (rw [decide_eq_false (show ¬ Z ≤ 40 by omega)]; rfl) | (rw [decide_eq_true (show Z ≤ 40 by omega)]; rfl), (Below.refl _ _).alloc (Nat.le_refl _) _⟩
    case pos =>
    by_cases k3 : P ≤ 20000
    case neg =>
      obtain rfl : R = false := ans_no hR (fun h => k3 h.2.2.1.2)
      clear hR
      go_enter Try.func38, Try.ntmps38
      go_wp2_with (first | (go_at_call 61; refine (keyOk_is A (by omega) true (by simp [h1]) _).mono ?_; rintro e w1 ⟨rfl, rfl⟩))
      go_ret
      exact ⟨by first | rfl | (rw [decide_eq_false (show ¬ Z ≤ 40 by omega)]; rfl) | (rw [decide_eq_true (show Z ≤ 40 by omega)]; rfl), (Below.refl _ _).alloc (Nat.le_refl _) _⟩
    case pos =>
    by_cases k4 : 0 ≤ Z
    case neg =>
      obtain rfl : R = false := ans_no hR (fun h => k4 h.2.2.2.1)
      clear hR
      go_enter Try.func38, Try.ntmps38
      go_wp2_with (first | (go_at_call 61; refine (keyOk_is A (by omega) true (by simp [h1]) _).mono ?_; rintro e w1 ⟨rfl, rfl⟩))
      go_ret
      exact ⟨by first | rfl | (rw [decide_eq_false (show ¬ Z ≤ 40 by omega)]; rfl) | (rw [decide_eq_true (show Z ≤ 40 by omega)]; rfl), (Below.refl _ _).alloc (Nat.le_refl _) _⟩
    case pos =>
    by_cases k5 : Z ≤ 40
    case neg =>
      obtain rfl : R = false := ans_no hR (fun h => k5 h.2.2.2.2)
      clear hR
      go_enter Try.func38, Try.ntmps38
      go_wp2_with (first | (go_at_call 61; refine (keyOk_is A (by omega) true (by simp [h1]) _).mono ?_; rintro e w1 ⟨rfl, rfl⟩))
      go_ret
      exact ⟨by first | rfl | (rw [decide_eq_false (show ¬ Z ≤ 40 by omega)]; rfl) | (rw [decide_eq_true (show Z ≤ 40 by omega)]; rfl), (Below.refl _ _).alloc (Nat.le_refl _) _⟩
    case pos =>
      obtain rfl : R = true := hR.2 ⟨h1, ⟨k0, k1⟩, ⟨k2, k3⟩, ⟨k4, k5⟩⟩
      clear hR
      go_enter Try.func38, Try.ntmps38
      go_wp2_with (first | (go_at_call 61; refine (keyOk_is A (by omega) true (by simp [h1]) _).mono ?_; rintro e w1 ⟨rfl, rfl⟩))
      go_ret
      exact ⟨by first | rfl | (rw [decide_eq_false (show ¬ Z ≤ 40 by omega)]; rfl) | (rw [decide_eq_true (show Z ≤ 40 by omega)]; rfl), (Below.refl _ _).alloc (Nat.le_refl _) _⟩
  · skip
    obtain rfl : R = false := ans_no hR (fun h => h1 h.1)
    clear hR
    go_enter Try.func38, Try.ntmps38
    go_wp2_with (first | (go_at_call 61; refine (keyOk_is A (by omega) false (by simp [h1]) _).mono ?_; rintro e w1 ⟨rfl, rfl⟩))
    go_ret
    exact ⟨by first | rfl | (rw [decide_eq_false (show ¬ Z ≤ 40 by omega)]; rfl) | (rw [decide_eq_true (show Z ≤ 40 by omega)]; rfl), (Below.refl _ _).alloc (Nat.le_refl _) _⟩
/-- The key ahead of the k-th. -/
def PrevD (l : List SpotL) (k : Nat) (S : ByteArray) : Prop := (k = 0 ∧ S = ⟨#[]⟩) ∨ (0 < k ∧ ∃ h : k - 1 < l.length, S = l[k - 1].key)
theorem prevD_okAt {l : List SpotL} {k : Nat} {S A : ByteArray} (hk : k < l.length) (hp : PrevD l k S) (hA : A = l[k].key) : Dirs.okAt l k ↔ Dirs.spotOk l[k] ∧ Batches.lt S A = true := by
  subst hA
  rcases hp with ⟨h0, rfl⟩ | ⟨h0, h1, rfl⟩
  · constructor
    · rintro ⟨_, h2, _⟩
      refine ⟨h2, (Batches.lt_iff _ _).2 ?_⟩
      have h3 := h2.1.1
      rw [← Words.size_list] at h3
      show ([] : List UInt8) < _
      cases e : l[k].key.data.toList with
      | nil => rw [e] at h3; simp at h3
      | cons x r => rw [Batches.by_, e]; exact List.nil_lt_cons _ _
    · rintro ⟨h2, _⟩
      exact ⟨hk, h2, fun h => absurd h (by omega)⟩
  · constructor
    · rintro ⟨_, h2, h3⟩
      exact ⟨h2, (h3 h0).2⟩
    · rintro ⟨h2, h3⟩
      exact ⟨hk, h2, fun _ => ⟨h1, h3⟩⟩
set_option maxHeartbeats 1000000 in
set_option maxRecDepth 100000 in
theorem implDirOk_any (R : Bool) {a : Option Addr} {g off cap : Nat} (l : List SpotL) (hlen : l.length ≤ 2097152) (w : World) (hf : SpotAt w a g off l) (hsz : ∀ c ∈ l, smallSpot 2097152 c) (hR : R = true ↔ Dirs.ok l) :
    Calls Try.prog 19 #[.slice a l.length cap] w fun e w' => e = .returned (.bool R) ∧ Below w.heap.size w w' := by
  have HR : Hid (R = true ↔ Dirs.ok l) := hR
  clear hR
  have HF : Hid (SpotAt w a g off l) := hf
  have HS : Hid (∀ c ∈ l, smallSpot 2097152 c) := hsz
  clear hf hsz
  by_cases h60 : 60 < l.length
  · have h1 : (60 : Int) < (l.length : Int) := by omega
    go_enter Try.func19, Try.ntmps19
    go_wp2
    go_ret
    exact ⟨by rw [ans_no HR.out (fun h => by have := h.1; omega)]; rfl, Below.refl _ _⟩
  · have h1 : ¬ (60 : Int) < (l.length : Int) := by omega
    go_enter Try.func19, Try.ntmps19
    go_wp2
    go_loopw [3, 11] (fun x i wr => ∃ (k : Nat) (S : ByteArray), k ≤ l.length ∧ i = .int .i64 (k : Int) ∧ x = .string S ∧ PrevD l k S ∧ (∀ j, j < k → Dirs.okAt l j) ∧ Below w.heap.size w wr)
      (fun _ i _ => l.length - (intOf i).toNat)
    case atStart => exact ⟨0, ⟨#[]⟩, Nat.zero_le _, rfl, rfl, Or.inl ⟨rfl, rfl⟩, fun j hj => absurd hj (Nat.not_lt_zero _), Below.refl _ _⟩
    case round =>
      obtain ⟨k, S, hk, rfl, rfl, hprev, hall, hbel⟩ := hrel
      have HP : Hid (PrevD l k S) := hprev
      have HA : Hid (∀ j, j < k → Dirs.okAt l j) := hall
      clear hall hprev
      by_cases hlt : k < l.length
      · obtain ⟨c0, c1, c2, c3⟩ := (HF.out.kept hbel).2 k hlt
        have ea := HF.out.1 (by omega)
        subst ea
        have s0 := HS.out l[k] (List.getElem_mem _)
        have HAA0 : Hid (∃ c, c = l[k] ∧ l[k] = c) := ⟨_, rfl, rfl⟩
        obtain ⟨c, hc, hc'⟩ := HAA0.out
        rw [← hc] at c0 c1 c2 c3 s0
        clear HAA0
        obtain ⟨A, S0, P, Z⟩ := c
        simp only at c0 c1 c2 c3
        unfold smallSpot at s0
        simp only at s0
        have HAA : Hid (A = l[k].key) := by show _ = _; rw [← hc]
        have HE : Hid (l[k] = ⟨A, S0, P, Z⟩) := hc'
        clear hc hc'
        have hk0 : (0 : Int) ≤ (k : Int) := by omega
        have hk1 : (k : Int) < (l.length : Int) := by omega
        go_wp2_with fail
        obtain ⟨W1, hW1⟩ : ∃ W1, W1 = wr.alloc (Obj.cells #[Value.string A, Value.int .i64 S0, Value.int .i64 P, Value.int .i64 Z] 56) := ⟨_, rfl⟩
        rw [← hW1]
        have hB1 : Below wr.heap.size wr W1 := by rw [hW1]; exact (Below.refl _ _).alloc (Nat.le_refl _) _
        have f0 : W1.cell? ⟨wr.heap.size, 0, none⟩ = some (.string A) := by rw [hW1]; exact cell_of_row _ _ 0 _ _ _ (heap_alloc_new wr _)
        have hz1 : wr.heap.size < W1.heap.size := World.block_lt_of_cell? W1 _ f0
        have hw1 : Below w.heap.size w W1 := hbel.trans (hB1.mono hbel.size)
        clear hW1 c0 c1 c2 c3
        by_cases hch : Dirs.spotOk ⟨A, S0, P, Z⟩
        · refine (spotOk_is ⟨A, S0, P, Z⟩ s0 true (by simp [hch]) W1).mono ?_
          rintro e w2 ⟨rfl, hb2⟩
          have hw2 : Below w.heap.size w w2 := hw1.trans (hb2.mono hw1.size)
          have f2 : w2.cell? ⟨wr.heap.size, 0, none⟩ = some (.string A) := (hb2.cell (p := ⟨wr.heap.size, 0, none⟩) hz1).trans f0
          clear f0 hw1 hb2 hB1 hz1
          by_cases hls : Batches.lt S A = true
          · have hle := le_of_lt hls
            have HN : Hid (Dirs.okAt l k) := (prevD_okAt hlt HP.out HAA.out).2 ⟨by rw [HE.out]; exact hch, hls⟩
            clear hls hch
            go_wp2
            go_roundw
            case rel => exact ⟨k + 1, A, by omega, by go_num, rfl, Or.inr ⟨by omega, hlt, HAA.out⟩, Dirs.ok_step HA.out HN.out, hw2⟩
            case measure => simp [intOf]; omega
          · have hle := le_of_not hls
            have HN : Hid (¬ Dirs.okAt l k) := fun h => hls ((prevD_okAt hlt HP.out HAA.out).1 h).2
            clear hls hch
            go_wp2
            go_ret
            exact ⟨by rw [ans_no HR.out (Dirs.not_ok hlt HN.out)]; rfl, hw2⟩
        · refine (spotOk_is ⟨A, S0, P, Z⟩ s0 false (by simp [hch]) W1).mono ?_
          rintro e w2 ⟨rfl, hb2⟩
          have hw2 : Below w.heap.size w w2 := hw1.trans (hb2.mono hw1.size)
          have HN : Hid (¬ Dirs.okAt l k) := fun h => hch (by have := h.2.1; rw [HE.out] at this; exact this)
          clear hch
          go_wp2
          go_ret
          exact ⟨by rw [ans_no HR.out (Dirs.not_ok hlt HN.out)]; rfl, hw2⟩
      · have hk1 : ¬ (k : Int) < (l.length : Int) := by omega
        go_wp2
        go_ret
        exact ⟨by rw [HR.out.2 ⟨by omega, fun j hj => HA.out j (by omega)⟩]; rfl, hbel⟩
end Go.Proofs.Ytinhgonmdnbdiaa
