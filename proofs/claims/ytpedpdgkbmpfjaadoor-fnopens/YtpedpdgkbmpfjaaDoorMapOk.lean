/- The calls of MapOk, the specification's and the program's, walked. -/
import Derived.Test.YtpedpdgkbmpfjaaDoorImplOk
import Derived.Test.YtpedpdgkbmpfjaaDoorLPair
namespace Go.Proofs.YtpedpdgkbmpfjaaDoor
open Go.RowKit
set_option linter.unusedVariables false

set_option maxHeartbeats 4000000 in
set_option maxRecDepth 100000 in
theorem specMapOk_any (R : Bool) {a : Option Addr} {g off cap : Nat} (l : List PairL) (hlen : l.length ≤ 2097152) (w : World) (hf : PairAt w a g off l) (hsz : ∀ c ∈ l, smallPair 2097152 c) (hR : R = true ↔ Maps.ok l) :
    Calls Tryd.prog 18 #[.slice a l.length cap] w fun e w' => e = .returned (.bool R) ∧ Below w.heap.size w w' := by
  have HR : Hid (R = true ↔ Maps.ok l) := hR
  clear hR
  have HF : Hid (PairAt w a g off l) := hf
  have HS : Hid (∀ c ∈ l, smallPair 2097152 c) := hsz
  clear hf hsz
  by_cases h60 : 60 < l.length
  · have h1 : (60 : Int) < (l.length : Int) := by omega
    go_enter Tryd.func18, Tryd.ntmps18
    go_wp2
    go_ret
    exact ⟨by rw [ans_no HR.out (fun h => by have := h.1; omega)]; rfl, Below.refl _ _⟩
  · have h1 : ¬ (60 : Int) < (l.length : Int) := by omega
    go_enter Tryd.func18, Tryd.ntmps18
    go_wp2
    go_loopw [3] (fun i wr => ∃ k : Nat, k ≤ l.length ∧ i = .int .i64 (k : Int) ∧ (∀ j, j < k → Maps.okAt l j) ∧ Below w.heap.size w wr)
      (fun i _ => l.length - (intOf i).toNat)
    case atStart => exact ⟨0, Nat.zero_le _, rfl, fun j hj => absurd hj (Nat.not_lt_zero _), Below.refl _ _⟩
    case round =>
      obtain ⟨k, hk, rfl, hall, hbel⟩ := hrel
      have HA : Hid (∀ j, j < k → Maps.okAt l j) := hall
      clear hall
      by_cases hlt : k < l.length
      · obtain ⟨c0, c1⟩ := (HF.out.kept hbel).2 k hlt
        have ea := HF.out.1 (by omega)
        subst ea
        obtain ⟨A, hA⟩ : ∃ A, A = l[k].key := ⟨_, rfl⟩
        obtain ⟨V, hV⟩ : ∃ V, V = l[k].value := ⟨_, rfl⟩
        obtain ⟨s0, s1⟩ := HS.out l[k] (List.getElem_mem _)
        rw [← hA] at c0 s0
        rw [← hV] at c1 s1
        have HAA : Hid (A = l[k].key) := hA
        have HVV : Hid (V = l[k].value) := hV
        clear hA hV
        have hk0 : (0 : Int) ≤ (k : Int) := by omega
        have hk1 : (k : Int) < (l.length : Int) := by omega
        by_cases hn : 1 ≤ A.size ∧ A.size ≤ 10
        · by_cases hv : V.size ≤ 40
          · have htd : decide ((40 : Int) < (V.size : Int)) = false := decide_eq_false (by omega)
            rcases Nat.eq_zero_or_pos k with hk00 | hp
            · have hkd : decide (0 < k) = false := decide_eq_false (by omega)
              have HZ : Hid (k = 0) := hk00
              clear hk00
              have HN : Hid (Maps.okAt l k) := ⟨hlt, ⟨by rw [← HAA.out]; exact hn.1, by rw [← HAA.out]; exact hn.2, by rw [← HVV.out]; exact hv⟩, fun h => absurd h (by have := HZ.out; omega)⟩
              go_wp2
              have NE := Abv.ne wr
              have F0 := fun x : Abv wr => x.cell c0
              have F1 := fun x : Abv wr => x.cell c1
              refine wp_region_above (by kernel_rfl) (by kernel_rfl) ?_
              repeat (go_big_quiet_step (first | (go_at_call 46; exact calls_above_q (l05Key_is A (by omega) true (by simp [hn]) _))))
              refine wpQuiet_nil ?_
              rintro w1 ⟨⟨_, hb1⟩, rfl⟩
              clear NE F0 F1
              go_wp2
              go_roundw
              case rel => exact ⟨k + 1, by omega, by go_num, Maps.ok_step HA.out HN.out, hbel.trans (hb1.mono hbel.size)⟩
              case measure => simp [intOf]; omega
            · obtain ⟨m, rfl⟩ : ∃ m, k = m + 1 := ⟨k - 1, by omega⟩
              obtain ⟨e0, _⟩ := (HF.out.kept hbel).2 m (by omega)
              obtain ⟨E, hE⟩ : ∃ E, E = l[m].key := ⟨_, rfl⟩
              rw [← hE] at e0
              have HEE : Hid (E = l[m].key) := hE
              clear hE
              have hm1 : IntKind.i64.wrap ((m : Int) + 1 - 1) = (m : Int) := by rw [IntWalk.i64_in _ (by omega)]; omega
              have hm2 : decide ((0 : Int) < (m : Int) + 1) = true := decide_eq_true (by omega)
              have hm3 : (0 : Int) ≤ (m : Int) := by omega
              have hm4 : (m : Int) < (l.length : Int) := by omega
              by_cases hb : Op.bytesLess E.toList A.toList = true
              · skip
                have HN : Hid (Maps.okAt l (m + 1)) := ⟨hlt, ⟨by rw [← HAA.out]; exact hn.1, by rw [← HAA.out]; exact hn.2, by rw [← HVV.out]; exact hv⟩, fun _ => ⟨by omega, by show Op.bytesLess _ _ = true; rw [← HAA.out]; simp only [Nat.add_sub_cancel]; rw [← HEE.out]; exact hb⟩⟩
                go_wp2
                have NE := Abv.ne wr
                have F0 := fun x : Abv wr => x.cell c0
                have F1 := fun x : Abv wr => x.cell c1
                have FE := fun x : Abv wr => x.cell e0
                refine wp_region_above (by kernel_rfl) (by kernel_rfl) ?_
                repeat (go_big_quiet_step (first | (go_at_call 46; exact calls_above_q (l05Key_is A (by omega) true (by simp [hn]) _))))
                refine wpQuiet_nil ?_
                rintro w1 ⟨⟨_, hb1⟩, rfl⟩
                clear NE F0 F1 FE
                go_wp2
                go_roundw
                case rel => exact ⟨(m + 1) + 1, by omega, by go_num, Maps.ok_step HA.out HN.out, hbel.trans (hb1.mono hbel.size)⟩
                case measure => simp [intOf]; omega
              · have hb' : Op.bytesLess E.toList A.toList = false := by simpa using hb
                have HN : Hid (¬ Maps.okAt l (m + 1)) := by
                  show ¬ _
                  rintro ⟨_, _, q⟩
                  obtain ⟨_, q2⟩ := q (by omega)
                  simp only [Nat.add_sub_cancel, Batches.lt] at q2
                  rw [← HAA.out, ← HEE.out] at q2
                  exact hb q2
                go_wp2
                have NE := Abv.ne wr
                have F0 := fun x : Abv wr => x.cell c0
                have F1 := fun x : Abv wr => x.cell c1
                have FE := fun x : Abv wr => x.cell e0
                refine wp_region_above (by kernel_rfl) (by kernel_rfl) ?_
                repeat (go_big_quiet_step (first | (go_at_call 46; exact calls_above_q (l05Key_is A (by omega) true (by simp [hn]) _))))
                refine wpQuiet_nil ?_
                rintro w1 ⟨⟨_, hb1⟩, rfl⟩
                clear NE F0 F1 FE
                go_wp2
                go_ret
                exact ⟨by rw [ans_no HR.out (Maps.not_ok hlt HN.out)]; rfl, hbel.trans (hb1.mono hbel.size)⟩
          · have htd : decide ((40 : Int) < (V.size : Int)) = true := decide_eq_true (by omega)
            have HN : Hid (¬ Maps.okAt l k) := by
              show ¬ _
              rintro ⟨_, q, _⟩
              exact hv (by rw [HVV.out]; exact q.2.2)
            go_wp2
            have NE := Abv.ne wr
            have F0 := fun x : Abv wr => x.cell c0
            have F1 := fun x : Abv wr => x.cell c1
            refine wp_region_above (by kernel_rfl) (by kernel_rfl) ?_
            repeat (go_big_quiet_step (first | (go_at_call 46; exact calls_above_q (l05Key_is A (by omega) true (by simp [hn]) _))))
            refine wpQuiet_nil ?_
            rintro w1 ⟨⟨_, hb1⟩, rfl⟩
            clear NE F0 F1
            go_wp2
            go_ret
            exact ⟨by rw [ans_no HR.out (Maps.not_ok hlt HN.out)]; rfl, hbel.trans (hb1.mono hbel.size)⟩
        · skip
          have HN : Hid (¬ Maps.okAt l k) := by
            show ¬ _
            rintro ⟨_, q, _⟩
            exact hn ⟨by rw [HAA.out]; exact q.1, by rw [HAA.out]; exact q.2.1⟩
          go_wp2
          have NE := Abv.ne wr
          have F0 := fun x : Abv wr => x.cell c0
          have F1 := fun x : Abv wr => x.cell c1
          refine wp_region_above (by kernel_rfl) (by kernel_rfl) ?_
          repeat (go_big_quiet_step (first | (go_at_call 46; exact calls_above_q (l05Key_is A (by omega) false (by simp [hn]) _))))
          refine wpQuiet_nil ?_
          rintro w1 ⟨⟨_, hb1⟩, rfl⟩
          clear NE F0 F1
          go_wp2
          go_ret
          exact ⟨by rw [ans_no HR.out (Maps.not_ok hlt HN.out)]; rfl, hbel.trans (hb1.mono hbel.size)⟩
      · have hk1 : ¬ (k : Int) < (l.length : Int) := by omega
        go_wp2
        go_ret
        exact ⟨by rw [HR.out.2 ⟨by omega, fun j hj => HA.out j (by omega)⟩]; rfl, hbel⟩
set_option maxHeartbeats 1000000 in
theorem pairOk_is (c : PairL) (hk : c.key.size ≤ 2097152) (hv : c.value.size ≤ 2097152) (R : Bool) (hR : R = true ↔ Maps.pairOk c) (w : World) :
    Calls Tryd.prog 54 #[pairV c] w fun e w' => e = .returned (.bool R) ∧ Below w.heap.size w w' := by
  obtain ⟨A, V⟩ := c
  unfold pairV
  unfold Maps.pairOk at hR
  simp only at hR hk hv
  by_cases h1 : 1 ≤ A.size ∧ A.size ≤ 10
  · by_cases h2 : V.size ≤ 40
    · obtain rfl : R = true := hR.2 ⟨h1.1, h1.2, h2⟩
      clear hR
      go_enter Tryd.func54, Tryd.ntmps54
      go_wp2_with (first | (go_at_call 71; refine (keyOk_is A (by omega) true (by simp [h1]) _).mono ?_; rintro e w1 ⟨rfl, rfl⟩) | (go_at_call 72; refine (valueOk_is V (by omega) true (by simp [h2]) _).mono ?_; rintro e w1 ⟨rfl, rfl⟩))
      go_ret
      exact ⟨rfl, (Below.refl _ _).alloc (Nat.le_refl _) _⟩
    · obtain rfl : R = false := ans_no hR (fun h => h2 h.2.2)
      clear hR
      go_enter Tryd.func54, Tryd.ntmps54
      go_wp2_with (first | (go_at_call 71; refine (keyOk_is A (by omega) true (by simp [h1]) _).mono ?_; rintro e w1 ⟨rfl, rfl⟩) | (go_at_call 72; refine (valueOk_is V (by omega) false (by simp [h2]) _).mono ?_; rintro e w1 ⟨rfl, rfl⟩))
      go_ret
      exact ⟨rfl, (Below.refl _ _).alloc (Nat.le_refl _) _⟩
  · obtain rfl : R = false := ans_no hR (fun h => h1 ⟨h.1, h.2.1⟩)
    clear hR
    go_enter Tryd.func54, Tryd.ntmps54
    go_wp2_with (first | (go_at_call 71; refine (keyOk_is A (by omega) false (by simp [h1]) _).mono ?_; rintro e w1 ⟨rfl, rfl⟩))
    go_ret
    exact ⟨rfl, (Below.refl _ _).alloc (Nat.le_refl _) _⟩

/-- The key ahead of the k-th. -/
def PrevP (l : List PairL) (k : Nat) (S : ByteArray) : Prop := (k = 0 ∧ S = ⟨#[]⟩) ∨ (0 < k ∧ ∃ h : k - 1 < l.length, S = l[k - 1].key)
theorem prevP_okAt {l : List PairL} {k : Nat} {S A : ByteArray} (hk : k < l.length) (hp : PrevP l k S) (hA : A = l[k].key) : Maps.okAt l k ↔ Maps.pairOk l[k] ∧ Batches.lt S A = true := by
  subst hA
  rcases hp with ⟨h0, rfl⟩ | ⟨h0, h1, rfl⟩
  · constructor
    · rintro ⟨_, h2, _⟩
      refine ⟨h2, (Batches.lt_iff _ _).2 ?_⟩
      have h3 := h2.1
      rw [← Words.size_list] at h3
      show ([] : List UInt8) < _
      cases e : l[k].key.data.toList with
      | nil => rw [e] at h3; simp at h3
      | cons x r => rw [Batches.by_, e]; exact List.nil_lt_cons _ _
    · rintro ⟨h2, _⟩
      exact ⟨hk, h2, fun h => absurd h (by omega)⟩
  · constructor
    · rintro ⟨_, h2, h3⟩
      exact ⟨h2, (h3 h0).2⟩
    · rintro ⟨h2, h3⟩
      exact ⟨hk, h2, fun _ => ⟨h1, h3⟩⟩
set_option maxHeartbeats 1000000 in
set_option maxRecDepth 100000 in
theorem implMapOk_any (R : Bool) {a : Option Addr} {g off cap : Nat} (l : List PairL) (hlen : l.length ≤ 2097152) (w : World) (hf : PairAt w a g off l) (hsz : ∀ c ∈ l, smallPair 2097152 c) (hR : R = true ↔ Maps.ok l) :
    Calls Tryd.prog 32 #[.slice a l.length cap] w fun e w' => e = .returned (.bool R) ∧ Below w.heap.size w w' := by
  have HR : Hid (R = true ↔ Maps.ok l) := hR
  clear hR
  have HF : Hid (PairAt w a g off l) := hf
  have HS : Hid (∀ c ∈ l, smallPair 2097152 c) := hsz
  clear hf hsz
  by_cases h60 : 60 < l.length
  · have h1 : (60 : Int) < (l.length : Int) := by omega
    go_enter Tryd.func32, Tryd.ntmps32
    go_wp2
    go_ret
    exact ⟨by rw [ans_no HR.out (fun h => by have := h.1; omega)]; rfl, Below.refl _ _⟩
  · have h1 : ¬ (60 : Int) < (l.length : Int) := by omega
    go_enter Tryd.func32, Tryd.ntmps32
    go_wp2
    go_loopw [3, 11] (fun x i wr => ∃ (k : Nat) (S : ByteArray), k ≤ l.length ∧ i = .int .i64 (k : Int) ∧ x = .string S ∧ PrevP l k S ∧ (∀ j, j < k → Maps.okAt l j) ∧ Below w.heap.size w wr)
      (fun _ i _ => l.length - (intOf i).toNat)
    case atStart => exact ⟨0, ⟨#[]⟩, Nat.zero_le _, rfl, rfl, Or.inl ⟨rfl, rfl⟩, fun j hj => absurd hj (Nat.not_lt_zero _), Below.refl _ _⟩
    case round =>
      obtain ⟨k, S, hk, rfl, rfl, hprev, hall, hbel⟩ := hrel
      have HP : Hid (PrevP l k S) := hprev
      have HA : Hid (∀ j, j < k → Maps.okAt l j) := hall
      clear hall hprev
      by_cases hlt : k < l.length
      · obtain ⟨c0, c1⟩ := (HF.out.kept hbel).2 k hlt
        have ea := HF.out.1 (by omega)
        subst ea
        obtain ⟨A, hA⟩ : ∃ A, A = l[k].key := ⟨_, rfl⟩
        obtain ⟨V, hV⟩ : ∃ V, V = l[k].value := ⟨_, rfl⟩
        obtain ⟨s0, s1⟩ := HS.out l[k] (List.getElem_mem _)
        rw [← hA] at c0 s0
        rw [← hV] at c1 s1
        have HAA : Hid (A = l[k].key) := hA
        have HE : Hid (l[k] = ⟨A, V⟩) := by show _ = _; rw [hA, hV]
        clear hA hV
        have hk0 : (0 : Int) ≤ (k : Int) := by omega
        have hk1 : (k : Int) < (l.length : Int) := by omega
        go_wp2_with fail
        obtain ⟨W1, hW1⟩ : ∃ W1, W1 = wr.alloc (Obj.cells #[Value.string A, Value.string V] 48) := ⟨_, rfl⟩
        rw [← hW1]
        have hB1 : Below wr.heap.size wr W1 := by rw [hW1]; exact (Below.refl _ _).alloc (Nat.le_refl _) _
        have f0 : W1.cell? ⟨wr.heap.size, 0, none⟩ = some (.string A) := by rw [hW1]; exact cell_of_row _ _ 0 _ _ _ (heap_alloc_new wr _)
        have hz1 : wr.heap.size < W1.heap.size := World.block_lt_of_cell? W1 _ f0
        have hw1 : Below w.heap.size w W1 := hbel.trans (hB1.mono hbel.size)
        clear hW1 c0 c1
        by_cases hch : Maps.pairOk ⟨A, V⟩
        · refine (pairOk_is ⟨A, V⟩ s0 s1 true (by simp [hch]) W1).mono ?_
          rintro e w2 ⟨rfl, hb2⟩
          have hw2 : Below w.heap.size w w2 := hw1.trans (hb2.mono hw1.size)
          have f2 : w2.cell? ⟨wr.heap.size, 0, none⟩ = some (.string A) := (hb2.cell (p := ⟨wr.heap.size, 0, none⟩) hz1).trans f0
          clear f0 hw1 hb2 hB1 hz1
          by_cases hls : Batches.lt S A = true
          · have hle := le_of_lt hls
            have HN : Hid (Maps.okAt l k) := (prevP_okAt hlt HP.out HAA.out).2 ⟨by rw [HE.out]; exact hch, hls⟩
            clear hls hch
            go_wp2
            go_roundw
            case rel => exact ⟨k + 1, A, by omega, by go_num, rfl, Or.inr ⟨by omega, hlt, HAA.out⟩, Maps.ok_step HA.out HN.out, hw2⟩
            case measure => simp [intOf]; omega
          · have hle := le_of_not hls
            have HN : Hid (¬ Maps.okAt l k) := fun h => hls ((prevP_okAt hlt HP.out HAA.out).1 h).2
            clear hls hch
            go_wp2
            go_ret
            exact ⟨by rw [ans_no HR.out (Maps.not_ok hlt HN.out)]; rfl, hw2⟩
        · refine (pairOk_is ⟨A, V⟩ s0 s1 false (by simp [hch]) W1).mono ?_
          rintro e w2 ⟨rfl, hb2⟩
          have hw2 : Below w.heap.size w w2 := hw1.trans (hb2.mono hw1.size)
          have HN : Hid (¬ Maps.okAt l k) := fun h => hch (by have := h.2.1; rw [HE.out] at this; exact this)
          clear hch
          go_wp2
          go_ret
          exact ⟨by rw [ans_no HR.out (Maps.not_ok hlt HN.out)]; rfl, hw2⟩
      · have hk1 : ¬ (k : Int) < (l.length : Int) := by omega
        go_wp2
        go_ret
        exact ⟨by rw [HR.out.2 ⟨by omega, fun j hj => HA.out j (by omega)⟩]; rfl, hbel⟩
end Go.Proofs.YtpedpdgkbmpfjaaDoor
