/- A session read by the specification, walked: l15Read. -/
import Derived.Test.YtpedpdgkbmpfjaaDoorSpecSes
namespace Go.Proofs.YtpedpdgkbmpfjaaDoor
open Go.RowKit
open Acts (decS skey sval nkey kkey)
set_option linter.unusedVariables false
set_option linter.unusedSimpArgs false
theorem byte_at {V : ByteArray} {L : List UInt8} (hL : Batches.by_ V = L) {k : Nat} (hk : k < V.size) : ∃ h : k < L.length, V[k] = L[k] := by
  subst hL
  exact ⟨by have : (Batches.by_ V).length = V.size := Words.size_list V; omega, rfl⟩
theorem fig_ne {b : UInt8} (h : Words.isFig b) : ¬ (b.toNat : Int) = 32 := by
  have := h.1
  intro e
  have e2 : b.toNat = 32 := by omega
  omega
/-- A session's value: where its blanks stand and what lies between them. -/
structure Val (V : ByteArray) (s : Ses) (a b : Nat) : Prop where
  size : V.size = b + 1 + s.rep.size
  ab : a + 1 ≤ b
  n1 : ∀ k (hk : k < V.size), k < a → ¬ (V[k].toNat : Int) = 32
  e1 : ∀ (hk : a < V.size), (V[a].toNat : Int) = 32
  n2 : ∀ k (hk : k < V.size), a + 1 ≤ k → k < b → ¬ (V[k].toNat : Int) = 32
  e2 : ∀ (hk : b < V.size), (V[b].toNat : Int) = 32
  x1 : V.extract 0 a = decS s.seq
  x2 : V.extract (a + 1) b = decS s.at_
  x3 : V.extract (b + 1) V.size = s.rep
theorem val_of (s : Ses) : Val (sval s) s (Words.dec s.seq).length ((Words.dec s.seq).length + 1 + (Words.dec s.at_).length) := by
  have hL := Acts.by_sval s
  have hsz : (Batches.by_ (sval s)).length = (sval s).size := Words.size_list _
  have hrz : (Batches.by_ s.rep).length = s.rep.size := Words.size_list _
  obtain ⟨V, hV⟩ : ∃ V, V = sval s := ⟨_, rfl⟩
  rw [← hV] at hL hsz ⊢
  clear hV
  have hsize : V.size = (Words.dec s.seq).length + 1 + (Words.dec s.at_).length + 1 + s.rep.size := by
    rw [← hsz, hL]
    simp only [List.length_append, List.length_cons, hrz]
    omega
  refine ⟨hsize, by omega, fun k hk h => ?_, fun hk => ?_, fun k hk h1 h2 => ?_, fun hk => ?_, ?_, ?_, ?_⟩
  · obtain ⟨q, e⟩ := byte_at hL hk
    rw [e, List.getElem_append_left h]
    exact fig_ne (Words.dec_fig _ _ (List.getElem_mem _))
  · obtain ⟨q, e⟩ := byte_at hL hk
    rw [e, List.getElem_append_right (Nat.le_refl _)]
    simp
  · obtain ⟨q, e⟩ := byte_at hL hk
    rw [e, List.getElem_append_right (by omega)]
    obtain ⟨j, hj⟩ : ∃ j, k - (Words.dec s.seq).length = j + 1 := ⟨k - (Words.dec s.seq).length - 1, by omega⟩
    have hj2 : j < (Words.dec s.at_).length := by omega
    simp only [hj, List.getElem_cons_succ]
    rw [List.getElem_append_left hj2]
    exact fig_ne (Words.dec_fig _ _ (List.getElem_mem _))
  · obtain ⟨q, e⟩ := byte_at hL hk
    rw [e, List.getElem_append_right (by omega)]
    obtain ⟨j, hj⟩ : ∃ j, (Words.dec s.seq).length + 1 + (Words.dec s.at_).length - (Words.dec s.seq).length = j + 1 := ⟨(Words.dec s.at_).length, by omega⟩
    have hj2 : j = (Words.dec s.at_).length := by omega
    simp only [hj, List.getElem_cons_succ]
    rw [List.getElem_append_right (by omega)]
    simp [hj2]
  · apply Batches.by_inj
    unfold Batches.by_ at hL ⊢
    rw [Words.extract_list, hL]
    simp [decS]
  · apply Batches.by_inj
    unfold Batches.by_ at hL ⊢
    rw [Words.extract_list, hL]
    have e : Words.dec s.seq ++ (32 :: (Words.dec s.at_ ++ (32 :: Batches.by_ s.rep))) = (Words.dec s.seq ++ [32]) ++ (Words.dec s.at_ ++ (32 :: Batches.by_ s.rep)) := by simp
    unfold Batches.by_ at e
    rw [e, List.drop_append_of_le_length (by simp), List.drop_of_length_le (by simp), List.nil_append]
    rw [show (Words.dec s.seq).length + 1 + (Words.dec s.at_).length - ((Words.dec s.seq).length + 1) = (Words.dec s.at_).length by omega]
    simp [decS]
  · apply Batches.by_inj
    have hl2 : V.data.toList.length = V.size := hsz
    unfold Batches.by_ at hL ⊢
    rw [Words.extract_list, hL]
    have e : Words.dec s.seq ++ (32 :: (Words.dec s.at_ ++ (32 :: Batches.by_ s.rep))) = (Words.dec s.seq ++ [32] ++ Words.dec s.at_ ++ [32]) ++ Batches.by_ s.rep := by simp
    unfold Batches.by_ at e
    rw [e, List.drop_append_of_le_length (by simp; omega), List.drop_of_length_le (by simp; omega), List.nil_append]
    rw [List.take_of_length_le]
    have : s.rep.data.toList.length = s.rep.size := hrz
    omega
theorem specRD_dec (n : Nat) (h : n ≤ 1000000000) (w : World) : Calls Tryd.prog 49 #[.string (decS n)] w fun e w' => e = .returned (.tuple #[.int .i64 (n : Int), .bool true]) ∧ Below w.heap.size w w' := specRD_some (by have := decS_small h; omega) (Acts.rd_dec h) w
theorem Tryd.isAgg58 (w : World) : (isAgg 58).run Tryd.prog w = .ok true w := by kernel_rfl
theorem Tryd.sizeOf58 (w : World) : (sizeOf 58).run Tryd.prog w = .ok 4 w := by kernel_rfl
theorem result50 {w : World} {g : Nat} {A C : Array Value} {R : Bool} (hg : w.heap[g]? = some (.cells C 58 (0, 0))) (hs : A.size = 4) {tmps : Array Value} (ht : tmps.getD 4 undef = .pointer (some ⟨g, 0, none⟩)) (h3 : tmps.getD 5 undef = .bool R) : (results Tryd.f50 tmps).run Tryd.prog (w.setRow g A) = .ok (.tuple #[.agg A, .bool R]) (w.setRow g A) := by
  have h := run_loadVar_agg (P := Tryd.prog) Tryd.isAgg58 Tryd.sizeOf58 (row_size (A := A) hg) hs
  have ht' : tmps[4]?.getD undef = .pointer (some ⟨g, 0, none⟩) := by simpa using ht
  have h3' : tmps[5]?.getD undef = .bool R := by simpa using h3
  simp [results, Tryd.results50, ht', h3', asAddr, h]
theorem spe_one (I A B : Int) (R : ByteArray) : ∀ v ∈ (#[.int .i64 I, .int .i64 A, .int .i64 B, .string R] : Array Value).toList, v.oneCell' = true := by
  intro v hv
  simp at hv
  rcases hv with rfl | rfl | rfl | rfl <;> rfl
set_option maxHeartbeats 2000000 in
set_option maxRecDepth 100000 in
theorem specRead_is (s : Ses) (h : Acts.Small s) (hr : s.rep.size ≤ 1000) (w : World) : Calls Tryd.prog 50 #[.int .i64 (s.id : Int), .string (sval s)] w fun e w' => e = .returned (.tuple #[speV s, .bool true]) ∧ Below w.heap.size w w' := by
  obtain ⟨h1, h2, h3⟩ := h
  have hv := val_of s
  have d1 := Words.dec_len _ h2
  have d2 := Words.dec_len _ h3
  obtain ⟨na, hna⟩ : ∃ na, na = (Words.dec s.seq).length := ⟨_, rfl⟩
  obtain ⟨nb, hnb⟩ : ∃ nb, nb = na + 1 + (Words.dec s.at_).length := ⟨_, rfl⟩
  rw [← hna, ← hnb] at hv
  have hbz : nb ≤ 100 := by omega
  obtain ⟨V, hV⟩ : ∃ V, V = sval s := ⟨_, rfl⟩
  rw [← hV] at hv ⊢
  have HR1 : Hid (∀ W, Calls Tryd.prog 49 #[.string (V.extract 0 na)] W fun e w' => e = .returned (.tuple #[.int .i64 (s.seq : Int), .bool true]) ∧ Below W.heap.size W w') := fun W => by rw [hv.x1]; exact specRD_dec _ h2 W
  have HR2 : Hid (∀ W, Calls Tryd.prog 49 #[.string (V.extract (na + 1) nb)] W fun e w' => e = .returned (.tuple #[.int .i64 (s.at_ : Int), .bool true]) ∧ Below W.heap.size W w') := fun W => by rw [hv.x2]; exact specRD_dec _ h3 W
  have hx3 := hv.x3
  have HVV : Hid (Val V s na nb) := hv
  have hsz := hv.size
  have hab := hv.ab
  have HSP : Hid (∀ I A B : Int, ∀ R, I = (s.id : Int) → A = (s.seq : Int) → B = (s.at_ : Int) → R = s.rep → speV s = .agg #[.int .i64 I, .int .i64 A, .int .i64 B, .string R]) := fun I A B R a b c d => by subst a b c d; rfl
  obtain ⟨I, hI⟩ : ∃ I : Int, I = (s.id : Int) := ⟨_, rfl⟩
  obtain ⟨A, hA⟩ : ∃ A : Int, A = (s.seq : Int) := ⟨_, rfl⟩
  obtain ⟨B, hB⟩ : ∃ B : Int, B = (s.at_ : Int) := ⟨_, rfl⟩
  obtain ⟨R, hR⟩ : ∃ R, R = s.rep := ⟨_, rfl⟩
  have HSV : Hid (speV s = .agg #[.int .i64 I, .int .i64 A, .int .i64 B, .string R]) := HSP.out I A B R hI hA hB hR
  rw [HSV.out]
  rw [← hA] at HR1
  rw [← hB] at HR2
  rw [← hR] at hx3 hsz hr
  rw [← hI]
  have hVz : V.size ≤ 2000 := by omega
  clear hV hna hnb hv HSP hI hA hB hR d1 d2 h1 h2 h3 HSV
  obtain ⟨W, hW⟩ : ∃ W, W = w.alloc (Obj.cells #[.int .i64 0, .int .i64 0, .int .i64 0, .string ⟨#[]⟩] 58) := ⟨_, rfl⟩
  have hb : Below w.heap.size w W := by rw [hW]; exact (Below.refl _ _).alloc (Nat.le_refl _) _
  have hz : W.heap[w.heap.size]? = some (.cells #[.int .i64 0, .int .i64 0, .int .i64 0, .string ⟨#[]⟩] 58 (0, 0)) := by rw [hW]; exact heap_alloc_new w _
  have hsw : W.heap.size = w.heap.size + 1 := by rw [hW]; simp
  have HB : Hid _ := hb
  have HZ : Hid _ := hz
  have HSW : Hid _ := hsw
  clear hb hz hsw
  go_enter Tryd.func50, Tryd.ntmps50
  go_wp2_with (first | (rw [← hW]; clear hW) | fail)
  go_loopw [6] (fun i wr => ∃ k : Nat, k ≤ na ∧ i = .int .i64 (k : Int) ∧ W = wr) (fun i _ => na - (intOf i).toNat)
  case atStart => exact ⟨0, Nat.zero_le _, rfl, rfl⟩
  case round =>
    obtain ⟨k, hk, rfl, rfl⟩ := hrel
    have hkV : k < V.size := by omega
    have hk0 : (0 : Int) ≤ (k : Int) := by omega
    have hk1 : (k : Int) < (V.size : Int) := by omega
    by_cases hlt : k < na
    · have hn := HVV.out.n1 k hkV hlt
      have hn2 : ((V[k].toNat : Int) == 32) = false := by simpa using hn
      go_wp2
      go_roundw
      case rel => exact ⟨k + 1, by omega, by go_num, by trivial⟩
      case measure => simp [intOf]; omega
    · have hkn : k = na := by omega
      subst hkn
      have hn := HVV.out.e1 hkV
      have hn2 : ((V[k].toNat : Int) == 32) = true := by simpa using hn
      go_wp2
      clear hn hn2 hkV hk0 hk1 hlt hk
      go_loopw [7] (fun i wr => ∃ k2 : Nat, k + 1 ≤ k2 ∧ k2 ≤ nb ∧ i = .int .i64 (k2 : Int) ∧ W = wr) (fun i _ => nb - (intOf i).toNat)
      case atStart => exact ⟨k + 1, Nat.le_refl _, hab, by go_num, rfl⟩
      case round =>
        obtain ⟨k2, hl2, hk2, rfl, rfl⟩ := hrel
        have hkV : k2 < V.size := by omega
        have hk0 : (0 : Int) ≤ (k2 : Int) := by omega
        have hk1 : (k2 : Int) < (V.size : Int) := by omega
        by_cases hlt : k2 < nb
        · have hn := HVV.out.n2 k2 hkV hl2 hlt
          have hn2 : ((V[k2].toNat : Int) == 32) = false := by simpa using hn
          go_wp2
          go_roundw
          case rel => exact ⟨k2 + 1, by omega, by omega, by go_num, by trivial⟩
          case measure => simp [intOf]; omega
        · have hkn : k2 = nb := by omega
          subst hkn
          have hn := HVV.out.e2 hkV
          have hn2 : ((V[k2].toNat : Int) == 32) = true := by simpa using hn
          have b1 : ¬ (V.size : Int) ≤ (k2 : Int) := by omega
          have b2 : (k : Int) ≤ (V.size : Int) := by omega
          have b3 : (0 : Int) ≤ (k : Int) := by omega
          have b4 : (k : Int) + 1 ≤ (k2 : Int) := by omega
          have b5 : (k2 : Int) ≤ (V.size : Int) := by omega
          have b6 : (k2 : Int) + 1 ≤ (V.size : Int) := by omega
          obtain ⟨W2, hW2⟩ : ∃ W2, W2 = W.alloc (Obj.cells #[.int .i64 I, .int .i64 0, .int .i64 0, .string ⟨#[]⟩] 58) := ⟨_, rfl⟩
          have hb2 : Below W.heap.size W W2 := by rw [hW2]; exact (Below.refl _ _).alloc (Nat.le_refl _) _
          have hr2 : W2.heap[w.heap.size + 1]? = some (.cells #[.int .i64 I, .int .i64 0, .int .i64 0, .string ⟨#[]⟩] 58 (0, 0)) := by rw [hW2, ← HSW.out]; exact heap_alloc_new W _
          have hz2 := (hb2.block _ (Array.getElem?_eq_some_iff.1 HZ.out).1).trans HZ.out
          have HB2 : Hid (Below w.heap.size w W2) := HB.out.trans (hb2.mono HB.out.size)
          have HR2r : Hid _ := hr2
          have HZ2 : Hid _ := hz2
          have hs8 := HSW.out
          clear hb2 hr2 hz2 hn hlt HZ HB
          go_wp2_with fail
          rw [← hW2]
          clear hW2
          refine Calls.mono (HR1.out W2) ?_
          rintro e w3 ⟨rfl, hb3⟩
          have HB3 : Hid (Below w.heap.size w w3) := HB2.out.trans (hb3.mono HB2.out.size)
          have HR3 : Hid (w3.heap[w.heap.size + 1]? = some (.cells #[.int .i64 I, .int .i64 0, .int .i64 0, .string ⟨#[]⟩] 58 (0, 0))) := (hb3.block _ (Array.getElem?_eq_some_iff.1 HR2r.out).1).trans HR2r.out
          have HZ3 : Hid (w3.heap[w.heap.size]? = some (.cells #[.int .i64 0, .int .i64 0, .int .i64 0, .string ⟨#[]⟩] 58 (0, 0))) := (hb3.block _ (Array.getElem?_eq_some_iff.1 HZ2.out).1).trans HZ2.out
          clear hb3 HB2 HR2r HZ2
          go_wp2_with fail
          refine Calls.mono (HR2.out w3) ?_
          rintro e w4 ⟨rfl, hb4⟩
          have HB4 : Hid (Below w.heap.size w w4) := HB3.out.trans (hb4.mono HB3.out.size)
          have HR4 : Hid (w4.heap[w.heap.size + 1]? = some (.cells #[.int .i64 I, .int .i64 0, .int .i64 0, .string ⟨#[]⟩] 58 (0, 0))) := (hb4.block _ (Array.getElem?_eq_some_iff.1 HR3.out).1).trans HR3.out
          have HZ4 : Hid (w4.heap[w.heap.size]? = some (.cells #[.int .i64 0, .int .i64 0, .int .i64 0, .string ⟨#[]⟩] 58 (0, 0))) := (hb4.block _ (Array.getElem?_eq_some_iff.1 HZ3.out).1).trans HZ3.out
          clear hb4 HB3 HR3 HZ3
          have o1 := cell_of_row _ _ 1 _ _ _ HR4.out
          have o2 := cell_of_row _ _ 2 _ _ _ HR4.out
          have o3 := cell_of_row _ _ 3 _ _ _ HR4.out
          simp at o1 o2 o3
          have f1 := frozen_of_row _ _ 1 _ _ HR4.out
          have f2 := frozen_of_row _ _ 2 _ _ HR4.out
          have f3 := frozen_of_row _ _ 3 _ _ HR4.out
          have g1 := heap_setCell_same w4 (w.heap.size + 1) 1 _ 58 (.int .i64 A) HR4.out
          have g2 := heap_setCell_same _ (w.heap.size + 1) 2 _ 58 (.int .i64 B) g1
          have g3 := heap_setCell_same _ (w.heap.size + 1) 3 _ 58 (.string R) g2
          simp at g3
          have HR5 : Hid _ := g3
          have HZ5 : Hid _ := set_far (R := w.heap.size + 1) (set_far (R := w.heap.size + 1) (set_far (R := w.heap.size + 1) HZ4.out (by omega) 1 (.int .i64 A)) (by omega) 2 (.int .i64 B)) (by omega) 3 (.string R)
          clear g1 g2 g3
          have hx4 : V.extract (k2 + 1) (k2 + 1 + R.size) = R := by rw [← hsz]; exact hx3
          go_wp2_with (first | (refine wpList_loadA Tryd.isAgg58 Tryd.sizeOf58 rfl _ rfl (w.heap.size + 1) #[.int .i64 I, .int .i64 A, .int .i64 B, .string R] 58 rfl HR5.out rfl ?_) | (refine wpList_storeA Tryd.sizeOf58 rfl _ _ rfl w.heap.size #[.int .i64 I, .int .i64 A, .int .i64 B, .string R] #[.int .i64 0, .int .i64 0, .int .i64 0, .string ⟨#[]⟩] 58 rfl rfl HZ5.out rfl rfl (spe_one _ _ _ _) ?_) | fail)
          have hq : w.heap.size ≤ w.heap.size + 1 := by omega
          refine bodyPost_ret (v := .tuple #[.agg #[.int .i64 I, .int .i64 A, .int .i64 B, .string R], .bool true]) (result50 HZ5.out rfl rfl rfl) rfl ⟨rfl, below_setRow (((HB4.out.setCell hq _).setCell hq _).setCell hq _) (by omega) _⟩
end Go.Proofs.YtpedpdgkbmpfjaaDoor
