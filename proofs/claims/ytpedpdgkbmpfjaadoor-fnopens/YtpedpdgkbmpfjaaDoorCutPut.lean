/- The calls of the specification's l06Cut and l06Put, walked. Made by program. -/
import Derived.Test.YtpedpdgkbmpfjaaDoorMapBetween
namespace Go.Proofs.YtpedpdgkbmpfjaaDoor
open Go.RowKit
set_option linter.unusedVariables false

set_option maxHeartbeats 2000000 in
set_option maxRecDepth 100000 in
theorem l06Cut_is {a : Option Addr} {g off cap : Nat} (l : List PairL) (hlen : l.length ≤ 200) (K : ByteArray) (w : World) (hf : PairAt w a g off l) :
    Calls Tryd.prog 52 #[.slice a l.length cap, .string K] w fun e w' => ∃ v, e = .returned v ∧ w'.ownsRow w.heap.size 48 2 v (Maps.cutK l K).length (cellsPair (Maps.cutK l K)) ∧ Below w.heap.size w w' := by
  obtain ⟨i0, hi, hz0, hz1, hz2⟩ := info_parts Tryd.info48
  have HF : Hid (PairAt w a g off l) := hf
  have hb0 : Below w.heap.size w (w.alloc (Obj.cells #[] 48)) := (Below.refl _ _).alloc (Nat.le_refl _) _
  have HS0 : Hid (RSt w 48 2 (.slice (some ⟨w.heap.size, 0, none⟩) 0 0) 0 [] (w.alloc (Obj.cells #[] 48))) := ⟨own_empty (heap_alloc_new w _) (Nat.le_refl _), hb0⟩
  clear hf hb0
  go_enter Tryd.func52, Tryd.ntmps52
  go_wp2
  go_loopw [5, 6] (fun u i wr => ∃ (k : Nat) (v : Value) (pre : List PairL), k ≤ l.length ∧ i = .int .i64 (k : Int) ∧ v = u ∧ pre = (l.take k).filter (fun p : PairL => !Maps.same p.key K) ∧ RSt w 48 2 v pre.length (cellsPair pre) wr)
    (fun _ i _ => l.length - (intOf i).toNat)
  case atStart => exact ⟨0, _, _, Nat.zero_le _, rfl, rfl, rfl, HS0.out⟩
  case round =>
    obtain ⟨k, v, pre, hk, rfl, rfl, hpre, hrs⟩ := hrel
    have HPR : Hid (pre = (l.take k).filter (fun p : PairL => !Maps.same p.key K)) := hpre
    have HS : Hid (RSt w 48 2 v pre.length (cellsPair pre) wr) := hrs
    have hpb : pre.length ≤ 1000 := by
      rw [hpre]
      have h1 := List.length_filter_le (fun p : PairL => !Maps.same p.key K) (l.take k)
      have h2 := List.length_take_le k l
      skip
      omega
    have hpl : pre.length + 1 ≤ maxLen := by unfold maxLen; omega
    have hby : (pre.length + 1) * 32 ≤ 140737488355328 := by omega
    clear hpre hrs
    obtain ⟨va, vc, rfl⟩ := own_slice HS.out.own
    by_cases hlt : k < l.length
    · obtain ⟨c0, c1⟩ := (HF.out.kept HS.out.below).2 k hlt
      have ea := HF.out.1 (by omega)
      subst ea
      obtain ⟨A, qA⟩ : ∃ A, A = l[k].key := ⟨_, rfl⟩
      obtain ⟨U, qU⟩ : ∃ U, U = l[k].value := ⟨_, rfl⟩
      have HE : Hid (l[k] = ⟨A, U⟩) := by show _ = _; rw [qA, qU]
      rw [← qA] at c0
      rw [← qU] at c1
      clear qA qU
      have hk0 : (0 : Int) ≤ (k : Int) := by omega
      have hk1 : (k : Int) < (l.length : Int) := by omega
      by_cases hc : (!Maps.same A K) = true
      · have HN : Hid (pre ++ [⟨A, U⟩] = (l.take (k + 1)).filter (fun p : PairL => !Maps.same p.key K)) := by
          show _ = _
          rw [List.take_succ_eq_append_getElem hlt, List.filter_append, HE.out, HPR.out]
          simp [List.filter, hc]
        have hq : (A.toList == K.toList) = false := by simpa [Maps.same] using hc
        clear hc
        go_wp2_with (at_builtin; refine wpList_append_lies _ rfl _ _ 27 rfl w.heap.size 48 i0 (.agg #[.string ByteArray.empty, .string ByteArray.empty]) 2 32 Tryd.underlying27 hi hz0 hz1 hz2 rfl (Nat.zero_lt_succ _) _ pre.length (cellsPair pre) rfl ((HS.out.alloc _).own) ⟨wr.heap.size, 0, none⟩ 1 1 [.string A, .string U] rfl rfl (World.news_of_block (cs := #[.string A, .string U]) (t := 48) (fr := (0, 0)) (heap_alloc_new wr _)) (pair_news ⟨A, U⟩) (Nat.zero_lt_succ _) hpl hby (by have h2 := HS.out.below.size; simp; omega) (wr.heap.size + 1) (by simp) ?_; intro g2 cap2 w8 hown8 hgrow hat hlt8)
        have S9 : Hid (RSt w 48 2 (.slice (some ⟨g2, 0, none⟩) (pre.length + 1) cap2) (pre.length + 1) (cellsPair pre ++ [.string A, .string U]) w8) := (HS.out.alloc _).app hgrow hown8
        clear hown8 hgrow hat hlt8 HS
        go_roundw
        case rel =>
          refine ⟨k + 1, _, pre ++ [⟨A, U⟩], by omega, by go_num, rfl, HN.out, ?_⟩
          rw [List.length_append, cellsPair_app]; exact S9.out
        case measure => simp [intOf]; omega
      · have HN : Hid (pre = (l.take (k + 1)).filter (fun p : PairL => !Maps.same p.key K)) := by
          show _ = _
          rw [List.take_succ_eq_append_getElem hlt, List.filter_append, HE.out, HPR.out]
          simp [List.filter, hc]
        have hq : (A.toList == K.toList) = true := by simpa [Maps.same] using hc
        clear hc
        go_wp2
        go_roundw
        case rel => exact ⟨k + 1, _, pre, by omega, by go_num, rfl, HN.out, HS.out⟩
        case measure => simp [intOf]; omega
    · have hk1 : ¬ (k : Int) < (l.length : Int) := by omega
      have HE : Hid (pre = l.filter (fun p : PairL => !Maps.same p.key K)) := by show _ = _; rw [HPR.out, List.take_of_length_le (by omega)]
      go_wp2
      go_ret
      refine ⟨_, rfl, ?_, HS.out.below⟩
      show wr.ownsRow _ _ _ _ (l.filter (fun p : PairL => !Maps.same p.key K)).length (cellsPair (l.filter (fun p : PairL => !Maps.same p.key K)))
      rw [← HE.out]
      exact HS.out.own

set_option maxHeartbeats 4000000 in
set_option maxRecDepth 100000 in
theorem l06Put_is {a : Option Addr} {g off cap : Nat} (l : List PairL) (hlen : l.length ≤ 200) (K V : ByteArray) (w : World) (hf : PairAt w a g off l) :
    Calls Tryd.prog 28 #[.slice a l.length cap, .string K, .string V] w fun e w' => ∃ v, e = .returned v ∧ w'.ownsRow w.heap.size 48 2 v (Maps.putK l K V).length (cellsPair (Maps.putK l K V)) ∧ Below w.heap.size w w' := by
  obtain ⟨i0, hi, hz0, hz1, hz2⟩ := info_parts Tryd.info48
  have HF : Hid (PairAt w a g off l) := hf
  have hb0 : Below w.heap.size w (w.alloc (Obj.cells #[] 48)) := (Below.refl _ _).alloc (Nat.le_refl _) _
  have HS0 : Hid (RSt w 48 2 (.slice (some ⟨w.heap.size, 0, none⟩) 0 0) 0 [] (w.alloc (Obj.cells #[] 48))) := ⟨own_empty (heap_alloc_new w _) (Nat.le_refl _), hb0⟩
  clear hf hb0
  go_enter Tryd.func28, Tryd.ntmps28
  go_wp2
  go_loopw [7, 8] (fun u i wr => ∃ (k : Nat) (v : Value) (pre : List PairL), k ≤ l.length ∧ i = .int .i64 (k : Int) ∧ v = u ∧ pre = (l.take k).filter (fun p : PairL => Batches.lt p.key K) ∧ RSt w 48 2 v pre.length (cellsPair pre) wr)
    (fun _ i _ => l.length - (intOf i).toNat)
  case atStart => exact ⟨0, _, _, Nat.zero_le _, rfl, rfl, rfl, HS0.out⟩
  case round =>
    obtain ⟨k, v, pre, hk, rfl, rfl, hpre, hrs⟩ := hrel
    have HPR : Hid (pre = (l.take k).filter (fun p : PairL => Batches.lt p.key K)) := hpre
    have HS : Hid (RSt w 48 2 v pre.length (cellsPair pre) wr) := hrs
    have hpb : pre.length ≤ 1000 := by
      rw [hpre]
      have h1 := List.length_filter_le (fun p : PairL => Batches.lt p.key K) (l.take k)
      have h2 := List.length_take_le k l
      skip
      omega
    have hpl : pre.length + 1 ≤ maxLen := by unfold maxLen; omega
    have hby : (pre.length + 1) * 32 ≤ 140737488355328 := by omega
    clear hpre hrs
    obtain ⟨va, vc, rfl⟩ := own_slice HS.out.own
    by_cases hlt : k < l.length
    · obtain ⟨c0, c1⟩ := (HF.out.kept HS.out.below).2 k hlt
      have ea := HF.out.1 (by omega)
      subst ea
      obtain ⟨A, qA⟩ : ∃ A, A = l[k].key := ⟨_, rfl⟩
      obtain ⟨U, qU⟩ : ∃ U, U = l[k].value := ⟨_, rfl⟩
      have HE : Hid (l[k] = ⟨A, U⟩) := by show _ = _; rw [qA, qU]
      rw [← qA] at c0
      rw [← qU] at c1
      clear qA qU
      have hk0 : (0 : Int) ≤ (k : Int) := by omega
      have hk1 : (k : Int) < (l.length : Int) := by omega
      by_cases hc : (Batches.lt A K) = true
      · have HN : Hid (pre ++ [⟨A, U⟩] = (l.take (k + 1)).filter (fun p : PairL => Batches.lt p.key K)) := by
          show _ = _
          rw [List.take_succ_eq_append_getElem hlt, List.filter_append, HE.out, HPR.out]
          simp [List.filter, hc]
        have hq : Op.bytesLess A.toList K.toList = true := hc
        clear hc
        go_wp2_with (at_builtin; refine wpList_append_lies _ rfl _ _ 27 rfl w.heap.size 48 i0 (.agg #[.string ByteArray.empty, .string ByteArray.empty]) 2 32 Tryd.underlying27 hi hz0 hz1 hz2 rfl (Nat.zero_lt_succ _) _ pre.length (cellsPair pre) rfl ((HS.out.alloc _).own) ⟨wr.heap.size, 0, none⟩ 1 1 [.string A, .string U] rfl rfl (World.news_of_block (cs := #[.string A, .string U]) (t := 48) (fr := (0, 0)) (heap_alloc_new wr _)) (pair_news ⟨A, U⟩) (Nat.zero_lt_succ _) hpl hby (by have h2 := HS.out.below.size; simp; omega) (wr.heap.size + 1) (by simp) ?_; intro g2 cap2 w8 hown8 hgrow hat hlt8)
        have S9 : Hid (RSt w 48 2 (.slice (some ⟨g2, 0, none⟩) (pre.length + 1) cap2) (pre.length + 1) (cellsPair pre ++ [.string A, .string U]) w8) := (HS.out.alloc _).app hgrow hown8
        clear hown8 hgrow hat hlt8 HS
        go_roundw
        case rel =>
          refine ⟨k + 1, _, pre ++ [⟨A, U⟩], by omega, by go_num, rfl, HN.out, ?_⟩
          rw [List.length_append, cellsPair_app]; exact S9.out
        case measure => simp [intOf]; omega
      · have HN : Hid (pre = (l.take (k + 1)).filter (fun p : PairL => Batches.lt p.key K)) := by
          show _ = _
          rw [List.take_succ_eq_append_getElem hlt, List.filter_append, HE.out, HPR.out]
          simp [List.filter, hc]
        have hq : Op.bytesLess A.toList K.toList = false := by simpa [Batches.lt] using hc
        clear hc
        go_wp2
        go_roundw
        case rel => exact ⟨k + 1, _, pre, by omega, by go_num, rfl, HN.out, HS.out⟩
        case measure => simp [intOf]; omega
    · have hk1 : ¬ (k : Int) < (l.length : Int) := by omega
      have HE : Hid (pre = l.filter (fun p : PairL => Batches.lt p.key K)) := by show _ = _; rw [HPR.out, List.take_of_length_le (by omega)]
      go_wp2_with (at_builtin; refine wpList_append_lies _ rfl _ _ 27 rfl w.heap.size 48 i0 (.agg #[.string ByteArray.empty, .string ByteArray.empty]) 2 32 Tryd.underlying27 hi hz0 hz1 hz2 rfl (Nat.zero_lt_succ _) _ pre.length (cellsPair pre) rfl ((HS.out.alloc _).own) ⟨wr.heap.size, 0, none⟩ 1 1 [.string K, .string V] rfl rfl (World.news_of_block (cs := #[.string K, .string V]) (t := 48) (fr := (0, 0)) (heap_alloc_new wr _)) (pair_news ⟨K, V⟩) (Nat.zero_lt_succ _) hpl hby (by have h2 := HS.out.below.size; simp; omega) (wr.heap.size + 1) (by simp) ?_; intro g2 cap2 w8 hown8 hgrow hat hlt8)
      have S9 : Hid (RSt w 48 2 (.slice (some ⟨g2, 0, none⟩) (pre.length + 1) cap2) (pre.length + 1) (cellsPair pre ++ [.string K, .string V]) w8) := (HS.out.alloc _).app hgrow hown8
      have HS2 : Hid (RSt w 48 2 (.slice (some ⟨g2, 0, none⟩) (pre.length + 1) cap2) (l.filter (fun p : PairL => Batches.lt p.key K) ++ [(⟨K, V⟩ : PairL)]).length (cellsPair (l.filter (fun p : PairL => Batches.lt p.key K) ++ [(⟨K, V⟩ : PairL)])) w8) := by
        rw [← HE.out, List.length_append, cellsPair_app]; exact S9.out
      clear hown8 hgrow hat hlt8 HS S9 hk1 hlt HPR HE hpl hby hpb
      go_loopw [7, 9] (fun u i wr => ∃ (k : Nat) (v : Value) (pre : List PairL), k ≤ l.length ∧ i = .int .i64 (k : Int) ∧ v = u ∧ pre = (l.filter (fun p : PairL => Batches.lt p.key K) ++ [(⟨K, V⟩ : PairL)]) ++ (l.take k).filter (fun p : PairL => Batches.lt K p.key) ∧ RSt w 48 2 v pre.length (cellsPair pre) wr)
        (fun _ i _ => l.length - (intOf i).toNat)
      case atStart => exact ⟨0, _, _, Nat.zero_le _, rfl, rfl, by simp, HS2.out⟩
      case round =>
        obtain ⟨k, v, pre, hk, rfl, rfl, hpre, hrs⟩ := hrel
        have HPR : Hid (pre = (l.filter (fun p : PairL => Batches.lt p.key K) ++ [(⟨K, V⟩ : PairL)]) ++ (l.take k).filter (fun p : PairL => Batches.lt K p.key)) := hpre
        have HS : Hid (RSt w 48 2 v pre.length (cellsPair pre) wr) := hrs
        have hpb : pre.length ≤ 1000 := by
          rw [hpre]
          have h1 := List.length_filter_le (fun p : PairL => Batches.lt K p.key) (l.take k)
          have h2 := List.length_take_le k l
          have h3 := List.length_filter_le (fun p : PairL => Batches.lt p.key K) l
          rw [List.length_append, List.length_append]
          simp only [List.length_cons, List.length_nil]
          omega
        have hpl : pre.length + 1 ≤ maxLen := by unfold maxLen; omega
        have hby : (pre.length + 1) * 32 ≤ 140737488355328 := by omega
        clear hpre hrs
        obtain ⟨va, vc, rfl⟩ := own_slice HS.out.own
        by_cases hlt : k < l.length
        · obtain ⟨c0, c1⟩ := (HF.out.kept HS.out.below).2 k hlt
          have ea := HF.out.1 (by omega)
          subst ea
          obtain ⟨A, qA⟩ : ∃ A, A = l[k].key := ⟨_, rfl⟩
          obtain ⟨U, qU⟩ : ∃ U, U = l[k].value := ⟨_, rfl⟩
          have HE : Hid (l[k] = ⟨A, U⟩) := by show _ = _; rw [qA, qU]
          rw [← qA] at c0
          rw [← qU] at c1
          clear qA qU
          have hk0 : (0 : Int) ≤ (k : Int) := by omega
          have hk1 : (k : Int) < (l.length : Int) := by omega
          by_cases hc : (Batches.lt K A) = true
          · have HN : Hid (pre ++ [⟨A, U⟩] = (l.filter (fun p : PairL => Batches.lt p.key K) ++ [(⟨K, V⟩ : PairL)]) ++ (l.take (k + 1)).filter (fun p : PairL => Batches.lt K p.key)) := by
              show _ = _
              rw [List.take_succ_eq_append_getElem hlt, List.filter_append, HE.out, HPR.out]
              simp [List.filter, hc]
            have hle := le_of_lt hc
            clear hc
            go_wp2_with (at_builtin; refine wpList_append_lies _ rfl _ _ 27 rfl w.heap.size 48 i0 (.agg #[.string ByteArray.empty, .string ByteArray.empty]) 2 32 Tryd.underlying27 hi hz0 hz1 hz2 rfl (Nat.zero_lt_succ _) _ pre.length (cellsPair pre) rfl ((HS.out.alloc _).own) ⟨wr.heap.size, 0, none⟩ 1 1 [.string A, .string U] rfl rfl (World.news_of_block (cs := #[.string A, .string U]) (t := 48) (fr := (0, 0)) (heap_alloc_new wr _)) (pair_news ⟨A, U⟩) (Nat.zero_lt_succ _) hpl hby (by have h2 := HS.out.below.size; simp; omega) (wr.heap.size + 1) (by simp) ?_; intro g2 cap2 w8 hown8 hgrow hat hlt8)
            have S9 : Hid (RSt w 48 2 (.slice (some ⟨g2, 0, none⟩) (pre.length + 1) cap2) (pre.length + 1) (cellsPair pre ++ [.string A, .string U]) w8) := (HS.out.alloc _).app hgrow hown8
            clear hown8 hgrow hat hlt8 HS
            go_roundw
            case rel =>
              refine ⟨k + 1, _, pre ++ [⟨A, U⟩], by omega, by go_num, rfl, HN.out, ?_⟩
              rw [List.length_append, cellsPair_app]; exact S9.out
            case measure => simp [intOf]; omega
          · have HN : Hid (pre = (l.filter (fun p : PairL => Batches.lt p.key K) ++ [(⟨K, V⟩ : PairL)]) ++ (l.take (k + 1)).filter (fun p : PairL => Batches.lt K p.key)) := by
              show _ = _
              rw [List.take_succ_eq_append_getElem hlt, List.filter_append, HE.out, HPR.out]
              simp [List.filter, hc]
            have hle := le_of_not hc
            clear hc
            go_wp2
            go_roundw
            case rel => exact ⟨k + 1, _, pre, by omega, by go_num, rfl, HN.out, HS.out⟩
            case measure => simp [intOf]; omega
        · have hk1 : ¬ (k : Int) < (l.length : Int) := by omega
          have HE : Hid (pre = (l.filter (fun p : PairL => Batches.lt p.key K) ++ [(⟨K, V⟩ : PairL)]) ++ l.filter (fun p : PairL => Batches.lt K p.key)) := by show _ = _; rw [HPR.out, List.take_of_length_le (by omega)]
          go_wp2
          go_ret
          refine ⟨_, rfl, ?_, HS.out.below⟩
          show wr.ownsRow _ _ _ _ (l.filter (fun p : PairL => Batches.lt p.key K) ++ ((⟨K, V⟩ : PairL) :: l.filter (fun p : PairL => Batches.lt K p.key))).length (cellsPair (l.filter (fun p : PairL => Batches.lt p.key K) ++ ((⟨K, V⟩ : PairL) :: l.filter (fun p : PairL => Batches.lt K p.key))))
          rw [show l.filter (fun p : PairL => Batches.lt p.key K) ++ ((⟨K, V⟩ : PairL) :: l.filter (fun p : PairL => Batches.lt K p.key)) = pre by rw [HE.out, List.append_assoc]; rfl]
          exact HS.out.own
end Go.Proofs.YtpedpdgkbmpfjaaDoor
