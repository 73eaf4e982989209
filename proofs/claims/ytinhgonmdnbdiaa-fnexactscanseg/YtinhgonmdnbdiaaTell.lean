/- The calls of tellFrames and of Unframe, walked: the records of the whole frames, and the place behind the last. -/
import Derived.Test.YtinhgonmdnbdiaaYield
namespace Go.Proofs.Ytinhgonmdnbdiaa
open Go.RowKit

theorem ext_list (s : ByteArray) (b n : Nat) : (s.extract (b + 4) (b + 4 + n)).data.toList = (s.data.toList.drop (b + 4)).take n := by
  rw [Words.extract_list]; congr 1; omega
theorem sum_iff (s : ByteArray) (b n : Nat) : ((s.extract b (b + 4)).toList == Sums.four (Sums.sumOf (s.extract (b + 4) (b + 4 + n)).data.toList)) = decide ((s.data.toList.drop b).take 4 = Sums.four (Sums.sumOf ((s.data.toList.drop (b + 4)).take n))) := by
  rw [ext_list, ByteArray.toList_eq, Words.extract_list, show b + 4 - b = 4 by omega]
  rw [Bool.eq_iff_iff]; simp

theorem tell_kept {base R Q : Nat} {ps : List (List UInt8)} {z : Nat} {w w' : World} (h : Tell base R Q ps z w) (hb : Below w.heap.size w w') : Tell base R Q ps z w' := by
  obtain ⟨v, h1, h2, h3⟩ := h
  exact ⟨v, blk_kept h1 hb, blk_kept h2 hb, own_kept h3 hb⟩

set_option maxHeartbeats 1000000 in
set_option maxRecDepth 100000 in
theorem tell_is {base R Q : Nat} (hRB : R < base) (hQB : Q < base) (hRQ : R < Q) (s : ByteArray) (hs : s.size ≤ 20000) (w : World) (hbase : base ≤ w.heap.size) (hT : Tell base R Q [] 0 w) :
    Calls Try.prog 72 #[.string s, .func (.func 73) #[] #[.pointer (some ⟨R, 0, none⟩), .pointer (some ⟨Q, 0, none⟩)]] w fun e w' =>
      e = .returned (.tuple #[]) ∧ Tell base R Q (Words.un (s.size + 1) s.data.toList 0) (Words.stop (s.size + 1) s.data.toList 0) w' ∧ Below R w w' := by
  have HT : Hid (Tell base R Q [] 0 w) := hT
  clear hT
  go_enter Try.func72, Try.ntmps72
  go_wp2
  go_loopw [4] (fun x wr => ∃ (a f : Nat) (ps : List (List UInt8)), x = .int .i64 (a : Int) ∧ a ≤ s.size ∧ ps.length ≤ a ∧ s.size < a + f ∧ Hid (ps ++ Words.un f s.data.toList a = Words.un (s.size + 1) s.data.toList 0 ∧ Words.stop f s.data.toList a = Words.stop (s.size + 1) s.data.toList 0) ∧ Hid (Tell base R Q ps a wr) ∧ base ≤ wr.heap.size ∧ Hid (Below R w wr))
    (fun x _ => s.size - (intOf x).toNat)
  case atStart => exact ⟨0, s.size + 1, [], rfl, by omega, by simp, by omega, ⟨rfl, rfl⟩, HT, hbase, Below.refl _ _⟩
  case round =>
    obtain ⟨a, f, ps, rfl, ha, hpl, hf, HE, HTr, hbr, HB⟩ := hrel
    cases hfit : Words.fit s.data.toList a with
    | none =>
      have HF : Hid (Words.fit s.data.toList a = none) := hfit
      clear hfit
      go_wp2_with (go_at_call 85; refine (framedAt_no s hs a ha HF.out _).mono ?_; rintro e w1 ⟨rfl, hb1⟩; unfold framedV)
      refine bodyPost_ret (v := .tuple #[]) (by simp [results, Try.results72, go_sem]) rfl ?_
      have U := Words.un_end f (Words.fr_none HF.out)
      have E := HE.out
      rw [U.1, U.2, List.append_nil] at E
      refine ⟨rfl, ?_, ?_⟩
      · rw [← E.1, ← E.2]; exact tell_kept HTr.out (((Below.refl _ _).trans hb1).alloc (hb1.size) _)
      · exact (HB.out.trans (hb1.mono (by omega))).alloc (by have := hb1.size; omega) _
    | some p =>
      obtain ⟨n, b⟩ := p
      have HF : Hid (Words.fit s.data.toList a = some (n, b)) := hfit
      obtain ⟨hr, hn1, hn2, hn3⟩ := Words.fit_some hfit
      obtain ⟨g1, g2, g3, g4, g5, g6⟩ := Words.rd_front hr
      rw [Words.size_list] at g3 g4 hn3
      clear hr hfit g5
      have hBs : (s.extract (b + 4) (b + 4 + n)).size ≤ 20000 := by rw [ByteArray.size_extract]; omega
      have hS := sum_iff s b n
      have HX : Hid ((s.extract (b + 4) (b + 4 + n)).data.toList = (s.data.toList.drop (b + 4)).take n) := ext_list s b n
      by_cases hw : (s.data.toList.drop b).take 4 = Sums.four (Sums.sumOf ((s.data.toList.drop (b + 4)).take n))
      · have HS : Hid (_ = true) := hS.trans (decide_eq_true hw)
        have HW : Hid (Words.fr s.data.toList a = some (_, _)) := Words.fr_whole HF.out hw
        clear hS hw
        obtain ⟨A, hA⟩ : ∃ A, A = s.extract b (b + 4) := ⟨_, rfl⟩
        obtain ⟨B, hB⟩ : ∃ B, B = s.extract (b + 4) (b + 4 + n) := ⟨_, rfl⟩
        obtain ⟨E, hE⟩ : ∃ E, E = b + 4 + n := ⟨_, rfl⟩
        have HFA : Hid (∀ w, Calls Try.prog 85 #[.string s, .int .i64 (a : Int)] w fun e w' => e = .returned (.tuple #[framedV A B (E : Int), .bool true]) ∧ Below w.heap.size w w') := fun w => by
          rw [hA, hB, hE]; exact framedAt_yes s hs a n b ha HF.out w
        rw [← hA, ← hB] at HS
        rw [← hB] at hBs HX
        have HW2 : Hid (Words.fr s.data.toList a = some (B.data.toList, E)) := by show _ = _; rw [HX.out, hE]; exact HW.out
        clear hA hB HX HW
        have hE1 : a < E := by omega
        have hE2 : E ≤ s.size := by omega
        clear hE g1 g2 g3 g4 g6 hn1 hn2 hn3
        go_wp2_with (go_at_call 85; refine (HFA.out _).mono ?_; rintro e w1 ⟨rfl, hb1⟩; unfold framedV)
        have hz1 := hb1.size
        have HT2 : Hid (Tell base R Q ps a (w1.alloc (.cells #[.string A, .string B, .int .i64 (E : Int)] 100))) := tell_kept HTr.out (hb1.alloc hb1.size _)
        have HB2 : Hid (Below R w (w1.alloc (.cells #[.string A, .string B, .int .i64 (E : Int)] 100))) := (HB.out.trans (hb1.mono (by omega))).alloc (by omega) _
        have HF2 : Hid ((w1.alloc (.cells #[.string A, .string B, .int .i64 (E : Int)] 100)).heap[w1.heap.size]? = some (.cells #[.string A, .string B, .int .i64 (E : Int)] 100 (0, 0))) := heap_alloc_new w1 _
        refine (yield_yes hRB hQB hRQ A B E hBs HS.out ps a (by omega) _ (by simp; omega) HT2.out).mono ?_
        rintro e w2 ⟨rfl, ht, hb2, hk⟩
        have cE : w2.cell? ⟨w1.heap.size, 2, none⟩ = some (.int .i64 (E : Int)) := blk_cell (hk _ _ HF2.out) rfl
        have HT3 : Hid (Tell base R Q (ps ++ [B.data.toList]) E w2) := ht
        have hz2 : base ≤ w2.heap.size := by have := hb2.size; simp at this; omega
        have HB3 : Hid (Below R w w2) := HB2.out.trans hb2
        clear ht hk hb2 HT2 HB2 HF2 hb1
        go_wp2
        go_roundw
        case rel =>
          obtain ⟨f', rfl⟩ : ∃ f', f = f' + 1 := ⟨f - 1, by omega⟩
          have U := Words.un_more f' HW2.out
          have E' := HE.out
          rw [U.1, U.2] at E'
          exact ⟨E, f', ps ++ [B.data.toList], rfl, hE2, by simp; omega, by omega, ⟨by rw [← E'.1]; simp, E'.2⟩, HT3, hz2, HB3⟩
        case measure => simp [intOf]; omega
      · have HS : Hid (_ = false) := hS.trans (decide_eq_false hw)
        have HW : Hid (Words.fr s.data.toList a = none) := Words.fr_torn HF.out hw
        clear hS hw
        obtain ⟨A, hA⟩ : ∃ A, A = s.extract b (b + 4) := ⟨_, rfl⟩
        obtain ⟨B, hB⟩ : ∃ B, B = s.extract (b + 4) (b + 4 + n) := ⟨_, rfl⟩
        have HFA : Hid (∀ w, Calls Try.prog 85 #[.string s, .int .i64 (a : Int)] w fun e w' => e = .returned (.tuple #[framedV A B ((b + 4 + n : Nat) : Int), .bool true]) ∧ Below w.heap.size w w') := fun w => by
          rw [hA, hB]; exact framedAt_yes s hs a n b ha HF.out w
        rw [← hA, ← hB] at HS
        rw [← hB] at hBs
        clear hA hB HX
        go_wp2_with (first | (go_at_call 85; refine (HFA.out _).mono ?_; rintro e w1 ⟨rfl, hb1⟩; unfold framedV) | (go_at_call 73; refine (yield_no R Q A B _ hBs HS.out _).mono ?_; rintro e w2 ⟨rfl, hb2⟩))
        refine bodyPost_ret (v := .tuple #[]) (by simp [results, Try.results72, go_sem]) rfl ?_
        have U := Words.un_end f HW.out
        have E := HE.out
        rw [U.1, U.2, List.append_nil] at E
        have hbz := hb1.size
        have hb3 : Below wr.heap.size wr w2 := (((Below.refl _ _).trans hb1).alloc hb1.size _).trans (hb2.mono (by simp; omega))
        refine ⟨rfl, ?_, ?_⟩
        · rw [← E.1, ← E.2]; exact tell_kept HTr.out hb3
        · exact HB.out.trans (hb3.mono (by omega))

def unT (v : Value) (z : Nat) : Value := .tuple #[v, .int .i64 (z : Int)]
theorem un_long {s : ByteArray} : (Words.un (s.size + 1) s.data.toList 0).length ≤ s.size := by
  have := Words.un_len (s.size + 1) s.data.toList 0
  rwa [Words.size_list] at this
theorem below2 (w : World) (o o' : Obj) : Below w.heap.size w ((w.alloc o).alloc o') := ((Below.refl _ _).alloc (Nat.le_refl _) o).alloc (by simp) o'

set_option maxHeartbeats 1000000 in
set_option maxRecDepth 100000 in
theorem implUn_big (s : ByteArray) (hs : 20000 < s.size) (h2 : s.size ≤ maxLen) (w : World) :
    Calls Try.prog 58 #[.string s] w fun e w' => e = .returned (.tuple #[.slice none 0 0, .int .i64 0]) ∧ Below w.heap.size w w' := by
  unfold maxLen at h2
  go_enter Try.func58, Try.ntmps58
  go_wp2
  go_ret2
  exact ⟨rfl, Below.refl _ _⟩

set_option maxHeartbeats 1000000 in
set_option maxRecDepth 100000 in
theorem implUn_is (s : ByteArray) (hs : s.size ≤ 20000) (w : World) :
    Calls Try.prog 58 #[.string s] w fun e w' => ∃ v, e = .returned (unT v (Words.stop (s.size + 1) s.data.toList 0)) ∧ w'.ownsRow w.heap.size 9 1 v (Words.un (s.size + 1) s.data.toList 0).length (cellsS (Words.un (s.size + 1) s.data.toList 0)) ∧ Below w.heap.size w w' := by
  have hmf : ∀ (fn : Fn) (first cap : Array Value) (w : World), (Instr.makeFunc fn first cap).run Try.prog w = .ok (.func fn first cap) w := fun _ _ _ _ => rfl
  go_enter Try.func58, Try.ntmps58
  go_wp2_with fail
  have hT0 : Tell (w.heap.size + 2) w.heap.size (w.heap.size + 1) [] 0 ((w.alloc (.cells #[.slice none 0 0] 23)).alloc (.cells #[.int .i64 0] 3)) :=
    ⟨.slice none 0 0, blk_alloc (heap_alloc_new w _) _, by have := heap_alloc_new (w.alloc (.cells #[.slice none 0 0] 23)) (.cells #[.int .i64 0] 3); simpa using this, World.ownsRow_nil _ _ _ _⟩
  refine (tell_is (by omega) (by omega) (by omega) s hs _ (by simp) hT0).mono ?_
  rintro e w1 ⟨rfl, ⟨v, h1, h2, h3⟩, hb1⟩
  clear hT0 hmf
  have c1 := cell_of_one h1
  have c2 := cell_of_one h2
  have HO : Hid (w1.ownsRow _ 9 1 v _ _) := h3
  obtain ⟨va, vc, hv⟩ := own_slice h3
  subst hv
  have HB : Hid (Below w.heap.size w w1) := (below2 w _ _).trans hb1
  clear h1 h2 h3 hb1
  go_wp2
  go_quiet (fail)
  go_wp2
  go_ret2
  exact ⟨_, rfl, own_mono (own_kept HO.out (below_drewN (Below.refl _ _) _)) (by omega), below_drewN HB.out _⟩
end Go.Proofs.Ytinhgonmdnbdiaa
