/- The call of the specification's BatchText, walked. -/
import Derived.Test.YtinhgonmdnbdiaaImplText
import Derived.Test.YtinhgonmdnbdiaaReadSpec
namespace Go.Proofs.Ytinhgonmdnbdiaa
open Go.RowKit

theorem l01Var_q (x : Int) (h0 : 0 ≤ x) (h1 : x ≤ 1000000000) (w : World) : Calls Try.prog 29 #[.int .i64 x] w fun e w' => e = .returned (.string (varS x)) ∧ Below w.heap.size w w' := l01Var_int x h0 h1 w
set_option maxHeartbeats 400000 in
theorem l05Short_q (s : ByteArray) (h : s.size ≤ 1000000) (w : World) : Calls Try.prog 30 #[.string s] w fun e w' => e = .returned (.string (shortS s)) ∧ Below w.heap.size w w' := by
  have hi : Is (varS (s.size : Int) ++ s) (Batches.short s) := by have := (varS_is (s.size : Int)).app (T := s) rfl; simpa [Batches.short] using this
  have hz := varS_size (s.size : Int) 1000000 (by omega)
  have z3 : ¬ 9223372036854775807 < (varS (s.size : Int)).size + s.size := by omega
  have HS : Hid (Value.string (shortS s) = .string (varS (s.size : Int) ++ s)) := by show _ = _; rw [hi.eq]; rfl
  clear hi
  go_enter Try.func30, Try.ntmps30
  go_wp2_with (go_at_call 29; refine (l01Var_q (s.size : Int) (by omega) (by omega) _).mono ?_; rintro e w1 ⟨rfl, hb1⟩)
  go_ret
  exact ⟨by rw [HS.out]; rfl, hb1⟩
set_option maxHeartbeats 400000 in
theorem specText_no (st : Int) {a : Option Addr} {g off cap : Nat} (l : List ChangeL) (hlen : l.length ≤ 2097152) (w : World) (hf : ChangeAt w a g off l) (hsz : ∀ c ∈ l, smallChange 2097152 c) (hR : ¬ Batches.ok st l) :
    Calls Try.prog 55 #[.agg #[.int .i64 st, .slice a l.length cap]] w fun e w' => e = .returned (.tuple #[.string ⟨#[]⟩, .bool false]) ∧ Below w.heap.size w w' := by
  have HF : Hid (ChangeAt (w.alloc (Obj.cells #[Value.int IntKind.i64 st, Value.slice a l.length cap] 47)) a g off l) := hf.kept ((Below.refl _ _).alloc (Nat.le_refl _) _)
  have HS : Hid (∀ c ∈ l, smallChange 2097152 c) := hsz
  have HR : Hid (¬ Batches.ok st l) := hR
  clear hf hsz hR
  go_enter Try.func55, Try.ntmps55
  go_wp2_with (go_at_call 70; refine (specOk_any false st l hlen _ HF.out HS.out (by simp [HR.out])).mono ?_; rintro e w1 ⟨rfl, hb1⟩)
  go_ret2
  exact ⟨rfl, ((Below.refl _ _).alloc (Nat.le_refl _) _).trans (hb1.mono (by simp))⟩
set_option maxHeartbeats 1000000 in
set_option maxRecDepth 100000 in
theorem specText_yes (st : Int) {a : Option Addr} {g off cap : Nat} (l : List ChangeL) (hlen : l.length ≤ 2097152) (w : World) (hf : ChangeAt w a g off l) (hsz : ∀ c ∈ l, smallChange 2097152 c) (hR : Batches.ok st l) :
    Calls Try.prog 55 #[.agg #[.int .i64 st, .slice a l.length cap]] w fun e w' => e = .returned (.tuple #[.string ⟨(Batches.text st.toNat l).toArray⟩, .bool true]) ∧ Below w.heap.size w w' := by
  obtain ⟨W, hW⟩ : ∃ W, W = w.alloc (Obj.cells #[Value.int IntKind.i64 st, Value.slice a l.length cap] 47) := ⟨_, rfl⟩
  have hWb : Below w.heap.size w W := by rw [hW]; exact (Below.refl _ _).alloc (Nat.le_refl _) _
  have hc0 : W.cell? ⟨w.heap.size, 0, none⟩ = some (.int .i64 st) := by rw [hW]; exact cell_of_row _ _ 0 _ _ _ (heap_alloc_new w _)
  have hc1 : W.cell? ⟨w.heap.size, 1, none⟩ = some (.slice a l.length cap) := by rw [hW]; exact cell_of_row _ _ 1 _ _ _ (heap_alloc_new w _)
  have hWz : w.heap.size < W.heap.size := World.block_lt_of_cell? W _ hc0
  have HF : Hid (ChangeAt W a g off l) := hf.kept hWb
  have HS : Hid (∀ c ∈ l, smallChange 2097152 c) := hsz
  have HR : Hid (Batches.ok st l) := hR
  have hst := hR.1
  have hl60 := hR.2.1
  clear hf hsz hR
  go_enter Try.func55, Try.ntmps55
  go_wp2_with fail
  rw [← hW]
  clear hW
  refine (specOk_any true st l hlen _ HF.out HS.out (by simp [HR.out])).mono ?_
  rintro e w1 ⟨rfl, hb1⟩
  have d0 : w1.cell? ⟨w.heap.size, 0, none⟩ = some (.int .i64 st) := (hb1.cell (p := ⟨w.heap.size, 0, none⟩) hWz).trans hc0
  have d1 : w1.cell? ⟨w.heap.size, 1, none⟩ = some (.slice a l.length cap) := (hb1.cell (p := ⟨w.heap.size, 1, none⟩) hWz).trans hc1
  have hB1 : Below w.heap.size w w1 := hWb.trans (hb1.mono hWb.size)
  have HF1 : Hid (ChangeAt w1 a g off l) := HF.out.kept hb1
  have hz1 : w.heap.size < w1.heap.size := Nat.lt_of_lt_of_le hWz hb1.size
  clear hWb hc0 hc1 hWz HF hb1
  go_wp2_with fail
  have z1 := varS_size st 100000 (by omega)
  have z2 := varS_size (l.length : Int) 60 (by omega)
  have z3 : ¬ 9223372036854775807 < (varS st).size + (varS (l.length : Int)).size := by omega
  have NE := Abv.ne w1
  have F0 := fun x : Abv w1 => x.cell d0
  have F1 := fun x : Abv w1 => x.cell d1
  refine wp_region_above (by kernel_rfl) (by kernel_rfl) ?_
  repeat (go_big_quiet_step (first | (go_at_call 29; exact calls_above (l01Var_q _ (by omega) (by omega) _))))
  refine wpQuiet_nil ?_
  rintro w2 ⟨⟨_, hb2⟩, rfl⟩
  clear NE F0 F1
  have HI : Hid (Upto st l 0 (varS st ++ varS l.length)) := upto_zero st l
  have z4 : (varS st ++ varS l.length).size ≤ 200000 := by rw [ByteArray.size_append]; omega
  obtain ⟨S, hS⟩ : ∃ S, S = varS st ++ varS l.length := ⟨_, rfl⟩
  rw [← hS] at HI z4 ⊢
  clear hS z1 z2 z3
  have d2 : w2.cell? ⟨w.heap.size, 1, none⟩ = some (.slice a l.length cap) := (hb2.cell (p := ⟨w.heap.size, 1, none⟩) hz1).trans d1
  have hz2 : w.heap.size < w2.heap.size := Nat.lt_of_lt_of_le hz1 hb2.size
  have hB2 : Below w.heap.size w w2 := hB1.trans (hb2.mono hB1.size)
  have HF2 : Hid (ChangeAt w2 a g off l) := HF1.out.kept hb2
  clear d0 d1 hB1 HF1 hz1 hb2
  go_wp2
  go_loopw [4, 5] (fun x i wr => ∃ (k : Nat) (S : ByteArray), k ≤ l.length ∧ i = .int .i64 (k : Int) ∧ x = .string S ∧ Upto st l k S ∧ S.size ≤ 200000 + 200 * k ∧ Below w2.heap.size w2 wr)
    (fun _ i _ => l.length - (intOf i).toNat)
  case atStart => exact ⟨0, S, Nat.zero_le _, rfl, rfl, HI.out, z4, Below.refl _ _⟩
  case round =>
    obtain ⟨k, S, hk, rfl, rfl, hup, hz, hbel⟩ := hrel
    have HU : Hid (Upto st l k S) := hup
    have d3 : wr.cell? ⟨w.heap.size, 1, none⟩ = some (.slice a l.length cap) := (hbel.cell (p := ⟨w.heap.size, 1, none⟩) hz2).trans d2
    clear hup
    by_cases hlt : k < l.length
    · obtain ⟨c0, c1, c2⟩ := (HF2.out.kept hbel).2 k hlt
      have ea := HF2.out.1 (by omega)
      subst ea
      obtain ⟨A, hA⟩ : ∃ A, A = l[k].key := ⟨_, rfl⟩
      obtain ⟨V, hV⟩ : ∃ V, V = l[k].value := ⟨_, rfl⟩
      obtain ⟨G, hG⟩ : ∃ G, G = l[k].gone := ⟨_, rfl⟩
      obtain ⟨_, o1, _⟩ := HR.out.2.2 k hlt
      have s0 := o1.2.1
      have s1 := o1.2.2.1
      rw [← hA] at c0 s0
      rw [← hV] at c1 s1
      rw [← hG] at c2
      have HE : Hid (l[k] = ⟨A, V, G⟩) := by show _ = _; rw [hA, hV, hG]
      clear hA hV hG o1
      have hk0 : (0 : Int) ≤ (k : Int) := by omega
      have hk1 : (k : Int) < (l.length : Int) := by omega
      have y0 := shortS_size A 10 s0
      have y1 := shortS_size V 40 s1
      cases G with
      | true =>
        have y3 : (⟨#[1]⟩ : ByteArray).size = 1 := rfl
        have x1 : ¬ 9223372036854775807 < S.size + (shortS A).size := by omega
        have x2 : ¬ 9223372036854775807 < (S ++ shortS A).size + (⟨#[1]⟩ : ByteArray).size := by rw [ByteArray.size_append]; omega
        have x3 : ¬ 9223372036854775807 < (S ++ shortS A ++ ⟨#[1]⟩).size + (shortS V).size := by rw [ByteArray.size_append, ByteArray.size_append]; omega
        have HN : Hid (Upto st l (k + 1) (S ++ shortS A ++ ⟨#[1]⟩ ++ shortS V)) := by
          have := upto_step hlt HU.out HE.out (one_is A V true)
          show Upto _ _ _ _
          have e : S ++ (shortS A ++ flagS true ++ shortS V) = S ++ shortS A ++ ⟨#[1]⟩ ++ shortS V := Batches.by_inj (by unfold Batches.by_; simp only [app_list, List.append_assoc]; rfl)
          rw [← e]; exact this
        have hz3 : (S ++ shortS A ++ ⟨#[1]⟩ ++ shortS V).size ≤ 200000 + 200 * (k + 1) := by rw [ByteArray.size_append, ByteArray.size_append, ByteArray.size_append]; omega
        go_wp2_with fail
        have NE := Abv.ne wr
        have F0 := fun x : Abv wr => x.cell c0
        have F1 := fun x : Abv wr => x.cell c1
        have F2 := fun x : Abv wr => x.cell d3
        refine wp_region_above (by kernel_rfl) (by kernel_rfl) ?_
        repeat (go_big_quiet_step (first | (go_at_call 30; exact calls_above (l05Short_q _ (by omega) _))))
        refine wpQuiet_nil ?_
        rintro w3 ⟨⟨_, hb3⟩, rfl⟩
        clear NE F0 F1 F2 x1 x2 x3
        obtain ⟨T, hT⟩ : ∃ T, T = S ++ shortS A ++ ⟨#[1]⟩ ++ shortS V := ⟨_, rfl⟩
        rw [← hT] at HN hz3 ⊢
        clear hT
        go_wp2
        go_roundw
        case rel => exact ⟨k + 1, T, by omega, by go_num, rfl, HN.out, hz3, hbel.trans (hb3.mono hbel.size)⟩
        case measure => simp [intOf]; omega
      | false =>
        have y3 : (⟨#[0]⟩ : ByteArray).size = 1 := rfl
        have x1 : ¬ 9223372036854775807 < S.size + (shortS A).size := by omega
        have x2 : ¬ 9223372036854775807 < (S ++ shortS A).size + (⟨#[0]⟩ : ByteArray).size := by rw [ByteArray.size_append]; omega
        have x3 : ¬ 9223372036854775807 < (S ++ shortS A ++ ⟨#[0]⟩).size + (shortS V).size := by rw [ByteArray.size_append, ByteArray.size_append]; omega
        have HN : Hid (Upto st l (k + 1) (S ++ shortS A ++ ⟨#[0]⟩ ++ shortS V)) := by
          have := upto_step hlt HU.out HE.out (one_is A V false)
          show Upto _ _ _ _
          have e : S ++ (shortS A ++ flagS false ++ shortS V) = S ++ shortS A ++ ⟨#[0]⟩ ++ shortS V := Batches.by_inj (by unfold Batches.by_; simp only [app_list, List.append_assoc]; rfl)
          rw [← e]; exact this
        have hz3 : (S ++ shortS A ++ ⟨#[0]⟩ ++ shortS V).size ≤ 200000 + 200 * (k + 1) := by rw [ByteArray.size_append, ByteArray.size_append, ByteArray.size_append]; omega
        go_wp2_with fail
        have NE := Abv.ne wr
        have F0 := fun x : Abv wr => x.cell c0
        have F1 := fun x : Abv wr => x.cell c1
        have F2 := fun x : Abv wr => x.cell d3
        refine wp_region_above (by kernel_rfl) (by kernel_rfl) ?_
        repeat (go_big_quiet_step (first | (go_at_call 30; exact calls_above (l05Short_q _ (by omega) _))))
        refine wpQuiet_nil ?_
        rintro w3 ⟨⟨_, hb3⟩, rfl⟩
        clear NE F0 F1 F2 x1 x2 x3
        obtain ⟨T, hT⟩ : ∃ T, T = S ++ shortS A ++ ⟨#[0]⟩ ++ shortS V := ⟨_, rfl⟩
        rw [← hT] at HN hz3 ⊢
        clear hT
        go_wp2
        go_roundw
        case rel => exact ⟨k + 1, T, by omega, by go_num, rfl, HN.out, hz3, hbel.trans (hb3.mono hbel.size)⟩
        case measure => simp [intOf]; omega
    · have hk1 : ¬ (k : Int) < (l.length : Int) := by omega
      have HE : Hid (S = ⟨(Batches.text st.toNat l).toArray⟩) := upto_all (by omega) HU.out
      go_wp2
      go_ret2
      exact ⟨by rw [← HE.out]; rfl, hB2.trans (hbel.mono hB2.size)⟩
end Go.Proofs.Ytinhgonmdnbdiaa
