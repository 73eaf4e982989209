/- The call of the program's BatchText, walked. -/
import Derived.Test.YtjheeeijikldpaaImplOk
import Derived.Test.YtjheeeijikldpaaShort
namespace Go.Proofs.Ytjheeeijikldpaa
open Go.RowKit

theorem app_list (a b : ByteArray) : (a ++ b).data.toList = a.data.toList ++ b.data.toList := by simp
/-- A text of these bytes. -/
def Is (S : ByteArray) (l : List UInt8) : Prop := S.data.toList = l
theorem Is.app {S T : ByteArray} {l m : List UInt8} (h1 : Is S l) (h2 : Is T m) : Is (S ++ T) (l ++ m) := by
  unfold Is at *; rw [app_list, h1, h2]
theorem Is.size {S : ByteArray} {l : List UInt8} (h : Is S l) : S.size = l.length := by unfold Is at h; rw [← h]; rfl
theorem Is.eq {S : ByteArray} {l : List UInt8} (h : Is S l) : S = ⟨l.toArray⟩ := by
  unfold Is at h
  cases S; simp at h; subst h; simp
theorem Is.mk (l : List UInt8) : Is ⟨l.toArray⟩ l := rfl

theorem Is.of {S : ByteArray} {l : List UInt8} (h : Is S l) : (⟨l.toArray⟩ : ByteArray) = S := h.eq.symm
set_option maxHeartbeats 400000 in
theorem varOf_is (x : Int) (h0 : 0 ≤ x) (h1 : x ≤ 1000000) (S : ByteArray) (hS : Is S (Words.var x.toNat)) (w : World) :
    Calls Try.prog 23 #[.int .i64 x] w fun e w' => e = .returned (.string S) ∧ Below w.heap.size w w' := by
  obtain ⟨n, rfl⟩ := Int.eq_ofNat_of_zero_le h0
  have HS : Hid (Value.string S = .string ⟨(Words.var n).toArray⟩) := by show _ = _; rw [hS.eq]; rfl
  clear hS
  go_enter Try.func23, Try.ntmps23
  go_wp2_with (go_at_call 49; refine (implVar_yes n (by omega) _).mono ?_; rintro e w1 ⟨rfl, hb1⟩)
  go_ret
  exact ⟨by rw [HS.out]; rfl, hb1⟩
set_option maxHeartbeats 400000 in
theorem shortOf_is (s : ByteArray) (h : s.size ≤ 20000) (S : ByteArray) (hS : Is S (Batches.short s)) (w : World) :
    Calls Try.prog 24 #[.string s] w fun e w' => e = .returned (.string S) ∧ Below w.heap.size w w' := by
  have hi : Is (⟨(Words.var s.size).toArray⟩ ++ s) (Batches.short s) := (Is.mk _).app rfl
  have HS : Hid (Value.string S = .string (⟨(Words.var s.size).toArray⟩ ++ s)) := by show _ = _; rw [hS.eq, hi.eq]
  clear hS hi
  go_enter Try.func24, Try.ntmps24
  go_wp2_with (go_at_call 50; refine (implShort_yes s (by omega) _).mono ?_; rintro e w1 ⟨rfl, hb1⟩)
  go_ret
  exact ⟨by rw [HS.out]; rfl, hb1⟩
set_option maxHeartbeats 400000 in
theorem flagOf_is (G : Bool) (S : ByteArray) (hS : Is S [Batches.flag G]) (w : World) : Calls Try.prog 25 #[.bool G] w fun e w' => e = .returned (.string S) ∧ Below w.heap.size w w' := by
  cases G with
  | true =>
    have HS : Hid (Value.string S = .string ⟨#[1]⟩) := by show _ = _; rw [hS.eq]; rfl
    clear hS
    go_enter Try.func25, Try.ntmps25
    go_wp2
    go_ret
    exact ⟨by rw [HS.out]; rfl, Below.refl _ _⟩
  | false =>
    have HS : Hid (Value.string S = .string ⟨#[0]⟩) := by show _ = _; rw [hS.eq]; rfl
    clear hS
    go_enter Try.func25, Try.ntmps25
    go_wp2
    go_ret
    exact ⟨by rw [HS.out]; rfl, Below.refl _ _⟩
def varS (x : Int) : ByteArray := ⟨(Words.var x.toNat).toArray⟩
def shortS (s : ByteArray) : ByteArray := ⟨(Batches.short s).toArray⟩
def flagS (g : Bool) : ByteArray := ⟨#[Batches.flag g]⟩
theorem varS_is (x : Int) : Is (varS x) (Words.var x.toNat) := rfl
theorem shortS_is (s : ByteArray) : Is (shortS s) (Batches.short s) := rfl
theorem flagS_is (g : Bool) : Is (flagS g) [Batches.flag g] := rfl
theorem varS_size (x : Int) (B : Nat) (h : x ≤ B) : (varS x).size ≤ B + 1 := by rw [(varS_is x).size]; have := Words.var_len x.toNat; omega
theorem shortS_size (s : ByteArray) (B : Nat) (h : s.size ≤ B) : (shortS s).size ≤ 2 * B + 1 := by rw [(shortS_is s).size]; have := Batches.short_len s; omega
theorem flagS_size (g : Bool) : (flagS g).size = 1 := rfl
theorem varOf_q (x : Int) (h0 : 0 ≤ x) (h1 : x ≤ 1000000) (w : World) : Calls Try.prog 23 #[.int .i64 x] w fun e w' => e = .returned (.string (varS x)) ∧ Below w.heap.size w w' := varOf_is x h0 h1 _ (varS_is x) w
theorem shortOf_q (s : ByteArray) (h : s.size ≤ 20000) (w : World) : Calls Try.prog 24 #[.string s] w fun e w' => e = .returned (.string (shortS s)) ∧ Below w.heap.size w w' := shortOf_is s h _ (shortS_is s) w
theorem flagOf_q (G : Bool) (w : World) : Calls Try.prog 25 #[.bool G] w fun e w' => e = .returned (.string (flagS G)) ∧ Below w.heap.size w w' := flagOf_is G _ (flagS_is G) w
/-- The text as far as the k-th change. -/
def Upto (st : Int) (l : List ChangeL) (k : Nat) (S : ByteArray) : Prop := Is S (Words.var st.toNat ++ (Words.var l.length ++ Batches.many (l.take k)))
theorem upto_zero (st : Int) (l : List ChangeL) : Upto st l 0 (varS st ++ varS l.length) := by
  have := (varS_is st).app (varS_is l.length)
  unfold Upto
  simpa [Batches.many] using this
theorem upto_step {st : Int} {l : List ChangeL} {k : Nat} {S A V T : ByteArray} {G : Bool} (hk : k < l.length) (h : Upto st l k S) (he : l[k] = ⟨A, V, G⟩) (hT : Is T (Batches.one ⟨A, V, G⟩)) : Upto st l (k + 1) (S ++ T) := by
  have := Is.app h hT
  unfold Upto
  rw [Batches.many_take hk, he]
  simpa using this
theorem one_is (A V : ByteArray) (G : Bool) : Is (shortS A ++ flagS G ++ shortS V) (Batches.one ⟨A, V, G⟩) := by
  have := ((shortS_is A).app (flagS_is G)).app (shortS_is V)
  unfold Batches.one
  simpa using this
theorem upto_all {st : Int} {l : List ChangeL} {k : Nat} {S : ByteArray} (hk : l.length ≤ k) (h : Upto st l k S) : S = ⟨(Batches.text st.toNat l).toArray⟩ := by
  unfold Upto at h
  rw [List.take_of_length_le hk] at h
  exact h.eq
set_option maxHeartbeats 400000 in
theorem implText_no (st : Int) {a : Option Addr} {g off cap : Nat} (l : List ChangeL) (hlen : l.length ≤ 2097152) (w : World) (hf : ChangeAt w a g off l) (hsz : ∀ c ∈ l, smallChange 2097152 c) (hR : ¬ Batches.ok st l) :
    Calls Try.prog 9 #[.agg #[.int .i64 st, .slice a l.length cap]] w fun e w' => e = .returned (.tuple #[.string ⟨#[]⟩, .bool false]) ∧ Below w.heap.size w w' := by
  have HF : Hid (ChangeAt (w.alloc (Obj.cells #[Value.int IntKind.i64 st, Value.slice a l.length cap] 26)) a g off l) := hf.kept ((Below.refl _ _).alloc (Nat.le_refl _) _)
  have HS : Hid (∀ c ∈ l, smallChange 2097152 c) := hsz
  have HR : Hid (¬ Batches.ok st l) := hR
  clear hf hsz hR
  go_enter Try.func9, Try.ntmps9
  go_wp2_with (go_at_call 12; refine (implOk_any false st l hlen _ HF.out HS.out (by simp [HR.out])).mono ?_; rintro e w1 ⟨rfl, hb1⟩)
  go_ret2
  exact ⟨rfl, ((Below.refl _ _).alloc (Nat.le_refl _) _).trans (hb1.mono (by simp))⟩
set_option maxHeartbeats 1000000 in
set_option maxRecDepth 100000 in
theorem implText_yes (st : Int) {a : Option Addr} {g off cap : Nat} (l : List ChangeL) (hlen : l.length ≤ 2097152) (w : World) (hf : ChangeAt w a g off l) (hsz : ∀ c ∈ l, smallChange 2097152 c) (hR : Batches.ok st l) :
    Calls Try.prog 9 #[.agg #[.int .i64 st, .slice a l.length cap]] w fun e w' => e = .returned (.tuple #[.string ⟨(Batches.text st.toNat l).toArray⟩, .bool true]) ∧ Below w.heap.size w w' := by
  obtain ⟨W, hW⟩ : ∃ W, W = w.alloc (Obj.cells #[Value.int IntKind.i64 st, Value.slice a l.length cap] 26) := ⟨_, rfl⟩
  have hWb : Below w.heap.size w W := by rw [hW]; exact (Below.refl _ _).alloc (Nat.le_refl _) _
  have hc0 : W.cell? ⟨w.heap.size, 0, none⟩ = some (.int .i64 st) := by rw [hW]; exact cell_of_row _ _ 0 _ _ _ (heap_alloc_new w _)
  have hc1 : W.cell? ⟨w.heap.size, 1, none⟩ = some (.slice a l.length cap) := by rw [hW]; exact cell_of_row _ _ 1 _ _ _ (heap_alloc_new w _)
  have hWz : w.heap.size < W.heap.size := World.block_lt_of_cell? W _ hc0
  have HF : Hid (ChangeAt W a g off l) := hf.kept hWb
  have HS : Hid (∀ c ∈ l, smallChange 2097152 c) := hsz
  have HR : Hid (Batches.ok st l) := hR
  have hst := hR.1
  have hl60 := hR.2.1
  clear hf hsz hR
  go_enter Try.func9, Try.ntmps9
  go_wp2_with fail
  rw [← hW]
  clear hW
  refine (implOk_any true st l hlen _ HF.out HS.out (by simp [HR.out])).mono ?_
  rintro e w1 ⟨rfl, hb1⟩
  have d0 : w1.cell? ⟨w.heap.size, 0, none⟩ = some (.int .i64 st) := (hb1.cell (p := ⟨w.heap.size, 0, none⟩) hWz).trans hc0
  have d1 : w1.cell? ⟨w.heap.size, 1, none⟩ = some (.slice a l.length cap) := (hb1.cell (p := ⟨w.heap.size, 1, none⟩) hWz).trans hc1
  have hB1 : Below w.heap.size w w1 := hWb.trans (hb1.mono hWb.size)
  have HF1 : Hid (ChangeAt w1 a g off l) := HF.out.kept hb1
  have hz1 : w.heap.size < w1.heap.size := Nat.lt_of_lt_of_le hWz hb1.size
  clear hWb hc0 hc1 hWz HF hb1
  go_wp2_with fail
  have z1 := varS_size st 100000 (by omega)
  have z2 := varS_size (l.length : Int) 60 (by omega)
  have z3 : ¬ 9223372036854775807 < (varS st).size + (varS (l.length : Int)).size := by omega
  have NE := Abv.ne w1
  have F0 := fun x : Abv w1 => x.cell d0
  have F1 := fun x : Abv w1 => x.cell d1
  refine wp_region_above (by kernel_rfl) (by kernel_rfl) ?_
  repeat (go_big_quiet_step (first | (go_at_call 23; exact calls_above (varOf_q _ (by omega) (by omega) _))))
  refine wpQuiet_nil ?_
  rintro w2 ⟨⟨_, hb2⟩, rfl⟩
  clear NE F0 F1
  have HI : Hid (Upto st l 0 (varS st ++ varS l.length)) := upto_zero st l
  have z4 : (varS st ++ varS l.length).size ≤ 200000 := by rw [ByteArray.size_append]; omega
  obtain ⟨S, hS⟩ : ∃ S, S = varS st ++ varS l.length := ⟨_, rfl⟩
  rw [← hS] at HI z4 ⊢
  clear hS z1 z2 z3
  have d2 : w2.cell? ⟨w.heap.size, 1, none⟩ = some (.slice a l.length cap) := (hb2.cell (p := ⟨w.heap.size, 1, none⟩) hz1).trans d1
  have hB2 : Below w.heap.size w w2 := hB1.trans (hb2.mono hB1.size)
  have HF2 : Hid (ChangeAt w2 a g off l) := HF1.out.kept hb2
  clear d0 d1 hB1 HF1 hz1 hb2
  go_wp2
  go_loopw [4, 21] (fun x i wr => ∃ (k : Nat) (S : ByteArray), k ≤ l.length ∧ i = .int .i64 (k : Int) ∧ x = .string S ∧ Upto st l k S ∧ S.size ≤ 200000 + 200 * k ∧ Below w2.heap.size w2 wr)
    (fun _ i _ => l.length - (intOf i).toNat)
  case atStart => exact ⟨0, S, Nat.zero_le _, rfl, rfl, HI.out, z4, Below.refl _ _⟩
  case round =>
    obtain ⟨k, S, hk, rfl, rfl, hup, hz, hbel⟩ := hrel
    have HU : Hid (Upto st l k S) := hup
    clear hup
    by_cases hlt : k < l.length
    · obtain ⟨c0, c1, c2⟩ := (HF2.out.kept hbel).2 k hlt
      have ea := HF2.out.1 (by omega)
      subst ea
      obtain ⟨A, hA⟩ : ∃ A, A = l[k].key := ⟨_, rfl⟩
      obtain ⟨V, hV⟩ : ∃ V, V = l[k].value := ⟨_, rfl⟩
      obtain ⟨G, hG⟩ : ∃ G, G = l[k].gone := ⟨_, rfl⟩
      obtain ⟨_, o1, _⟩ := HR.out.2.2 k hlt
      have s0 := o1.2.1
      have s1 := o1.2.2.1
      rw [← hA] at c0 s0
      rw [← hV] at c1 s1
      rw [← hG] at c2
      have HE : Hid (l[k] = ⟨A, V, G⟩) := by show _ = _; rw [hA, hV, hG]
      clear hA hV hG o1
      have hk0 : (0 : Int) ≤ (k : Int) := by omega
      have hk1 : (k : Int) < (l.length : Int) := by omega
      have y0 := shortS_size A 10 s0
      have y1 := shortS_size V 40 s1
      have y2 := flagS_size G
      go_wp2_with fail
      obtain ⟨W1, hW1⟩ : ∃ W1, W1 = wr.alloc (Obj.cells #[Value.string A, Value.string V, Value.bool G] 47) := ⟨_, rfl⟩
      rw [← hW1]
      have hB1 : Below wr.heap.size wr W1 := by rw [hW1]; exact (Below.refl _ _).alloc (Nat.le_refl _) _
      have f0 : W1.cell? ⟨wr.heap.size, 0, none⟩ = some (.string A) := by rw [hW1]; exact cell_of_row _ _ 0 _ _ _ (heap_alloc_new wr _)
      have f1 : W1.cell? ⟨wr.heap.size, 1, none⟩ = some (.string V) := by rw [hW1]; exact cell_of_row _ _ 1 _ _ _ (heap_alloc_new wr _)
      have f2 : W1.cell? ⟨wr.heap.size, 2, none⟩ = some (.bool G) := by rw [hW1]; exact cell_of_row _ _ 2 _ _ _ (heap_alloc_new wr _)
      have hw1 : Below w2.heap.size w2 W1 := hbel.trans (hB1.mono hbel.size)
      clear hW1 c0 c1 c2 hB1
      have x1 : ¬ 9223372036854775807 < (shortS A).size + (flagS G).size := by omega
      have x2 : ¬ 9223372036854775807 < (shortS A ++ flagS G).size + (shortS V).size := by rw [ByteArray.size_append]; omega
      have x3 : ¬ 9223372036854775807 < S.size + (shortS A ++ flagS G ++ shortS V).size := by rw [ByteArray.size_append, ByteArray.size_append]; omega
      have NE := Abv.ne W1
      have F0 := fun x : Abv W1 => x.cell f0
      have F1 := fun x : Abv W1 => x.cell f1
      have F2 := fun x : Abv W1 => x.cell f2
      refine wp_region_above (by kernel_rfl) (by kernel_rfl) ?_
      repeat (go_big_quiet_step (first | (go_at_call 24; exact calls_above (shortOf_q _ (by omega) _)) | (go_at_call 25; exact calls_above (flagOf_q _ _))))
      refine wpQuiet_nil ?_
      rintro w3 ⟨⟨_, hb3⟩, rfl⟩
      clear NE F0 F1 F2 f0 f1 f2 x1 x2 x3
      have HN : Hid (Upto st l (k + 1) (S ++ (shortS A ++ flagS G ++ shortS V))) := upto_step hlt HU.out HE.out (one_is A V G)
      have hz2 : (S ++ (shortS A ++ flagS G ++ shortS V)).size ≤ 200000 + 200 * (k + 1) := by rw [ByteArray.size_append, ByteArray.size_append, ByteArray.size_append]; omega
      obtain ⟨T, hT⟩ : ∃ T, T = S ++ (shortS A ++ flagS G ++ shortS V) := ⟨_, rfl⟩
      rw [← hT] at HN hz2 ⊢
      clear hT
      go_wp2
      go_roundw
      case rel => exact ⟨k + 1, T, by omega, by go_num, rfl, HN.out, hz2, hw1.trans (hb3.mono hw1.size)⟩
      case measure => simp [intOf]; omega
    · have hk1 : ¬ (k : Int) < (l.length : Int) := by omega
      have HE : Hid (S = ⟨(Batches.text st.toNat l).toArray⟩) := upto_all (by omega) HU.out
      go_wp2
      go_ret2
      exact ⟨by rw [← HE.out]; rfl, hB2.trans (hbel.mono hB2.size)⟩
end Go.Proofs.Ytjheeeijikldpaa
