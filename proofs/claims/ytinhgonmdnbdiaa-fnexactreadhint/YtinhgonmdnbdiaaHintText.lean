/- The calls of HintText, the program's and the specification's, walked. -/
import Derived.Test.YtinhgonmdnbdiaaSpecText
import Derived.Test.YtinhgonmdnbdiaaDirOk
import Derived.Test.YtinhgonmdnbdiaaSpecDirOk
import Derived.Test.YtinhgonmdnbdiaaImplSeal
namespace Go.Proofs.Ytinhgonmdnbdiaa
open Go.RowKit
set_option linter.unusedVariables false

def UptoD (l : List SpotL) (k : Nat) (S : ByteArray) : Prop := Is S (Words.var l.length ++ Dirs.many (l.take k))
theorem uptoD_zero (l : List SpotL) : UptoD l 0 (varS l.length) := by
  have := varS_is (l.length : Int)
  unfold UptoD
  simpa [Dirs.many] using this
theorem oneD_is {A : ByteArray} {S P Z : Int} : Is (shortS A ++ varS S ++ varS P ++ varS Z) (Dirs.one ⟨A, S, P, Z⟩) := by
  have := (((shortS_is A).app (varS_is S)).app (varS_is P)).app (varS_is Z)
  simpa [Dirs.one] using this
theorem uptoD_step {l : List SpotL} {k : Nat} {S T : ByteArray} {c : SpotL} (hk : k < l.length) (h : UptoD l k S) (he : l[k] = c) (hT : Is T (Dirs.one c)) : UptoD l (k + 1) (S ++ T) := by
  unfold UptoD at *
  rw [Dirs.many_take hk, he, ← List.append_assoc]
  exact h.app hT
theorem uptoD_all {l : List SpotL} {k : Nat} {S : ByteArray} (hk : l.length ≤ k) (h : UptoD l k S) : Is S (Dirs.text l) := by
  unfold UptoD at h
  rw [List.take_of_length_le hk] at h
  exact h
def sealedH (l : List SpotL) : ByteArray := ⟨(Dirs.sealed (Dirs.text l)).toArray⟩
theorem sealedH_of {S : ByteArray} {l : List SpotL} (h : Is S (Dirs.text l)) : S ++ ⟨(Sums.four (Sums.sumOf S.data.toList)).toArray⟩ = sealedH l := by
  unfold Is at h
  unfold sealedH Dirs.sealed
  rw [app_bytes, h]
theorem implSealedH {S : ByteArray} {l : List SpotL} (h : Is S (Dirs.text l)) (ho : Dirs.ok l) (w : World) :
    Calls Try.prog 45 #[.string S] w fun e w' => e = .returned (.tuple #[.string (sealedH l), .bool true]) ∧ Below w.heap.size w w' := by
  have q := implSealed_yes S (by rw [h.size]; have := Dirs.text_len ho; omega) w
  unfold sealTuple at q
  rw [sealedH_of h] at q
  exact q
theorem specSealedH {S : ByteArray} {l : List SpotL} (h : Is S (Dirs.text l)) (ho : Dirs.ok l) (w : World) :
    Calls Try.prog 42 #[.string S] w fun e w' => e = .returned (.tuple #[.string (sealedH l), .bool true]) ∧ Below w.heap.size w w' := by
  have q := specSealed_yes S (by rw [h.size]; have := Dirs.text_len ho; omega) w
  unfold sealTuple at q
  rw [sealedH_of h] at q
  exact q
set_option maxHeartbeats 400000 in
theorem implHint_no {a : Option Addr} {g off cap : Nat} (l : List SpotL) (hlen : l.length ≤ 2097152) (w : World) (hf : SpotAt w a g off l) (hsz : ∀ c ∈ l, smallSpot 2097152 c) (hR : ¬ Dirs.ok l) :
    Calls Try.prog 23 #[.slice a l.length cap] w fun e w' => e = .returned (.tuple #[.string ⟨#[]⟩, .bool false]) ∧ Below w.heap.size w w' := by
  have HF : Hid (SpotAt w a g off l) := hf
  have HS : Hid (∀ c ∈ l, smallSpot 2097152 c) := hsz
  have HR : Hid (¬ Dirs.ok l) := hR
  clear hf hsz hR
  go_enter Try.func23, Try.ntmps23
  go_wp2_with (go_at_call 19; refine (implDirOk_any false l hlen _ HF.out HS.out (by simp [HR.out])).mono ?_; rintro e w1 ⟨rfl, hb1⟩)
  go_ret2
  exact ⟨rfl, hb1⟩
set_option maxHeartbeats 1000000 in
set_option maxRecDepth 100000 in
theorem implHint_yes {a : Option Addr} {g off cap : Nat} (l : List SpotL) (hlen : l.length ≤ 2097152) (w : World) (hf : SpotAt w a g off l) (hsz : ∀ c ∈ l, smallSpot 2097152 c) (hR : Dirs.ok l) :
    Calls Try.prog 23 #[.slice a l.length cap] w fun e w' => e = .returned (.tuple #[.string (sealedH l), .bool true]) ∧ Below w.heap.size w w' := by
  have HF : Hid (SpotAt w a g off l) := hf
  have HS : Hid (∀ c ∈ l, smallSpot 2097152 c) := hsz
  have HR : Hid (Dirs.ok l) := hR
  have hl60 := hR.1
  clear hf hsz hR
  go_enter Try.func23, Try.ntmps23
  go_wp2_with fail
  refine (implDirOk_any true l hlen _ HF.out HS.out (by simp [HR.out])).mono ?_
  rintro e w1 ⟨rfl, hb1⟩
  have HF1 : Hid (SpotAt w1 a g off l) := HF.out.kept hb1
  clear HF
  have HI : Hid (UptoD l 0 (varS l.length)) := uptoD_zero l
  have z4 : (varS l.length).size ≤ 1000 := by have := varS_size (l.length : Int) 60 (by omega); omega
  go_wp2_with fail
  refine (varOf_q (l.length : Int) (by omega) (by omega) _).mono ?_
  rintro e w2 ⟨rfl, hb2⟩
  obtain ⟨S, hS⟩ : ∃ S, S = varS l.length := ⟨_, rfl⟩
  rw [← hS] at HI z4 ⊢
  clear hS
  have hB2 : Below w.heap.size w w2 := hb1.trans (hb2.mono hb1.size)
  have HF2 : Hid (SpotAt w2 a g off l) := HF1.out.kept hb2
  clear HF1 hb1 hb2
  go_wp2
  go_loopw [4, 15] (fun x i wr => ∃ (k : Nat) (S : ByteArray), k ≤ l.length ∧ i = .int .i64 (k : Int) ∧ x = .string S ∧ UptoD l k S ∧ S.size ≤ 1000 + 30000 * k ∧ Below w2.heap.size w2 wr)
    (fun _ i _ => l.length - (intOf i).toNat)
  case atStart => exact ⟨0, S, Nat.zero_le _, rfl, rfl, HI.out, by omega, Below.refl _ _⟩
  case round =>
    obtain ⟨k, S, hk, rfl, rfl, hup, hz, hbel⟩ := hrel
    have HU : Hid (UptoD l k S) := hup
    clear hup
    by_cases hlt : k < l.length
    · obtain ⟨c0, c1, c2, c3⟩ := (HF2.out.kept hbel).2 k hlt
      have ea := HF2.out.1 (by omega)
      subst ea
      have o1 := Dirs.ok_mem HR.out l[k] (List.getElem_mem _)
      have HAA0 : Hid (∃ c, c = l[k] ∧ l[k] = c) := ⟨_, rfl, rfl⟩
      obtain ⟨c, hc, hc'⟩ := HAA0.out
      rw [← hc] at c0 c1 c2 c3 o1
      clear HAA0
      obtain ⟨A, G, P, Z⟩ := c
      have HE : Hid (l[k] = ⟨A, G, P, Z⟩) := hc'
      clear hc hc'
      simp only at c0 c1 c2 c3
      obtain ⟨⟨_, s0⟩, ⟨s1, s1'⟩, ⟨s2, s2'⟩, ⟨s3, s3'⟩⟩ := o1
      simp only at s0 s1 s1' s2 s2' s3 s3'
      have hk0 : (0 : Int) ≤ (k : Int) := by omega
      have hk1 : (k : Int) < (l.length : Int) := by omega
      have y0 := shortS_size A 10 s0
      have y1 := varS_size G 999 (by omega)
      have y2 := varS_size P 20000 (by omega)
      have y3 := varS_size Z 40 (by omega)
      go_wp2_with fail
      obtain ⟨W1, hW1⟩ : ∃ W1, W1 = wr.alloc (Obj.cells #[Value.string A, Value.int .i64 G, Value.int .i64 P, Value.int .i64 Z] 56) := ⟨_, rfl⟩
      rw [← hW1]
      have hB1 : Below wr.heap.size wr W1 := by rw [hW1]; exact (Below.refl _ _).alloc (Nat.le_refl _) _
      have f0 : W1.cell? ⟨wr.heap.size, 0, none⟩ = some (.string A) := by rw [hW1]; exact cell_of_row _ _ 0 _ _ _ (heap_alloc_new wr _)
      have f1 : W1.cell? ⟨wr.heap.size, 1, none⟩ = some (.int .i64 G) := by rw [hW1]; exact cell_of_row _ _ 1 _ _ _ (heap_alloc_new wr _)
      have f2 : W1.cell? ⟨wr.heap.size, 2, none⟩ = some (.int .i64 P) := by rw [hW1]; exact cell_of_row _ _ 2 _ _ _ (heap_alloc_new wr _)
      have f3 : W1.cell? ⟨wr.heap.size, 3, none⟩ = some (.int .i64 Z) := by rw [hW1]; exact cell_of_row _ _ 3 _ _ _ (heap_alloc_new wr _)
      have hw1 : Below w2.heap.size w2 W1 := hbel.trans (hB1.mono hbel.size)
      clear hW1 c0 c1 c2 c3 hB1
      have x0 : ¬ 9223372036854775807 < (shortS A).size + (varS G).size := by first | omega | (simp only [ByteArray.size_append]; omega)
      have x1 : ¬ 9223372036854775807 < (shortS A ++ varS G).size + (varS P).size := by first | omega | (simp only [ByteArray.size_append]; omega)
      have x2 : ¬ 9223372036854775807 < (shortS A ++ varS G ++ varS P).size + (varS Z).size := by first | omega | (simp only [ByteArray.size_append]; omega)
      have x3 : ¬ 9223372036854775807 < S.size + (shortS A ++ varS G ++ varS P ++ varS Z).size := by first | omega | (simp only [ByteArray.size_append]; omega)
      have NE := Abv.ne W1
      have F0 := fun x : Abv W1 => x.cell f0
      have F1 := fun x : Abv W1 => x.cell f1
      have F2 := fun x : Abv W1 => x.cell f2
      have F3 := fun x : Abv W1 => x.cell f3
      refine wp_region_above (by kernel_rfl) (by kernel_rfl) ?_
      repeat (go_big_quiet_step (first | (go_at_call 44; exact calls_above (shortOf_q _ (by omega) _)) | (go_at_call 43; exact calls_above (varOf_q _ (by omega) (by omega) _))))
      refine wpQuiet_nil ?_
      rintro w3 ⟨⟨_, hb3⟩, rfl⟩
      clear NE F0 F1 F2 F3 f0 f1 f2 f3 x0 x1 x2 x3
      have HN : Hid (UptoD l (k + 1) (S ++ (shortS A ++ varS G ++ varS P ++ varS Z))) := uptoD_step hlt HU.out HE.out oneD_is
      have hz2 : (S ++ (shortS A ++ varS G ++ varS P ++ varS Z)).size ≤ 1000 + 30000 * (k + 1) := by simp only [ByteArray.size_append]; omega
      obtain ⟨T, hT⟩ : ∃ T, T = S ++ (shortS A ++ varS G ++ varS P ++ varS Z) := ⟨_, rfl⟩
      rw [← hT] at HN hz2 ⊢
      clear hT
      go_wp2
      go_roundw
      case rel => exact ⟨k + 1, T, by omega, by go_num, rfl, HN.out, hz2, hw1.trans (hb3.mono hw1.size)⟩
      case measure => simp [intOf]; omega
    · have hk1 : ¬ (k : Int) < (l.length : Int) := by omega
      have HE : Hid (Is S (Dirs.text l)) := uptoD_all (by omega) HU.out
      go_wp2_with (go_at_call 45; refine (implSealedH HE.out HR.out _).mono ?_; rintro e w4 ⟨rfl, hb4⟩)
      go_ret2
      exact ⟨rfl, (hB2.trans (hbel.mono hB2.size)).trans (hb4.mono (hB2.trans (hbel.mono hB2.size)).size)⟩
set_option maxHeartbeats 400000 in
theorem specHint_no {a : Option Addr} {g off cap : Nat} (l : List SpotL) (hlen : l.length ≤ 2097152) (w : World) (hf : SpotAt w a g off l) (hsz : ∀ c ∈ l, smallSpot 2097152 c) (hR : ¬ Dirs.ok l) :
    Calls Try.prog 22 #[.slice a l.length cap] w fun e w' => e = .returned (.tuple #[.string ⟨#[]⟩, .bool false]) ∧ Below w.heap.size w w' := by
  have HF : Hid (SpotAt w a g off l) := hf
  have HS : Hid (∀ c ∈ l, smallSpot 2097152 c) := hsz
  have HR : Hid (¬ Dirs.ok l) := hR
  clear hf hsz hR
  go_enter Try.func22, Try.ntmps22
  go_wp2_with (go_at_call 17; refine (specDirOk_any false l hlen _ HF.out HS.out (by simp [HR.out])).mono ?_; rintro e w1 ⟨rfl, hb1⟩)
  go_ret2
  exact ⟨rfl, hb1⟩
set_option maxHeartbeats 1000000 in
set_option maxRecDepth 100000 in
theorem specHint_yes {a : Option Addr} {g off cap : Nat} (l : List SpotL) (hlen : l.length ≤ 2097152) (w : World) (hf : SpotAt w a g off l) (hsz : ∀ c ∈ l, smallSpot 2097152 c) (hR : Dirs.ok l) :
    Calls Try.prog 22 #[.slice a l.length cap] w fun e w' => e = .returned (.tuple #[.string (sealedH l), .bool true]) ∧ Below w.heap.size w w' := by
  have HF : Hid (SpotAt w a g off l) := hf
  have HS : Hid (∀ c ∈ l, smallSpot 2097152 c) := hsz
  have HR : Hid (Dirs.ok l) := hR
  have hl60 := hR.1
  clear hf hsz hR
  go_enter Try.func22, Try.ntmps22
  go_wp2_with fail
  refine (specDirOk_any true l hlen _ HF.out HS.out (by simp [HR.out])).mono ?_
  rintro e w1 ⟨rfl, hb1⟩
  have HF1 : Hid (SpotAt w1 a g off l) := HF.out.kept hb1
  clear HF
  have HI : Hid (UptoD l 0 (varS l.length)) := uptoD_zero l
  have z4 : (varS l.length).size ≤ 1000 := by have := varS_size (l.length : Int) 60 (by omega); omega
  go_wp2_with fail
  refine (l01Var_q (l.length : Int) (by omega) (by omega) _).mono ?_
  rintro e w2 ⟨rfl, hb2⟩
  obtain ⟨S, hS⟩ : ∃ S, S = varS l.length := ⟨_, rfl⟩
  rw [← hS] at HI z4 ⊢
  clear hS
  have hB2 : Below w.heap.size w w2 := hb1.trans (hb2.mono hb1.size)
  have HF2 : Hid (SpotAt w2 a g off l) := HF1.out.kept hb2
  clear HF1 hb1 hb2
  go_wp2
  go_loopw [4, 5] (fun x i wr => ∃ (k : Nat) (S : ByteArray), k ≤ l.length ∧ i = .int .i64 (k : Int) ∧ x = .string S ∧ UptoD l k S ∧ S.size ≤ 1000 + 30000 * k ∧ Below w2.heap.size w2 wr)
    (fun _ i _ => l.length - (intOf i).toNat)
  case atStart => exact ⟨0, S, Nat.zero_le _, rfl, rfl, HI.out, by omega, Below.refl _ _⟩
  case round =>
    obtain ⟨k, S, hk, rfl, rfl, hup, hz, hbel⟩ := hrel
    have HU : Hid (UptoD l k S) := hup
    clear hup
    by_cases hlt : k < l.length
    · obtain ⟨c0, c1, c2, c3⟩ := (HF2.out.kept hbel).2 k hlt
      have ea := HF2.out.1 (by omega)
      subst ea
      have o1 := Dirs.ok_mem HR.out l[k] (List.getElem_mem _)
      have HAA0 : Hid (∃ c, c = l[k] ∧ l[k] = c) := ⟨_, rfl, rfl⟩
      obtain ⟨c, hc, hc'⟩ := HAA0.out
      rw [← hc] at c0 c1 c2 c3 o1
      clear HAA0
      obtain ⟨A, G, P, Z⟩ := c
      have HE : Hid (l[k] = ⟨A, G, P, Z⟩) := hc'
      clear hc hc'
      simp only at c0 c1 c2 c3
      obtain ⟨⟨_, s0⟩, ⟨s1, s1'⟩, ⟨s2, s2'⟩, ⟨s3, s3'⟩⟩ := o1
      simp only at s0 s1 s1' s2 s2' s3 s3'
      have hk0 : (0 : Int) ≤ (k : Int) := by omega
      have hk1 : (k : Int) < (l.length : Int) := by omega
      have y0 := shortS_size A 10 s0
      have y1 := varS_size G 999 (by omega)
      have y2 := varS_size P 20000 (by omega)
      have y3 := varS_size Z 40 (by omega)
      go_wp2_with fail
      obtain ⟨W1, hW1⟩ : ∃ W1, W1 = wr := ⟨_, rfl⟩
      have f0 := c0
      have f1 := c1
      have f2 := c2
      have f3 := c3
      have hw1 := hbel
      rw [← hW1] at f0 f1 f2 f3 hw1 ⊢
      clear hW1 c0 c1 c2 c3
      have x0 : ¬ 9223372036854775807 < S.size + (shortS A).size := by first | omega | (simp only [ByteArray.size_append]; omega)
      have x1 : ¬ 9223372036854775807 < (S ++ shortS A).size + (varS G).size := by first | omega | (simp only [ByteArray.size_append]; omega)
      have x2 : ¬ 9223372036854775807 < (S ++ shortS A ++ varS G).size + (varS P).size := by first | omega | (simp only [ByteArray.size_append]; omega)
      have x3 : ¬ 9223372036854775807 < (S ++ shortS A ++ varS G ++ varS P).size + (varS Z).size := by first | omega | (simp only [ByteArray.size_append]; omega)
      have NE := Abv.ne W1
      have F0 := fun x : Abv W1 => x.cell f0
      have F1 := fun x : Abv W1 => x.cell f1
      have F2 := fun x : Abv W1 => x.cell f2
      have F3 := fun x : Abv W1 => x.cell f3
      refine wp_region_above (by kernel_rfl) (by kernel_rfl) ?_
      repeat (go_big_quiet_step (first | (go_at_call 30; exact calls_above (l05Short_q _ (by omega) _)) | (go_at_call 29; exact calls_above (l01Var_q _ (by omega) (by omega) _))))
      refine wpQuiet_nil ?_
      rintro w3 ⟨⟨_, hb3⟩, rfl⟩
      clear NE F0 F1 F2 F3 f0 f1 f2 f3 x0 x1 x2 x3
      have HN : Hid (UptoD l (k + 1) (S ++ shortS A ++ varS G ++ varS P ++ varS Z)) := by
        have := uptoD_step hlt HU.out HE.out (oneD_is (A := A) (S := G) (P := P) (Z := Z))
        show UptoD _ _ _
        have e : S ++ (shortS A ++ varS G ++ varS P ++ varS Z) = S ++ shortS A ++ varS G ++ varS P ++ varS Z := Batches.by_inj (by unfold Batches.by_; simp only [app_list, List.append_assoc])
        rw [← e]; exact this
      have hz2 : (S ++ shortS A ++ varS G ++ varS P ++ varS Z).size ≤ 1000 + 30000 * (k + 1) := by simp only [ByteArray.size_append]; omega
      obtain ⟨T, hT⟩ : ∃ T, T = S ++ shortS A ++ varS G ++ varS P ++ varS Z := ⟨_, rfl⟩
      rw [← hT] at HN hz2 ⊢
      clear hT
      go_wp2
      go_roundw
      case rel => exact ⟨k + 1, T, by omega, by go_num, rfl, HN.out, hz2, hw1.trans (hb3.mono hw1.size)⟩
      case measure => simp [intOf]; omega
    · have hk1 : ¬ (k : Int) < (l.length : Int) := by omega
      have HE : Hid (Is S (Dirs.text l)) := uptoD_all (by omega) HU.out
      go_wp2_with (go_at_call 42; refine (specSealedH HE.out HR.out _).mono ?_; rintro e w4 ⟨rfl, hb4⟩)
      go_ret2
      exact ⟨rfl, (hB2.trans (hbel.mono hB2.size)).trans (hb4.mono (hB2.trans (hbel.mono hB2.size)).size)⟩
end Go.Proofs.Ytinhgonmdnbdiaa
