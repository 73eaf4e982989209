/- The calls of listText and of both ManifestText, walked. -/
import Derived.Test.YthcfnofhdbjemaaGreatDoorManOk
import Derived.Test.YthcfnofhdbjemaaGreatDoorImplSeal
namespace Go.Proofs.YthcfnofhdbjemaaGreatDoor
open Go.RowKit
set_option linter.unusedVariables false

theorem app_list (a b : ByteArray) : (a ++ b).data.toList = a.data.toList ++ b.data.toList := by simp
/-- A text of these bytes. -/
def Is (S : ByteArray) (l : List UInt8) : Prop := S.data.toList = l
theorem Is.app {S T : ByteArray} {l m : List UInt8} (h1 : Is S l) (h2 : Is T m) : Is (S ++ T) (l ++ m) := by
  unfold Is at *; rw [app_list, h1, h2]
theorem Is.size {S : ByteArray} {l : List UInt8} (h : Is S l) : S.size = l.length := by unfold Is at h; rw [← h]; rfl
theorem Is.eq {S : ByteArray} {l : List UInt8} (h : Is S l) : S = ⟨l.toArray⟩ := by
  unfold Is at h
  cases S; simp at h; subst h; simp
set_option maxHeartbeats 400000 in
theorem varOf_is (x : Int) (h0 : 0 ≤ x) (h1 : x ≤ 1000000) (S : ByteArray) (hS : Is S (Words.var x.toNat)) (w : World) :
    Calls Tryz.prog 47 #[.int .i64 x] w fun e w' => e = .returned (.string S) ∧ Below w.heap.size w w' := by
  obtain ⟨n, rfl⟩ := Int.eq_ofNat_of_zero_le h0
  have HS : Hid (Value.string S = .string ⟨(Words.var n).toArray⟩) := by show _ = _; rw [hS.eq]; rfl
  clear hS
  go_enter Tryz.func47, Tryz.ntmps47
  go_wp2_with (go_at_call 69; refine (implVar_yes n (by omega) _).mono ?_; rintro e w1 ⟨rfl, hb1⟩)
  go_ret
  exact ⟨by rw [HS.out]; rfl, hb1⟩
def varS (x : Int) : ByteArray := ⟨(Words.var x.toNat).toArray⟩
theorem varS_is (x : Int) : Is (varS x) (Words.var x.toNat) := rfl
theorem varOf_q (x : Int) (h0 : 0 ≤ x) (h1 : x ≤ 1000000) (w : World) : Calls Tryz.prog 47 #[.int .i64 x] w fun e w' => e = .returned (.string (varS x)) ∧ Below w.heap.size w w' := varOf_is x h0 h1 _ (varS_is x) w
theorem varS_five (x : Int) (h : x ≤ 1000000) : (varS x).size ≤ 5 := by rw [(varS_is x).size]; exact Mans.var_five _ (by omega)
/-- A text that goes on with the first k numbers of a list. -/
def UptoL (pre : List UInt8) (l : List Int) (k : Nat) (S : ByteArray) : Prop := Is S (pre ++ Mans.many (l.take k))
theorem UptoL.zero {pre : List UInt8} {l : List Int} {S : ByteArray} (h : Is S pre) : UptoL pre l 0 S := by unfold UptoL; simpa [Mans.many] using h
theorem UptoL.step {pre : List UInt8} {l : List Int} {k : Nat} {S : ByteArray} {X : Int} (hk : k < l.length) (h : UptoL pre l k S) (hX : l[k] = X) : UptoL pre l (k + 1) (S ++ varS X) := by
  have := Is.app h (varS_is X)
  unfold UptoL
  rw [Mans.many_take hk, hX]
  simpa using this
theorem UptoL.all {pre : List UInt8} {l : List Int} {k : Nat} {S : ByteArray} (hk : l.length ≤ k) (h : UptoL pre l k S) : Is S (pre ++ Mans.many l) := by
  unfold UptoL at h
  rwa [List.take_of_length_le hk] at h
def listS (l : List Int) : ByteArray := ⟨(Mans.list l).toArray⟩
theorem listS_is (l : List Int) : Is (listS l) (Mans.list l) := rfl
theorem listS_size (l : List Int) (h : l.length ≤ 1000) (hx : ∀ x ∈ l, x ≤ 1000000) : (listS l).size ≤ 5 * l.length + 5 := by
  rw [(listS_is l).size]
  have h1 := Mans.many_len l (fun x hx' => by have := hx x hx'; omega)
  have h2 := Mans.var_five l.length (by omega)
  simp only [Mans.list, List.length_append]
  omega
set_option maxHeartbeats 1000000 in
theorem listText_is {a : Option Addr} {g off cap : Nat} (l : List Int) (hlen : l.length ≤ 1000) (hx : ∀ x ∈ l, 0 ≤ x ∧ x ≤ 1000000) (w : World) (hf : IntAt w a g off l) :
    Calls Tryz.prog 46 #[.slice a l.length cap] w fun e w' => e = .returned (.string (listS l)) ∧ Below w.heap.size w w' := by
  have HF : Hid (IntAt w a g off l) := hf
  have HX : Hid (∀ x ∈ l, 0 ≤ x ∧ x ≤ 1000000) := hx
  clear hf hx
  go_enter Tryz.func46, Tryz.ntmps46
  go_wp2_with (go_at_call 47; refine (varOf_q (l.length : Int) (by omega) (by omega) _).mono ?_; rintro e w1 ⟨rfl, hb1⟩)
  have z1 := varS_five (l.length : Int) (by omega)
  have HI : Hid (UptoL (Words.var l.length) l 0 (varS (l.length : Int))) := UptoL.zero (varS_is _)
  obtain ⟨S0, hS0⟩ : ∃ S0, S0 = varS (l.length : Int) := ⟨_, rfl⟩
  rw [← hS0] at HI z1 ⊢
  clear hS0
  go_loopw [3, 11] (fun x i wr => ∃ (k : Nat) (S : ByteArray), k ≤ l.length ∧ i = .int .i64 (k : Int) ∧ x = .string S ∧ UptoL (Words.var l.length) l k S ∧ S.size ≤ 5 + 5 * k ∧ Below w.heap.size w wr)
    (fun _ i _ => l.length - (intOf i).toNat)
  case atStart => exact ⟨0, S0, Nat.zero_le _, rfl, rfl, HI.out, by omega, hb1⟩
  case round =>
    obtain ⟨k, S, hk, rfl, rfl, hup, hz, hbel⟩ := hrel
    have HU : Hid (UptoL (Words.var l.length) l k S) := hup
    clear hup
    by_cases hlt : k < l.length
    · have c0 := (HF.out.kept hbel).2 k hlt
      have ea := HF.out.1 (by omega)
      subst ea
      have hXr := HX.out l[k] (List.getElem_mem _)
      obtain ⟨X, hX⟩ : ∃ X, X = l[k] := ⟨_, rfl⟩
      rw [← hX] at c0 hXr
      have HE : Hid (l[k] = X) := hX.symm
      clear hX
      have hk0 : (0 : Int) ≤ (k : Int) := by omega
      have hk1 : (k : Int) < (l.length : Int) := by omega
      have z2 := varS_five X (by omega)
      have z3 : ¬ 9223372036854775807 < S.size + (varS X).size := by omega
      go_wp2_with (go_at_call 47; refine (varOf_q X (by omega) (by omega) _).mono ?_; rintro e w2 ⟨rfl, hb2⟩)
      have HN : Hid (UptoL (Words.var l.length) l (k + 1) (S ++ varS X)) := HU.out.step hlt HE.out
      have hz2 : (S ++ varS X).size ≤ 5 + 5 * (k + 1) := by rw [ByteArray.size_append]; omega
      obtain ⟨T, hT⟩ : ∃ T, T = S ++ varS X := ⟨_, rfl⟩
      rw [← hT] at HN hz2 ⊢
      clear hT z3 z2
      go_roundw
      case rel => exact ⟨k + 1, T, by omega, by go_num, rfl, HN.out, hz2, hbel.trans (hb2.mono hbel.size)⟩
      case measure => simp [intOf]; omega
    · have hk1 : ¬ (k : Int) < (l.length : Int) := by omega
      have HE : Hid (S = listS l) := (HU.out.all (by omega)).eq
      go_wp2
      go_ret
      exact ⟨by rw [← HE.out]; rfl, hbel⟩
def sealedS (m : ManL) : ByteArray := ⟨(Mans.sealed (Mans.text m)).toArray⟩
theorem sealed_of {S : ByteArray} {m : ManL} (h : Is S (Mans.text m)) : S ++ ⟨(Sums.four (Sums.sumOf S.data.toList)).toArray⟩ = sealedS m := by
  unfold Is at h
  unfold sealedS Mans.sealed
  rw [app_bytes, h]
set_option maxHeartbeats 1000000 in
theorem implText_no {a b : Option Addr} {ga oa ca gb ob cb : Nat} (l l' : List Int) (x y z : Int) (hs : l.length ≤ 1048576) (hc : l'.length ≤ 1048576) (w : World) (hA : IntAt w a ga oa l) (hB : IntAt w b gb ob l') (ho : ¬ Mans.ok ⟨l, x, y, z, l'⟩) :
    Calls Tryz.prog 26 #[manV ⟨l, x, y, z, l'⟩ a ca b cb] w fun e w' => e = .returned (.tuple #[.string ⟨#[]⟩, .bool false]) ∧ Below w.heap.size w w' := by
  unfold manV
  simp only
  obtain ⟨W, hW⟩ : ∃ W, W = w.alloc (.cells #[.slice a l.length ca, .int .i64 x, .int .i64 y, .int .i64 z, .slice b l'.length cb] 49) := ⟨_, rfl⟩
  have hWb : Below w.heap.size w W := by rw [hW]; exact (Below.refl _ _).alloc (Nat.le_refl _) _
  have hp : W.heap[w.heap.size]? = some (.cells #[.slice a l.length ca, .int .i64 x, .int .i64 y, .int .i64 z, .slice b l'.length cb] 49 (0, 0)) := by rw [hW]; exact heap_alloc_new w _
  have hlt : w.heap.size < W.heap.size := (Array.getElem?_eq_some_iff.1 hp).1
  have HP : Hid (_ = _) := hp
  have HA : Hid (IntAt w a ga oa l) := hA
  have HB : Hid (IntAt w b gb ob l') := hB
  have HWB : Hid (Below w.heap.size w W) := hWb
  have hq := implMan_is (ca := ca) (cb := cb) l l' x y z hs hc false (by simp [ho]) W (hA.kept hWb) (hB.kept hWb)
  unfold manV at hq
  have HQ : Hid _ := hq
  clear hq hp hA hB hWb
  go_enter Tryz.func26, Tryz.ntmps26
  go_wp2_with fail
  rw [← hW]
  clear hW
  refine Calls.mono HQ.out ?_
  rintro e w1 ⟨rfl, hb1⟩
  have HB1 : Hid (Below w.heap.size w w1) := HWB.out.trans (hb1.mono HWB.out.size)
  clear hb1
  go_wp2
  go_ret2
  exact ⟨rfl, HB1.out⟩
theorem ok_million {m : ManL} (h : Mans.ok m) : (∀ x ∈ m.segs, 0 ≤ x ∧ x ≤ 1000000) ∧ (∀ x ∈ m.conf, 0 ≤ x ∧ x ≤ 1000000) := by
  obtain ⟨h1, h2, h3, h4, h5, h6⟩ := h
  obtain ⟨g1, g2⟩ := Mans.confOk_iff.1 h6
  exact ⟨fun x hx => by have := Mans.asc_in _ _ _ h3 x hx; omega, fun x hx => by have := Mans.asc_in _ _ _ g2 x hx; omega⟩
set_option maxHeartbeats 4000000 in
set_option maxRecDepth 100000 in
theorem implText_yes {a b : Option Addr} {ga oa ca gb ob cb : Nat} (l l' : List Int) (x y z : Int) (hs : l.length ≤ 1048576) (hc : l'.length ≤ 1048576) (w : World) (hA : IntAt w a ga oa l) (hB : IntAt w b gb ob l') (ho : Mans.ok ⟨l, x, y, z, l'⟩) :
    Calls Tryz.prog 26 #[manV ⟨l, x, y, z, l'⟩ a ca b cb] w fun e w' => e = .returned (.tuple #[.string (sealedS ⟨l, x, y, z, l'⟩), .bool true]) ∧ Below w.heap.size w w' := by
  unfold manV
  simp only
  obtain ⟨W, hW⟩ : ∃ W, W = w.alloc (.cells #[.slice a l.length ca, .int .i64 x, .int .i64 y, .int .i64 z, .slice b l'.length cb] 49) := ⟨_, rfl⟩
  have hWb : Below w.heap.size w W := by rw [hW]; exact (Below.refl _ _).alloc (Nat.le_refl _) _
  have hp : W.heap[w.heap.size]? = some (.cells #[.slice a l.length ca, .int .i64 x, .int .i64 y, .int .i64 z, .slice b l'.length cb] 49 (0, 0)) := by rw [hW]; exact heap_alloc_new w _
  have hlt : w.heap.size < W.heap.size := (Array.getElem?_eq_some_iff.1 hp).1
  have HP : Hid (_ = _) := hp
  have HA : Hid (IntAt w a ga oa l) := hA
  have HB : Hid (IntAt w b gb ob l') := hB
  have HWB : Hid (Below w.heap.size w W) := hWb
  have hq := implMan_is (ca := ca) (cb := cb) l l' x y z hs hc true (by simp [ho]) W (hA.kept hWb) (hB.kept hWb)
  unfold manV at hq
  have HQ : Hid _ := hq
  have hm := ok_million ho
  obtain ⟨o1, o2, o3, o4, o5, o6⟩ := ho
  have o7 := (Mans.confOk_iff.1 o6).1
  simp only at o1 o2 o4 o5 o7 hm
  have HM1 : Hid (∀ x ∈ l, 0 ≤ x ∧ x ≤ 1000000) := hm.1
  have HM2 : Hid (∀ x ∈ l', 0 ≤ x ∧ x ≤ 1000000) := hm.2
  clear hq hp hA hB hWb o3 o6 hm
  go_enter Tryz.func26, Tryz.ntmps26
  go_wp2_with fail
  rw [← hW]
  clear hW
  refine Calls.mono HQ.out ?_
  rintro e w1 ⟨rfl, hb1⟩
  have HB1 : Hid (Below w.heap.size w w1) := HWB.out.trans (hb1.mono HWB.out.size)
  have hp1 := (hb1.block _ hlt).trans HP.out
  have p0 := cell_of_row _ _ 0 _ _ _ hp1
  have p1 := cell_of_row _ _ 1 _ _ _ hp1
  have p2 := cell_of_row _ _ 2 _ _ _ hp1
  have p3 := cell_of_row _ _ 3 _ _ _ hp1
  have p4 := cell_of_row _ _ 4 _ _ _ hp1
  simp at p0 p1 p2 p3 p4
  clear hb1 hp1 HQ
  go_wp2_with fail
  have z1 := listS_size l (by omega) (fun x hx => (HM1.out x hx).2)
  have z2 := listS_size l' (by omega) (fun x hx => (HM2.out x hx).2)
  have z3 := varS_five x (by omega)
  have z4 := varS_five y (by omega)
  have z5 := varS_five z (by omega)
  have y1 : ¬ 9223372036854775807 < (listS l).size + (varS x).size := by omega
  have y2 : ¬ 9223372036854775807 < (listS l ++ varS x).size + (varS y).size := by rw [ByteArray.size_append]; omega
  have y3 : ¬ 9223372036854775807 < (listS l ++ varS x ++ varS y).size + (varS z).size := by rw [ByteArray.size_append, ByteArray.size_append]; omega
  have y4 : ¬ 9223372036854775807 < (listS l ++ varS x ++ varS y ++ varS z).size + (listS l').size := by rw [ByteArray.size_append, ByteArray.size_append, ByteArray.size_append]; omega
  have y5 : (listS l ++ varS x ++ varS y ++ varS z ++ listS l').size ≤ 20000 := by rw [ByteArray.size_append, ByteArray.size_append, ByteArray.size_append, ByteArray.size_append]; omega
  have NE := Abv.ne w1
  have F0 := fun x : Abv w1 => x.cell p0
  have F1 := fun x : Abv w1 => x.cell p1
  have F2 := fun x : Abv w1 => x.cell p2
  have F3 := fun x : Abv w1 => x.cell p3
  have F4 := fun x : Abv w1 => x.cell p4
  have L1 : Hid (∀ u : Abv w1, Calls Tryz.prog 46 #[.slice a l.length ca] u.w fun e w' => e = .returned (.string (listS l)) ∧ Below u.w.heap.size u.w w') := fun u => listText_is l (by omega) HM1.out u.w ((HA.out.kept HB1.out).kept u.b)
  have L2 : Hid (∀ u : Abv w1, Calls Tryz.prog 46 #[.slice b l'.length cb] u.w fun e w' => e = .returned (.string (listS l')) ∧ Below u.w.heap.size u.w w') := fun u => listText_is l' (by omega) HM2.out u.w ((HB.out.kept HB1.out).kept u.b)
  have L3 : Hid (∀ u : Abv w1, Calls Tryz.prog 45 #[.string (listS l ++ varS x ++ varS y ++ varS z ++ listS l')] u.w fun e w' => e = .returned (.tuple #[.string (sealedS ⟨l, x, y, z, l'⟩), .bool true]) ∧ Below u.w.heap.size u.w w') := fun u => by
    have h := implSealed_yes _ y5 u.w
    unfold sealTuple at h
    rw [sealed_of (m := ⟨l, x, y, z, l'⟩)] at h
    · exact h
    · have := ((((listS_is l).app (varS_is x)).app (varS_is y)).app (varS_is z)).app (listS_is l')
      simpa [Mans.text] using this
  refine wp_region_above (by kernel_rfl) (by kernel_rfl) ?_
  repeat (go_big_quiet_step (first | (go_at_call 47; exact calls_above (varOf_q _ (by omega) (by omega) _)) | (go_at_call 45; exact calls_above (L3.out _)) | (go_at_call 46; with_reducible exact calls_above (L1.out _)) | (go_at_call 46; with_reducible exact calls_above (L2.out _))))
  refine wpQuiet_nil ?_
  rintro w2 ⟨⟨_, hb2⟩, rfl⟩
  clear NE F0 F1 F2 F3 F4 L1 L2 L3 y1 y2 y3 y4 y5
  go_wp2
  go_ret2
  exact ⟨rfl, HB1.out.trans (hb2.mono HB1.out.size)⟩
end Go.Proofs.YthcfnofhdbjemaaGreatDoor
