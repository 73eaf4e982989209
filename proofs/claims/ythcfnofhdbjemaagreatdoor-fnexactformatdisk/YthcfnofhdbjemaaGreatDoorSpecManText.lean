/- The call of the specification's ManifestText, walked. -/
import Derived.Test.YthcfnofhdbjemaaGreatDoorManText
namespace Go.Proofs.YthcfnofhdbjemaaGreatDoor
open Go.RowKit
set_option linter.unusedVariables false

theorem l01Var_q (x : Int) (h0 : 0 ≤ x) (h1 : x ≤ 1000000) (w : World) : Calls Tryz.prog 37 #[.int .i64 x] w fun e w' => e = .returned (.string (varS x)) ∧ Below w.heap.size w w' := by
  obtain ⟨n, rfl⟩ := Int.eq_ofNat_of_zero_le h0
  exact l01Var_any n (by omega) w
set_option maxHeartbeats 1000000 in
theorem specText_no {a b : Option Addr} {ga oa ca gb ob cb : Nat} (l l' : List Int) (x y z : Int) (hs : l.length ≤ 1048576) (hc : l'.length ≤ 1048576) (w : World) (hA : IntAt w a ga oa l) (hB : IntAt w b gb ob l') (ho : ¬ Mans.ok ⟨l, x, y, z, l'⟩) :
    Calls Tryz.prog 21 #[manV ⟨l, x, y, z, l'⟩ a ca b cb] w fun e w' => e = .returned (.tuple #[.string ⟨#[]⟩, .bool false]) ∧ Below w.heap.size w w' := by
  unfold manV
  simp only
  obtain ⟨W, hW⟩ : ∃ W, W = w.alloc (.cells #[.slice a l.length ca, .int .i64 x, .int .i64 y, .int .i64 z, .slice b l'.length cb] 49) := ⟨_, rfl⟩
  have hWb : Below w.heap.size w W := by rw [hW]; exact (Below.refl _ _).alloc (Nat.le_refl _) _
  have hp : W.heap[w.heap.size]? = some (.cells #[.slice a l.length ca, .int .i64 x, .int .i64 y, .int .i64 z, .slice b l'.length cb] 49 (0, 0)) := by rw [hW]; exact heap_alloc_new w _
  have hlt : w.heap.size < W.heap.size := (Array.getElem?_eq_some_iff.1 hp).1
  have HP : Hid (_ = _) := hp
  have HA : Hid (IntAt w a ga oa l) := hA
  have HB : Hid (IntAt w b gb ob l') := hB
  have HWB : Hid (Below w.heap.size w W) := hWb
  have hq := specMan_is (ca := ca) (cb := cb) l l' x y z hs hc false (by simp [ho]) W (hA.kept hWb) (hB.kept hWb)
  unfold manV at hq
  have HQ : Hid _ := hq
  clear hq hp hA hB hWb
  go_enter Tryz.func21, Tryz.ntmps21
  go_wp2_with fail
  rw [← hW]
  clear hW
  refine Calls.mono HQ.out ?_
  rintro e w1 ⟨rfl, hb1⟩
  have HB1 : Hid (Below w.heap.size w w1) := HWB.out.trans (hb1.mono HWB.out.size)
  clear hb1
  go_wp2
  go_ret2
  exact ⟨rfl, HB1.out⟩
set_option maxHeartbeats 4000000 in
set_option maxRecDepth 100000 in
theorem specText_yes {a b : Option Addr} {ga oa ca gb ob cb : Nat} (l l' : List Int) (x y z : Int) (hs : l.length ≤ 1048576) (hc : l'.length ≤ 1048576) (w : World) (hA : IntAt w a ga oa l) (hB : IntAt w b gb ob l') (ho : Mans.ok ⟨l, x, y, z, l'⟩) :
    Calls Tryz.prog 21 #[manV ⟨l, x, y, z, l'⟩ a ca b cb] w fun e w' => e = .returned (.tuple #[.string (sealedS ⟨l, x, y, z, l'⟩), .bool true]) ∧ Below w.heap.size w w' := by
  unfold manV
  simp only
  obtain ⟨W, hW⟩ : ∃ W, W = w.alloc (.cells #[.slice a l.length ca, .int .i64 x, .int .i64 y, .int .i64 z, .slice b l'.length cb] 49) := ⟨_, rfl⟩
  have hWb : Below w.heap.size w W := by rw [hW]; exact (Below.refl _ _).alloc (Nat.le_refl _) _
  have hp : W.heap[w.heap.size]? = some (.cells #[.slice a l.length ca, .int .i64 x, .int .i64 y, .int .i64 z, .slice b l'.length cb] 49 (0, 0)) := by rw [hW]; exact heap_alloc_new w _
  have hlt : w.heap.size < W.heap.size := (Array.getElem?_eq_some_iff.1 hp).1
  have HP : Hid (_ = _) := hp
  have HA : Hid (IntAt w a ga oa l) := hA
  have HB : Hid (IntAt w b gb ob l') := hB
  have HWB : Hid (Below w.heap.size w W) := hWb
  have hq := specMan_is (ca := ca) (cb := cb) l l' x y z hs hc true (by simp [ho]) W (hA.kept hWb) (hB.kept hWb)
  unfold manV at hq
  have HQ : Hid _ := hq
  have hm := ok_million ho
  obtain ⟨o1, o2, o3, o4, o5, o6⟩ := ho
  have o7 := (Mans.confOk_iff.1 o6).1
  simp only at o1 o2 o4 o5 o7 hm
  have HM1 : Hid (∀ x ∈ l, 0 ≤ x ∧ x ≤ 1000000) := hm.1
  have HM2 : Hid (∀ x ∈ l', 0 ≤ x ∧ x ≤ 1000000) := hm.2
  clear hq hp hA hB hWb o3 o6 hm
  go_enter Tryz.func21, Tryz.ntmps21
  go_wp2_with fail
  rw [← hW]
  clear hW
  refine Calls.mono HQ.out ?_
  rintro e w1 ⟨rfl, hb1⟩
  have HB1 : Hid (Below w.heap.size w w1) := HWB.out.trans (hb1.mono HWB.out.size)
  have hp1 := (hb1.block _ hlt).trans HP.out
  have HP1 : Hid (_ = _) := hp1
  have p0 := cell_of_row _ _ 0 _ _ _ hp1
  have p1 := cell_of_row _ _ 1 _ _ _ hp1
  have p2 := cell_of_row _ _ 2 _ _ _ hp1
  have p3 := cell_of_row _ _ 3 _ _ _ hp1
  have p4 := cell_of_row _ _ 4 _ _ _ hp1
  simp at p0 p1 p2 p3 p4
  clear hb1 hp1 HQ hlt HP
  go_wp2_with fail
  refine (l01Var_q (l.length : Int) (by omega) (by omega) _).mono ?_
  rintro e w2 ⟨rfl, hb2⟩
  have HB2 : Hid (Below w.heap.size w w2) := HB1.out.trans (hb2.mono HB1.out.size)
  have hp2 := (hb2.block _ (Array.getElem?_eq_some_iff.1 HP1.out).1).trans HP1.out
  have HP2 : Hid (_ = _) := hp2
  have hlt2 : w.heap.size < w2.heap.size := (Array.getElem?_eq_some_iff.1 hp2).1
  have HA2 : Hid (IntAt w2 a ga oa l) := HA.out.kept HB2.out
  have HBB2 : Hid (IntAt w2 b gb ob l') := HB.out.kept HB2.out
  have z1 := varS_five (l.length : Int) (by omega)
  have HI : Hid (UptoL (Words.var l.length) l 0 (varS (l.length : Int))) := UptoL.zero (varS_is _)
  obtain ⟨S0, hS0⟩ : ∃ S0, S0 = varS (l.length : Int) := ⟨_, rfl⟩
  rw [← hS0] at HI z1 ⊢
  clear hS0 hb2 hp2 HP1 HB1 p0 p1 p2 p3 p4
  go_wp2
  go_loopw [4, 5] (fun v i wr => ∃ (k : Nat) (S : ByteArray), k ≤ l.length ∧ i = .int .i64 (k : Int) ∧ v = .string S ∧ UptoL (Words.var l.length) l k S ∧ S.size ≤ 5 + 5 * k ∧ Below w2.heap.size w2 wr)
    (fun _ i _ => l.length - (intOf i).toNat)
  case atStart => exact ⟨0, S0, Nat.zero_le _, rfl, rfl, HI.out, by omega, Below.refl _ _⟩
  case round =>
    obtain ⟨k, S, hk, rfl, rfl, hup, hz, hbel⟩ := hrel
    have HU : Hid (UptoL (Words.var l.length) l k S) := hup
    have hpr := (hbel.block _ hlt2).trans HP2.out
    have r0 := cell_of_row _ _ 0 _ _ _ hpr
    have r1 := cell_of_row _ _ 1 _ _ _ hpr
    have r2 := cell_of_row _ _ 2 _ _ _ hpr
    have r3 := cell_of_row _ _ 3 _ _ _ hpr
    have r4 := cell_of_row _ _ 4 _ _ _ hpr
    simp at r0 r1 r2 r3 r4
    clear hup hpr
    by_cases hlt' : k < l.length
    · have c0 := (HA2.out.kept hbel).2 k hlt'
      have ea := HA2.out.1 (by omega)
      subst ea
      have hXr := HM1.out l[k] (List.getElem_mem _)
      obtain ⟨X, hX⟩ : ∃ X, X = l[k] := ⟨_, rfl⟩
      rw [← hX] at c0 hXr
      have HE : Hid (l[k] = X) := hX.symm
      clear hX
      have hk0 : (0 : Int) ≤ (k : Int) := by omega
      have hk1 : (k : Int) < (l.length : Int) := by omega
      have z2 := varS_five X (by omega)
      have z3 : ¬ 9223372036854775807 < S.size + (varS X).size := by omega
      go_wp2_with (go_at_call 37; refine (l01Var_q X (by omega) (by omega) _).mono ?_; rintro e w2 ⟨rfl, hb2⟩)
      have HN : Hid (UptoL (Words.var l.length) l (k + 1) (S ++ varS X)) := HU.out.step hlt' HE.out
      have hz2 : (S ++ varS X).size ≤ 5 + 5 * (k + 1) := by rw [ByteArray.size_append]; omega
      obtain ⟨T, hT⟩ : ∃ T, T = S ++ varS X := ⟨_, rfl⟩
      rw [← hT] at HN hz2 ⊢
      clear hT z3 z2
      go_roundw
      case rel => exact ⟨k + 1, T, by omega, by go_num, rfl, HN.out, hz2, hbel.trans (hb2.mono hbel.size)⟩
      case measure => simp [intOf]; omega
    · have hk1 : ¬ (k : Int) < (l.length : Int) := by omega
      have HE : Hid (Is S (Mans.list l)) := HU.out.all (by omega)
      have hz' : S.size ≤ 45 := by omega
      obtain ⟨w3, hw3⟩ : ∃ w3, w3 = wr := ⟨_, rfl⟩
      have HB3 : Hid (Below w.heap.size w wr) := HB2.out.trans (hbel.mono HB2.out.size)
      have HP3 : Hid (wr.heap[w.heap.size]? = some (.cells #[.slice a l.length ca, .int .i64 x, .int .i64 y, .int .i64 z, .slice b l'.length cb] 49 (0, 0))) := (hbel.block _ hlt2).trans HP2.out
      have hlt3 : w.heap.size < wr.heap.size := (Array.getElem?_eq_some_iff.1 HP3.out).1
      have HBB3 : Hid (IntAt wr b gb ob l') := HBB2.out.kept hbel
      clear hw3 hbel HP2 HA2 HBB2 HB2 hlt2 HU hz HI z1
      go_wp2_with fail
      have q1 := varS_five x (by omega)
      have q2 := varS_five y (by omega)
      have q3 := varS_five z (by omega)
      have q4 := varS_five (l'.length : Int) (by omega)
      have y1 : ¬ 9223372036854775807 < S.size + (varS x).size := by omega
      have y2 : ¬ 9223372036854775807 < (S ++ varS x).size + (varS y).size := by rw [ByteArray.size_append]; omega
      have y3 : ¬ 9223372036854775807 < (S ++ varS x ++ varS y).size + (varS z).size := by rw [ByteArray.size_append, ByteArray.size_append]; omega
      have y4 : ¬ 9223372036854775807 < (S ++ varS x ++ varS y ++ varS z).size + (varS (l'.length : Int)).size := by rw [ByteArray.size_append, ByteArray.size_append, ByteArray.size_append]; omega
      have NE := Abv.ne wr
      have F1 := fun u : Abv wr => u.cell r1
      have F2 := fun u : Abv wr => u.cell r2
      have F3 := fun u : Abv wr => u.cell r3
      have F4 := fun u : Abv wr => u.cell r4
      refine wp_region_above (by kernel_rfl) (by kernel_rfl) ?_
      repeat (go_big_quiet_step (first | (go_at_call 37; exact calls_above (l01Var_q _ (by omega) (by omega) _))))
      refine wpQuiet_nil ?_
      rintro w4 ⟨⟨_, hb4⟩, rfl⟩
      clear NE F1 F2 F3 F4 y1 y2 y3 y4
      rename World => w4
      have HB4 : Hid (Below w.heap.size w w4) := HB3.out.trans (hb4.mono HB3.out.size)
      have HP4 : Hid (w4.heap[w.heap.size]? = some (.cells #[.slice a l.length ca, .int .i64 x, .int .i64 y, .int .i64 z, .slice b l'.length cb] 49 (0, 0))) := (hb4.block _ hlt3).trans HP3.out
      have hlt4 : w.heap.size < w4.heap.size := (Array.getElem?_eq_some_iff.1 HP4.out).1
      have HBB4 : Hid (IntAt w4 b gb ob l') := HBB3.out.kept hb4
      have hz4 : (S ++ varS x ++ varS y ++ varS z ++ varS (l'.length : Int)).size ≤ 65 := by rw [ByteArray.size_append, ByteArray.size_append, ByteArray.size_append, ByteArray.size_append]; omega
      have HI4 : Hid (UptoL (Mans.list l ++ (Words.var x.toNat ++ (Words.var y.toNat ++ (Words.var z.toNat ++ Words.var l'.length)))) l' 0 (S ++ varS x ++ varS y ++ varS z ++ varS (l'.length : Int))) := by
        refine UptoL.zero ?_
        have := (((HE.out.app (varS_is x)).app (varS_is y)).app (varS_is z)).app (varS_is (l'.length : Int))
        simpa using this
      obtain ⟨S4, hS4⟩ : ∃ S4, S4 = S ++ varS x ++ varS y ++ varS z ++ varS (l'.length : Int) := ⟨_, rfl⟩
      rw [← hS4] at HI4 hz4 ⊢
      clear hS4 hb4 HP3 HBB3 HB3 hlt3 HE hz' r0 r1 r2 r3 r4
      go_wp2
      go_loopw [4, 6] (fun v i wr => ∃ (k : Nat) (S : ByteArray), k ≤ l'.length ∧ i = .int .i64 (k : Int) ∧ v = .string S ∧ UptoL (Mans.list l ++ (Words.var x.toNat ++ (Words.var y.toNat ++ (Words.var z.toNat ++ Words.var l'.length)))) l' k S ∧ S.size ≤ 65 + 5 * k ∧ Below w4.heap.size w4 wr)
        (fun _ i _ => l'.length - (intOf i).toNat)
      case atStart => exact ⟨0, S4, Nat.zero_le _, rfl, rfl, HI4.out, by omega, Below.refl _ _⟩
      case round =>
        obtain ⟨k, S, hk, rfl, rfl, hup, hz, hbel⟩ := hrel
        have HU : Hid (UptoL (Mans.list l ++ (Words.var x.toNat ++ (Words.var y.toNat ++ (Words.var z.toNat ++ Words.var l'.length)))) l' k S) := hup
        have hpr := (hbel.block _ hlt4).trans HP4.out
        have r0 := cell_of_row _ _ 0 _ _ _ hpr
        have r1 := cell_of_row _ _ 1 _ _ _ hpr
        have r2 := cell_of_row _ _ 2 _ _ _ hpr
        have r3 := cell_of_row _ _ 3 _ _ _ hpr
        have r4 := cell_of_row _ _ 4 _ _ _ hpr
        simp at r0 r1 r2 r3 r4
        clear hup hpr
        by_cases hlt' : k < l'.length
        · have c0 := (HBB4.out.kept hbel).2 k hlt'
          have ea := HBB4.out.1 (by omega)
          subst ea
          have hXr := HM2.out l'[k] (List.getElem_mem _)
          obtain ⟨X, hX⟩ : ∃ X, X = l'[k] := ⟨_, rfl⟩
          rw [← hX] at c0 hXr
          have HE : Hid (l'[k] = X) := hX.symm
          clear hX
          have hk0 : (0 : Int) ≤ (k : Int) := by omega
          have hk1 : (k : Int) < (l'.length : Int) := by omega
          have z2 := varS_five X (by omega)
          have z3 : ¬ 9223372036854775807 < S.size + (varS X).size := by omega
          go_wp2_with (go_at_call 37; refine (l01Var_q X (by omega) (by omega) _).mono ?_; rintro e w2 ⟨rfl, hb2⟩)
          have HN : Hid (UptoL (Mans.list l ++ (Words.var x.toNat ++ (Words.var y.toNat ++ (Words.var z.toNat ++ Words.var l'.length)))) l' (k + 1) (S ++ varS X)) := HU.out.step hlt' HE.out
          have hz2 : (S ++ varS X).size ≤ 65 + 5 * (k + 1) := by rw [ByteArray.size_append]; omega
          obtain ⟨T, hT⟩ : ∃ T, T = S ++ varS X := ⟨_, rfl⟩
          rw [← hT] at HN hz2 ⊢
          clear hT z3 z2
          go_roundw
          case rel => exact ⟨k + 1, T, by omega, by go_num, rfl, HN.out, hz2, hbel.trans (hb2.mono hbel.size)⟩
          case measure => simp [intOf]; omega
        · have hk1 : ¬ (k : Int) < (l'.length : Int) := by omega
          have HE : Hid (Is S (Mans.text ⟨l, x, y, z, l'⟩)) := by
            have := HU.out.all (by omega)
            show Is _ _
            simpa [Mans.text, Mans.list] using this
          have hz' : S.size ≤ 20000 := by omega
          have HB5 : Hid (Below w.heap.size w wr) := HB4.out.trans (hbel.mono HB4.out.size)
          have hse := specSealed_yes S hz'
          unfold sealTuple at hse
          rw [sealed_of HE.out] at hse
          have HSE : Hid (∀ w, _) := hse
          clear hse hbel
          go_wp2_with fail
          refine Calls.mono (HSE.out _) ?_
          rintro e w6 ⟨rfl, hb6⟩
          have HB6 : Hid (Below w.heap.size w w6) := HB5.out.trans (hb6.mono HB5.out.size)
          clear hb6
          go_wp2
          go_ret2
          exact ⟨rfl, HB6.out⟩
end Go.Proofs.YthcfnofhdbjemaaGreatDoor
