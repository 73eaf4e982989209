/- The call of the specification's ManifestText, walked. The exact law of ManifestText, walked. Made by program. The call of the program's (*textReader).list, walked. The calls of the program's (*textReader).manifest, of the closure that reads and of readWhole, walked. The calls of the closure that reads a manifest and of readWhole, walked: the deferred closure that recovers. -/
import Derived.Test.YtbcfiiilikkkeaaGreatDoorManText
import Derived.Deep.RegionHeld3
import Derived.Test.YtbcfiiilikkkeaaGreatDoorTexts
import Derived.Test.YtbcfiiilikkkeaaGreatDoorWords5
import Derived.Defers
import Derived.Recover
namespace Go.Proofs.YtbcfiiilikkkeaaGreatDoor
open Go.RowKit
set_option linter.unusedVariables false

theorem l01Var_q_cm (x : Int) (h0 : 0 ≤ x) (h1 : x ≤ 1000000) (w : World) : Calls Tryz.prog 128 #[.int .i64 x] w fun e w' => e = .returned (.string (varS x)) ∧ Below w.heap.size w w' := by
  obtain ⟨n, rfl⟩ := Int.eq_ofNat_of_zero_le h0
  exact l01Var_any n (by omega) w
set_option maxHeartbeats 1000000 in
theorem specText_no_cm {a b : Option Addr} {ga oa ca gb ob cb : Nat} (l l' : List Int) (x y z : Int) (hs : l.length ≤ 1048576) (hc : l'.length ≤ 1048576) (w : World) (hA : IntAt w a ga oa l) (hB : IntAt w b gb ob l') (ho : ¬ Mans.ok ⟨l, x, y, z, l'⟩) :
    Calls Tryz.prog 119 #[manV ⟨l, x, y, z, l'⟩ a ca b cb] w fun e w' => e = .returned (.tuple #[.string ⟨#[]⟩, .bool false]) ∧ Below w.heap.size w w' := by
  unfold manV
  simp only
  obtain ⟨W, hW⟩ : ∃ W, W = w.alloc (.cells #[.slice a l.length ca, .int .i64 x, .int .i64 y, .int .i64 z, .slice b l'.length cb] 37) := ⟨_, rfl⟩
  have hWb : Below w.heap.size w W := by rw [hW]; exact (Below.refl _ _).alloc (Nat.le_refl _) _
  have hp : W.heap[w.heap.size]? = some (.cells #[.slice a l.length ca, .int .i64 x, .int .i64 y, .int .i64 z, .slice b l'.length cb] 37 (0, 0)) := by rw [hW]; exact heap_alloc_new w _
  have hlt : w.heap.size < W.heap.size := (Array.getElem?_eq_some_iff.1 hp).1
  have HP : Hid (_ = _) := hp
  have HA : Hid (IntAt w a ga oa l) := hA
  have HB : Hid (IntAt w b gb ob l') := hB
  have HWB : Hid (Below w.heap.size w W) := hWb
  have hq := specMan_is (ca := ca) (cb := cb) l l' x y z hs hc false (by simp [ho]) W (hA.kept hWb) (hB.kept hWb)
  unfold manV at hq
  have HQ : Hid _ := hq
  clear hq hp hA hB hWb
  go_enter Tryz.func119, Tryz.ntmps119
  go_wp2_with fail
  rw [← hW]
  clear hW
  refine Calls.mono HQ.out ?_
  rintro e w1 ⟨rfl, hb1⟩
  have HB1 : Hid (Below w.heap.size w w1) := HWB.out.trans (hb1.mono HWB.out.size)
  clear hb1
  go_wp2
  go_ret2
  exact ⟨rfl, HB1.out⟩
set_option maxHeartbeats 4000000 in
set_option maxRecDepth 100000 in
theorem specText_yes_cm {a b : Option Addr} {ga oa ca gb ob cb : Nat} (l l' : List Int) (x y z : Int) (hs : l.length ≤ 1048576) (hc : l'.length ≤ 1048576) (w : World) (hA : IntAt w a ga oa l) (hB : IntAt w b gb ob l') (ho : Mans.ok ⟨l, x, y, z, l'⟩) :
    Calls Tryz.prog 119 #[manV ⟨l, x, y, z, l'⟩ a ca b cb] w fun e w' => e = .returned (.tuple #[.string (sealedS ⟨l, x, y, z, l'⟩), .bool true]) ∧ Below w.heap.size w w' := by
  unfold manV
  simp only
  obtain ⟨W, hW⟩ : ∃ W, W = w.alloc (.cells #[.slice a l.length ca, .int .i64 x, .int .i64 y, .int .i64 z, .slice b l'.length cb] 37) := ⟨_, rfl⟩
  have hWb : Below w.heap.size w W := by rw [hW]; exact (Below.refl _ _).alloc (Nat.le_refl _) _
  have hp : W.heap[w.heap.size]? = some (.cells #[.slice a l.length ca, .int .i64 x, .int .i64 y, .int .i64 z, .slice b l'.length cb] 37 (0, 0)) := by rw [hW]; exact heap_alloc_new w _
  have hlt : w.heap.size < W.heap.size := (Array.getElem?_eq_some_iff.1 hp).1
  have HP : Hid (_ = _) := hp
  have HA : Hid (IntAt w a ga oa l) := hA
  have HB : Hid (IntAt w b gb ob l') := hB
  have HWB : Hid (Below w.heap.size w W) := hWb
  have hq := specMan_is (ca := ca) (cb := cb) l l' x y z hs hc true (by simp [ho]) W (hA.kept hWb) (hB.kept hWb)
  unfold manV at hq
  have HQ : Hid _ := hq
  have hm := ok_million ho
  obtain ⟨o1, o2, o3, o4, o5, o6⟩ := ho
  have o7 := (Mans.confOk_iff.1 o6).1
  simp only at o1 o2 o4 o5 o7 hm
  have HM1 : Hid (∀ x ∈ l, 0 ≤ x ∧ x ≤ 1000000) := hm.1
  have HM2 : Hid (∀ x ∈ l', 0 ≤ x ∧ x ≤ 1000000) := hm.2
  clear hq hp hA hB hWb o3 o6 hm
  go_enter Tryz.func119, Tryz.ntmps119
  go_wp2_with fail
  rw [← hW]
  clear hW
  refine Calls.mono HQ.out ?_
  rintro e w1 ⟨rfl, hb1⟩
  have HB1 : Hid (Below w.heap.size w w1) := HWB.out.trans (hb1.mono HWB.out.size)
  have hp1 := (hb1.block _ hlt).trans HP.out
  have HP1 : Hid (_ = _) := hp1
  have p0 := cell_of_row _ _ 0 _ _ _ hp1
  have p1 := cell_of_row _ _ 1 _ _ _ hp1
  have p2 := cell_of_row _ _ 2 _ _ _ hp1
  have p3 := cell_of_row _ _ 3 _ _ _ hp1
  have p4 := cell_of_row _ _ 4 _ _ _ hp1
  simp at p0 p1 p2 p3 p4
  clear hb1 hp1 HQ hlt HP
  go_wp2_with fail
  refine (l01Var_q_cm (l.length : Int) (by omega) (by omega) _).mono ?_
  rintro e w2 ⟨rfl, hb2⟩
  have HB2 : Hid (Below w.heap.size w w2) := HB1.out.trans (hb2.mono HB1.out.size)
  have hp2 := (hb2.block _ (Array.getElem?_eq_some_iff.1 HP1.out).1).trans HP1.out
  have HP2 : Hid (_ = _) := hp2
  have hlt2 : w.heap.size < w2.heap.size := (Array.getElem?_eq_some_iff.1 hp2).1
  have HA2 : Hid (IntAt w2 a ga oa l) := HA.out.kept HB2.out
  have HBB2 : Hid (IntAt w2 b gb ob l') := HB.out.kept HB2.out
  have z1 := varS_five (l.length : Int) (by omega)
  have HI : Hid (UptoL (Words.var l.length) l 0 (varS (l.length : Int))) := UptoL.zero (varS_is _)
  obtain ⟨S0, hS0⟩ : ∃ S0, S0 = varS (l.length : Int) := ⟨_, rfl⟩
  rw [← hS0] at HI z1 ⊢
  clear hS0 hb2 hp2 HP1 HB1 p0 p1 p2 p3 p4
  go_wp2
  go_loopw [4, 5] (fun v i wr => ∃ (k : Nat) (S : ByteArray), k ≤ l.length ∧ i = .int .i64 (k : Int) ∧ v = .string S ∧ UptoL (Words.var l.length) l k S ∧ S.size ≤ 5 + 5 * k ∧ Below w2.heap.size w2 wr)
    (fun _ i _ => l.length - (intOf i).toNat)
  case atStart => exact ⟨0, S0, Nat.zero_le _, rfl, rfl, HI.out, by omega, Below.refl _ _⟩
  case round =>
    obtain ⟨k, S, hk, rfl, rfl, hup, hz, hbel⟩ := hrel
    have HU : Hid (UptoL (Words.var l.length) l k S) := hup
    have hpr := (hbel.block _ hlt2).trans HP2.out
    have r0 := cell_of_row _ _ 0 _ _ _ hpr
    have r1 := cell_of_row _ _ 1 _ _ _ hpr
    have r2 := cell_of_row _ _ 2 _ _ _ hpr
    have r3 := cell_of_row _ _ 3 _ _ _ hpr
    have r4 := cell_of_row _ _ 4 _ _ _ hpr
    simp at r0 r1 r2 r3 r4
    clear hup hpr
    by_cases hlt' : k < l.length
    · have c0 := (HA2.out.kept hbel).2 k hlt'
      have ea := HA2.out.1 (by omega)
      subst ea
      have hXr := HM1.out l[k] (List.getElem_mem _)
      obtain ⟨X, hX⟩ : ∃ X, X = l[k] := ⟨_, rfl⟩
      rw [← hX] at c0 hXr
      have HE : Hid (l[k] = X) := hX.symm
      clear hX
      have hk0 : (0 : Int) ≤ (k : Int) := by omega
      have hk1 : (k : Int) < (l.length : Int) := by omega
      have z2 := varS_five X (by omega)
      have z3 : ¬ 9223372036854775807 < S.size + (varS X).size := by omega
      go_wp2_with (go_at_call 128; refine (l01Var_q_cm X (by omega) (by omega) _).mono ?_; rintro e w2 ⟨rfl, hb2⟩)
      have HN : Hid (UptoL (Words.var l.length) l (k + 1) (S ++ varS X)) := HU.out.step hlt' HE.out
      have hz2 : (S ++ varS X).size ≤ 5 + 5 * (k + 1) := by rw [ByteArray.size_append]; omega
      obtain ⟨T, hT⟩ : ∃ T, T = S ++ varS X := ⟨_, rfl⟩
      rw [← hT] at HN hz2 ⊢
      clear hT z3 z2
      go_roundw
      case rel => exact ⟨k + 1, T, by omega, by go_num, rfl, HN.out, hz2, hbel.trans (hb2.mono hbel.size)⟩
      case measure => simp [intOf]; omega
    · have hk1 : ¬ (k : Int) < (l.length : Int) := by omega
      have HE : Hid (Is S (Mans.list l)) := HU.out.all (by omega)
      have hz' : S.size ≤ 45 := by omega
      obtain ⟨w3, hw3⟩ : ∃ w3, w3 = wr := ⟨_, rfl⟩
      have HB3 : Hid (Below w.heap.size w wr) := HB2.out.trans (hbel.mono HB2.out.size)
      have HP3 : Hid (wr.heap[w.heap.size]? = some (.cells #[.slice a l.length ca, .int .i64 x, .int .i64 y, .int .i64 z, .slice b l'.length cb] 37 (0, 0))) := (hbel.block _ hlt2).trans HP2.out
      have hlt3 : w.heap.size < wr.heap.size := (Array.getElem?_eq_some_iff.1 HP3.out).1
      have HBB3 : Hid (IntAt wr b gb ob l') := HBB2.out.kept hbel
      clear hw3 hbel HP2 HA2 HBB2 HB2 hlt2 HU hz HI z1
      go_wp2_with fail
      have q1 := varS_five x (by omega)
      have q2 := varS_five y (by omega)
      have q3 := varS_five z (by omega)
      have q4 := varS_five (l'.length : Int) (by omega)
      have y1 : ¬ 9223372036854775807 < S.size + (varS x).size := by omega
      have y2 : ¬ 9223372036854775807 < (S ++ varS x).size + (varS y).size := by rw [ByteArray.size_append]; omega
      have y3 : ¬ 9223372036854775807 < (S ++ varS x ++ varS y).size + (varS z).size := by rw [ByteArray.size_append, ByteArray.size_append]; omega
      have y4 : ¬ 9223372036854775807 < (S ++ varS x ++ varS y ++ varS z).size + (varS (l'.length : Int)).size := by rw [ByteArray.size_append, ByteArray.size_append, ByteArray.size_append]; omega
      have NE := Abv.ne wr
      have F1 := fun u : Abv wr => u.cell r1
      have F2 := fun u : Abv wr => u.cell r2
      have F3 := fun u : Abv wr => u.cell r3
      have F4 := fun u : Abv wr => u.cell r4
      refine wp_region_above (by kernel_rfl) (by kernel_rfl) ?_
      repeat (go_big_quiet_step (first | (go_at_call 128; exact calls_above (l01Var_q_cm _ (by omega) (by omega) _))))
      refine wpQuiet_nil ?_
      rintro w4 ⟨⟨_, hb4⟩, rfl⟩
      clear NE F1 F2 F3 F4 y1 y2 y3 y4
      rename World => w4
      have HB4 : Hid (Below w.heap.size w w4) := HB3.out.trans (hb4.mono HB3.out.size)
      have HP4 : Hid (w4.heap[w.heap.size]? = some (.cells #[.slice a l.length ca, .int .i64 x, .int .i64 y, .int .i64 z, .slice b l'.length cb] 37 (0, 0))) := (hb4.block _ hlt3).trans HP3.out
      have hlt4 : w.heap.size < w4.heap.size := (Array.getElem?_eq_some_iff.1 HP4.out).1
      have HBB4 : Hid (IntAt w4 b gb ob l') := HBB3.out.kept hb4
      have hz4 : (S ++ varS x ++ varS y ++ varS z ++ varS (l'.length : Int)).size ≤ 65 := by rw [ByteArray.size_append, ByteArray.size_append, ByteArray.size_append, ByteArray.size_append]; omega
      have HI4 : Hid (UptoL (Mans.list l ++ (Words.var x.toNat ++ (Words.var y.toNat ++ (Words.var z.toNat ++ Words.var l'.length)))) l' 0 (S ++ varS x ++ varS y ++ varS z ++ varS (l'.length : Int))) := by
        refine UptoL.zero ?_
        have := (((HE.out.app (varS_is x)).app (varS_is y)).app (varS_is z)).app (varS_is (l'.length : Int))
        simpa using this
      obtain ⟨S4, hS4⟩ : ∃ S4, S4 = S ++ varS x ++ varS y ++ varS z ++ varS (l'.length : Int) := ⟨_, rfl⟩
      rw [← hS4] at HI4 hz4 ⊢
      clear hS4 hb4 HP3 HBB3 HB3 hlt3 HE hz' r0 r1 r2 r3 r4
      go_wp2
      go_loopw [4, 6] (fun v i wr => ∃ (k : Nat) (S : ByteArray), k ≤ l'.length ∧ i = .int .i64 (k : Int) ∧ v = .string S ∧ UptoL (Mans.list l ++ (Words.var x.toNat ++ (Words.var y.toNat ++ (Words.var z.toNat ++ Words.var l'.length)))) l' k S ∧ S.size ≤ 65 + 5 * k ∧ Below w4.heap.size w4 wr)
        (fun _ i _ => l'.length - (intOf i).toNat)
      case atStart => exact ⟨0, S4, Nat.zero_le _, rfl, rfl, HI4.out, by omega, Below.refl _ _⟩
      case round =>
        obtain ⟨k, S, hk, rfl, rfl, hup, hz, hbel⟩ := hrel
        have HU : Hid (UptoL (Mans.list l ++ (Words.var x.toNat ++ (Words.var y.toNat ++ (Words.var z.toNat ++ Words.var l'.length)))) l' k S) := hup
        have hpr := (hbel.block _ hlt4).trans HP4.out
        have r0 := cell_of_row _ _ 0 _ _ _ hpr
        have r1 := cell_of_row _ _ 1 _ _ _ hpr
        have r2 := cell_of_row _ _ 2 _ _ _ hpr
        have r3 := cell_of_row _ _ 3 _ _ _ hpr
        have r4 := cell_of_row _ _ 4 _ _ _ hpr
        simp at r0 r1 r2 r3 r4
        clear hup hpr
        by_cases hlt' : k < l'.length
        · have c0 := (HBB4.out.kept hbel).2 k hlt'
          have ea := HBB4.out.1 (by omega)
          subst ea
          have hXr := HM2.out l'[k] (List.getElem_mem _)
          obtain ⟨X, hX⟩ : ∃ X, X = l'[k] := ⟨_, rfl⟩
          rw [← hX] at c0 hXr
          have HE : Hid (l'[k] = X) := hX.symm
          clear hX
          have hk0 : (0 : Int) ≤ (k : Int) := by omega
          have hk1 : (k : Int) < (l'.length : Int) := by omega
          have z2 := varS_five X (by omega)
          have z3 : ¬ 9223372036854775807 < S.size + (varS X).size := by omega
          go_wp2_with (go_at_call 128; refine (l01Var_q_cm X (by omega) (by omega) _).mono ?_; rintro e w2 ⟨rfl, hb2⟩)
          have HN : Hid (UptoL (Mans.list l ++ (Words.var x.toNat ++ (Words.var y.toNat ++ (Words.var z.toNat ++ Words.var l'.length)))) l' (k + 1) (S ++ varS X)) := HU.out.step hlt' HE.out
          have hz2 : (S ++ varS X).size ≤ 65 + 5 * (k + 1) := by rw [ByteArray.size_append]; omega
          obtain ⟨T, hT⟩ : ∃ T, T = S ++ varS X := ⟨_, rfl⟩
          rw [← hT] at HN hz2 ⊢
          clear hT z3 z2
          go_roundw
          case rel => exact ⟨k + 1, T, by omega, by go_num, rfl, HN.out, hz2, hbel.trans (hb2.mono hbel.size)⟩
          case measure => simp [intOf]; omega
        · have hk1 : ¬ (k : Int) < (l'.length : Int) := by omega
          have HE : Hid (Is S (Mans.text ⟨l, x, y, z, l'⟩)) := by
            have := HU.out.all (by omega)
            show Is _ _
            simpa [Mans.text, Mans.list] using this
          have hz' : S.size ≤ 20000 := by omega
          have HB5 : Hid (Below w.heap.size w wr) := HB4.out.trans (hbel.mono HB4.out.size)
          have hse := specSealed_yes S hz'
          unfold sealTuple at hse
          rw [sealed_of HE.out] at hse
          have HSE : Hid (∀ w, _) := hse
          clear hse hbel
          go_wp2_with fail
          refine Calls.mono (HSE.out _) ?_
          rintro e w6 ⟨rfl, hb6⟩
          have HB6 : Hid (Below w.heap.size w w6) := HB5.out.trans (hb6.mono HB5.out.size)
          clear hb6
          go_wp2
          go_ret2
          exact ⟨rfl, HB6.out⟩
end Go.Proofs.YtbcfiiilikkkeaaGreatDoor
namespace Go.Proofs.YtbcfiiilikkkeaaGreatDoor
open Go.RowKit
set_option linter.unusedVariables false

/-- What both ManifestText answer. -/
def TextIs (m : ManL) (S : ByteArray) (R : Bool) : Prop := (Mans.ok m ∧ S = sealedS m ∧ R = true) ∨ (¬ Mans.ok m ∧ S = ⟨#[]⟩ ∧ R = false)
theorem textIs (m : ManL) : ∃ S R, TextIs m S R := by
  by_cases h : Mans.ok m
  · exact ⟨_, _, Or.inl ⟨h, rfl, rfl⟩⟩
  · exact ⟨_, _, Or.inr ⟨h, rfl, rfl⟩⟩
theorem implText_is {a b : Option Addr} {ga oa ca gb ob cb : Nat} (l l' : List Int) (x y z : Int) (hs : l.length ≤ 1048576) (hc : l'.length ≤ 1048576) (S : ByteArray) (R : Bool) (hT : TextIs ⟨l, x, y, z, l'⟩ S R) (w : World) (hA : IntAt w a ga oa l) (hB : IntAt w b gb ob l') :
    Calls Tryz.prog 194 #[manV ⟨l, x, y, z, l'⟩ a ca b cb] w fun e w' => e = .returned (.tuple #[.string S, .bool R]) ∧ Below w.heap.size w w' := by
  rcases hT with ⟨ho, rfl, rfl⟩ | ⟨ho, rfl, rfl⟩
  · exact implText_yes l l' x y z hs hc w hA hB ho
  · exact implText_no l l' x y z hs hc w hA hB ho
theorem specText_is {a b : Option Addr} {ga oa ca gb ob cb : Nat} (l l' : List Int) (x y z : Int) (hs : l.length ≤ 1048576) (hc : l'.length ≤ 1048576) (S : ByteArray) (R : Bool) (hT : TextIs ⟨l, x, y, z, l'⟩ S R) (w : World) (hA : IntAt w a ga oa l) (hB : IntAt w b gb ob l') :
    Calls Tryz.prog 119 #[manV ⟨l, x, y, z, l'⟩ a ca b cb] w fun e w' => e = .returned (.tuple #[.string S, .bool R]) ∧ Below w.heap.size w w' := by
  rcases hT with ⟨ho, rfl, rfl⟩ | ⟨ho, rfl, rfl⟩
  · exact specText_yes_cm l l' x y z hs hc w hA hB ho
  · exact specText_no_cm l l' x y z hs hc w hA hB ho
end Go.Proofs.YtbcfiiilikkkeaaGreatDoor
namespace Go.Proofs.YtbcfiiilikkkeaaGreatDoor
open Go.RowKit
set_option linter.unusedVariables false

/-- What list holds: the reader, the numbers read so far. -/
structure LSt (w : World) (rb : Nat) (t : ByteArray) (a : Nat) (v : Value) (pre : List Int) (W : World) : Prop where
  rd : Rd W rb t a
  own : W.ownsRow w.heap.size 3 1 v pre.length (cellsI pre)
  grown : w.grownBy W (some rb)
  up : rb < w.heap.size
section
variable {w W W' : World} {rb a a' : Nat} {t : ByteArray} {v : Value} {pre : List Int}
theorem LSt.call (h : LSt w rb t a v pre W) (hr : Rd W' rb t a') (hg : W.grownBy W' (some rb)) : LSt w rb t a' v pre W' :=
  ⟨hr, h.own.kept hg (Or.inr (own_not h.own h.rd.1 (by decide))), h.grown.trans hg, h.up⟩
theorem LSt.alloc (h : LSt w rb t a v pre W) (o : Obj) : LSt w rb t a v pre (W.alloc o) :=
  h.call (h.rd.below ((Below.refl _ _).alloc (Nat.le_refl _) _)) (grown_alloc _ _)
theorem LSt.app (h : LSt w rb t a v pre W) {v' : Value} {c : Int} (hg : W.grownBy W' v.ownBlock) (hown : W'.ownsRow w.heap.size 3 1 v' (pre.length + 1) (cellsI pre ++ [.int .i64 c])) : LSt w rb t a v' (pre ++ [c]) W' := by
  refine ⟨⟨?_, h.rd.2⟩, ownI_snoc hown, h.grown.andThen hg (fun r e => Or.inl (h.own.lt r e).1), h.up⟩
  exact (hg.block rb h.rd.lt (fun e => own_not h.own h.rd.1 (by decide) e.symm)).trans h.rd.1
end
set_option maxHeartbeats 1000000 in
set_option maxRecDepth 100000 in
theorem list_some {rb : Nat} {t : ByteArray} {a n a0 e : Nat} {l : List Int} {M : Nat} (hM : M ≤ 1000) (hs : t.size ≤ 1048576) (w : World) (hr : Rd w rb t a)
    (h1 : Words.rd t.data.toList a = some (n, a0)) (hn : n ≤ M) (h2 : Mans.rdMany t n a0 = some (l, e)) :
    Calls Tryz.prog 244 #[.pointer (some ⟨rb, 0, none⟩), .int .i64 (M : Int)] w fun en w' => ∃ v, en = .returned v ∧ w'.ownsRow w.heap.size 3 1 v l.length (cellsI l) ∧ Rd w' rb t e ∧ w.grownBy w' (some rb) := by
  obtain ⟨i0, hi, hz0, hz1, hz2⟩ := info_parts Tryz.info3
  have hlt := hr.lt
  have HR : Hid (Rd w rb t a) := hr
  have H1 : Hid (_ = _) := h1
  have H2 : Hid (Mans.rdMany t n a0 = some (l, e)) := h2
  clear hr h1 h2
  go_enter Tryz.func244, Tryz.ntmps244
  go_wp2_with (go_at_call 280; refine (count_some_cm hs _ HR.out H1.out hM hn).mono ?_; rintro en w1 ⟨rfl, hr1, hg1⟩)
  have HS1 : Hid (LSt w rb t a0 (.slice none 0 0) [] w1) := ⟨hr1, World.ownsRow_nil _ _ _ _, hg1, hlt⟩
  clear hr1 hg1
  go_loopw [5, 9] (fun v i wr => ∃ (k a' : Nat) (pre rest : List Int), k ≤ n ∧ i = .int .i64 (k : Int) ∧ pre.length = k ∧ pre ++ rest = l ∧ Mans.rdMany t (n - k) a' = some (rest, e) ∧ LSt w rb t a' v pre wr)
    (fun _ i _ => n - (intOf i).toNat)
  case atStart => exact ⟨0, a0, [], l, Nat.zero_le _, rfl, rfl, rfl, H2.out, HS1.out⟩
  case round =>
    obtain ⟨k, a', pre, rest, hk, rfl, hpl0, hpr, hrd, hst⟩ := hrel
    have HS : Hid (LSt w rb t a' u5 pre wr) := hst
    have HP : Hid (pre ++ rest = l) := hpr
    have HM : Hid (Mans.rdMany t (n - k) a' = some (rest, e)) := hrd
    have HPL : Hid (pre.length = k) := hpl0
    clear hst hpr hrd hpl0
    by_cases hlt : k < n
    · obtain ⟨c, a1', r, hone, hmany, hrest⟩ := Mans.rdMany_next (m := n - k - 1) (by rw [show n - k - 1 + 1 = n - k by omega]; exact HM.out)
      have HO : Hid (_ = _) := hone
      have HM1 : Hid (Mans.rdMany t (n - (k + 1)) a1' = some (r, e)) := by rw [show n - (k + 1) = n - k - 1 by omega]; exact hmany
      have HP1 : Hid ((pre ++ [(c : Int)]) ++ r = l) := by show _ = _; rw [← HP.out, hrest]; simp
      clear hone hmany hrest HM HP
      have hk1 : (k : Int) < (n : Int) := by omega
      have hpl : pre.length ≤ 1000 := by have := HPL.out; omega
      go_wp2_with fail
      refine (number_some hs _ HS.out.rd HO.out).mono ?_
      rintro en w2 ⟨rfl, hr2, hg2⟩
      have hS2 := HS.out.call hr2 hg2
      have HS2 : Hid (LSt w rb t a1' u5 pre w2) := hS2
      have hown := hS2.own
      have hsz := hS2.grown.size
      clear hr2 hg2 hS2
      go_wp2_with (at_builtin; refine wpList_append_own _ rfl _ _ 25 rfl w.heap.size 3 i0 (.int .i64 0) 1 8 Tryz.underlying25 hi hz0 hz1 hz2 rfl (by decide) _ _ _ rfl (hown.alloc _) ⟨w2.heap.size, 0, none⟩ 1 1 [.int .i64 (c : Int)] rfl rfl ?c1 ?c2 ?c3 ?c4 ?c5 ?_)
      case c1 =>
        intro j u hj
        match j, hj with
        | 0, hj => simp at hj; subst hj; simp [Addr.add]
      case c2 => intro u hu; simp at hu; subst hu; rfl
      case c3 => unfold maxLen; omega
      case c4 => omega
      case c5 => simp; omega
      intro v' w4 hown2 hgrow _
      have HS4 : Hid (LSt w rb t a1' v' (pre ++ [(c : Int)]) w4) := (HS2.out.alloc _).app hgrow hown2
      clear hown2 hgrow hown
      go_wp2
      go_roundw
      case rel => exact ⟨k + 1, a1', pre ++ [(c : Int)], r, by omega, by go_num, by have := HPL.out; simp; omega, HP1.out, HM1.out, HS4.out⟩
      case measure => simp [intOf]; omega
    · have hk1 : ¬ (k : Int) < (n : Int) := by omega
      have HE : Hid (rest = [] ∧ a' = e) := by
        have h := HM.out
        rw [show n - k = 0 by omega, Mans.rdMany] at h
        simp only [Option.some.injEq, Prod.mk.injEq] at h
        exact ⟨h.1.symm, h.2⟩
      have hpe : pre = l := by rw [← HP.out, HE.out.1]; simp
      have HPE : Hid (pre = l) := hpe
      clear hpe
      go_wp2
      go_ret
      refine ⟨u5, rfl, ?_, ?_, HS.out.grown⟩
      · rw [← HPE.out]; exact HS.out.own
      · rw [← HE.out.2]; exact HS.out.rd
set_option maxHeartbeats 1000000 in
set_option maxRecDepth 100000 in
theorem list_torn {rb : Nat} {t : ByteArray} {a M : Nat} (hM : M ≤ 1000) (hs : t.size ≤ 1048576) (w : World) (hr : Rd w rb t a) (h : Mans.TornL t a M) :
    Calls Tryz.prog 244 #[.pointer (some ⟨rb, 0, none⟩), .int .i64 (M : Int)] w fun en w' => en = .panicked thrown ∧ w.grownBy w' (some rb) := by
  obtain ⟨i0, hi, hz0, hz1, hz2⟩ := info_parts Tryz.info3
  have hlt := hr.lt
  have HR : Hid (Rd w rb t a) := hr
  clear hr
  rcases h with h | ⟨n, a0, h1, hn⟩ | ⟨n, a0, h1, hn, h2⟩
  · have H1 : Hid (_ = _) := h
    clear h
    go_enter Tryz.func244, Tryz.ntmps244
    go_wp2_with (go_at_call 280; refine (count_none_cm hs _ HR.out H1.out).mono ?_; rintro en w1 ⟨rfl, hg1⟩)
    exact ⟨rfl, rfl, hg1⟩
  · have H1 : Hid (_ = _) := h1
    clear h1
    go_enter Tryz.func244, Tryz.ntmps244
    go_wp2_with (go_at_call 280; refine (count_over_cm hs _ HR.out H1.out hM hn).mono ?_; rintro en w1 ⟨rfl, hg1⟩)
    exact ⟨rfl, rfl, hg1⟩
  · have H1 : Hid (_ = _) := h1
    have H2 : Hid (Mans.rdMany t n a0 = none) := h2
    clear h1 h2
    go_enter Tryz.func244, Tryz.ntmps244
    go_wp2_with (go_at_call 280; refine (count_some_cm hs _ HR.out H1.out hM hn).mono ?_; rintro en w1 ⟨rfl, hr1, hg1⟩)
    have HS1 : Hid (LSt w rb t a0 (.slice none 0 0) [] w1) := ⟨hr1, World.ownsRow_nil _ _ _ _, hg1, hlt⟩
    clear hr1 hg1
    go_loopw [5, 9] (fun v i wr => ∃ (k a' : Nat) (pre : List Int), k ≤ n ∧ i = .int .i64 (k : Int) ∧ pre.length = k ∧ Mans.rdMany t (n - k) a' = none ∧ LSt w rb t a' v pre wr)
      (fun _ i _ => n - (intOf i).toNat)
    case atStart => exact ⟨0, a0, [], Nat.zero_le _, rfl, rfl, H2.out, HS1.out⟩
    case round =>
      obtain ⟨k, a', pre, hk, rfl, hpl0, hrd, hst⟩ := hrel
      have HS : Hid (LSt w rb t a' u5 pre wr) := hst
      have HM : Hid (Mans.rdMany t (n - k) a' = none) := hrd
      have HPL : Hid (pre.length = k) := hpl0
      clear hst hrd hpl0
      have hlt : k < n := by
        rcases Nat.lt_or_ge k n with h | h
        · exact h
        · have := HM.out
          rw [show n - k = 0 by omega, Mans.rdMany] at this
          cases this
      have hk1 : (k : Int) < (n : Int) := by omega
      have hpl : pre.length ≤ 1000 := by have := HPL.out; omega
      rcases Mans.rdMany_torn (m := n - k - 1) (by rw [show n - k - 1 + 1 = n - k by omega]; exact HM.out) with hone | ⟨c, a1', hone, hmany⟩
      · have HO : Hid (_ = _) := hone
        clear hone
        go_wp2_with fail
        refine (number_none hs _ HS.out.rd HO.out).mono ?_
        rintro en w2 ⟨rfl, hg2⟩
        exact ⟨rfl, rfl, HS.out.grown.trans hg2⟩
      · have HO : Hid (_ = _) := hone
        have HM1 : Hid (Mans.rdMany t (n - (k + 1)) a1' = none) := by rw [show n - (k + 1) = n - k - 1 by omega]; exact hmany
        clear hone hmany HM
        go_wp2_with fail
        refine (number_some hs _ HS.out.rd HO.out).mono ?_
        rintro en w2 ⟨rfl, hr2, hg2⟩
        have hS2 := HS.out.call hr2 hg2
        have HS2 : Hid (LSt w rb t a1' u5 pre w2) := hS2
        have hown := hS2.own
        have hsz := hS2.grown.size
        clear hr2 hg2 hS2
        go_wp2_with (at_builtin; refine wpList_append_own _ rfl _ _ 25 rfl w.heap.size 3 i0 (.int .i64 0) 1 8 Tryz.underlying25 hi hz0 hz1 hz2 rfl (by decide) _ _ _ rfl (hown.alloc _) ⟨w2.heap.size, 0, none⟩ 1 1 [.int .i64 (c : Int)] rfl rfl ?c1 ?c2 ?c3 ?c4 ?c5 ?_)
        case c1 =>
          intro j u hj
          match j, hj with
          | 0, hj => simp at hj; subst hj; simp [Addr.add]
        case c2 => intro u hu; simp at hu; subst hu; rfl
        case c3 => unfold maxLen; omega
        case c4 => omega
        case c5 => simp; omega
        intro v' w4 hown2 hgrow _
        have HS4 : Hid (LSt w rb t a1' v' (pre ++ [(c : Int)]) w4) := (HS2.out.alloc _).app hgrow hown2
        clear hown2 hgrow hown
        go_wp2
        go_roundw
        case rel => exact ⟨k + 1, a1', pre ++ [(c : Int)], by omega, by go_num, by have := HPL.out; simp; omega, HM1.out, HS4.out⟩
        case measure => simp [intOf]; omega
end Go.Proofs.YtbcfiiilikkkeaaGreatDoor
namespace Go.Proofs.YtbcfiiilikkkeaaGreatDoor
open Go.RowKit
set_option linter.unusedVariables false

/-- Two rows that share no block. -/
def Apart (v1 v2 : Value) : Prop := ∀ g, v1.ownBlock = some g → v2.ownBlock ≠ some g
theorem apart_of {w1 w2 w3 : World} {b1 b2 n1 n2 : Nat} {v1 v2 : Value} {xs ys : List Value} (h1 : w1.ownsRow b1 3 1 v1 n1 xs) (h : w1.heap.size ≤ b2) (h2 : w3.ownsRow b2 3 1 v2 n2 ys) : Apart v1 v2 := fun g e1 e2 => by
  have := (h1.lt g e1).2
  have := (h2.lt g e2).1
  omega
/-- What is read, by the places. -/
structure GetsN (u : ByteArray) (l l' : List Int) (X Y Z : Nat) (e : Nat) : Prop where
  of : ∃ a0 a1 a2 a3 a4 a5, Mans.Gets u ⟨l, X, Y, Z, l'⟩ a0 a1 a2 a3 a4 a5 e
theorem getsN {u : ByteArray} {m : ManL} {a0 a1 a2 a3 a4 a5 e : Nat} (h : Mans.Gets u m a0 a1 a2 a3 a4 a5 e) : ∃ X Y Z : Nat, m = ⟨m.segs, X, Y, Z, m.conf⟩ ∧ GetsN u m.segs m.conf X Y Z e := by
  obtain ⟨l, x, y, z, l'⟩ := m
  obtain ⟨X, rfl⟩ := Int.eq_ofNat_of_zero_le h.i2
  obtain ⟨Y, rfl⟩ := Int.eq_ofNat_of_zero_le h.i3
  obtain ⟨Z, rfl⟩ := Int.eq_ofNat_of_zero_le h.i4
  exact ⟨X, Y, Z, rfl, ⟨a0, a1, a2, a3, a4, a5, h⟩⟩
/-- What manifest holds between its calls: the result, the row read first. -/
structure MSt (w : World) (rb : Nat) (t : ByteArray) (a : Nat) (v : Value) (n : Nat) (xs : List Value) (W : World) : Prop where
  rd : Rd W rb t a
  res : W.heap[w.heap.size]? = some (.cells #[.slice none 0 0, .int .i64 0, .int .i64 0, .int .i64 0, .slice none 0 0] 37 (0, 0))
  own : W.ownsRow w.heap.size 3 1 v n xs
  grown : w.grownBy W (some rb)
  up : rb < w.heap.size
section
variable {w W W' : World} {rb a a' n : Nat} {t : ByteArray} {v : Value} {xs : List Value}
theorem MSt.call (h : MSt w rb t a v n xs W) (hr : Rd W' rb t a') (hg : W.grownBy W' (some rb)) : MSt w rb t a' v n xs W' :=
  have hu := h.up
  ⟨hr, grown_keep h.res hg (by omega), h.own.kept hg (Or.inr (own_not h.own h.rd.1 (by decide))), h.grown.trans hg, h.up⟩
end
theorem man_start (w : World) (rb : Nat) (t : ByteArray) (a : Nat) (hr : Rd w rb t a) : MSt w rb t a (.slice none 0 0) 0 [] (w.alloc (.cells #[.slice none 0 0, .int .i64 0, .int .i64 0, .int .i64 0, .slice none 0 0] 37)) :=
  ⟨hr.below ((Below.refl _ _).alloc (Nat.le_refl _) _), heap_alloc_new w _, World.ownsRow_nil _ _ _ _, grown_alloc _ _, hr.lt⟩
set_option maxHeartbeats 2000000 in
set_option maxRecDepth 100000 in
theorem man_gets {rb : Nat} {t : ByteArray} {l l' : List Int} {X Y Z e : Nat} (hs : t.size ≤ 1048576) (w : World) (hr : Rd w rb t 0) (h : GetsN t l l' X Y Z e) :
    Calls Tryz.prog 203 #[.pointer (some ⟨rb, 0, none⟩)] w fun en w' => ∃ v1 v2, en = .returned (.agg #[v1, .int .i64 (X : Int), .int .i64 (Y : Int), .int .i64 (Z : Int), v2]) ∧ w'.ownsRow w.heap.size 3 1 v1 l.length (cellsI l) ∧ w'.ownsRow w.heap.size 3 1 v2 l'.length (cellsI l') ∧ Apart v1 v2 ∧ Rd w' rb t e ∧ w.grownBy w' (some rb) := by
  obtain ⟨a0, a1, a2, a3, a4, a5, hG⟩ := h.of
  have HR : Hid _ := man_start w rb t 0 hr
  have hup := hr.lt
  have G0 := hG.n0
  have G1 : Hid (_ = _) := hG.r0
  have G2 : Hid (_ = _) := hG.r1
  have G3 : Hid (Words.rd t.data.toList a1 = some (X, a2)) := hG.r2
  have G4 : Hid (Words.rd t.data.toList a2 = some (Y, a3)) := hG.r3
  have G5 : Hid (Words.rd t.data.toList a3 = some (Z, a4)) := hG.r4
  have G6 := hG.n5
  have G7 : Hid (_ = _) := hG.r5
  have G8 : Hid (_ = _) := hG.r6
  clear hG h hr
  go_enter Tryz.func203, Tryz.ntmps203
  go_wp2_with fail
  refine (list_some (M := 8) (by omega) hs _ HR.out.rd G1.out G0 G2.out).mono ?_
  rintro en w1 ⟨v1, rfl, ho1, hr1, hg1⟩
  have HS1 : Hid (MSt w rb t a1 v1 l.length (cellsI l) w1) := by
    have h1 := HR.out.call hr1 hg1
    exact ⟨h1.rd, h1.res, own_mono ho1 (by simp), h1.grown, h1.up⟩
  clear ho1 hr1 hg1
  go_wp2_with fail
  refine (number_some hs _ HS1.out.rd G3.out).mono ?_
  rintro en w2 ⟨rfl, hr2, hg2⟩
  have HS2 : Hid (MSt w rb t a2 v1 l.length (cellsI l) w2) := HS1.out.call hr2 hg2
  clear hr2 hg2 HS1
  go_wp2_with fail
  refine (number_some hs _ HS2.out.rd G4.out).mono ?_
  rintro en w3 ⟨rfl, hr3, hg3⟩
  have HS3 : Hid (MSt w rb t a3 v1 l.length (cellsI l) w3) := HS2.out.call hr3 hg3
  clear hr3 hg3 HS2
  go_wp2_with fail
  refine (number_some hs _ HS3.out.rd G5.out).mono ?_
  rintro en w4 ⟨rfl, hr4, hg4⟩
  have HS4 : Hid (MSt w rb t a4 v1 l.length (cellsI l) w4) := HS3.out.call hr4 hg4
  clear hr4 hg4 HS3
  go_wp2_with fail
  refine (list_some (M := 4) (by omega) hs _ HS4.out.rd G7.out G6 G8.out).mono ?_
  rintro en w5 ⟨v2, rfl, ho5, hr5, hg5⟩
  have HS5 : Hid (MSt w rb t e v1 l.length (cellsI l) w5) := HS4.out.call hr5 hg5
  have HO5 : Hid (w5.ownsRow w.heap.size 3 1 v2 l'.length (cellsI l')) := own_mono ho5 HS4.out.grown.size
  have HAP : Hid (Apart v1 v2) := apart_of (w1 := w4) (w2 := w4) HS4.out.own (Nat.le_refl _) ho5
  obtain ⟨va1, vc1, hv1⟩ := own_slice HS5.out.own
  obtain ⟨va2, vc2, hv2⟩ := own_slice HO5.out
  subst hv1 hv2
  clear ho5 hr5 hg5 HS4
  have c0 := cell_of_row _ _ 0 _ _ _ HS5.out.res
  have c1 := cell_of_row _ _ 1 _ _ _ HS5.out.res
  have c2 := cell_of_row _ _ 2 _ _ _ HS5.out.res
  have c3 := cell_of_row _ _ 3 _ _ _ HS5.out.res
  have c4 := cell_of_row _ _ 4 _ _ _ HS5.out.res
  have cf0 := frozen_of_row _ _ 0 _ _ HS5.out.res
  have cf1 := frozen_of_row _ _ 1 _ _ HS5.out.res
  have cf2 := frozen_of_row _ _ 2 _ _ HS5.out.res
  have cf3 := frozen_of_row _ _ 3 _ _ HS5.out.res
  have cf4 := frozen_of_row _ _ 4 _ _ HS5.out.res
  simp at c0 c1 c2 c3 c4
  go_wp2
  obtain ⟨k0, k1, k2, k3, k4⟩ := five_cell HS5.out.res (.slice va1 l.length vc1) (.int .i64 (X : Int)) (.int .i64 (Y : Int)) (.int .i64 (Z : Int)) (.slice va2 l'.length vc2)
  have n1 := own_not HS5.out.own HS5.out.res (by decide)
  have n2 := own_not HO5.out HS5.out.res (by decide)
  refine bodyPost_ret (v := .agg #[.slice va1 l.length vc1, .int .i64 (X : Int), .int .i64 (Y : Int), .int .i64 (Z : Int), .slice va2 l'.length vc2]) (by simp [results, Tryz.results203, go_sem, k0, k1, k2, k3, k4]) rfl ⟨_, _, rfl, ?_, ?_, HAP.out, ?_, ?_⟩
  · exact own_set (own_set (own_set (own_set (own_set HS5.out.own _ _ _ n1) _ _ _ n1) _ _ _ n1) _ _ _ n1) _ _ _ n1
  · exact own_set (own_set (own_set (own_set (own_set HO5.out _ _ _ n2) _ _ _ n2) _ _ _ n2) _ _ _ n2) _ _ _ n2
  · exact ((((HS5.out.rd.setNew (k := w.heap.size) (by omega) 0 _).setNew (k := w.heap.size) (by omega) 1 _).setNew (k := w.heap.size) (by omega) 2 _).setNew (k := w.heap.size) (by omega) 3 _).setNew (k := w.heap.size) (by omega) 4 _
  · exact grown_new (grown_new (grown_new (grown_new (grown_new HS5.out.grown (k := w.heap.size) (Nat.le_refl _) 0 _) (k := w.heap.size) (Nat.le_refl _) 1 _) (k := w.heap.size) (Nat.le_refl _) 2 _) (k := w.heap.size) (Nat.le_refl _) 3 _) (k := w.heap.size) (Nat.le_refl _) 4 _
set_option maxHeartbeats 2000000 in
set_option maxRecDepth 100000 in
theorem man_torn {rb : Nat} {t : ByteArray} (hs : t.size ≤ 1048576) (w : World) (hr : Rd w rb t 0) (h : Mans.Torn t) :
    Calls Tryz.prog 203 #[.pointer (some ⟨rb, 0, none⟩)] w fun en w' => en = .panicked thrown ∧ w.grownBy w' (some rb) := by
  have HR : Hid (Rd (w.alloc (.cells #[.slice none 0 0, .int .i64 0, .int .i64 0, .int .i64 0, .slice none 0 0] 37)) rb t 0) := hr.below ((Below.refl _ _).alloc (Nat.le_refl _) _)
  have HG : Hid (w.grownBy (w.alloc (.cells #[.slice none 0 0, .int .i64 0, .int .i64 0, .int .i64 0, .slice none 0 0] 37)) (some rb)) := grown_alloc _ _
  clear hr
  rcases h with h1 | ⟨n, a0, a1, l, h0, hn, h1, h2⟩
  · have H1 : Hid _ := h1
    clear h1
    go_enter Tryz.func203, Tryz.ntmps203
    go_wp2_with fail
    refine (list_torn (M := 8) (by omega) hs _ HR.out H1.out).mono ?_
    rintro en w1 ⟨rfl, hg1⟩
    exact ⟨rfl, rfl, HG.out.trans hg1⟩
  · have H0 : Hid (_ = _) := h0
    have H1 : Hid (_ = _) := h1
    have H2 : Hid (_ ∨ _) := h2
    clear h0 h1 h2
    go_enter Tryz.func203, Tryz.ntmps203
    go_wp2_with fail
    refine (list_some (M := 8) (by omega) hs _ HR.out H0.out hn H1.out).mono ?_
    rintro en w1 ⟨v1, rfl, _, hr1, hg1⟩
    have HR1 : Hid (Rd w1 rb t a1) := hr1
    have HG1 : Hid (w.grownBy w1 (some rb)) := HG.out.trans hg1
    clear hr1 hg1
    rcases H2.out with h2 | ⟨x, a2, h2, h3⟩
    · have H2' : Hid (_ = _) := h2
      clear h2
      go_wp2_with fail
      refine (number_none hs _ HR1.out H2'.out).mono ?_
      rintro en w2 ⟨rfl, hg2⟩
      exact ⟨rfl, rfl, HG1.out.trans hg2⟩
    · have H2' : Hid (_ = _) := h2
      have H3 : Hid (_ ∨ _) := h3
      clear h2 h3
      go_wp2_with fail
      refine (number_some hs _ HR1.out H2'.out).mono ?_
      rintro en w2 ⟨rfl, hr2, hg2⟩
      have HR2 : Hid (Rd w2 rb t a2) := hr2
      have HG2 : Hid (w.grownBy w2 (some rb)) := HG1.out.trans hg2
      clear hr2 hg2
      rcases H3.out with h3 | ⟨y, a3, h3, h4⟩
      · have H3' : Hid (_ = _) := h3
        clear h3
        go_wp2_with fail
        refine (number_none hs _ HR2.out H3'.out).mono ?_
        rintro en w3 ⟨rfl, hg3⟩
        exact ⟨rfl, rfl, HG2.out.trans hg3⟩
      · have H3' : Hid (_ = _) := h3
        have H4 : Hid (_ ∨ _) := h4
        clear h3 h4
        go_wp2_with fail
        refine (number_some hs _ HR2.out H3'.out).mono ?_
        rintro en w3 ⟨rfl, hr3, hg3⟩
        have HR3 : Hid (Rd w3 rb t a3) := hr3
        have HG3 : Hid (w.grownBy w3 (some rb)) := HG2.out.trans hg3
        clear hr3 hg3
        rcases H4.out with h4 | ⟨z, a4, h4, h5⟩
        · have H4' : Hid (_ = _) := h4
          clear h4
          go_wp2_with fail
          refine (number_none hs _ HR3.out H4'.out).mono ?_
          rintro en w4 ⟨rfl, hg4⟩
          exact ⟨rfl, rfl, HG3.out.trans hg4⟩
        · have H4' : Hid (_ = _) := h4
          have H5 : Hid _ := h5
          clear h4 h5
          go_wp2_with fail
          refine (number_some hs _ HR3.out H4'.out).mono ?_
          rintro en w4 ⟨rfl, hr4, hg4⟩
          have HR4 : Hid (Rd w4 rb t a4) := hr4
          have HG4 : Hid (w.grownBy w4 (some rb)) := HG3.out.trans hg4
          clear hr4 hg4
          go_wp2_with fail
          refine (list_torn (M := 4) (by omega) hs _ HR4.out H5.out).mono ?_
          rintro en w5 ⟨rfl, hg5⟩
          exact ⟨rfl, rfl, HG4.out.trans hg5⟩
end Go.Proofs.YtbcfiiilikkkeaaGreatDoor
namespace Go.Proofs.YtbcfiiilikkkeaaGreatDoor
open Go.RowKit
set_option linter.unusedVariables false

set_option maxHeartbeats 400000 in
theorem lit_torn {rb B0 : Nat} {t : ByteArray} (hs : t.size ≤ 1048576) (w : World) (hr : Rd w rb t 0) (h : Mans.Torn t) :
    Calls Tryz.prog 202 #[.pointer (some ⟨rb, 0, none⟩), .pointer (some ⟨B0, 0, none⟩)] w fun en w' => en = .panicked thrown ∧ w.grownBy w' (some rb) := by
  have HR : Hid (Rd w rb t 0) := hr
  clear hr
  go_enter Tryz.func202, Tryz.ntmps202
  go_wp2_with (go_at_call 203; refine (man_torn hs _ HR.out h).mono ?_; rintro e w1 ⟨rfl, hg1⟩)
  exact ⟨rfl, rfl, hg1⟩
set_option maxHeartbeats 1000000 in
theorem lit_gets_cm {rb B0 : Nat} {t : ByteArray} {l l' : List Int} {X Y Z e : Nat} (hs : t.size ≤ 1048576) (w : World) (hr : Rd w rb t 0) (h : GetsN t l l' X Y Z e) (hne : B0 ≠ rb) (hB : w.heap[B0]? = some (.cells #[.slice none 0 0, .int .i64 0, .int .i64 0, .int .i64 0, .slice none 0 0] 37 (0, 0))) :
    Calls Tryz.prog 202 #[.pointer (some ⟨rb, 0, none⟩), .pointer (some ⟨B0, 0, none⟩)] w fun en w' => en = .returned (.tuple #[]) ∧
      ∃ w1, w.grownBy w1 (some rb) ∧ w1.grownBy w' (some B0) ∧ Rd w' rb t e ∧ ∃ v1 v2, w'.heap[B0]? = some (.cells #[v1, .int .i64 (X : Int), .int .i64 (Y : Int), .int .i64 (Z : Int), v2] 37 (0, 0)) ∧ w'.ownsRow w.heap.size 3 1 v1 l.length (cellsI l) ∧ w'.ownsRow w.heap.size 3 1 v2 l'.length (cellsI l') ∧ Apart v1 v2 := by
  have HR : Hid (Rd w rb t 0) := hr
  have HB : Hid (_ = _) := hB
  clear hr hB
  go_enter Tryz.func202, Tryz.ntmps202
  go_wp2_with fail
  refine (man_gets hs _ HR.out h).mono ?_
  rintro en w1 ⟨v1, v2, rfl, ho1, ho2, hap, hr1, hg1⟩
  obtain ⟨va1, vc1, hv1⟩ := own_slice ho1
  obtain ⟨va2, vc2, hv2⟩ := own_slice ho2
  subst hv1 hv2
  have hb1 := grown_keep HB.out hg1 hne
  have HB1 : Hid (_ = _) := hb1
  have HO1 : Hid (w1.ownsRow w.heap.size 3 1 (.slice va1 l.length vc1) l.length (cellsI l)) := ho1
  have HO2 : Hid (w1.ownsRow w.heap.size 3 1 (.slice va2 l'.length vc2) l'.length (cellsI l')) := ho2
  have HR1 : Hid (Rd w1 rb t e) := hr1
  have HG1 : Hid (w.grownBy w1 (some rb)) := hg1
  have HAP : Hid (Apart (.slice va1 l.length vc1) (.slice va2 l'.length vc2)) := hap
  have c0 := cell_of_row _ _ 0 _ _ _ hb1
  have c1 := cell_of_row _ _ 1 _ _ _ hb1
  have c2 := cell_of_row _ _ 2 _ _ _ hb1
  have c3 := cell_of_row _ _ 3 _ _ _ hb1
  have c4 := cell_of_row _ _ 4 _ _ _ hb1
  have cf0 := frozen_of_row _ _ 0 _ _ hb1
  have cf1 := frozen_of_row _ _ 1 _ _ hb1
  have cf2 := frozen_of_row _ _ 2 _ _ hb1
  have cf3 := frozen_of_row _ _ 3 _ _ hb1
  have cf4 := frozen_of_row _ _ 4 _ _ hb1
  simp at c0 c1 c2 c3 c4
  clear ho1 ho2 hr1 hg1 hb1 hap
  go_wp2
  go_end0
  have n1 := own_not HO1.out HB1.out (by decide)
  have n2 := own_not HO2.out HB1.out (by decide)
  refine ⟨rfl, w1, HG1.out, ((((grown_set _ _ _ _).trans (grown_set _ _ _ _)).trans (grown_set _ _ _ _)).trans (grown_set _ _ _ _)).trans (grown_set _ _ _ _), ((((HR1.out.setNew hne.symm 0 _).setNew hne.symm 1 _).setNew hne.symm 2 _).setNew hne.symm 3 _).setNew hne.symm 4 _, .slice va1 l.length vc1, .slice va2 l'.length vc2, five_set HB1.out _ _ _ _ _, ?_, ?_, HAP.out⟩
  · exact own_set (own_set (own_set (own_set (own_set HO1.out _ _ _ n1) _ _ _ n1) _ _ _ n1) _ _ _ n1) _ _ _ n1
  · exact own_set (own_set (own_set (own_set (own_set HO2.out _ _ _ n2) _ _ _ n2) _ _ _ n2) _ _ _ n2) _ _ _ n2
set_option maxHeartbeats 400000 in
set_option maxRecDepth 100000 in
theorem whole_torn {B0 : Nat} {t : ByteArray} (hs : t.size ≤ 1048576) (w : World) (hB0 : B0 < w.heap.size) (h : Mans.Torn t) :
    Calls Tryz.prog 201 #[.string t, .func (.func 202) #[] #[.pointer (some ⟨B0, 0, none⟩)]] w fun en w' => en = .returned (.bool false) ∧ w.grownBy w' (some B0) := by
  have hmf : ∀ (fn : Fn) (first cap : Array Value) (w : World), (Instr.makeFunc fn first cap).run Tryz.prog w = .ok (.func fn first cap) w := fun _ _ _ _ => rfl
  have HH : Hid (Mans.Torn t) := h
  clear h
  obtain ⟨W, hW, hr, hwh, hg, hz⟩ := whole_start t w B0
  have HR : Hid (Rd W (w.heap.size + 1) t 0) := hr
  have HW : Hid (_ = _) := hwh
  have HG : Hid (w.grownBy W (some B0)) := hg
  clear hr hwh hg
  go_enter_defers Tryz.func201, Tryz.ntmps201
  go_wp2_with fail
  rw [← hW]
  refine (lit_torn hs W HR.out HH.out).mono ?_
  rintro en w1 ⟨rfl, hg1⟩
  have hw1 := grown_keep HW.out hg1 (by omega)
  have hg2 : w.grownBy w1 (some B0) := HG.out.andThen hg1 (fun r e => Or.inl (by cases e; omega))
  have c0 := cell_of_row _ _ 0 _ _ _ hw1
  have f0 := frozen_of_row _ _ 0 _ _ hw1
  simp at c0
  refine leaves_cons (f := 243) (args := #[.pointer (some ⟨w.heap.size, 0, none⟩)]) (by simp) (by simp [go_sem]) ?_
  refine (catch_panicking ⟨w.heap.size, 0, none⟩ false 375 (.agg #[]) [] w1 c0 f0).mono ?_
  rintro e u' w'' ⟨rfl, rfl, rfl⟩
  have c1 : (w1.setCell ⟨w.heap.size, 0, none⟩ (.bool false)).cell? ⟨w.heap.size, 0, none⟩ = some (.bool false) := World.cell?_setCell_same _ _ _ c0
  simp [Leaves, settle, results, Tryz.results201, go_sem, c1]
  exact grown_new hg2 (Nat.le_refl _) _ _
set_option maxHeartbeats 1000000 in
set_option maxRecDepth 100000 in
theorem whole_gets_cm {B0 : Nat} {t : ByteArray} {l l' : List Int} {X Y Z e : Nat} (hs : t.size ≤ 1048576) (w : World) (hB : w.heap[B0]? = some (.cells #[.slice none 0 0, .int .i64 0, .int .i64 0, .int .i64 0, .slice none 0 0] 37 (0, 0))) (h : GetsN t l l' X Y Z e) (R : Bool) (hR : R = ((e : Int) == (t.size : Int))) :
    Calls Tryz.prog 201 #[.string t, .func (.func 202) #[] #[.pointer (some ⟨B0, 0, none⟩)]] w fun en w' => en = .returned (.bool R) ∧ w.grownBy w' (some B0) ∧ ∃ v1 v2, w'.heap[B0]? = some (.cells #[v1, .int .i64 (X : Int), .int .i64 (Y : Int), .int .i64 (Z : Int), v2] 37 (0, 0)) ∧ w'.ownsRow w.heap.size 3 1 v1 l.length (cellsI l) ∧ w'.ownsRow w.heap.size 3 1 v2 l'.length (cellsI l') ∧ Apart v1 v2 := by
  have hmf : ∀ (fn : Fn) (first cap : Array Value) (w : World), (Instr.makeFunc fn first cap).run Tryz.prog w = .ok (.func fn first cap) w := fun _ _ _ _ => rfl
  have hB0 : B0 < w.heap.size := (Array.getElem?_eq_some_iff.1 hB).1
  obtain ⟨W, hW, hr, hwh, hg, hz⟩ := whole_start t w B0
  have HH : Hid (GetsN t l l' X Y Z e) := h
  have HB : Hid (W.heap[B0]? = some (.cells #[.slice none 0 0, .int .i64 0, .int .i64 0, .int .i64 0, .slice none 0 0] 37 (0, 0))) := by
    show _ = _
    rw [hW, Below.heap_alloc _ _ _ (by simp; omega), Below.heap_alloc _ _ _ hB0]; exact hB
  have HR : Hid (Rd W (w.heap.size + 1) t 0) := hr
  have HW : Hid (W.heap[w.heap.size]? = some (.cells #[.bool false] 4 (0, 0))) := hwh
  have HG : Hid (w.grownBy W (some B0)) := hg
  clear hr hwh hg h hB
  go_enter_defers Tryz.func201, Tryz.ntmps201
  go_wp2_with fail
  rw [← hW]
  refine (lit_gets_cm hs W HR.out HH.out (by omega) HB.out).mono ?_
  rintro en w2 ⟨rfl, w1, hg1, hg2, hr2, v1, v2, hb2, ho1, ho2, hap⟩
  have hw2 := grown_keep (grown_keep HW.out hg1 (by omega)) hg2 (by omega)
  have HG2 : Hid (w.grownBy w2 (some B0)) := (HG.out.andThen hg1 (fun r e => Or.inl (by cases e; omega))).trans hg2
  have HB2 : Hid (_ = _) := hb2
  have HO1 : Hid (w2.ownsRow w.heap.size 3 1 v1 l.length (cellsI l)) := own_mono ho1 (by omega)
  have HO2 : Hid (w2.ownsRow w.heap.size 3 1 v2 l'.length (cellsI l')) := own_mono ho2 (by omega)
  have HAP : Hid (Apart v1 v2) := hap
  have HW2 : Hid (w2.heap[w.heap.size]? = some (.cells #[.bool false] 4 (0, 0))) := hw2
  have c0 := cell_of_row _ _ 0 _ _ _ hw2
  have f0 := frozen_of_row _ _ 0 _ _ hw2
  have q0 := hr2.c0
  have q1 := hr2.c1
  simp at c0
  clear hw2 hg1 hg2 hb2 ho1 ho2 hr2 hW hap
  go_wp2
  refine leaves_cons (f := 243) (args := #[.pointer (some ⟨w.heap.size, 0, none⟩)]) (by simp) (by simp [go_sem]) ?_
  refine (catch_idle ⟨w.heap.size, 0, none⟩ _).mono ?_
  rintro e u' w'' ⟨rfl, rfl, rfl⟩
  rw [← hR]
  have c1 : (w2.setCell ⟨w.heap.size, 0, none⟩ (.bool R)).cell? ⟨w.heap.size, 0, none⟩ = some (.bool R) := World.cell?_setCell_same _ _ _ c0
  simp [Leaves, settle, results, Tryz.results201, go_sem, c1]
  exact ⟨grown_new HG2.out (Nat.le_refl _) _ _, v1, v2, set_far HB2.out (by omega) _ _, own_set HO1.out _ _ _ (own_not HO1.out HW2.out (by decide)), own_set HO2.out _ _ _ (own_not HO2.out HW2.out (by decide)), HAP.out⟩
end Go.Proofs.YtbcfiiilikkkeaaGreatDoor
