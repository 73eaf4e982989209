/- Ints appended onto a row of the call's own; the specification's l09NewMan, walked. The specification's l09CopyMan: a manifest with lists of its own, walked. The specification's l09After: the shelf of the disk behind raw writes, walked. -/
import Derived.Test.YtbcfiiilikkkeaaGreatDoorWholeM
import Derived.Test.YtbcfiiilikkkeaaGreatDoorMathTab
import Derived.Test.YtbcfiiilikkkeaaGreatDoorLRaw
import Derived.Test.YtbcfiiilikkkeaaGreatDoorSh
import Derived.Test.YtbcfiiilikkkeaaGreatDoorScanOf
import Derived.Test.YtbcfiiilikkkeaaGreatDoorMarkChange
import Derived.Test.YtbcfiiilikkkeaaGreatDoorSpecOpen
namespace Go.Proofs.YtbcfiiilikkkeaaGreatDoor
open Go.RowKit
set_option linter.unusedVariables false
set_option linter.unusedSimpArgs false

/-- 'append(x, y...)' of ints onto a row of the call's own. -/
theorem wpList_appendI {w : World} {ops : Array Oper} {rest : List Oper} {o : Oper} {act : Act} {Q : Exit → Act → World → Prop} (hgd : o.guard = none) (s x : Operand)
    (ho : o.op = .call { callee := .builtin .append, args := #[s, x], argTypes := #[25, 25] }) (base : Nat) (v : Value) (n : Nat) (xs : List Value) (hs : act.eval s = v) (hown : w.ownsRow base 3 1 v n xs)
    (a : Option Addr) (g off cap : Nat) (l : List Int) (hx : act.eval x = .slice a l.length cap) (hf : IntAt w a g off l) (hnil : a = none → cap = 0) (h63 : n + l.length ≤ 2097152) (hbase : base ≤ w.heap.size)
    (h : ∀ v' w', w'.ownsRow base 3 1 v' (n + l.length) (xs ++ cellsI l) → w.grownBy w' v.ownBlock → wpList Tryz.prog ops Q rest (act.put o.dst v') w') : wpList Tryz.prog ops Q (o :: rest) act w := by
  obtain ⟨i0, hi, hz0, hz1, hz2⟩ := info_parts Tryz.info3
  cases a with
  | none =>
    have hl : l = [] := by
      cases l with
      | nil => rfl
      | cons f r => have := hf.1 (by simp); cases this
    subst hl
    rw [hnil rfl] at hx
    refine wpList_append_own_none hgd s x 25 ho base 3 i0 1 Tryz.underlying25 hi v n xs hs hown hx ?_
    refine h v w ?_ (World.grownBy.refl _ _)
    simpa [cellsI] using hown
  | some ad =>
    have had : 0 < l.length → ad = ⟨g, off, none⟩ := fun hp => Option.some.inj (hf.1 hp)
    refine wpList_append_own w hgd s x 25 ho base 3 i0 (.int .i64 0) 1 8 Tryz.underlying25 hi hz0 hz1 hz2 rfl (by decide) v n xs hs hown ad l.length cap (cellsI l) hx (by rw [cellsI_len, Nat.mul_one]) ?_ cellsI_one (by unfold maxLen; omega) (by omega) hbase ?_
    · intro j u hu
      have hj : j < l.length := by rw [← cellsI_len]; exact (List.getElem?_eq_some_iff.1 hu).1
      rw [had (by omega), Addr.add_lit]
      rw [cellsI_at l j hj] at hu
      rw [← Option.some.inj hu]
      exact hf.2 j hj
    · intro v' w' h1 h2 _
      exact h v' w' h1 h2
set_option maxHeartbeats 2000000 in
set_option maxRecDepth 100000 in
theorem newMan9_is {a b : Option Addr} {ga oa ca gb ob cb : Nat} (l l' : List Int) (x y z : Int) (hs : l.length ≤ 1048576) (hc : l'.length ≤ 1048576) (S : ByteArray) (R : Bool) (hT : TextIs ⟨l, x, y, z, l'⟩ S R) (w : World) (hA : IntAt w a ga oa l) (hB : IntAt w b gb ob l') :
    Calls Tryz.prog 64 #[manV ⟨l, x, y, z, l'⟩ a ca b cb] w fun e w' => ∃ v, e = .returned (.tuple #[v, .bool R]) ∧ w'.ownsRow w.heap.size 103 4 v 2 (cellsRaw (Shelves.manRaws S)) ∧ Below w.heap.size w w' := by
  obtain ⟨W, hW⟩ : ∃ W, W = w.alloc (Obj.cells #[.slice a l.length ca, .int .i64 x, .int .i64 y, .int .i64 z, .slice b l'.length cb] 37) := ⟨_, rfl⟩
  have hb : Below w.heap.size w W := by rw [hW]; exact (Below.refl _ _).alloc (Nat.le_refl _) _
  have hp : W.heap[w.heap.size]? = some (.cells #[.slice a l.length ca, .int .i64 x, .int .i64 y, .int .i64 z, .slice b l'.length cb] 37 (0, 0)) := by rw [hW]; exact heap_alloc_new w _
  have HT : Hid (Calls Tryz.prog 119 #[manV ⟨l, x, y, z, l'⟩ a ca b cb] W fun e w' => e = .returned (.tuple #[.string S, .bool R]) ∧ Below W.heap.size W w') := specText_is l l' x y z hs hc S R hT W (hA.kept hb) (hB.kept hb)
  have HB : Hid (Below w.heap.size w W) := hb
  have c0 := cell_of_row _ _ 0 _ _ _ hp
  have c1 := cell_of_row _ _ 1 _ _ _ hp
  have c2 := cell_of_row _ _ 2 _ _ _ hp
  have c3 := cell_of_row _ _ 3 _ _ _ hp
  have c4 := cell_of_row _ _ 4 _ _ _ hp
  simp at c0 c1 c2 c3 c4
  rw [hW] at c0 c1 c2 c3 c4
  unfold manV at HT ⊢
  clear hT hA hB hb hp
  go_enter Tryz.func64, Tryz.ntmps64
  go_wp2_with fail
  rw [← hW]
  clear hW c0 c1 c2 c3 c4
  refine Calls.mono HT.out ?_
  rintro e w1 ⟨rfl, hb1⟩
  have HB1 : Hid (Below w.heap.size w w1) := HB.out.trans (hb1.mono HB.out.size)
  clear hb1 HT
  go_wp2
  go_ret2
  have hb2 : Below w1.heap.size w1 (w1.alloc (Obj.cells #[.int .i64 1, .string Shelves.nameNew, .string ⟨#[]⟩, .string S, .int .i64 3, .string Shelves.nameNew, .string Shelves.nameM, .string ⟨#[]⟩] 103)) := (Below.refl _ _).alloc (Nat.le_refl _) _
  exact ⟨_, rfl, World.ownsRow_lit w1 #[.int .i64 1, .string Shelves.nameNew, .string ⟨#[]⟩, .string S, .int .i64 3, .string Shelves.nameNew, .string Shelves.nameM, .string ⟨#[]⟩] 2 HB1.out.size (by decide) rfl, HB1.out.trans (hb2.mono HB1.out.size)⟩
end Go.Proofs.YtbcfiiilikkkeaaGreatDoor
namespace Go.Proofs.YtbcfiiilikkkeaaGreatDoor
open Go.RowKit
set_option linter.unusedVariables false
set_option linter.unusedSimpArgs false

/-- The two blocks of a copied manifest. -/
structure CpS (w : World) (cs : Array Value) (W : World) : Prop where
  box : W.heap[w.heap.size]? = some (.cells cs 37 (0, 0))
  res : W.heap[w.heap.size + 1]? = some (.cells #[.slice none 0 0, .int .i64 0, .int .i64 0, .int .i64 0, .slice none 0 0] 37 (0, 0))
  bel : Below w.heap.size w W
theorem CpS.same {w W W' : World} {cs : Array Value} (h : CpS w cs W) (hb : Below W.heap.size W W') : CpS w cs W' :=
  ⟨(hb.block _ (Array.getElem?_eq_some_iff.1 h.box).1).trans h.box, (hb.block _ (Array.getElem?_eq_some_iff.1 h.res).1).trans h.res, h.bel.trans (hb.mono h.bel.size)⟩
theorem CpS.grow {w W W' : World} {cs : Array Value} {v : Value} {n : Nat} {xs : List Value} (h : CpS w cs W) (ho : W.ownsRow w.heap.size 3 1 v n xs) (hg : W.grownBy W' v.ownBlock) : CpS w cs W' :=
  ⟨grown_keep' h.box hg (own_not ho h.box (by decide)), grown_keep' h.res hg (own_not ho h.res (by decide)), h.bel.grown hg h.bel.size (fun k e => (ho.lt k e).1)⟩
theorem CpS.set {w W : World} {cs : Array Value} (h : CpS w cs W) (j : Nat) (v : Value) : CpS w (cs.setIfInBounds j v) (W.setCell ⟨w.heap.size, j, none⟩ v) :=
  ⟨heap_setCell_same W _ j cs 37 v h.box, set_far h.res (by omega) _ _, h.bel.setCell (Nat.le_refl _) _⟩
set_option maxHeartbeats 4000000 in
set_option maxRecDepth 100000 in
theorem copyMan9_is {a b : Option Addr} {ga oa ca gb ob cb : Nat} (l l' : List Int) (x y z : Int) (hs : l.length ≤ 1048576) (hc : l'.length ≤ 1048576) (na : a = none → ca = 0) (nb : b = none → cb = 0) (w : World) (hA : IntAt w a ga oa l) (hB : IntAt w b gb ob l') :
    Calls Tryz.prog 61 #[manV ⟨l, x, y, z, l'⟩ a ca b cb] w fun e w' => ∃ v1 v2, e = .returned (.agg #[v1, .int .i64 x, .int .i64 y, .int .i64 z, v2]) ∧ w'.ownsRow w.heap.size 3 1 v1 l.length (cellsI l) ∧ w'.ownsRow w.heap.size 3 1 v2 l'.length (cellsI l') ∧ Apart v1 v2 ∧ Below w.heap.size w w' := by
  obtain ⟨W0, hW0⟩ : ∃ W0, W0 = (w.alloc (Obj.cells #[.slice a l.length ca, .int .i64 x, .int .i64 y, .int .i64 z, .slice b l'.length cb] 37)).alloc (Obj.cells #[.slice none 0 0, .int .i64 0, .int .i64 0, .int .i64 0, .slice none 0 0] 37) := ⟨_, rfl⟩
  have hz0 : W0.heap.size = w.heap.size + 1 + 1 := by rw [hW0]; simp
  have hb0 : Below w.heap.size w W0 := by rw [hW0]; exact ((Below.refl _ _).alloc (Nat.le_refl _) _).alloc (by simp) _
  have C0 : CpS w #[.slice a l.length ca, .int .i64 x, .int .i64 y, .int .i64 z, .slice b l'.length cb] W0 := ⟨by rw [hW0, Below.heap_alloc _ _ _ (by simp)]; exact heap_alloc_new w _, by rw [hW0]; have := heap_alloc_new (w.alloc (Obj.cells #[.slice a l.length ca, .int .i64 x, .int .i64 y, .int .i64 z, .slice b l'.length cb] 37)) (Obj.cells #[.slice none 0 0, .int .i64 0, .int .i64 0, .int .i64 0, .slice none 0 0] 37); simpa using this, hb0⟩
  have hb1 : Below W0.heap.size W0 (W0.alloc (Obj.cells #[] 3)) := (Below.refl _ _).alloc (Nat.le_refl _) _
  have C1 := C0.same hb1
  have own0 := World.ownsRow_made (base := w.heap.size) (e := 3) (size := 1) W0 #[] 0 hb0.size (by decide) rfl
  have hfA := hA.kept C1.bel
  have HA : Hid (IntAt w a ga oa l) := hA
  have HB : Hid (IntAt w b gb ob l') := hB
  have HC1 : Hid (CpS w #[.slice a l.length ca, .int .i64 x, .int .i64 y, .int .i64 z, .slice b l'.length cb] (W0.alloc (Obj.cells #[] 3))) := C1
  have HO0 : Hid ((W0.alloc (Obj.cells #[] 3)).ownsRow w.heap.size 3 1 (.slice (some ⟨W0.heap.size, 0, none⟩) 0 0) 0 []) := own0
  have c0 := cell_of_row _ _ 0 _ _ _ C1.box
  simp at c0
  have hbz := C1.bel.size
  rw [hz0, hW0] at own0
  rw [hW0] at hfA c0 hbz
  unfold manV
  clear hA hB hb0 hb1 C0 C1
  go_enter Tryz.func61, Tryz.ntmps61
  go_wp2_with (at_builtin; refine wpList_appendI rfl _ _ rfl w.heap.size _ _ _ rfl own0 a ga oa ca l rfl hfA na (by omega) hbz ?_)
  rw [← hW0]
  intro v1 w2 ho1 hg1
  rw [← hW0] at own0
  have ho1' : w2.ownsRow w.heap.size 3 1 v1 l.length (cellsI l) := by simpa using ho1
  obtain ⟨sa, sc, hv1⟩ := own_slice ho1'
  subst hv1
  have hg1' : (W0.alloc (Obj.cells #[] 3)).grownBy w2 (Value.slice (some ⟨W0.heap.size, 0, none⟩) 0 0).ownBlock := by rw [hz0]; exact hg1
  have C2 := HC1.out.grow HO0.out hg1'
  have HC2 : Hid (CpS w #[.slice a l.length ca, .int .i64 x, .int .i64 y, .int .i64 z, .slice b l'.length cb] w2) := C2
  have HO2 : Hid (w2.ownsRow w.heap.size 3 1 (.slice sa l.length sc) l.length (cellsI l)) := ho1'
  obtain ⟨W3, hW3⟩ : ∃ W3, W3 = w2.setCell ⟨w.heap.size, 0, none⟩ (.slice sa l.length sc) := ⟨_, rfl⟩
  have C3 : CpS w #[.slice sa l.length sc, .int .i64 x, .int .i64 y, .int .i64 z, .slice b l'.length cb] W3 := by rw [hW3]; simpa using C2.set 0 (.slice sa l.length sc)
  have HO3 : Hid (W3.ownsRow w.heap.size 3 1 (.slice sa l.length sc) l.length (cellsI l)) := by rw [hW3]; exact own_set ho1' _ _ _ (own_not ho1' C2.box (by decide))
  have hb4 : Below W3.heap.size W3 (W3.alloc (Obj.cells #[] 3)) := (Below.refl _ _).alloc (Nat.le_refl _) _
  have C4 := C3.same hb4
  have HC4 : Hid (CpS w #[.slice sa l.length sc, .int .i64 x, .int .i64 y, .int .i64 z, .slice b l'.length cb] (W3.alloc (Obj.cells #[] 3))) := C4
  have own4 := World.ownsRow_made (base := W3.heap.size) (e := 3) (size := 1) W3 #[] 0 (Nat.le_refl _) (by decide) rfl
  have HO4 : Hid ((W3.alloc (Obj.cells #[] 3)).ownsRow w.heap.size 3 1 (.slice (some ⟨W3.heap.size, 0, none⟩) 0 0) 0 []) := own_mono own4 C3.bel.size
  have HW3 : Hid (w.heap.size ≤ W3.heap.size) := C3.bel.size
  have HO4' : Hid ((W3.alloc (Obj.cells #[] 3)).ownsRow w.heap.size 3 1 (.slice sa l.length sc) l.length (cellsI l)) := own_kept HO3.out hb4
  have hfB := HB.out.kept C4.bel
  have hbz4 : W3.heap.size ≤ (W3.alloc (Obj.cells #[] 3)).heap.size := hb4.size
  have k0 := cell_of_row _ _ 0 _ _ _ C2.box
  have f0 := frozen_of_row _ _ 0 _ _ C2.box
  have k4 := cell_of_row _ _ 4 _ _ _ C4.box
  simp at k0 k4
  have hz3 : W3.heap.size = w2.heap.size := by rw [hW3]; simp
  rw [hz3] at own4 hbz4
  rw [hW3] at own4 hfB hbz4 k4
  clear ho1 ho1' hg1 hg1' C2 C3 C4 hb4 own0 hfA c0 hbz HC1 HO0 HA HB
  go_wp2_with (at_builtin; refine wpList_appendI rfl _ _ rfl w2.heap.size _ _ _ rfl own4 b gb ob cb l' rfl hfB nb (by omega) hbz4 ?_)
  rw [← hW3]
  intro v2 w5 ho5 hg5
  have ho5' : w5.ownsRow W3.heap.size 3 1 v2 l'.length (cellsI l') := by rw [hz3]; simpa using ho5
  obtain ⟨ta, tc, hv2⟩ := own_slice ho5'
  subst hv2
  have hg5' : (W3.alloc (Obj.cells #[] 3)).grownBy w5 (Value.slice (some ⟨W3.heap.size, 0, none⟩) 0 0).ownBlock := by rw [hz3]; exact hg5
  have C5 := HC4.out.grow HO4.out hg5'
  have hne : (Value.slice sa l.length sc).ownBlock = none ∨ (Value.slice sa l.length sc).ownBlock ≠ (Value.slice (some ⟨W3.heap.size, 0, none⟩) 0 0).ownBlock := by
    cases e : (Value.slice sa l.length sc).ownBlock with
    | none => exact Or.inl rfl
    | some k =>
      right
      have := (HO3.out.lt k e).2
      simp [Value.ownBlock]
      omega
  have O5 := HO4'.out.kept hg5' hne
  have hap : Apart (.slice sa l.length sc) (.slice ta l'.length tc) := fun k e1 e2 => by
    have h1 := (HO3.out.lt k e1).2
    have h2 := (ho5'.lt k e2).1
    omega
  obtain ⟨W6, hW6⟩ : ∃ W6, W6 = w5.setCell ⟨w.heap.size, 4, none⟩ (.slice ta l'.length tc) := ⟨_, rfl⟩
  have C6 : CpS w #[.slice sa l.length sc, .int .i64 x, .int .i64 y, .int .i64 z, .slice ta l'.length tc] W6 := by rw [hW6]; simpa using C5.set 4 (.slice ta l'.length tc)
  have O6 : W6.ownsRow w.heap.size 3 1 (.slice sa l.length sc) l.length (cellsI l) := by rw [hW6]; exact own_set O5 _ _ _ (own_not O5 C5.box (by decide))
  have P6 : W6.ownsRow w.heap.size 3 1 (.slice ta l'.length tc) l'.length (cellsI l') := by rw [hW6]; exact own_mono (own_set ho5' _ _ _ (own_not ho5' C5.box (by decide))) HW3.out
  have n6 := own_not O6 C6.res (by decide)
  have n6' := own_not P6 C6.res (by decide)
  have HFin : Hid (∃ v1 v2, Ending.returned (.agg #[.slice sa l.length sc, .int .i64 x, .int .i64 y, .int .i64 z, .slice ta l'.length tc]) = .returned (.agg #[v1, .int .i64 x, .int .i64 y, .int .i64 z, v2]) ∧ (((((W6.setCell ⟨w.heap.size + 1, 0, none⟩ (.slice sa l.length sc)).setCell ⟨w.heap.size + 1, 1, none⟩ (.int .i64 x)).setCell ⟨w.heap.size + 1, 2, none⟩ (.int .i64 y)).setCell ⟨w.heap.size + 1, 3, none⟩ (.int .i64 z)).setCell ⟨w.heap.size + 1, 4, none⟩ (.slice ta l'.length tc)).ownsRow w.heap.size 3 1 v1 l.length (cellsI l) ∧ (((((W6.setCell ⟨w.heap.size + 1, 0, none⟩ (.slice sa l.length sc)).setCell ⟨w.heap.size + 1, 1, none⟩ (.int .i64 x)).setCell ⟨w.heap.size + 1, 2, none⟩ (.int .i64 y)).setCell ⟨w.heap.size + 1, 3, none⟩ (.int .i64 z)).setCell ⟨w.heap.size + 1, 4, none⟩ (.slice ta l'.length tc)).ownsRow w.heap.size 3 1 v2 l'.length (cellsI l') ∧ Apart v1 v2 ∧ Below w.heap.size w (((((W6.setCell ⟨w.heap.size + 1, 0, none⟩ (.slice sa l.length sc)).setCell ⟨w.heap.size + 1, 1, none⟩ (.int .i64 x)).setCell ⟨w.heap.size + 1, 2, none⟩ (.int .i64 y)).setCell ⟨w.heap.size + 1, 3, none⟩ (.int .i64 z)).setCell ⟨w.heap.size + 1, 4, none⟩ (.slice ta l'.length tc))) :=
    ⟨_, _, rfl, own_set (own_set (own_set (own_set (own_set O6 _ _ _ n6) _ _ _ n6) _ _ _ n6) _ _ _ n6) _ _ _ n6, own_set (own_set (own_set (own_set (own_set P6 _ _ _ n6') _ _ _ n6') _ _ _ n6') _ _ _ n6') _ _ _ n6', hap, ((((C6.bel.setCell (by simp) _).setCell (by simp) _).setCell (by simp) _).setCell (by simp) _).setCell (by simp) _⟩
  have HY : Hid (_) := five_cell C6.res (.slice sa l.length sc) (.int .i64 x) (.int .i64 y) (.int .i64 z) (.slice ta l'.length tc)
  have r4 := cell_of_row _ _ 4 _ _ _ C5.box
  have f4 := frozen_of_row _ _ 4 _ _ C5.box
  have b0 := cell_of_row _ _ 0 _ _ _ C6.box
  have b1 := cell_of_row _ _ 1 _ _ _ C6.box
  have b2 := cell_of_row _ _ 2 _ _ _ C6.box
  have b3 := cell_of_row _ _ 3 _ _ _ C6.box
  have b4 := cell_of_row _ _ 4 _ _ _ C6.box
  have z0 := cell_of_row _ _ 0 _ _ _ C6.res
  have z1 := cell_of_row _ _ 1 _ _ _ C6.res
  have z2 := cell_of_row _ _ 2 _ _ _ C6.res
  have z3 := cell_of_row _ _ 3 _ _ _ C6.res
  have z4 := cell_of_row _ _ 4 _ _ _ C6.res
  have y0 := frozen_of_row _ _ 0 _ _ C6.res
  have y1 := frozen_of_row _ _ 1 _ _ C6.res
  have y2 := frozen_of_row _ _ 2 _ _ C6.res
  have y3 := frozen_of_row _ _ 3 _ _ C6.res
  have y4 := frozen_of_row _ _ 4 _ _ C6.res
  simp at r4 b0 b1 b2 b3 b4 z0 z1 z2 z3 z4
  rw [hW6] at b0 b1 b2 b3 b4 z0 z1 z2 z3 z4 y0 y1 y2 y3 y4
  clear ho5 ho5' hg5 hg5' C5 hne O5 hap C6 O6 P6 n6 n6' own4 hfB hbz4 k0 f0 k4 HC4 HO4 HO4' HO3 HO2 HC2
  go_wp2
  rw [← hW6]
  obtain ⟨u0, u1, u2, u3, u4⟩ := HY.out
  exact bodyPost_ret (v := .agg #[.slice sa l.length sc, .int .i64 x, .int .i64 y, .int .i64 z, .slice ta l'.length tc]) (by simp [results, Tryz.results61, go_sem, u0, u1, u2, u3, u4]) rfl HFin.out
end Go.Proofs.YtbcfiiilikkkeaaGreatDoor
namespace Go.Proofs.YtbcfiiilikkkeaaGreatDoor
open Go.RowKit
open Shelves (OpenIs)
set_option linter.unusedVariables false
set_option linter.unusedSimpArgs false

/-- What l09After answers: D and n are what PutRaws leaves. -/
def AfterIs (D : List FileL) (n m : Nat) (s : ShelfL) (R : Bool) : Prop := (n = m ∧ ∃ more c, OpenIs D s more c ∧ (R = true ↔ c = 0 ∧ more = [])) ∨ (n ≠ m ∧ s = Shelves.zeroS ∧ R = false)
def AfterPost (w : World) (s : ShelfL) (R : Bool) (en : Ending) (w' : World) : Prop :=
  ∃ va vc vd, en = .returned (.tuple #[shV s va vc vd, .bool R]) ∧ ShOwn w.heap.size s va vc vd w' ∧ Below w.heap.size w w'
theorem ok_small {l : List FileL} (h : Disks.ok l) : l.length ≤ 1048576 ∧ ∀ f ∈ l, f.1.size ≤ 1048576 ∧ f.2.size ≤ 1048576 := by
  have h1 := h.1
  refine ⟨by omega, fun f hf => ?_⟩
  obtain ⟨j, hj, rfl⟩ := List.getElem_of_mem hf
  obtain ⟨_, ⟨_, h2, h3⟩, _⟩ := h.2 j hj
  exact ⟨by omega, by omega⟩
theorem files_slice9 {w : World} {base : Nat} {v : Value} {l : List FileL} (h : w.ownsRow base 164 2 v l.length (cellsF l)) : ∃ a g cap, v = .slice a l.length cap ∧ FilesAt w a g 0 l := by
  rcases h.2 with ⟨rfl, hn⟩ | ⟨g, cap, cur, rfl, hb, hh, h3⟩
  · have : l = [] := List.eq_nil_of_length_eq_zero hn
    subst this
    exact ⟨none, 0, 0, rfl, fun h => absurd h (by simp), fun j hj => absurd hj (by simp)⟩
  · exact ⟨_, g, cap, rfl, own_files rfl h⟩
set_option maxHeartbeats 8000000 in
set_option maxRecDepth 100000 in
theorem after9_is {a ra : Option Addr} {g off cap rg roff rcap : Nat} (l : List FileL) (rs : List Disks.RawL) (hok : Disks.ok l) (hrs : rs.length ≤ 60) (hnil : a = none → cap = 0) (hr : ∀ r ∈ rs, r.name.size ≤ 1048576 ∧ r.to.size ≤ 1048576 ∧ r.text.size ≤ 1048576) (D : List FileL) (n : Nat) (hrun : Disks.run l rs = (D, n)) (s : ShelfL) (R : Bool) (hI : AfterIs D n rs.length s R) (w : World) (hf : FilesAt w a g off l) (hrf : RawsAt w ra rg roff rs) :
    Calls Tryz.prog 65 #[.agg #[.slice a l.length cap], .slice ra rs.length rcap] w (AfterPost w s R) := by
  have hDok : Disks.ok D := by have := Disks.run_ok rs hok; rw [hrun] at this; exact this
  obtain ⟨W1, hW1⟩ : ∃ W1, W1 = (w.alloc (Obj.cells #[Value.slice a l.length cap] 46)).alloc (Obj.cells zero7 40) := ⟨_, rfl⟩
  have hb1 : Below w.heap.size w W1 := by rw [hW1]; exact ((Below.refl _ _).alloc (Nat.le_refl _) _).alloc (by simp) _
  have hput := specPutRaws_yes (cap := cap) (rcap := rcap) l rs hok hrs hnil hr W1 (hf.kept hb1) (hrf.kept hb1)
  rw [hrun] at hput
  have HPUT : Hid (Calls Tryz.prog 32 #[.agg #[.slice a l.length cap], .slice ra rs.length rcap] W1 (rawsPost W1 D n)) := hput
  have HB1 : Hid (Below w.heap.size w W1) := hb1
  have q1 : W1.heap[w.heap.size]? = some (.cells #[Value.slice a l.length cap] 46 (0, 0)) := by rw [hW1, Below.heap_alloc _ _ _ (by simp)]; exact heap_alloc_new w _
  have q2 : W1.heap[w.heap.size + 1]? = some (.cells zero7 40 (0, 0)) := by
    have := heap_alloc_new (w.alloc (Obj.cells #[Value.slice a l.length cap] 46)) (Obj.cells zero7 40)
    rw [show (w.alloc (Obj.cells #[Value.slice a l.length cap] 46)).heap.size = w.heap.size + 1 by simp] at this
    rw [hW1]; exact this
  have HRQ : Hid (∀ wQ, Below W1.heap.size W1 wQ → wQ.heap[w.heap.size + 1]? = some (.cells #[.slice none 0 0, .int .i64 0, .int .i64 0, .int .i64 0, .slice none 0 0, .slice none 0 0, .int .i64 0] 40 (0, 0))) := fun wQ h => (h.block _ (Array.getElem?_eq_some_iff.1 q2).1).trans q2
  have HI : Hid (AfterIs D n rs.length s R) := hI
  have HDK : Hid (Disks.ok D) := hDok
  have c1 := cell_of_row _ _ 0 _ _ _ q1
  rw [hW1] at c1
  unfold zero7 at hW1 c1
  clear hf hrf hr hput hb1 hI q1 q2 hok hDok hrun
  go_enter Tryz.func65, Tryz.ntmps65
  go_wp2_with fail
  rw [← hW1]
  clear hW1 c1
  refine Calls.mono HPUT.out ?_
  rintro en w2 ⟨v, rfl, hown, hb2⟩
  obtain ⟨na, nc, hv⟩ := own_slice hown
  subst hv
  obtain ⟨W3, hW3⟩ : ∃ W3, W3 = w2.alloc (Obj.cells #[Value.slice na D.length nc] 46) := ⟨_, rfl⟩
  have hb3 : Below w2.heap.size w2 W3 := by rw [hW3]; exact (Below.refl _ _).alloc (Nat.le_refl _) _
  have hb13 : Below W1.heap.size W1 W3 := hb2.trans (hb3.mono hb2.size)
  have q3 : W3.heap[w2.heap.size]? = some (.cells #[Value.slice na D.length nc] 46 (0, 0)) := by rw [hW3]; exact heap_alloc_new w2 _
  have rQ3 := HRQ.out _ hb13
  have HB13 : Hid (Below W1.heap.size W1 W3) := hb13
  have HQ3 : Hid (W3.heap[w.heap.size + 1]? = some (.cells #[.slice none 0 0, .int .i64 0, .int .i64 0, .int .i64 0, .slice none 0 0, .slice none 0 0, .int .i64 0] 40 (0, 0))) := rQ3
  have HB3 : Hid (Below w.heap.size w W3) := HB1.out.trans (hb13.mono HB1.out.size)
  have HO3 : Hid (W3.ownsRow W1.heap.size 164 2 (.slice na D.length nc) D.length (cellsF D)) := own_kept hown hb3
  have c3 := cell_of_row _ _ 0 _ _ _ q3
  by_cases hne : n = rs.length
  · have hcn : ((n : Int) != (rs.length : Int)) = false := by simp; omega
    rcases HI.out with ⟨_, more, c, hO, hR⟩ | ⟨h, _⟩
    · have HR : Hid (R = true ↔ c = 0 ∧ more = []) := hR
      obtain ⟨d1, d2⟩ := ok_small HDK.out
      obtain ⟨_, fg, _, e1, f1⟩ := files_slice9 HO3.out
      cases e1
      have HOP : Hid (Calls Tryz.prog 51 #[.agg #[.slice na D.length nc]] W3 (OpenPost W3 s more c)) := specOpen_any D d1 d2 s more c hO W3 f1
      clear hR hO d1 d2 f1 hown hb2 hb3 hb13 q3 rQ3 HPUT hne
      rw [hW3] at c3
      go_wp2_with fail
      rw [← hW3]
      clear hW3 c3
      refine Calls.mono HOP.out ?_
      rintro en w4 ⟨va, vc, vd, rv, rfl, hsh, hrw, hb4⟩
      unfold shV cells7
      obtain ⟨sa, sc, hva⟩ := own_slice hsh.segs
      subst hva
      obtain ⟨ca, cc, hvc⟩ := own_slice hsh.conf
      subst hvc
      obtain ⟨da, dc, hvd⟩ := own_slice hsh.dir
      subst hvd
      obtain ⟨ta, tc, hrv⟩ := own_slice hrw
      subst hrv
      obtain ⟨W5, hW5⟩ : ∃ W5, W5 = w4.alloc (Obj.cells #[.slice sa s.man.segs.length sc, .int .i64 s.man.next, .int .i64 s.man.base, .int .i64 s.man.term, .slice ca s.man.conf.length cc, .slice da s.dir.length dc, .int .i64 s.stamp] 40) := ⟨_, rfl⟩
      have hb5 : Below w4.heap.size w4 W5 := by rw [hW5]; exact (Below.refl _ _).alloc (Nat.le_refl _) _
      have hb35 : Below W3.heap.size W3 W5 := hb4.trans (hb5.mono hb4.size)
      have hq5 : W5.heap[w4.heap.size]? = some (.cells #[.slice sa s.man.segs.length sc, .int .i64 s.man.next, .int .i64 s.man.base, .int .i64 s.man.term, .slice ca s.man.conf.length cc, .slice da s.dir.length dc, .int .i64 s.stamp] 40 (0, 0)) := by rw [hW5]; exact heap_alloc_new w4 _
      have rQ := HRQ.out _ (HB13.out.trans (hb35.mono HB13.out.size))
      have HQ : Hid (W5.heap[w.heap.size + 1]? = some (.cells #[.slice none 0 0, .int .i64 0, .int .i64 0, .int .i64 0, .slice none 0 0, .slice none 0 0, .int .i64 0] 40 (0, 0))) := rQ
      obtain ⟨⟨e0, e1, e2, e3, e4, e5, e6⟩, _⟩ := seven_cells hq5
      obtain ⟨⟨z0, z1, z2, z3, z4, z5, z6⟩, y0, y1, y2, y3, y4, y5, y6⟩ := seven_cells rQ
      have HB5 : Hid (Below w.heap.size w W5) := HB3.out.trans (hb35.mono HB3.out.size)
      have HSH : Hid (ShOwn w.heap.size s (.slice sa s.man.segs.length sc) (.slice ca s.man.conf.length cc) (.slice da s.dir.length dc) W5) := (hsh.mono HB3.out.size).kept hb5
      have HL : Hid (w.heap.size + 1 < w4.heap.size) := by
        show _ < _
        have h1 := (Array.getElem?_eq_some_iff.1 HQ3.out).1
        have h2 := hb4.size
        omega
      have hn2 : w4.heap.size ≠ w.heap.size + 1 := by have := HL.out; omega
      have hn2' : w.heap.size + 1 ≠ w4.heap.size := by have := HL.out; omega
      clear hsh hrw hb4 hb5 hb35 hq5 rQ
      have hd : (c = 0 ∧ more = [] ∧ R = true) ∨ (c = 0 ∧ more ≠ [] ∧ R = false) ∨ (c ≠ 0 ∧ R = false) := by
        by_cases hc : c = 0
        · by_cases hm : more = []
          · exact Or.inl ⟨hc, hm, HR.out.2 ⟨hc, hm⟩⟩
          · exact Or.inr (Or.inl ⟨hc, hm, ans_no HR.out fun e => hm e.2⟩)
        · exact Or.inr (Or.inr ⟨hc, ans_no HR.out fun e => hc e.1⟩)
      have HY := res7 HQ.out (.slice sa s.man.segs.length sc) (.int .i64 s.man.next) (.int .i64 s.man.base) (.int .i64 s.man.term) (.slice ca s.man.conf.length cc) (.slice da s.dir.length dc) (.int .i64 s.stamp)
      rw [hW5] at e0 e1 e2 e3 e4 e5 e6 z0 z1 z2 z3 z4 z5 z6 y0 y1 y2 y3 y4 y5 y6
      have HFin : Hid (∀ R' : Bool, R' = R → AfterPost w s R (.returned (.tuple #[.agg #[.slice sa s.man.segs.length sc, .int .i64 s.man.next, .int .i64 s.man.base, .int .i64 s.man.term, .slice ca s.man.conf.length cc, .slice da s.dir.length dc, .int .i64 s.stamp], .bool R'])) (set7 W5 (w.heap.size + 1) (.slice sa s.man.segs.length sc) (.int .i64 s.man.next) (.int .i64 s.man.base) (.int .i64 s.man.term) (.slice ca s.man.conf.length cc) (.slice da s.dir.length dc) (.int .i64 s.stamp))) := fun R' e => by
        subst e
        exact ⟨_, _, _, rfl, set7_sh HSH.out HQ.out (by decide) (by decide) _ _ _ _ _ _ _, set7_below HB5.out (by omega) _ _ _ _ _ _ _⟩
      clear HI
      rcases hd with ⟨hc, hm, hr⟩ | ⟨hc, hm, hr⟩ | ⟨hc, hr⟩
      · have HRR : Hid (true = R) := hr.symm
        subst hc hm
        clear hr HR
        go_wp2
        rw [← hW5]
        obtain ⟨u0, u1, u2, u3, u4, u5, u6⟩ := HY
        unfold set7 at u0 u1 u2 u3 u4 u5 u6
        exact bodyPost_ret (v := .tuple #[.agg #[.slice sa s.man.segs.length sc, .int .i64 s.man.next, .int .i64 s.man.base, .int .i64 s.man.term, .slice ca s.man.conf.length cc, .slice da s.dir.length dc, .int .i64 s.stamp], .bool true]) (by simp [results, Tryz.results65, go_sem, u0, u1, u2, u3, u4, u5, u6]) rfl (HFin.out _ HRR.out)
      · have HRR : Hid (false = R) := hr.symm
        have hml : ((more.length : Int) == 0) = false := by
          rw [beq_eq_false_iff_ne]
          intro e
          exact hm (List.length_eq_zero_iff.1 (by omega))
        subst hc
        clear hr hm HR
        go_wp2
        rw [← hW5]
        obtain ⟨u0, u1, u2, u3, u4, u5, u6⟩ := HY
        unfold set7 at u0 u1 u2 u3 u4 u5 u6
        exact bodyPost_ret (v := .tuple #[.agg #[.slice sa s.man.segs.length sc, .int .i64 s.man.next, .int .i64 s.man.base, .int .i64 s.man.term, .slice ca s.man.conf.length cc, .slice da s.dir.length dc, .int .i64 s.stamp], .bool false]) (by simp [results, Tryz.results65, go_sem, u0, u1, u2, u3, u4, u5, u6]) rfl (HFin.out _ HRR.out)
      · have HRR : Hid (false = R) := hr.symm
        have hcn0 : (c == 0) = false := beq_eq_false_iff_ne.2 hc
        clear hr hc HR
        go_wp2
        rw [← hW5]
        obtain ⟨u0, u1, u2, u3, u4, u5, u6⟩ := HY
        unfold set7 at u0 u1 u2 u3 u4 u5 u6
        exact bodyPost_ret (v := .tuple #[.agg #[.slice sa s.man.segs.length sc, .int .i64 s.man.next, .int .i64 s.man.base, .int .i64 s.man.term, .slice ca s.man.conf.length cc, .slice da s.dir.length dc, .int .i64 s.stamp], .bool false]) (by simp [results, Tryz.results65, go_sem, u0, u1, u2, u3, u4, u5, u6]) rfl (HFin.out _ HRR.out)
    · exact absurd hne h
  · have hcn : ((n : Int) != (rs.length : Int)) = true := by simp; omega
    obtain ⟨rfl, rfl⟩ : s = Shelves.zeroS ∧ R = false := by
      rcases HI.out with ⟨h, _⟩ | ⟨_, h⟩
      · exact absurd h hne
      · exact h
    obtain ⟨⟨z0, z1, z2, z3, z4, z5, z6⟩, y0, y1, y2, y3, y4, y5, y6⟩ := seven_cells HQ3.out
    have HY := res7 HQ3.out (.slice none 0 0) (.int .i64 0) (.int .i64 0) (.int .i64 0) (.slice none 0 0) (.slice none 0 0) (.int .i64 0)
    have HFin : Hid (AfterPost w Shelves.zeroS false (.returned (.tuple #[.agg #[.slice none 0 0, .int .i64 0, .int .i64 0, .int .i64 0, .slice none 0 0, .slice none 0 0, .int .i64 0], .bool false])) (set7 W3 (w.heap.size + 1) (.slice none 0 0) (.int .i64 0) (.int .i64 0) (.int .i64 0) (.slice none 0 0) (.slice none 0 0) (.int .i64 0))) := ⟨.slice none 0 0, .slice none 0 0, .slice none 0 0, rfl, ShOwn.zero _ _, set7_below HB3.out (by omega) _ _ _ _ _ _ _⟩
    clear hne HI hown hb2 hb3 hb13 q3 rQ3 HPUT c3
    rw [hW3] at z0 z1 z2 z3 z4 z5 z6 y0 y1 y2 y3 y4 y5 y6
    go_wp2
    rw [← hW3]
    obtain ⟨u0, u1, u2, u3, u4, u5, u6⟩ := HY
    unfold set7 at u0 u1 u2 u3 u4 u5 u6
    exact bodyPost_ret (v := .tuple #[.agg #[.slice none 0 0, .int .i64 0, .int .i64 0, .int .i64 0, .slice none 0 0, .slice none 0 0, .int .i64 0], .bool false]) (by simp [results, Tryz.results65, go_sem, u0, u1, u2, u3, u4, u5, u6]) rfl HFin.out
end Go.Proofs.YtbcfiiilikkkeaaGreatDoor
