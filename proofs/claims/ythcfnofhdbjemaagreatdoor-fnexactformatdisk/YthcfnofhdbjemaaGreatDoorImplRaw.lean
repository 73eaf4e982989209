/- The program's PutRaw, walked. -/
import Derived.Test.YthcfnofhdbjemaaGreatDoorTold
import Derived.Test.YthcfnofhdbjemaaGreatDoorPutRaw
import Derived.Test.YthcfnofhdbjemaaGreatDoorFiles
import Derived.Test.YthcfnofhdbjemaaGreatDoorProg
import Derived.WalkKit
import Derived.WalkSpells
import Derived.WalkLawsBesides
import Derived.Laws.IdiomStrings
import Derived.Laws.BytesArg
import Derived.Laws.BitsAllLaws
import Derived.Test.YthcfnofhdbjemaaGreatDoorRows
import Derived.Test.YthcfnofhdbjemaaGreatDoorDiskEq
import Derived.Deep.RegionWith
import Derived.Deep.QuietTactic
import Derived.BigQuiet
import Derived.Deep.RegionHeld3
import Derived.Test.YthcfnofhdbjemaaGreatDoorConfOk
import Derived.Test.YthcfnofhdbjemaaGreatDoorMathDisk
import Derived.Deep.DeepCutAuto
namespace Go.Proofs.YthcfnofhdbjemaaGreatDoor
open Go.RowKit
set_option linter.unusedVariables false

theorem RawAt.grown {h b : Nat} {D : Value} {r : Disks.RawL} {W W' : World} (p : RawAt h D r W) (hg : W.grownBy W' (some b)) (hb : h + 1 + 1 < b) : RawAt h D r W' := by
  have h1 := p.lt
  exact ⟨(hg.block h (by omega) (by simp; omega)).trans p.d, (hg.block (h + 1) (by omega) (by simp; omega)).trans p.r, (hg.block (h + 1 + 1) (by omega) (by simp; omega)).trans p.res⟩
theorem below_grown {w W W' : World} {b : Nat} (h : Below w.heap.size w W) (hg : W.grownBy W' (some b)) (hb : w.heap.size ≤ b) : Below w.heap.size w W' := h.grown hg h.size (fun j hj => by cases hj; exact hb)
theorem raw_start (w : World) (D : Value) (K : Int) (M O X : ByteArray) : ∃ W1, W1 = ((w.alloc (Obj.cells #[D] 25)).alloc (Obj.cells #[Value.int .i64 K, Value.string M, Value.string O, Value.string X] 44)).alloc (Obj.cells #[Value.slice none 0 0] 25) ∧ RawAt w.heap.size D ⟨K, M, O, X⟩ W1 ∧ Below w.heap.size w W1 :=
  ⟨_, rfl, RawAt.start w D ⟨K, M, O, X⟩, (((Below.refl _ _).alloc (Nat.le_refl _) _).alloc (by simp) _).alloc (by simp; omega) _⟩
set_option maxHeartbeats 1000000 in
set_option maxRecDepth 100000 in
theorem implPutRaw_yes {a : Option Addr} {g off cap : Nat} (l : List FileL) (hok : Disks.ok l) (K : Int) (M O X : ByteArray) (hr : M.size ≤ 1048576 ∧ O.size ≤ 1048576 ∧ X.size ≤ 1048576) (o : Option (List FileL)) (ho : o = Disks.putRaw l ⟨K, M, O, X⟩) (w : World) (hf : FilesAt w a g off l) :
    Calls Tryz.prog 17 #[.agg #[.slice a l.length cap], .agg #[.int .i64 K, .string M, .string O, .string X]] w (putPost w o) := by
  have HF : Hid (FilesAt w a g off l) := hf
  have HK : Hid (Disks.ok l) := hok
  have HR : Hid (M.size ≤ 1048576 ∧ O.size ≤ 1048576 ∧ X.size ≤ 1048576) := hr
  have HO : Hid (o = Disks.putRaw l ⟨K, M, O, X⟩) := ho
  clear hf hok hr ho
  go_enter Tryz.func17, Tryz.ntmps17
  go_wp2_with fail
  obtain ⟨W1, hW1, hR1, hB1⟩ := raw_start w (.slice a l.length cap) K M O X
  rw [← hW1]
  clear hW1
  refine (filesOf_yes l HK.out W1 (HF.out.kept hB1)).mono ?_
  rintro e w2 ⟨b, rfl, hb, T2, hb2⟩
  have T2' : Hid (Table w2 b l) := T2
  have hR2 := hR1.kept hb2
  have hB2 : Below w.heap.size w w2 := hB1.trans (hb2.mono hB1.size)
  have hbb : w.heap.size + 1 + 1 < b := Nat.lt_of_lt_of_le hR1.lt hb
  have c0 := hR2.c0
  have c1 := hR2.c1
  have c2 := hR2.c2
  have c3 := hR2.c3
  clear T2 hR1 hB1 hb2 hb
  go_wp2_with fail
  refine (tabDo_is l HK.out ⟨K, M, O, X⟩ HR.out b w2 T2'.out).mono ?_
  rintro e w3 ⟨rfl, T3, g3⟩
  rw [← HO.out] at T3 ⊢
  have hR3 := hR2.grown g3 hbb
  have hB3 : Below w.heap.size w w3 := below_grown hB2 g3 (by omega)
  have hr3 := hR3.cr
  have hrf3 := hR3.fr
  have hz3 := hR3.lt
  clear hR2 hB2 g3 hR3 c0 c1 c2 c3 T2'
  cases o with
  | none =>
    have hres := World.cell?_setCell_same w3 _ (.slice none 0 0) hr3
    go_wp2
    exact bodyPost_ret (v := .tuple #[.agg #[.slice none 0 0], .bool false]) (by simp [results, Tryz.results17, go_sem, hres]) rfl ⟨_, rfl, World.ownsRow_nil _ _ _ _, hB3.setCell (by simp; omega) _⟩
  | some L =>
    have T3' : Hid (Table w3 b L) := T3
    have hL : Disks.ok L := Disks.put_ok HO.out.symm
    have HL : Hid (Disks.ok L) := hL
    clear T3 hL
    go_wp2_with fail
    refine (told_is L HL.out b w3 T3'.out).mono ?_
    rintro e w4 ⟨v, rfl, hv, hb4⟩
    have hr4 : w4.cell? ⟨w.heap.size + 1 + 1, 0, none⟩ = some (.slice none 0 0) := (hb4.cell (p := ⟨w.heap.size + 1 + 1, 0, none⟩) hz3).trans hr3
    have hrf4 : w4.frozen? ⟨w.heap.size + 1 + 1, 0, none⟩ = false := (hb4.frozen (p := ⟨w.heap.size + 1 + 1, 0, none⟩) hz3).trans hrf3
    have hB4 : Below w.heap.size w w4 := hB3.trans (hb4.mono hB3.size)
    have HV : Hid (w4.ownsRow w3.heap.size 41 2 v L.length (cellsF L)) := hv
    obtain ⟨va, vc, rfl⟩ := own_slice hv
    have hres := World.cell?_setCell_same w4 _ (.slice va L.length vc) hr4
    clear hv T3' hb4 hr3 hrf3
    go_wp2
    refine bodyPost_ret (v := .tuple #[.agg #[.slice va L.length vc], .bool true]) (by simp [results, Tryz.results17, go_sem, hres]) rfl ⟨_, rfl, ?_, hB4.setCell (by simp; omega) _⟩
    exact own_set (own_mono HV.out hB3.size) _ _ _ (fun e => by have := (HV.out.lt _ e).1; omega)
end Go.Proofs.YthcfnofhdbjemaaGreatDoor
