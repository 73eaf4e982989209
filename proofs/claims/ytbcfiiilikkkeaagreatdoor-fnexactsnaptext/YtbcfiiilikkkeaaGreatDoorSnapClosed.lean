/- At every disk and shelf the law of SnapText answers true: SnapText of the program and of the specification answer alike, and nothing that was there is changed; the library's three tables hold what their text lays (the card ties it). No other condition. The row, said of a call that leaves nobody. Closed facts of the row. Closed facts of the row. Closed facts of the row. Closed facts of the row. Closed facts of the row. The closed facts of the row, together. -/
import Derived.Test.YtbcfiiilikkkeaaGreatDoorCards
import Derived.Test.YtbcfiiilikkkeaaGreatDoorTie
import Derived.Test.YtbcfiiilikkkeaaGreatDoorVar
import Derived.Test.YtbcfiiilikkkeaaGreatDoorSnapLaw
import Derived.Test.YtbcfiiilikkkeaaGreatDoorOShelf
import Derived.ProofKit
import Derived.Leaving
import Derived.SevenTiedAt
import Derived.OpenShut
import Derived.ShutString
import Derived.ChangeOld
import Derived.Deep.DeepHandedRow
import Derived.JoinedCond
namespace Go.Proofs.YtbcfiiilikkkeaaGreatDoor.fnExactSnapText
open Go.ChangeShapes Go.WideShapes Go.ChangeAt Go.RowKit
set_option linter.unusedVariables false

theorem own : ownKnob Tryz.prog.godebug = none := by kernel_rfl
theorem laidOut : laidOutB Tryz.prog = true := by kernel_rfl

set_option maxRecDepth 100000 in
theorem contract (H : Type) (enc : TypeId × Value → H) (W : World) (base : Nat) (args : Array Value) (ds gs : List (DataW H)) (before : List MemPlace)
    (hval0 : ∀ (j : Nat) t v, Tryz.f8.params[j]? = some t → args[j]? = some v → Value.okWide Tryz.prog W .any base t v)
    (hW : DataW.Whole enc Tryz.prog Tryz.f8.params.toList Rows.fnExactSnapTextSpec.vars false W args.toList ds gs before) (hL : laidMetH Tryz.prog Rows.fnExactSnapTextRow.laid W) :
    Calls Tryz.prog 8 args W fun e W' => ∃ v, e = .returned v ∧ Rows.fnExactSnapTextSpec.post enc Tryz.prog Tryz.f8 false true false false W args v W' := by
  have hval := hval0
  have hW' := hW
  obtain ⟨p, q, hA0, hV, rfl, hfz, hnd⟩ := hW
  have hA : DataW.TrodAll enc Tryz.prog W 0 (fun _ => true) true Tryz.f8.params.toList args.toList ds p := hA0
  rw [Tryz.params8] at hA hval
  obtain ⟨v0, vs0, d0, ds0, p0, q0, hargs, rfl, rfl, h0, r0⟩ := trodAll_cons hA
  obtain ⟨v1, vs1, d1, ds1, p1, q1, rfl, rfl, rfl, h1, r1⟩ := trodAll_cons r0
  obtain ⟨rfl, rfl, rfl⟩ := trodAll_nil r1
  obtain rfl : args = #[v0, v1] := by cases args; simp_all
  obtain ⟨rfl, rfl⟩ := trodVars_none hV
  have k0 := h0
  have lt0 : ∀ x ∈ p0, x.block < W.heap.size := by obtain ⟨m, hm⟩ := k0; exact DataW.trod_lt m _ _ _ hm
  obtain ⟨a0, g0, o0, c0, l0, rfl, hl0, hs0, hf0⟩ := open_disk (hval 0 24 v0 rfl rfl) h0
  have k1 := h1
  have lt1 : ∀ x ∈ p1, x.block < W.heap.size := by obtain ⟨m, hm⟩ := k1; exact DataW.trod_lt m _ _ _ hm
  obtain ⟨s1, sa1, sg1, so1, sc1, ca1, cg1, co1, cc1, da1, dg1, df1, dc1, rfl, ua1, ub1, uc1, ud1, hA1, hB1, hD1⟩ := open_shelf (hval 1 30 v1 rfl rfl) h1
  clear hA0 hval0
  refine (lawSnap_any (cap := c0) l0 hl0 hs0 (sc := sc1) (cc := cc1) (dc := dc1) s1 ua1 ub1 uc1 ud1 W hf0 hA1 hB1 hD1 (pow_ofSnap hL)).mono fun e W' ⟨he, bel⟩ => ?_
  subst he
  exact ⟨_, rfl, _, _, _, [], _, [], hW', trodAll_mk1 (shut_bool Tryz.underlying4 _), (trodAll_cons_mk (Below.trod laidOut (by kernel_rfl) (of_decide_eq_true (by kernel_rfl)) k0 bel lt0) (trodAll_cons_mk (Below.trod laidOut (by kernel_rfl) (of_decide_eq_true (by kernel_rfl)) k1 bel lt1) trodAll_mk0)), rfl, bel.frame _, fun h => by cases h⟩

theorem laid_met (os : Os) : laidMet Tryz.prog Rows.fnExactSnapTextRow.laid (({ World.holding Tryz.prog os ⟨#[], #[], []⟩ with heap := ((((World.holding Tryz.prog os ⟨#[], #[], []⟩).heap.modify 3 (putCells #[.int .u64 1, .int .u64 10, .int .u64 100, .int .u64 1000, .int .u64 10000, .int .u64 100000, .int .u64 1000000, .int .u64 10000000, .int .u64 100000000, .int .u64 1000000000, .int .u64 10000000000, .int .u64 100000000000, .int .u64 1000000000000, .int .u64 10000000000000, .int .u64 100000000000000, .int .u64 1000000000000000, .int .u64 10000000000000000, .int .u64 100000000000000000, .int .u64 1000000000000000000, .int .u64 10000000000000000000])).modify 4 (putCells #[.int .u8 0, .int .u8 1, .int .u8 28, .int .u8 2, .int .u8 29, .int .u8 14, .int .u8 24, .int .u8 3, .int .u8 30, .int .u8 22, .int .u8 20, .int .u8 15, .int .u8 25, .int .u8 17, .int .u8 4, .int .u8 8, .int .u8 31, .int .u8 27, .int .u8 13, .int .u8 23, .int .u8 21, .int .u8 19, .int .u8 16, .int .u8 7, .int .u8 26, .int .u8 12, .int .u8 18, .int .u8 6, .int .u8 11, .int .u8 5, .int .u8 10, .int .u8 9])).modify 5 (putCells #[.int .u8 0, .int .u8 1, .int .u8 56, .int .u8 2, .int .u8 57, .int .u8 49, .int .u8 28, .int .u8 3, .int .u8 61, .int .u8 58, .int .u8 42, .int .u8 50, .int .u8 38, .int .u8 29, .int .u8 17, .int .u8 4, .int .u8 62, .int .u8 47, .int .u8 59, .int .u8 36, .int .u8 45, .int .u8 43, .int .u8 51, .int .u8 22, .int .u8 53, .int .u8 39, .int .u8 33, .int .u8 30, .int .u8 24, .int .u8 18, .int .u8 12, .int .u8 5, .int .u8 63, .int .u8 55, .int .u8 48, .int .u8 27, .int .u8 60, .int .u8 41, .int .u8 37, .int .u8 16, .int .u8 46, .int .u8 35, .int .u8 44, .int .u8 21, .int .u8 52, .int .u8 32, .int .u8 23, .int .u8 11, .int .u8 54, .int .u8 26, .int .u8 40, .int .u8 15, .int .u8 34, .int .u8 20, .int .u8 31, .int .u8 10, .int .u8 25, .int .u8 14, .int .u8 19, .int .u8 9, .int .u8 13, .int .u8 8, .int .u8 7, .int .u8 6])) } : World).forCall (fun _ _ => 0) ⟨#[], #[.agg #[.slice none 0 0], .agg #[.slice none 0 0, .int .i64 0, .int .i64 0, .int .i64 0, .slice none 0 0, .slice none 0 0, .int .i64 0]], []⟩).memory :=
  laidMet_of_run' 8 (by kernel_rfl) (by kernel_rfl)
theorem reads (os : Os) {H : Type} (enc : TypeId × Value → H) : ∃ places, DataW.whole enc Tryz.prog (({ World.holding Tryz.prog os ⟨#[], #[], []⟩ with heap := ((((World.holding Tryz.prog os ⟨#[], #[], []⟩).heap.modify 3 (putCells #[.int .u64 1, .int .u64 10, .int .u64 100, .int .u64 1000, .int .u64 10000, .int .u64 100000, .int .u64 1000000, .int .u64 10000000, .int .u64 100000000, .int .u64 1000000000, .int .u64 10000000000, .int .u64 100000000000, .int .u64 1000000000000, .int .u64 10000000000000, .int .u64 100000000000000, .int .u64 1000000000000000, .int .u64 10000000000000000, .int .u64 100000000000000000, .int .u64 1000000000000000000, .int .u64 10000000000000000000])).modify 4 (putCells #[.int .u8 0, .int .u8 1, .int .u8 28, .int .u8 2, .int .u8 29, .int .u8 14, .int .u8 24, .int .u8 3, .int .u8 30, .int .u8 22, .int .u8 20, .int .u8 15, .int .u8 25, .int .u8 17, .int .u8 4, .int .u8 8, .int .u8 31, .int .u8 27, .int .u8 13, .int .u8 23, .int .u8 21, .int .u8 19, .int .u8 16, .int .u8 7, .int .u8 26, .int .u8 12, .int .u8 18, .int .u8 6, .int .u8 11, .int .u8 5, .int .u8 10, .int .u8 9])).modify 5 (putCells #[.int .u8 0, .int .u8 1, .int .u8 56, .int .u8 2, .int .u8 57, .int .u8 49, .int .u8 28, .int .u8 3, .int .u8 61, .int .u8 58, .int .u8 42, .int .u8 50, .int .u8 38, .int .u8 29, .int .u8 17, .int .u8 4, .int .u8 62, .int .u8 47, .int .u8 59, .int .u8 36, .int .u8 45, .int .u8 43, .int .u8 51, .int .u8 22, .int .u8 53, .int .u8 39, .int .u8 33, .int .u8 30, .int .u8 24, .int .u8 18, .int .u8 12, .int .u8 5, .int .u8 63, .int .u8 55, .int .u8 48, .int .u8 27, .int .u8 60, .int .u8 41, .int .u8 37, .int .u8 16, .int .u8 46, .int .u8 35, .int .u8 44, .int .u8 21, .int .u8 52, .int .u8 32, .int .u8 23, .int .u8 11, .int .u8 54, .int .u8 26, .int .u8 40, .int .u8 15, .int .u8 34, .int .u8 20, .int .u8 31, .int .u8 10, .int .u8 25, .int .u8 14, .int .u8 19, .int .u8 9, .int .u8 13, .int .u8 8, .int .u8 7, .int .u8 6])) } : World).forCall (fun _ _ => 0) ⟨#[], #[.agg #[.slice none 0 0], .agg #[.slice none 0 0, .int .i64 0, .int .i64 0, .int .i64 0, .slice none 0 0, .slice none 0 0, .int .i64 0]], []⟩).memory Tryz.f8.params.toList Rows.fnExactSnapTextSpec.vars false #[Value.agg #[.slice none 0 0], .agg #[.slice none 0 0, .int .i64 0, .int .i64 0, .int .i64 0, .slice none 0 0, .slice none 0 0, .int .i64 0]].toList 8 = some ([.agg [.nil], .agg [.agg [.nil, .lit (.int .i64 0), .lit (.int .i64 0), .lit (.int .i64 0), .nil], .nil, .lit (.int .i64 0)]], [], places) :=
  ⟨[], by kernel_rfl⟩

set_option maxRecDepth 100000 in
theorem lifted (os : Os) (started : os.Started) (H : Type) (enc : TypeId × Value → H) (F : Stop.Interp) :
    ReturnsInHanded {} Tryz.checked os 8 .any ((OpenSpec.ofChange Rows.fnExactSnapTextSpec).preRow enc Tryz.prog Tryz.f8 Rows.fnExactSnapTextRow.domain false Rows.fnExactSnapTextRow.laid) (((OpenSpec.ofChange Rows.fnExactSnapTextSpec).at F).post enc Tryz.prog Tryz.f8 false true false false) := by
  obtain ⟨places, hx⟩ := reads os enc
  refine returnsInHanded_of_row (C := Tryz.checked) (s := OpenSpec.ofChange Rows.fnExactSnapTextSpec) own started (by kernel_rfl) Tryz.func8
    (witness_row_at (enc := enc) (C := Tryz.checked) false ({ World.holding Tryz.prog os ⟨#[], #[], []⟩ with heap := ((((World.holding Tryz.prog os ⟨#[], #[], []⟩).heap.modify 3 (putCells #[.int .u64 1, .int .u64 10, .int .u64 100, .int .u64 1000, .int .u64 10000, .int .u64 100000, .int .u64 1000000, .int .u64 10000000, .int .u64 100000000, .int .u64 1000000000, .int .u64 10000000000, .int .u64 100000000000, .int .u64 1000000000000, .int .u64 10000000000000, .int .u64 100000000000000, .int .u64 1000000000000000, .int .u64 10000000000000000, .int .u64 100000000000000000, .int .u64 1000000000000000000, .int .u64 10000000000000000000])).modify 4 (putCells #[.int .u8 0, .int .u8 1, .int .u8 28, .int .u8 2, .int .u8 29, .int .u8 14, .int .u8 24, .int .u8 3, .int .u8 30, .int .u8 22, .int .u8 20, .int .u8 15, .int .u8 25, .int .u8 17, .int .u8 4, .int .u8 8, .int .u8 31, .int .u8 27, .int .u8 13, .int .u8 23, .int .u8 21, .int .u8 19, .int .u8 16, .int .u8 7, .int .u8 26, .int .u8 12, .int .u8 18, .int .u8 6, .int .u8 11, .int .u8 5, .int .u8 10, .int .u8 9])).modify 5 (putCells #[.int .u8 0, .int .u8 1, .int .u8 56, .int .u8 2, .int .u8 57, .int .u8 49, .int .u8 28, .int .u8 3, .int .u8 61, .int .u8 58, .int .u8 42, .int .u8 50, .int .u8 38, .int .u8 29, .int .u8 17, .int .u8 4, .int .u8 62, .int .u8 47, .int .u8 59, .int .u8 36, .int .u8 45, .int .u8 43, .int .u8 51, .int .u8 22, .int .u8 53, .int .u8 39, .int .u8 33, .int .u8 30, .int .u8 24, .int .u8 18, .int .u8 12, .int .u8 5, .int .u8 63, .int .u8 55, .int .u8 48, .int .u8 27, .int .u8 60, .int .u8 41, .int .u8 37, .int .u8 16, .int .u8 46, .int .u8 35, .int .u8 44, .int .u8 21, .int .u8 52, .int .u8 32, .int .u8 23, .int .u8 11, .int .u8 54, .int .u8 26, .int .u8 40, .int .u8 15, .int .u8 34, .int .u8 20, .int .u8 31, .int .u8 10, .int .u8 25, .int .u8 14, .int .u8 19, .int .u8 9, .int .u8 13, .int .u8 8, .int .u8 7, .int .u8 6])) } : World) #[.agg #[.slice none 0 0], .agg #[.slice none 0 0, .int .i64 0, .int .i64 0, .int .i64 0, .slice none 0 0, .slice none 0 0, .int .i64 0]] rfl (by kernel_rfl) (by kernel_rfl) (by kernel_rfl)
      (OpenSpec.preRow_of_cond 8 hx (by kernel_rfl) (fun k hk => by cases hk) (by kernel_rfl) (laid_met os))) ?_
  intro W base args ds gs before hval hW _ _ _ hL _ _
  exact contract H enc W base args ds gs before hval hW hL

end Go.Proofs.YtbcfiiilikkkeaaGreatDoor.fnExactSnapText
namespace Go.Proofs.YtbcfiiilikkkeaaGreatDoor.fnExactSnapText
open Go.RowKit
set_option linter.unusedVariables false
def row0 : OpenClaim := { Rows.fnExactSnapTextRow with leaving := false }
end Go.Proofs.YtbcfiiilikkkeaaGreatDoor.fnExactSnapText
namespace Go.Proofs.YtbcfiiilikkkeaaGreatDoor.fnExactSnapText
open Go.RowKit
set_option linter.unusedVariables false
theorem k0 : (row0.wf (OpenSpec.ofChange (OpenSpec.ofChange Rows.fnExactSnapTextSpec).bare)) = true := by kernel_rfl
theorem k2 : (mapsRowed Tryz.prog) = true := by kernel_rfl
theorem k9 : (row0.inPlace == Tryz.prog.inPlace 8) = true := by kernel_rfl
theorem k10 : (row0.unfollowed == Tryz.prog.unfollowed 8) = true := by kernel_rfl
end Go.Proofs.YtbcfiiilikkkeaaGreatDoor.fnExactSnapText
namespace Go.Proofs.YtbcfiiilikkkeaaGreatDoor.fnExactSnapText
open Go.RowKit
set_option linter.unusedVariables false
theorem k1 : (laidOutB Tryz.prog) = true := by kernel_rfl
theorem k11 : (row0.recurses == Tryz.prog.recurses 8) = true := by kernel_rfl
theorem k12 : (row0.named == Tryz.prog.varsNamed 8) = true := by kernel_rfl
theorem k25 : (Tryz.prog.mayEnter) = true := by kernel_rfl
end Go.Proofs.YtbcfiiilikkkeaaGreatDoor.fnExactSnapText
namespace Go.Proofs.YtbcfiiilikkkeaaGreatDoor.fnExactSnapText
open Go.RowKit
set_option linter.unusedVariables false
theorem f3 : (Tryz.f8.params.all (Tryz.prog.readableRec ·)) = true ∧ (namedTie Tryz.prog row0.named (OpenSpec.ofChange Rows.fnExactSnapTextSpec).bare.vars) = true ∧ (row0.stops == []) = true ∧ (Tryz.prog.stops == []) = true ∧ (row0.knobs == []) = true ∧ (Tryz.prog.stopKnobs == []) = true :=
  ⟨by kernel_rfl, by kernel_rfl, by kernel_rfl, by kernel_rfl, by kernel_rfl, by kernel_rfl⟩
theorem k3 : (Tryz.f8.params.all (Tryz.prog.readableRec ·)) = true := f3.1
theorem k4 : (namedTie Tryz.prog row0.named (OpenSpec.ofChange Rows.fnExactSnapTextSpec).bare.vars) = true := f3.2.1
theorem k5 : (row0.stops == []) = true := f3.2.2.1
theorem k6 : (Tryz.prog.stops == []) = true := f3.2.2.2.1
theorem k7 : (row0.knobs == []) = true := f3.2.2.2.2.1
theorem k8 : (Tryz.prog.stopKnobs == []) = true := f3.2.2.2.2.2
end Go.Proofs.YtbcfiiilikkkeaaGreatDoor.fnExactSnapText
namespace Go.Proofs.YtbcfiiilikkkeaaGreatDoor.fnExactSnapText
open Go.RowKit
set_option linter.unusedVariables false
theorem f4 : (row0.maps == (Tryz.f8.params.toList ++ (OpenSpec.ofChange Rows.fnExactSnapTextSpec).bare.plain.varTypes Tryz.prog).any (Tryz.prog.mapsRec ·)) = true ∧ (row0.ifaces == (Tryz.f8.params.toList ++ (OpenSpec.ofChange Rows.fnExactSnapTextSpec).bare.plain.varTypes Tryz.prog).any (Tryz.prog.ifacesRec ·)) = true ∧ (row0.mapsOut == Tryz.prog.mapsAmong Tryz.f8.resultTypes.toList) = true ∧ (row0.loops == (Tryz.f8.params.toList ++ (OpenSpec.ofChange Rows.fnExactSnapTextSpec).bare.plain.varTypes Tryz.prog).any (Tryz.prog.loopsFrom ·)) = true ∧ (row0.wideKeys == (Tryz.f8.params.toList ++ (OpenSpec.ofChange Rows.fnExactSnapTextSpec).bare.plain.varTypes Tryz.prog ++ Tryz.f8.resultTypes.toList).any (Tryz.prog.wideKeysFrom ·)) = true ∧ ((OpenSpec.ofChange Rows.fnExactSnapTextSpec).bare.vars.all (Tryz.prog.varReadable ·)) = true ∧ (Tryz.f8.resultTypes.all (fun t => Tryz.prog.readableRec t && decide (t < Tryz.prog.types.size))) = true ∧ (row0.ifacesOut == Tryz.f8.resultTypes.toList.any (Tryz.prog.ifacesRec ·)) = true ∧ (row0.loopsOut == Tryz.f8.resultTypes.toList.any (Tryz.prog.loopsFrom ·)) = true ∧ (row0.plainKeys == Tryz.prog.plainKeys) = true ∧ (row0.shortTexts.isNone) = true ∧ (Tryz.prog.stopsHeard) = true :=
  ⟨by kernel_rfl, by kernel_rfl, by kernel_rfl, by kernel_rfl, by kernel_rfl, by kernel_rfl, by kernel_rfl, by kernel_rfl, by kernel_rfl, by kernel_rfl, by kernel_rfl, by kernel_rfl⟩
theorem k13 : (row0.maps == (Tryz.f8.params.toList ++ (OpenSpec.ofChange Rows.fnExactSnapTextSpec).bare.plain.varTypes Tryz.prog).any (Tryz.prog.mapsRec ·)) = true := f4.1
theorem k14 : (row0.ifaces == (Tryz.f8.params.toList ++ (OpenSpec.ofChange Rows.fnExactSnapTextSpec).bare.plain.varTypes Tryz.prog).any (Tryz.prog.ifacesRec ·)) = true := f4.2.1
theorem k15 : (row0.mapsOut == Tryz.prog.mapsAmong Tryz.f8.resultTypes.toList) = true := f4.2.2.1
theorem k16 : (row0.loops == (Tryz.f8.params.toList ++ (OpenSpec.ofChange Rows.fnExactSnapTextSpec).bare.plain.varTypes Tryz.prog).any (Tryz.prog.loopsFrom ·)) = true := f4.2.2.2.1
theorem k17 : (row0.wideKeys == (Tryz.f8.params.toList ++ (OpenSpec.ofChange Rows.fnExactSnapTextSpec).bare.plain.varTypes Tryz.prog ++ Tryz.f8.resultTypes.toList).any (Tryz.prog.wideKeysFrom ·)) = true := f4.2.2.2.2.1
theorem k18 : ((OpenSpec.ofChange Rows.fnExactSnapTextSpec).bare.vars.all (Tryz.prog.varReadable ·)) = true := f4.2.2.2.2.2.1
theorem k19 : (Tryz.f8.resultTypes.all (fun t => Tryz.prog.readableRec t && decide (t < Tryz.prog.types.size))) = true := f4.2.2.2.2.2.2.1
theorem k20 : (row0.ifacesOut == Tryz.f8.resultTypes.toList.any (Tryz.prog.ifacesRec ·)) = true := f4.2.2.2.2.2.2.2.1
theorem k21 : (row0.loopsOut == Tryz.f8.resultTypes.toList.any (Tryz.prog.loopsFrom ·)) = true := f4.2.2.2.2.2.2.2.2.1
theorem k22 : (row0.plainKeys == Tryz.prog.plainKeys) = true := f4.2.2.2.2.2.2.2.2.2.1
theorem k23 : (row0.shortTexts.isNone) = true := f4.2.2.2.2.2.2.2.2.2.2.1
theorem k24 : (Tryz.prog.stopsHeard) = true := f4.2.2.2.2.2.2.2.2.2.2.2
end Go.Proofs.YtbcfiiilikkkeaaGreatDoor.fnExactSnapText
namespace Go.Proofs.YtbcfiiilikkkeaaGreatDoor.fnExactSnapText
open Go.RowKit
set_option linter.unusedVariables false
theorem f5 : (row0.lifted == Tryz.prog.liftsFinal) = true ∧ (Tryz.prog.make == some row0.make) = true ∧ (row0.kinds == (if row0.domain.isEmpty then [] else Tryz.f8.params.toList.map fun t => match Tryz.prog.underlying t with | some (.int k) => some k | _ => none)) = true ∧ (row0.pinned == row0.pinnedBy) = true ∧ (row0.veiled == (Tryz.f8.params.toList ++ (OpenSpec.ofChange Rows.fnExactSnapTextSpec).bare.plain.varTypes Tryz.prog ++ Tryz.f8.resultTypes.toList).any (Tryz.prog.veiledRec ·)) = true ∧ (row0.veiledFits Tryz.prog Tryz.f8.params.toList (Tryz.f8.params.toList ++ (OpenSpec.ofChange Rows.fnExactSnapTextSpec).bare.plain.varTypes Tryz.prog ++ Tryz.f8.resultTypes.toList)) = true :=
  ⟨by kernel_rfl, by kernel_rfl, by kernel_rfl, by kernel_rfl, by kernel_rfl, by kernel_rfl⟩
theorem k26 : (row0.lifted == Tryz.prog.liftsFinal) = true := f5.1
theorem k27 : (Tryz.prog.make == some row0.make) = true := f5.2.1
theorem k29 : (row0.pinned == row0.pinnedBy) = true := f5.2.2.2.1
theorem k30 : (row0.veiled == (Tryz.f8.params.toList ++ (OpenSpec.ofChange Rows.fnExactSnapTextSpec).bare.plain.varTypes Tryz.prog ++ Tryz.f8.resultTypes.toList).any (Tryz.prog.veiledRec ·)) = true := f5.2.2.2.2.1
theorem k31 : (row0.veiledFits Tryz.prog Tryz.f8.params.toList (Tryz.f8.params.toList ++ (OpenSpec.ofChange Rows.fnExactSnapTextSpec).bare.plain.varTypes Tryz.prog ++ Tryz.f8.resultTypes.toList)) = true := f5.2.2.2.2.2
end Go.Proofs.YtbcfiiilikkkeaaGreatDoor.fnExactSnapText
namespace Go.Proofs.YtbcfiiilikkkeaaGreatDoor.fnExactSnapText
open Go.RowKit
set_option linter.unusedVariables false
theorem andT {a b : Bool} (h1 : a = true) (h2 : b = true) : (a && b) = true := by rw [h1, h2]; rfl
theorem closed : joinedFacts Tryz.prog 8 Tryz.f8 (OpenSpec.ofChange Rows.fnExactSnapTextSpec).bare row0 = true := by
  unfold joinedFacts
  exact andT (andT (andT (andT (andT (andT (andT (andT (andT (andT (andT (andT (andT (andT (andT (andT (andT (andT (andT (andT (andT (andT (andT (andT (andT (andT (andT (andT (andT (andT (andT (k0) k1) k2) k3) k4) k5) k6) k7) k8) k9) k10) k11) k12) k13) k14) k15) k16) k17) k18) k19) k20) k21) k22) k23) k24) k25) k26) k27) (by kernel_rfl)) k29) k30) k31
end Go.Proofs.YtbcfiiilikkkeaaGreatDoor.fnExactSnapText
