/- What was applied, as an argument by value, opened; and for every list of leaders and whatever was applied FnExactWhole returns true: Whole answers as its model; no condition. -/
import Derived.Test.YtddmogggdckneaaWholeLaw
import Derived.Test.YtddmogggdckneaaOAp
import Derived.Test.YtddmogggdckneaaEntLaw
import Derived.ProofKit
import Derived.OpenShut
import Derived.ShutString
import Derived.ChangeOld
import Derived.Deep.DeepHandedRow
namespace Go.Proofs.Ytddmogggdckneaa
open Go.ChangeShapes Go.WideShapes Go.ChangeAt Go.RowKit Go.Deep
set_option linter.unusedVariables false
theorem listAp6 {α : Type _} : ∀ {l : List α}, l.length = 6 → ∃ a b c d e f, l = [a, b, c, d, e, f]
  | [a, b, c, d, e, f], _ => ⟨a, b, c, d, e, f, rfl⟩
theorem listAp4 {α : Type _} : ∀ {l : List α}, l.length = 4 → ∃ a b c d, l = [a, b, c, d]
  | [a, b, c, d], _ => ⟨a, b, c, d, rfl⟩
set_option maxRecDepth 100000 in
theorem openAp_val {H : Type} {enc : TypeId × Value → H} {W : World} {base bb : Nat} {r : Reach} {sp : Nat → Bool} {held : Bool} {v : Value} {d : DataW H} {p : List MemPlace}
    (hv : Value.okWide Try.prog W r bb 60 v) (h : DataW.Trod enc Try.prog W base sp held 60 v d p) : ∃ a : ApL, v = apV a ∧ rightAp a := by
  obtain ⟨cs, rfl, hsz⟩ := okWide_struct Try.underlying60 hv
  obtain ⟨fuel, hf0⟩ := h
  obtain ⟨cs⟩ := cs
  have hs6 : cs.length = 6 := hsz.trans (by kernel_rfl)
  have hf' : DataW.trod enc Try.prog W base sp held fuel 60 cs = some (d, p) := hf0
  clear hf0 hsz hv
  obtain ⟨v0, v1, v2, v3, v4, v5, rfl⟩ := listAp6 hs6
  obtain ⟨xs, k, hk, hxy, _, hxl, hf⟩ := DataW.trod_struct Try.underlying60 hf'
  obtain ⟨y0, y1, y2, y3, rfl⟩ := listAp4 (show xs.length = 4 from hxl)
  have g0 := hf 0 _ rfl
  simp [show Try.prog.cellsOf 3 = 1 by kernel_rfl] at g0
  obtain ⟨F0, e0, _, m0⟩ := DataW.trod_int Try.underlying3 g0
  have g1 := hf 1 _ rfl
  simp [show Try.prog.cellsOf 3 = 1 by kernel_rfl] at g1
  obtain ⟨F1, e1, _, m1⟩ := DataW.trod_int Try.underlying3 g1
  have g2 := hf 2 _ rfl
  simp [show Try.prog.cellsOf 3 = 1 by kernel_rfl] at g2
  obtain ⟨F2, e2, _, m2⟩ := DataW.trod_int Try.underlying3 g2
  have g3 := hf 3 _ rfl
  simp [show Try.prog.cellsOf 58 = 3 by kernel_rfl] at g3
  obtain ⟨zs3, kk3, _, _, _, hzl3, hzf3⟩ := DataW.trod_struct Try.underlying58 g3
  obtain ⟨w3_0, w3_1, w3_2, rfl⟩ := listOfAp3 (show zs3.length = 3 from hzl3)
  have f3_0 := hzf3 0 _ rfl
  simp [show Try.prog.cellsOf 3 = 1 by kernel_rfl] at f3_0
  obtain ⟨F3, e3, _, m3⟩ := DataW.trod_int Try.underlying3 f3_0
  have f3_1 := hzf3 1 _ rfl
  simp [show Try.prog.cellsOf 3 = 1 by kernel_rfl] at f3_1
  obtain ⟨F4, e4, _, m4⟩ := DataW.trod_int Try.underlying3 f3_1
  have f3_2 := hzf3 2 _ rfl
  simp [show Try.prog.cellsOf 9 = 1 by kernel_rfl] at f3_2
  obtain ⟨F5, e5, _, z5⟩ := DataW.trod_string Try.underlying9 f3_2
  simp at e0 e1 e2 e3 e4 e5
  subst e0 e1 e2 e3 e4 e5
  exact ⟨⟨F0, F1, F2, F3, F4, F5⟩, rfl, z5, m2⟩
end Go.Proofs.Ytddmogggdckneaa
namespace Go.Proofs.Ytddmogggdckneaa.fnExactWhole
open Go.ChangeShapes Go.WideShapes Go.ChangeAt Go.RowKit
open Go.ChangeMaps (open_string shut_string)
set_option linter.unusedVariables false

theorem own : ownKnob Try.prog.godebug = none := by kernel_rfl
theorem laidOut : laidOutB Try.prog = true := by kernel_rfl

set_option maxRecDepth 100000 in
theorem lifted (os : Os) (started : os.Started) (H : Type) (enc : TypeId × Value → H) :
    ReturnsInHanded {} Try.checked os 7 .any (Rows.fnExactWholeSpec.pre6 enc Try.prog Try.f7 Rows.fnExactWholeRow.domain false) (Rows.fnExactWholeSpec.post enc Try.prog Try.f7 false true false false) := by
  refine returnsInHanded_of_change (C := Try.checked) own started (by kernel_rfl) Try.func7
    (ChangeSpec.witness6 (enc := enc) (C := Try.checked) false ⟨#[], #[.slice none 0 0, .agg #[.int .i64 0, .int .i64 0, .int .i64 0, .int .i64 0, .int .i64 0, .string ByteArray.empty]], []⟩ 8 (by kernel_rfl) (by kernel_rfl) (by kernel_rfl) (by kernel_rfl)) ?_
  intro W base args ds gs before hval0 hW hcnd _
  have hval : ∀ (j : Nat) t v, Try.f7.params[j]? = some t → args[j]? = some v → Value.okWide Try.prog W .any base t v := hval0
  have hW' := hW
  obtain ⟨p, q, hA0, hV, rfl, hfz, hnd⟩ := hW
  have hA : DataW.TrodAll enc Try.prog W 0 (fun _ => true) true Try.f7.params.toList args.toList ds p := hA0
  rw [Try.params7] at hA hval
  obtain ⟨v0, vs0, d0, ds0, p0, q0, hargs, rfl, rfl, h0, r0⟩ := trodAll_cons hA
  obtain ⟨v1, vs1, d1, ds1, p1, q1, rfl, rfl, rfl, h1, r1⟩ := trodAll_cons r0
  obtain ⟨rfl, rfl, rfl⟩ := trodAll_nil r1
  obtain rfl : args = #[v0, v1] := by cases args; simp_all
  obtain ⟨rfl, rfl⟩ := trodVars_none hV
  have k0 := h0
  have lt0 : ∀ x ∈ p0, x.block < W.heap.size := by obtain ⟨m, hm⟩ := k0; exact DataW.trod_lt m _ _ _ hm
  obtain ⟨a0, g0, o0, c0, ds0, l0, rfl, hl0, hs0, hf0⟩ := openLd_arg (hval 0 51 v0 rfl rfl) h0
  have k1 := h1
  have lt1 : ∀ x ∈ p1, x.block < W.heap.size := by obtain ⟨m, hm⟩ := k1; exact DataW.trod_lt m _ _ _ hm
  obtain ⟨a1, rfl, hs1⟩ := openAp_val (hval 1 60 v1 rfl rfl) h1
  clear hA0 hval0
  refine (lawWhole_any ds0 l0 a1 hl0 hs0 hs1.1 (i64_wf hs1.2) W hf0).mono fun e W' ⟨he, bel⟩ => ?_
  subst he
  exact ⟨_, rfl, _, _, _, [], _, [], hW', trodAll_mk1 (shut_bool Try.underlying4 _), (trodAll_cons_mk (Below.trod laidOut (by kernel_rfl) (of_decide_eq_true (by kernel_rfl)) k0 bel lt0) (trodAll_cons_mk (Below.trod laidOut (by kernel_rfl) (of_decide_eq_true (by kernel_rfl)) k1 bel lt1) trodAll_mk0)), rfl, bel.frame _, fun h => by cases h⟩

theorem over : Rows.fnExactWholeRow.holds Try.pinned (OpenSpec.ofChange Rows.fnExactWholeSpec) :=
  OpenClaim.holds_of_wide 7 Try.f7 rfl rfl rfl rfl rfl rfl rfl ⟨rfl, rfl, rfl, rfl, rfl⟩ rfl rfl rfl rfl rfl (by kernel_rfl) Try.func7 (by kernel_rfl)
    (of_decide_eq_true (by kernel_rfl)) (by unfold Func.isWrapper; first | (rw [if_pos (by decide +kernel)]; kernel_rfl) | (rw [if_neg (by decide +kernel)]; exact ⟨rfl, rfl⟩))
    (fun os started H enc _ => lifted os started H enc)
end Go.Proofs.Ytddmogggdckneaa.fnExactWhole
namespace Go.Proofs.Ytddmogggdckneaa
theorem exactWhole_holds : Rows.FnExactWholeSaid := fnExactWhole.over
#print axioms exactWhole_holds
end Go.Proofs.Ytddmogggdckneaa
