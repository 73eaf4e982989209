/- At every disk and shelf the law of SnapText answers true: SnapText of the program and of the specification answer alike, and nothing that was there is changed; the library's three tables hold what their text lays (the card ties it). No other condition. -/
import Derived.Test.YtbcfiiilikkkeaaGreatDoorCards
import Derived.Test.YtbcfiiilikkkeaaGreatDoorTie
import Derived.Test.YtbcfiiilikkkeaaGreatDoorVar
import Derived.Test.YtbcfiiilikkkeaaGreatDoorSnapLaw
import Derived.Test.YtbcfiiilikkkeaaGreatDoorOShelf
import Derived.ProofKit
import Derived.Leaving
import Derived.SevenTiedAt
import Derived.OpenShut
import Derived.ShutString
import Derived.ChangeOld
import Derived.Deep.DeepHandedRow
import Derived.Test.YtbcfiiilikkkeaaGreatDoorSnapClosed
namespace Go.Proofs.YtbcfiiilikkkeaaGreatDoor.fnExactSnapText
open Go.ChangeShapes Go.WideShapes Go.ChangeAt Go.RowKit
set_option linter.unusedVariables false
/-- A run that ends alone ends with everybody else only leaving. -/
theorem returns_leaving {a : Assume} {stops : Option Stop.Interp} {C : Checked} {os : Os} {f : FuncId} {r : Reach} {okInput : Program → World → Reach → Nat → FuncId → Input → Prop} {Pre : World → Array Value → Prop} {Post : World → Array Value → Value → World → Prop} {always : Machine → Prop}
    (h : ReturnsInOpen a stops C os f r okInput Pre Post (aloneAtReturn C.prog) always) : ReturnsInOpen a stops C os f r okInput Pre Post (leavingAtReturn C.prog) always := by
  obtain ⟨h0, h1, h2, h3, h4⟩ := h
  refine ⟨h0, h1, h2, h3, fun w tape i hf => ?_⟩
  obtain ⟨n, v, w', hn, hc, hr, hp, ⟨j, last, hj, hs, hq, hh, he⟩, ha⟩ := h4 w tape i hf
  exact ⟨n, v, w', hn, hc, hr, hp, ⟨j, last, hj, hs, hh, onlyLeaving_of_quiet hq, he⟩, ha⟩
theorem said0 : row0.holds Tryz.pinned (OpenSpec.ofChange Rows.fnExactSnapTextSpec) :=
  OpenClaim.holds_of_cond 8 Tryz.f8 rfl rfl rfl rfl rfl rfl rfl ⟨rfl, rfl, rfl, rfl, rfl⟩ rfl rfl rfl rfl rfl (by kernel_rfl) Tryz.func8 closed
    (of_decide_eq_true (by kernel_rfl)) (by unfold Func.isWrapper; first | (rw [if_pos (by decide +kernel)]; kernel_rfl) | (rw [if_neg (by decide +kernel)]; exact ⟨rfl, rfl⟩))
    (fun os started H enc _ F => by rw [OpenClaim.pre_eq_preRow]; exact lifted os started H enc F)

theorem said : Rows.FnExactSnapTextSaid := by
  obtain ⟨_, h2, h3, h4, h5, h6, h7, h8, f, fn, g1, g2, q1, q2, q3, q4, q5, q6, q7, q8, q9, q10, q11, q12, q13, q14, q15, q16, q17, q18, q19, L, hL, all⟩ := said0
  exact ⟨by kernel_rfl, h2, h3, h4, h5, h6, h7, h8, f, fn, g1, g2, q1, q2, q3, q4, q5, q6, q7, q8, q9, q10, q11, q12, q13, q14, q15, q16, q17, q18, q19, L, hL, fun os ho hq H enc inj F => returns_leaving (all os ho hq H enc inj F)⟩

theorem plain (f : FuncId) (fn : Func) (hf : Tryz.pinned.checked.prog.funcNamed "loop.example/g00103/laws.FnExactSnapText" = some f) (hfn : Tryz.pinned.checked.prog.funcs[f]? = some fn) :
    true = Tryz.pinned.checked.prog.looks [] ∧ ∀ (j : Nat) t, fn.params[j]? = some t → Tryz.pinned.checked.prog.wantsStandIn t = false := by
  obtain rfl : f = 8 := Option.some.inj ((show Tryz.prog.funcNamed "loop.example/g00103/laws.FnExactSnapText" = some 8 by kernel_rfl).symm.trans hf) |>.symm
  obtain rfl : fn = Tryz.f8 := (Option.some.inj (Tryz.func8.symm.trans hfn)).symm
  refine ⟨by kernel_rfl, fun j t ht => ?_⟩
  rw [Tryz.params8] at ht
  have hm := Array.mem_of_getElem? ht
  simp at hm
  rcases hm with rfl | rfl
  · exact (show Tryz.prog.wantsStandIn 24 = false by kernel_rfl)
  · exact (show Tryz.prog.wantsStandIn 30 = false by kernel_rfl)

theorem card : Rows.FnExactSnapTextCardSaid := by
  have h6 : ∀ r : OpenClaim, Claim7.isSixth { stood := { row := r, standIns := [], harness := Rows.fnExactSnapTextCard.stood.harness, looks := true }, kinds := [] } = false := fun r => by simp [Claim7.isSixth]
  refine ⟨?_, (fun D hD => by cases hD), fnExactSnapText_row_tie, (fun h => nomatch (show false = true from h)), by kernel_rfl⟩
  exact Claim7.tied_new_at .later [.data, .data, .data] true (Claim7.new_of_sixth said Rows.fnExactSnapTextCard.stood.harness true rfl ⟨rfl, rfl⟩ (by kernel_rfl) (h6 _) plain) (by kernel_rfl)
end Go.Proofs.YtbcfiiilikkkeaaGreatDoor.fnExactSnapText
namespace Go.Proofs.YtbcfiiilikkkeaaGreatDoor
theorem snapText_holds : Rows.FnExactSnapTextCardSaid := fnExactSnapText.card
#print axioms snapText_holds
end Go.Proofs.YtbcfiiilikkkeaaGreatDoor
