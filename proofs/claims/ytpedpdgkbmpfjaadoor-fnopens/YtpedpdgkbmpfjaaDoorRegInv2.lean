/- A region that draws its order and whose last operation waits for all the others, walked once an operation. No program is named here. -/
import Derived.Test.YtpedpdgkbmpfjaaDoorRegInv
import Derived.Test.YtpedpdgkbmpfjaaDoorRegLast
namespace Go.Proofs.YtpedpdgkbmpfjaaDoor
open Go Go.RowKit
set_option linter.unusedVariables false
set_option linter.unusedSimpArgs false
namespace Inv
theorem held_of_any {P : Program} {md : Region.Mode} {ops : Array Oper} {Q : Exit → Act → World → Prop} : ∀ (fuel : Nat) (listed : Array Bool) (a : Act) (w : World), wpAny P md ops Q fuel listed a w → wpAnyH P md ops Q (fun _ => True) fuel listed a w
  | 0, _, _, _, h => h
  | fuel + 1, _, _, _, h => ⟨h.1, fun i hi => wpOp_mono (fun a' w' h' => ⟨trivial, held_of_any fuel _ a' w' h'⟩) (h.2 i hi)⟩
theorem region_walk_last {P : Program} {os : List Oper} {Q : Exit → Act → World → Prop} {ts : Array Value} {ds : List Deferred} {id : Nat} {w : World} (n : Nat) (V : Nat → Value → World → Prop) (hn : ts.size = n) (hm : P.follows .mixedOrders = true) (hok : lastOk os = true) (hap : apart os.dropLast.toArray = true)
    (hV : ∀ i v w w', V i v w → Below w.heap.size w w' → V i v w')
    (hop : All (Pays P os.dropLast.toArray (NX Q fun a w => wpOp P os.toArray Q (os.length - 1) (fun a' w' => Q .normal a' w') a w) n ds (fun s => ts.getD s undef) (freeOf os.dropLast.toArray) V w) 0 os.dropLast)
    (hend : ∀ (f : Nat → Value) (w' : World), Below w.heap.size w w' → (∀ s, freeOf os.dropLast.toArray s = true → f s = ts.getD s undef) → (∀ j, j < os.length - 1 → V j (f (dstOf os.dropLast.toArray j)) w') → wpOp P os.toArray Q (os.length - 1) (fun a' w' => Q .normal a' w') (act n ds f) w') :
    (Code.region id os.toArray true).wp P Q ⟨ts, ds⟩ w := by
  subst hn
  refine wp_region_last (S := fun _ => True) hm hok trivial (fun _ => held_of_any _ _ _ _ ?_)
  rw [act_of]
  have hsz : os.dropLast.toArray.size = os.length - 1 := by simp
  refine any_kept (V := V) (free := freeOf os.dropLast.toArray) (w1 := w) hap (fun i o d => freeOf_no) hV (fun i o ho => ?_) (fun f w' hb hf hv => ?_) _ _ _ _ (by simp) (by simp) ⟨_, rfl, (Below.refl _ _).drew, fun s _ => rfl, fun j p d hj hp hd => ?_⟩
  · have := All.get hop (show os.dropLast[i]? = some o by simpa using ho)
    rw [Nat.zero_add] at this
    exact this.owes hap ho
  · refine hend f w' hb hf fun j hj => ?_
    have hp : os.dropLast.toArray[j]? = some (os.dropLast[j]'(by simpa using hj)) := by simp [hj]
    obtain ⟨_, ⟨d, hd2, _⟩, _⟩ := apart_at hap hp
    have e3 : dstOf os.dropLast.toArray j = d := by simp only [dstOf, hp, Option.bind_some, hd2, Option.getD_some]
    rw [e3]
    exact hv j _ d hp hd2
  · have h1 : j < os.length - 1 := by
      have := (Array.getElem?_eq_some_iff.1 hp).1
      simpa using this
    simp [Array.getD, h1] at hj
/-- The last operation, which leaves no value. -/
theorem last_skip {P : Program} {ops : Array Oper} {o : Oper} {k : Nat} {a : Act} {w w' : World} {K : Act → World → Prop} {Q : Exit → Act → World → Prop} (ho : ops[k]? = some o) (hg : o.guard = none) (he : (execOp a.eval o).run P w = .ok .skip w') (h : K (a.put o.dst undef) w') : wpOp P ops Q k K a w := by
  unfold wpOp
  rw [ho]
  have hw : Region.wanted o (yielded ops a.tmps) = true := by simp [Region.wanted, hg]
  simp only [hw, if_true]
  left
  unfold Oper.wp
  rw [he]
  exact h
end Inv
end Go.Proofs.YtpedpdgkbmpfjaaDoor
