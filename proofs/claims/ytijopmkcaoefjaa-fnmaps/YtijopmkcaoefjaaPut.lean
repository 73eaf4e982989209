/- The call of the program's changePutting, walked; steps of regions that draw their order. -/
import Derived.Test.YtijopmkcaoefjaaMapOk
import Derived.Test.YtijopmkcaoefjaaClone
import Derived.Deep.AppendLies
import Derived.Deep.RegionHeld3
import Derived.Deep.RegionLaw
namespace Go.Proofs.Ytijopmkcaoefjaa
open Go.RowKit
set_option linter.unusedVariables false

theorem own_slice {w : World} {base : Nat} {t : TypeId} {sz : Nat} {v : Value} {n : Nat} {xs : List Value} (h : w.ownsRow base t sz v n xs) : ∃ a c, v = .slice a n c := by
  rcases h.2 with ⟨rfl, rfl⟩ | ⟨g, cap, cur, rfl, _⟩
  · exact ⟨_, _, rfl⟩
  · exact ⟨_, _, rfl⟩
theorem own_not {W : World} {b k n : Nat} {e t : TypeId} {v : Value} {xs : List Value} (h : W.ownsRow b e k v n xs) {q : Nat} {cs : Array Value} {fz : Nat × Nat} (ho : W.heap[q]? = some (.cells cs t fz)) (hne : e ≠ t) : v.ownBlock ≠ some q := by
  intro hq
  rcases h.2 with ⟨h1, _⟩ | ⟨g, cap, cur, h1, _, hh, _⟩
  · rw [h1] at hq; simp [Value.ownBlock] at hq
  · rw [h1] at hq
    obtain rfl : g = q := by simpa [Value.ownBlock] using hq
    rw [ho] at hh; cases hh; exact hne rfl
/-- The call of a Go function by its contract, as one step of a region that draws its order. -/
theorem step_call {P : Program} {ops : Array Oper} {o : Oper} {a : Act} {w : World} {K : Act → World → Prop} {Q : Exit → Act → World → Prop} {E : Prop} (hgd : o.guard = none) (f : Nat) (x : Operand) (t : TypeId)
    (ho : o.op = .call { callee := .value (.func f), args := #[x], argTypes := #[t] }) (v : Value) (hx : a.eval x = v) (u : Value) (R : World → Prop) (hcf : ∀ w, (callFunc f #[v]).run P w = .ok (.enter f #[v]) w)
    (hc : Calls P f #[v] w fun e w' => e = .returned u ∧ R w') (h : ∀ w', R w' → K (a.put o.dst u) w') : if Region.wanted o (yielded ops a.tmps) = true then Oper.wp P o a w K Q else E := by
  have hw : Region.wanted o (yielded ops a.tmps) = true := by simp [Region.wanted, hgd]
  rw [if_pos hw]
  unfold Oper.wp
  have hf : a.eval (.func f) = .func (.func f) #[] #[] := rfl
  simp [execOp, ho, resolve, invoke, hf, hx, hcf, Deferred.ofValue, Oper.upon]
  refine hc.mono ?_
  rintro e w' ⟨rfl, hr⟩
  exact h w' hr
theorem grown_keep {w w' : World} {k : Nat} {o : Obj} {r : Option Nat} (h : w.heap[k]? = some o) (hg : w.grownBy w' r) (hne : r ≠ some k) : w'.heap[k]? = some o :=
  (hg.block k (Array.getElem?_eq_some_iff.1 h).1 (fun e => hne e.symm)).trans h
theorem change_news (c : ChangeL) : ∀ u ∈ [Value.string c.key, .string c.value, .bool c.gone], u.oneCell' = true := by
  intro u hu
  simp at hu
  rcases hu with rfl | rfl | rfl <;> rfl
theorem pair_news (c : PairL) : ∀ u ∈ [Value.string c.key, .string c.value], u.oneCell' = true := by
  intro u hu
  simp at hu
  rcases hu with rfl | rfl <;> rfl

/-- strings.Clone, told from an elder world. -/
theorem clone_from {W0 : World} (s : ByteArray) (h : s.size ≤ 2097152) (w : World) (hb : Below W0.heap.size W0 w) :
    Calls Try.prog 46 #[.string s] w fun e w' => e = .returned (.string s) ∧ Below W0.heap.size W0 w' :=
  (clone_any s (by omega) w).mono fun e w' ⟨h1, h2⟩ => ⟨h1, hb.trans (h2.mono hb.size)⟩
set_option maxHeartbeats 2000000 in
set_option maxRecDepth 100000 in
theorem changePutting_is (p : PairL) (hp : smallPair 2097152 p) (w : World) :
    Calls Try.prog 45 #[pairV p] w fun e w' => e = .returned (changeV (Maps.put p)) ∧ Below w.heap.size w w' := by
  obtain ⟨A, V⟩ := p
  obtain ⟨hA, hV⟩ := hp
  unfold pairV changeV Maps.put
  simp only at hA hV ⊢
  go_enter Try.func45, Try.ntmps45
  go_wp2_with fail
  obtain ⟨W1, hW1⟩ : ∃ W1, W1 = (w.alloc (Obj.cells #[Value.string A, Value.string V] 40)).alloc (Obj.cells #[Value.string ⟨#[]⟩, Value.string ⟨#[]⟩, Value.bool false] 65) := ⟨_, rfl⟩
  rw [← hW1]
  have hB1 : Below w.heap.size w W1 := by rw [hW1]; exact ((Below.refl _ _).alloc (Nat.le_refl _) _).alloc (by simp) _
  have q1 : W1.heap[w.heap.size + 1]? = some (Obj.cells #[Value.string ⟨#[]⟩, Value.string ⟨#[]⟩, Value.bool false] 65 (0, 0)) := by
    rw [hW1]; have := heap_alloc_new (w.alloc (Obj.cells #[Value.string A, Value.string V] 40)) (Obj.cells #[Value.string ⟨#[]⟩, Value.string ⟨#[]⟩, Value.bool false] 65); simpa using this
  have q0 : W1.heap[w.heap.size]? = some (Obj.cells #[Value.string A, Value.string V] 40 (0, 0)) := by
    rw [hW1, Below.heap_alloc _ _ _ (by simp)]; exact heap_alloc_new w _
  have hz : w.heap.size + 1 < W1.heap.size := (Array.getElem?_eq_some_iff.1 q1).1
  clear hW1
  have HX : Hid (∀ w', Below W1.heap.size W1 w' → (w'.cell? ⟨w.heap.size, 0, none⟩ = some (.string A) ∧ w'.cell? ⟨w.heap.size, 1, none⟩ = some (.string V)) ∧
      (w'.cell? ⟨w.heap.size + 1, 0, none⟩ = some (.string ⟨#[]⟩) ∧ w'.cell? ⟨w.heap.size + 1, 1, none⟩ = some (.string ⟨#[]⟩) ∧ w'.cell? ⟨w.heap.size + 1, 2, none⟩ = some (.bool false)) ∧
      (w'.frozen? ⟨w.heap.size + 1, 0, none⟩ = false ∧ w'.frozen? ⟨w.heap.size + 1, 1, none⟩ = false ∧ w'.frozen? ⟨w.heap.size + 1, 2, none⟩ = false)) := fun w' h => by
    have e0 := (h.block _ (by omega)).trans q0
    have e1 := (h.block _ hz).trans q1
    exact ⟨⟨cell_of_row _ _ 0 _ _ _ e0, cell_of_row _ _ 1 _ _ _ e0⟩, ⟨cell_of_row _ _ 0 _ _ _ e1, cell_of_row _ _ 1 _ _ _ e1, cell_of_row _ _ 2 _ _ _ e1⟩, ⟨frozen_of_row _ _ _ _ _ e1, frozen_of_row _ _ _ _ _ e1, frozen_of_row _ _ _ _ _ e1⟩⟩
  have HQ : Hid (W1.heap[w.heap.size + 1]? = some (Obj.cells #[Value.string ⟨#[]⟩, Value.string ⟨#[]⟩, Value.bool false] 65 (0, 0))) := q1
  obtain ⟨⟨p0, p1⟩, ⟨r0, r1, r2⟩, ⟨f0, f1, f2⟩⟩ := HX.out W1 (Below.refl _ _)
  clear q0 q1
  go_region_held3 (fun w' => w'.cell? ⟨w.heap.size, 0, none⟩ = some (.string A) ∧ w'.cell? ⟨w.heap.size, 1, none⟩ = some (.string V))
    (first | go_keep | exact (HX.out _ (by assumption)).1)
    (first | (go_at_call 46; refine (clone_from (W0 := W1) _ (by first | exact hA | exact hV) _ (by first | assumption | exact (Below.refl _ _).drew)).mono ?_; rintro e wc ⟨rfl, hbc⟩; obtain ⟨_, ⟨d0, d1, d2⟩, e0, e1, e2⟩ := HX.out _ hbc))
  all_goals
    go_wp2
    obtain ⟨l0, l1, l2⟩ := three_cell ((hbc.block _ hz).trans HQ.out) (.string A) (.string V) (.bool false)
    have hB := hB1.trans (hbc.mono hB1.size)
    exact bodyPost_ret (v := .agg #[.string A, .string V, .bool false]) (by simp [results, Try.results45, go_sem, l0, l1, l2]) rfl ⟨rfl, ((hB.setCell (by simp) _).setCell (by simp) _).setCell (by simp) _⟩
end Go.Proofs.Ytijopmkcaoefjaa
