/- The call of the program's changePutting, walked; steps of regions that draw their order. The calls of the program's orderToPair, orderToChange, changeBetween and pairBehind, walked. The call of the program's sideBySide over two maps, walked. Made by program. The calls of MapBetween, the specification's and the program's, walked. Made by program. -/
import Derived.Test.YtpedpdgkbmpfjaaDoorMapOk
import Derived.Test.YtpedpdgkbmpfjaaDoorClone
import Derived.Deep.AppendLies
import Derived.Deep.RegionHeld3
import Derived.Deep.RegionLaw
namespace Go.Proofs.YtpedpdgkbmpfjaaDoor
open Go.RowKit
set_option linter.unusedVariables false

theorem grown_keep_ij {w w' : World} {k : Nat} {o : Obj} {r : Option Nat} (h : w.heap[k]? = some o) (hg : w.grownBy w' r) (hne : r ≠ some k) : w'.heap[k]? = some o :=
  (hg.block k (Array.getElem?_eq_some_iff.1 h).1 (fun e => hne e.symm)).trans h
theorem change_news (c : ChangeL) : ∀ u ∈ [Value.string c.key, .string c.value, .bool c.gone], u.oneCell' = true := by
  intro u hu
  simp at hu
  rcases hu with rfl | rfl | rfl <;> rfl
theorem pair_news (c : PairL) : ∀ u ∈ [Value.string c.key, .string c.value], u.oneCell' = true := by
  intro u hu
  simp at hu
  rcases hu with rfl | rfl <;> rfl

/-- strings.Clone, told from an elder world. -/
theorem clone_from {W0 : World} (s : ByteArray) (h : s.size ≤ 2097152) (w : World) (hb : Below W0.heap.size W0 w) :
    Calls Tryd.prog 65 #[.string s] w fun e w' => e = .returned (.string s) ∧ Below W0.heap.size W0 w' :=
  (clone_any s (by omega) w).mono fun e w' ⟨h1, h2⟩ => ⟨h1, hb.trans (h2.mono hb.size)⟩
end Go.Proofs.YtpedpdgkbmpfjaaDoor
namespace Go.Proofs.YtpedpdgkbmpfjaaDoor
open Go.RowKit
set_option linter.unusedVariables false

theorem cmp_list : ∀ a b : List UInt8, Lib.compareBytes a b = if a < b then -1 else if b < a then 1 else 0
  | [], [] => by simp [Lib.compareBytes]
  | _ :: _, [] => by simp [Lib.compareBytes]
  | [], _ :: _ => by simp [Lib.compareBytes]
  | x :: a, y :: b => by
    rw [Lib.compareBytes, cmp_list a b]
    simp only [List.cons_lt_cons_iff]
    by_cases h1 : x < y
    · simp [h1]
    · by_cases h2 : y < x
      · have h3 : ¬ x = y := fun e => by rw [e] at h2; exact UInt8.lt_irrefl _ h2
        simp [h1, h2, h3]
      · have h3 : x = y := UInt8.le_antisymm (UInt8.not_lt.1 h2) (UInt8.not_lt.1 h1)
        subst h3
        simp [h1]
/-- How two texts stand to each other. -/
def Cmp (A B : ByteArray) (x : Int) : Prop := (Batches.lt A B = true ∧ x = -1) ∨ (A = B ∧ x = 0) ∨ (Batches.lt B A = true ∧ x = 1)
theorem cmp_is {A B : ByteArray} {x : Int} (h : Cmp A B x) : Lib.compareBytes A.data.toList B.data.toList = x := by
  rw [cmp_list]
  rcases h with ⟨h, rfl⟩ | ⟨rfl, rfl⟩ | ⟨h, rfl⟩
  · rw [if_pos ((Batches.lt_iff _ _).1 h)]
  · rw [if_neg (List.lt_irrefl _), if_neg (List.lt_irrefl _)]
  · rw [if_neg (List.not_lt.2 (List.le_of_lt ((Batches.lt_iff _ _).1 h))), if_pos ((Batches.lt_iff _ _).1 h)]
set_option maxHeartbeats 1000000 in
theorem orderToChange_is (A V B U : ByteArray) (G : Bool) (x : Int) (h : Cmp A B x) (w : World) :
    Calls Tryd.prog 79 #[.agg #[.string A, .string V], .agg #[.string B, .string U, .bool G]] w fun e w' => e = .returned (.int .i64 x) ∧ Below w.heap.size w w' := by
  have HX : Hid (Lib.compareBytes A.data.toList B.data.toList = x) := cmp_is h
  clear h
  go_enter Tryd.func79, Tryd.ntmps79
  go_wp2_with (go_at_call 91; refine (Tryd.strings_Compare A B _).mono ?_; rintro e w1 ⟨rfl, rfl⟩; rw [HX.out])
  go_ret
  exact ⟨rfl, ((Below.refl _ _).alloc (Nat.le_refl _) _).alloc (by simp) _⟩

end Go.Proofs.YtpedpdgkbmpfjaaDoor
namespace Go.Proofs.YtpedpdgkbmpfjaaDoor
open Go.RowKit
set_option linter.unusedVariables false
/-- A row of the call's own. -/
structure RSt (w : World) (E z : Nat) (v : Value) (n : Nat) (xs : List Value) (W : World) : Prop where
  own : W.ownsRow w.heap.size E z v n xs
  below : Below w.heap.size w W
section
variable {w W W' : World} {E z n : Nat} {v : Value} {xs : List Value}
theorem RSt.step (h : RSt w E z v n xs W) (hb : Below W.heap.size W W') : RSt w E z v n xs W' := ⟨own_kept h.own hb, h.below.trans (hb.mono h.below.size)⟩
theorem RSt.alloc (h : RSt w E z v n xs W) (o : Obj) : RSt w E z v n xs (W.alloc o) := h.step ((Below.refl _ _).alloc (Nat.le_refl _) _)
theorem RSt.app (h : RSt w E z v n xs W) {v' : Value} {m : Nat} {ys : List Value} (hg : W.grownBy W' v.ownBlock) (hown : W'.ownsRow w.heap.size E z v' m ys) : RSt w E z v' m ys W' :=
  ⟨hown, h.below.grown hg h.below.size (fun j hj => (h.own.lt j hj).1)⟩
end
theorem news_two {w : World} {o : Obj} {cs : Array Value} {t : TypeId} {fr : Nat × Nat} : ∀ j u, cs.toList[j]? = some u → ((w.alloc o).alloc (.cells cs t fr)).cell? ((⟨w.heap.size + 1, 0, none⟩ : Addr).add j) = some u := by
  have e : (w.alloc o).heap.size = w.heap.size + 1 := by simp
  have := World.news_of_block (cs := cs) (t := t) (fr := fr) (heap_alloc_new (w.alloc o) (.cells cs t fr))
  rw [e] at this
  exact this
theorem drop_at {α : Type} {l : List α} {i : Nat} (h : i < l.length) : l.drop i = l[i] :: l.drop (i + 1) := List.drop_eq_getElem_cons h
theorem drop_end {α : Type} (l : List α) : l.drop l.length = [] := List.drop_length
end Go.Proofs.YtpedpdgkbmpfjaaDoor
namespace Go.Proofs.YtpedpdgkbmpfjaaDoor
open Go.RowKit
set_option linter.unusedVariables false

theorem own_empty {W : World} {base g E z : Nat} (h : W.heap[g]? = some (.cells #[] E (0, 0))) (hb : base ≤ g) : W.ownsRow base E z (.slice (some ⟨g, 0, none⟩) 0 0) 0 [] :=
  ⟨by simp, .inr ⟨g, 0, #[], rfl, hb, h, Nat.le_refl _, Nat.zero_le _, by simp, by simp⟩⟩
end Go.Proofs.YtpedpdgkbmpfjaaDoor
