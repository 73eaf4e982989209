/- NodeNew of both sides, walked. Made by program. -/
import Derived.Test.YtiifjhalkihlbaaNodeN
import Derived.Test.YtiifjhalkihlbaaShelf
import Derived.Test.YtiifjhalkihlbaaCopied
namespace Go.Proofs.Ytiifjhalkihlbaa
open Go.RowKit
set_option linter.unusedVariables false
set_option linter.unusedSimpArgs false
theorem cloneI_is {a : Option Addr} {g off cap : Nat} (l : List Int) (hlen : l.length ≤ 1048576) (w : World) (hf : IntAt w a g off l) :
    Calls Try.prog 66 #[.slice a l.length cap] w fun e w' => ∃ v', e = .returned v' ∧ w'.ownsRow w.heap.size 3 1 v' l.length (cellsI l) ∧ Below w.heap.size w w' := by
  by_cases h : 0 < l.length
  · have ea := hf.1 h
    subst ea
    refine (Try.slices_Clone_int g off l.length cap l w (Nat.le_refl _) (by omega) ?_).mono ?_
    · intro j hj
      rw [hf.2 j hj]
      simp [List.getD, hj]
    · rintro e w' ⟨v', rfl, h1, _, h2⟩
      refine ⟨v', rfl, ?_, h2⟩
      simpa [cellsI] using h1
  · have hl : l = [] := List.length_eq_zero_iff.1 (by omega)
    subst hl
    cases a with
    | none =>
      refine (Try.slices_Clone_int_nil 0 cap w).mono ?_
      rintro e w' ⟨rfl, rfl⟩
      exact ⟨_, rfl, World.ownsRow_nil _ _ _ _, Below.refl _ _⟩
    | some ad =>
      refine (Try.slices_Clone_int_zero ad cap w).mono ?_
      rintro e w' ⟨v', rfl, h1, _, h2⟩
      exact ⟨v', rfl, h1, h2⟩
theorem cellsI_one {l : List Int} : ∀ u ∈ cellsI l, u.oneCell' = true := by
  intro u hu
  unfold cellsI at hu
  obtain ⟨n, _, rfl⟩ := List.mem_map.1 hu
  rfl
/-- 'append(x, y...)' of ints onto a row of the call's own. -/
theorem wpList_appendI {w : World} {ops : Array Oper} {rest : List Oper} {o : Oper} {act : Act} {Q : Exit → Act → World → Prop} (hgd : o.guard = none) (s x : Operand)
    (ho : o.op = .call { callee := .builtin .append, args := #[s, x], argTypes := #[22, 22] }) (base : Nat) (v : Value) (n : Nat) (xs : List Value) (hs : act.eval s = v) (hown : w.ownsRow base 3 1 v n xs)
    (a : Option Addr) (g off cap : Nat) (l : List Int) (hx : act.eval x = .slice a l.length cap) (hf : IntAt w a g off l) (hnil : a = none → cap = 0) (h63 : n + l.length ≤ 2097152) (hbase : base ≤ w.heap.size)
    (h : ∀ v' w', w'.ownsRow base 3 1 v' (n + l.length) (xs ++ cellsI l) → w.grownBy w' v.ownBlock → wpList Try.prog ops Q rest (act.put o.dst v') w') : wpList Try.prog ops Q (o :: rest) act w := by
  obtain ⟨i0, hi, hz0, hz1, hz2⟩ := info_parts Try.info3
  cases a with
  | none =>
    have hl : l = [] := by
      cases l with
      | nil => rfl
      | cons f r => have := hf.1 (by simp); cases this
    subst hl
    rw [hnil rfl] at hx
    refine wpList_append_own_none hgd s x 22 ho base 3 i0 1 Try.underlying22 hi v n xs hs hown hx ?_
    refine h v w ?_ (World.grownBy.refl _ _)
    simpa [cellsI] using hown
  | some ad =>
    have had : 0 < l.length → ad = ⟨g, off, none⟩ := fun hp => Option.some.inj (hf.1 hp)
    refine wpList_append_own w hgd s x 22 ho base 3 i0 (.int .i64 0) 1 8 Try.underlying22 hi hz0 hz1 hz2 rfl (by decide) v n xs hs hown ad l.length cap (cellsI l) hx (by rw [cellsI_len, Nat.mul_one]) ?_ cellsI_one (by unfold maxLen; omega) (by omega) hbase ?_
    · intro j u hu
      have hj : j < l.length := by rw [← cellsI_len]; exact (List.getElem?_eq_some_iff.1 hu).1
      rw [had (by omega), Addr.add_lit]
      rw [cellsI_at l j hj] at hu
      rw [← Option.some.inj hu]
      exact hf.2 j hj
    · intro v' w' h1 h2 _
      exact h v' w' h1 h2
end Go.Proofs.Ytiifjhalkihlbaa
