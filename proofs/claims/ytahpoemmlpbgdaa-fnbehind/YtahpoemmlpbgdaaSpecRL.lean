/- The specification's ReadLog, walked. -/
import Derived.Test.YtahpoemmlpbgdaaRLogA
import Derived.Test.YtahpoemmlpbgdaaRegLast
import Derived.Test.YtahpoemmlpbgdaaSpecSame
import Derived.Deep.RegionLaw
namespace Go.Proofs.Ytahpoemmlpbgdaa
open Go.RowKit
open Logs (okL)
set_option linter.unusedVariables false
set_option linter.unusedSimpArgs false

/-- Entries put behind an empty row of the call's own, as a step of a region that draws its order. -/
theorem step_app0 {w : World} {ops : Array Oper} {o : Oper} {act : Act} {K : Act → World → Prop} {Q : Exit → Act → World → Prop} {E : Prop} (hgd : o.guard = none) (s x : Operand)
    (ho : o.op = .call { callee := .builtin .append, args := #[s, x], argTypes := #[27, 27] }) (base EB : Nat) (hs : act.eval s = .slice (some ⟨EB, 0, none⟩) 0 0) (hown : w.ownsRow base 46 3 (.slice (some ⟨EB, 0, none⟩) 0 0) 0 [])
    (a : Option Addr) (g off nn cap : Nat) (l : List EntL) (hnn : l.length = nn) (hx : act.eval x = .slice a nn cap) (hf : EnAt w a g off l) (hnil : a = none → cap = 0) (h63 : nn ≤ 1048576) (hbase : base ≤ w.heap.size)
    (h : ∀ a' cap' w', w'.ownsRow base 46 3 (.slice a' nn cap') nn (cellsEn l) → w.grownBy w' (some EB) → K (act.put o.dst (.slice a' nn cap')) w') : if Region.wanted o (yielded ops act.tmps) = true then Oper.wp Try.prog o act w K Q else E := by
  have hw : Region.wanted o (yielded ops act.tmps) = true := by simp [Region.wanted, hgd]
  rw [if_pos hw]
  obtain ⟨i0, hi, hz0, hz1, hz2⟩ := info_parts Try.info46
  subst hnn
  cases a with
  | none =>
    have hl : l = [] := by
      cases l with
      | nil => rfl
      | cons f r => have := hf.1 (by simp); cases this
    subst hl
    rw [hnil rfl] at hx
    have hrun := run_append_owned_none (P := Try.prog) (w := w) base 27 o.type 46 i0 3 Try.underlying27 hi _ 0 [] hown
    have hk := h _ _ w hown (World.grownBy.refl _ _)
    unfold Oper.wp
    simp [execOp, ho, resolve, invoke, builtin, hs, hx, hrun, Result.andThen]
    exact hk
  | some ad =>
    have had : 0 < l.length → ad = ⟨g, off, none⟩ := fun hp => Option.some.inj (hf.1 hp)
    refine wp_append_own w s x 27 ho base 46 i0 (.agg #[.int .i64 0, .int .i64 0, .string ByteArray.empty]) 3 32 Try.underlying27 hi hz0 hz1 hz2 rfl (by decide) _ 0 [] hs hown ad l.length cap (cellsEn l) hx (cellsEn_len l) ?_ cellsEn_one (by unfold maxLen; omega) (by omega) hbase ?_
    · intro j u hu
      have hp : 0 < l.length := by
        have := (List.getElem?_eq_some_iff.1 hu).1
        rw [cellsEn_len] at this
        omega
      rw [had hp]
      exact hf.cellsAll j u hu
    · intro v' w' h1 h2 _
      rw [Nat.zero_add] at h1
      obtain ⟨a', cap', rfl⟩ := own_slice h1
      exact h _ _ w' (by simpa using h1) h2
end Go.Proofs.Ytahpoemmlpbgdaa
