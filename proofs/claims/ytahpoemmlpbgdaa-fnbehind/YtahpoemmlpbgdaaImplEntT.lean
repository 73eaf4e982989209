/- The program's EntryText, walked; the laws of EntryOk and EntryText. -/
import Derived.Test.YtahpoemmlpbgdaaImplEntA
namespace Go.Proofs.Ytahpoemmlpbgdaa
open Go.RowKit
open Ents (okB kindB text textS right confOf confS)
set_option linter.unusedVariables false
set_option linter.unusedSimpArgs false

theorem textS_is2 (n : Nat) (e : EntL) : (⟨#[69]⟩ : ByteArray) ++ varS (n : Int) ++ varS e.term ++ (⟨#[UInt8.ofNat e.kind.toNat]⟩ ++ e.data) = textS n e := by
  rw [← textS_is n e ⟨#[]⟩ _ rfl]
  apply Batches.by_inj
  simp [Batches.by_]
end Go.Proofs.Ytahpoemmlpbgdaa
