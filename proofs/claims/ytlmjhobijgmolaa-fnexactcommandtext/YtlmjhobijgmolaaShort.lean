/- The call of the program's ShortText, walked. -/
import Derived.Test.YtlmjhobijgmolaaVar
namespace Go.Proofs.Ytlmjhobijgmolaa
open Go.RowKit

theorem var_size (n : Nat) : (⟨(Words.var n).toArray⟩ : ByteArray).size ≤ n + 1 := by
  have := Words.var_len n
  simpa [ByteArray.size] using this

end Go.Proofs.Ytlmjhobijgmolaa
