/- Texts by their bytes; varOf, walked. -/
import Derived.Test.YtlmjhobijgmolaaMathBatch
import Derived.Test.YtlmjhobijgmolaaVar
namespace Go.Proofs.Ytlmjhobijgmolaa
open Go.RowKit

/-- A text of these bytes. -/
def Is (S : ByteArray) (l : List UInt8) : Prop := S.data.toList = l
theorem Is.size {S : ByteArray} {l : List UInt8} (h : Is S l) : S.size = l.length := by unfold Is at h; rw [← h]; rfl
theorem Is.mk (l : List UInt8) : Is ⟨l.toArray⟩ l := rfl

end Go.Proofs.Ytlmjhobijgmolaa
