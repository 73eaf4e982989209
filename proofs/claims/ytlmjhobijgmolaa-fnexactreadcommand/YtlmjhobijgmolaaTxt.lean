/- Texts by their bytes; varOf, walked. -/
import Derived.Test.YtlmjhobijgmolaaMathBatch
import Derived.Test.YtlmjhobijgmolaaVar
namespace Go.Proofs.Ytlmjhobijgmolaa
open Go.RowKit

theorem app_list (a b : ByteArray) : (a ++ b).data.toList = a.data.toList ++ b.data.toList := by simp
/-- A text of these bytes. -/
def Is (S : ByteArray) (l : List UInt8) : Prop := S.data.toList = l
theorem Is.app {S T : ByteArray} {l m : List UInt8} (h1 : Is S l) (h2 : Is T m) : Is (S ++ T) (l ++ m) := by
  unfold Is at *; rw [app_list, h1, h2]
theorem Is.size {S : ByteArray} {l : List UInt8} (h : Is S l) : S.size = l.length := by unfold Is at h; rw [← h]; rfl
theorem Is.eq {S : ByteArray} {l : List UInt8} (h : Is S l) : S = ⟨l.toArray⟩ := by
  unfold Is at h
  cases S; simp at h; subst h; simp
theorem Is.mk (l : List UInt8) : Is ⟨l.toArray⟩ l := rfl

def varS (x : Int) : ByteArray := ⟨(Words.var x.toNat).toArray⟩
def shortS (s : ByteArray) : ByteArray := ⟨(Batches.short s).toArray⟩
theorem varS_is (x : Int) : Is (varS x) (Words.var x.toNat) := rfl
theorem shortS_is (s : ByteArray) : Is (shortS s) (Batches.short s) := rfl
theorem varS_size (x : Int) (B : Nat) (h : x ≤ B) : (varS x).size ≤ B + 1 := by rw [(varS_is x).size]; have := Words.var_len x.toNat; omega
theorem shortS_size (s : ByteArray) (B : Nat) (h : s.size ≤ B) : (shortS s).size ≤ 2 * B + 1 := by rw [(shortS_is s).size]; have := Batches.short_len s; omega
end Go.Proofs.Ytlmjhobijgmolaa
