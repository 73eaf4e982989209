/- The call of the program's ShortText, walked. Texts by their bytes; varOf, walked. The calls of both ReadVar, walked. The call of the specification's ReadVar, walked. Both ReadVar at every text and every place, and the law over them, walked. The call of the specification's BatchText, walked. -/
import Derived.Test.YtddmogggdckneaaVar
import Derived.Test.YtddmogggdckneaaMathBatch
import Derived.Deep.RegionWith
import Derived.Deep.QuietTactic
import Derived.BigQuiet
import Derived.Deep.RegionHeld3
namespace Go.Proofs.Ytddmogggdckneaa
section
open Go.RowKit

theorem var_size (n : Nat) : (⟨(Words.var n).toArray⟩ : ByteArray).size ≤ n + 1 := by
  have := Words.var_len n
  simpa [ByteArray.size] using this
end
section
open Go.RowKit

theorem app_list (a b : ByteArray) : (a ++ b).data.toList = a.data.toList ++ b.data.toList := by simp
/-- A text of these bytes. -/
def Is (S : ByteArray) (l : List UInt8) : Prop := S.data.toList = l
theorem Is.app {S T : ByteArray} {l m : List UInt8} (h1 : Is S l) (h2 : Is T m) : Is (S ++ T) (l ++ m) := by
  unfold Is at *; rw [app_list, h1, h2]
theorem Is.size {S : ByteArray} {l : List UInt8} (h : Is S l) : S.size = l.length := by unfold Is at h; rw [← h]; rfl
theorem Is.eq {S : ByteArray} {l : List UInt8} (h : Is S l) : S = ⟨l.toArray⟩ := by
  unfold Is at h
  cases S; simp at h; subst h; simp
theorem Is.mk (l : List UInt8) : Is ⟨l.toArray⟩ l := rfl

theorem Is.of {S : ByteArray} {l : List UInt8} (h : Is S l) : (⟨l.toArray⟩ : ByteArray) = S := h.eq.symm
def varS (x : Int) : ByteArray := ⟨(Words.var x.toNat).toArray⟩
def shortS (s : ByteArray) : ByteArray := ⟨(Batches.short s).toArray⟩
def flagS (g : Bool) : ByteArray := ⟨#[Batches.flag g]⟩
theorem varS_is (x : Int) : Is (varS x) (Words.var x.toNat) := rfl
theorem shortS_is (s : ByteArray) : Is (shortS s) (Batches.short s) := rfl
theorem flagS_is (g : Bool) : Is (flagS g) [Batches.flag g] := rfl
theorem varS_size (x : Int) (B : Nat) (h : x ≤ B) : (varS x).size ≤ B + 1 := by rw [(varS_is x).size]; have := Words.var_len x.toNat; omega
theorem shortS_size (s : ByteArray) (B : Nat) (h : s.size ≤ B) : (shortS s).size ≤ 2 * B + 1 := by rw [(shortS_is s).size]; have := Batches.short_len s; omega
theorem flagS_size (g : Bool) : (flagS g).size = 1 := rfl
/-- The text as far as the k-th change. -/
def Upto (st : Int) (l : List ChangeL) (k : Nat) (S : ByteArray) : Prop := Is S (Words.var st.toNat ++ (Words.var l.length ++ Batches.many (l.take k)))
theorem upto_zero (st : Int) (l : List ChangeL) : Upto st l 0 (varS st ++ varS l.length) := by
  have := (varS_is st).app (varS_is l.length)
  unfold Upto
  simpa [Batches.many] using this
theorem upto_step {st : Int} {l : List ChangeL} {k : Nat} {S A V T : ByteArray} {G : Bool} (hk : k < l.length) (h : Upto st l k S) (he : l[k] = ⟨A, V, G⟩) (hT : Is T (Batches.one ⟨A, V, G⟩)) : Upto st l (k + 1) (S ++ T) := by
  have := Is.app h hT
  unfold Upto
  rw [Batches.many_take hk, he]
  simpa using this
theorem one_is (A V : ByteArray) (G : Bool) : Is (shortS A ++ flagS G ++ shortS V) (Batches.one ⟨A, V, G⟩) := by
  have := ((shortS_is A).app (flagS_is G)).app (shortS_is V)
  unfold Batches.one
  simpa using this
theorem upto_all {st : Int} {l : List ChangeL} {k : Nat} {S : ByteArray} (hk : l.length ≤ k) (h : Upto st l k S) : S = ⟨(Batches.text st.toNat l).toArray⟩ := by
  unfold Upto at h
  rw [List.take_of_length_le hk] at h
  exact h.eq
end
section
open Go.RowKit

def rdTuple : Option (Nat × Nat) → Value
  | none => .tuple #[.int .i64 0, .int .i64 0, .bool false]
  | some p => .tuple #[.int .i64 (p.1 : Int), .int .i64 (p.2 : Int), .bool true]

theorem rdT_none {l : List UInt8} {a : Nat} (h : none = Words.rdF 5 (l.drop a) 0 0) : rdTuple none = rdTuple (Words.rd l a) := by rw [Words.rd_none h.symm]
theorem rdT_some {l : List UInt8} {a n k : Nat} (h : some (n, k) = Words.rdF 5 (l.drop a) 0 0) : Value.tuple #[.int .i64 (n : Int), .int .i64 ((a + k : Nat) : Int), .bool true] = rdTuple (Words.rd l a) := by rw [Words.rd_some h.symm]; rfl

theorem ret3_num {x y x' y' : Int} (h1 : x = x') (h2 : y = y') : Ending.returned (.tuple #[.int .i64 x, .int .i64 y, .bool true]) = .returned (.tuple #[.int .i64 x', .int .i64 y', .bool true]) := by rw [h1, h2]

end
section
open Go.RowKit

theorem neq_of {s : ByteArray} {a k N : Nat} {x : Int} {Z : Prop} (hx : x = (N : Int)) (hX : Words.var N = (s.data.toList.drop a).take (k + 1) ↔ ¬ Z) :
    ((!(Words.var x.toNat == (s.extract a (a + k + 1)).toList)) = true → Z) ∧ ((!(Words.var x.toNat == (s.extract a (a + k + 1)).toList)) = false → ¬ Z) := by
  have hl : (s.extract a (a + k + 1)).toList = (s.data.toList.drop a).take (k + 1) := by
    have := Words.extract_list s a (a + k + 1)
    rw [show a + k + 1 - a = k + 1 from by omega] at this
    rw [← this]
    exact ByteArray.toList_eq _
  rw [hx, Int.toNat_natCast, hl]
  constructor
  · intro h
    refine Classical.byContradiction fun hz => ?_
    rw [hX.2 hz] at h
    simp at h
  · intro h
    refine hX.1 ?_
    simpa using h

end
section
open Go.RowKit

def rdZ (s : ByteArray) (x : Int) : Option (Nat × Nat) := if 0 ≤ x ∧ x ≤ s.size then Words.rd s.data.toList x.toNat else none

end
section
open Go.RowKit

end
end Go.Proofs.Ytddmogggdckneaa
