/- The exact law of BatchText, walked. -/
import Derived.Test.YtinhgonmdnbdiaaSpecText
import Derived.Test.YtinhgonmdnbdiaaOkLaw
import Derived.Deep.RegionHeld3
namespace Go.Proofs.Ytinhgonmdnbdiaa
open Go.RowKit

/-- What BatchText is to answer. -/
def Txt (st : Int) (l : List ChangeL) (S : ByteArray) (R : Bool) : Prop := (Batches.ok st l ∧ S = ⟨(Batches.text st.toNat l).toArray⟩ ∧ R = true) ∨ (¬ Batches.ok st l ∧ S = ⟨#[]⟩ ∧ R = false)
theorem txt_ex (st : Int) (l : List ChangeL) : ∃ S R, Txt st l S R := by
  by_cases h : Batches.ok st l
  · exact ⟨_, _, Or.inl ⟨h, rfl, rfl⟩⟩
  · exact ⟨_, _, Or.inr ⟨h, rfl, rfl⟩⟩
theorem specText_any {st : Int} {l : List ChangeL} {S : ByteArray} {R : Bool} (hT : Txt st l S R) {a : Option Addr} {g off cap : Nat} (hlen : l.length ≤ 2097152) (w : World) (hf : ChangeAt w a g off l) (hsz : ∀ c ∈ l, smallChange 2097152 c) :
    Calls Try.prog 55 #[.agg #[.int .i64 st, .slice a l.length cap]] w fun e w' => e = .returned (.tuple #[.string S, .bool R]) ∧ Below w.heap.size w w' := by
  rcases hT with ⟨h, rfl, rfl⟩ | ⟨h, rfl, rfl⟩
  · exact specText_yes st l hlen w hf hsz h
  · exact specText_no st l hlen w hf hsz h
end Go.Proofs.Ytinhgonmdnbdiaa
