/- The exact law of Unframe, walked: it answers true at every file. -/
import Derived.Test.YtinhgonmdnbdiaaSpecUn
namespace Go.Proofs.Ytinhgonmdnbdiaa
open Go.RowKit

/-- What Unframe answers. -/
def unS (s : ByteArray) : List (List UInt8) := if s.size ≤ 20000 then Words.un (s.size + 1) s.data.toList 0 else []
def unE (s : ByteArray) : Nat := if s.size ≤ 20000 then Words.stop (s.size + 1) s.data.toList 0 else 0
theorem unS_len (s : ByteArray) : (unS s).length ≤ 20000 := by
  unfold unS
  split
  · have := @un_long s; omega
  · simp
def UnPost (ps : List (List UInt8)) (z : Nat) (w : World) (e : Ending) (w' : World) : Prop := ∃ v, e = .returned (.tuple #[v, .int .i64 (z : Int)]) ∧ w'.ownsRow w.heap.size 9 1 v ps.length (cellsS ps) ∧ Below w.heap.size w w'
theorem implUn_any (s : ByteArray) (hs : s.size ≤ maxLen) (w : World) : Calls Try.prog 58 #[.string s] w fun e w' => UnPost (unS s) (unE s) w e w' := by
  by_cases h : s.size ≤ 20000
  · have := implUn_is s h w
    unfold unS unE
    rw [if_pos h, if_pos h]
    exact this
  · unfold unS unE
    rw [if_neg h, if_neg h]
    refine (implUn_big s (by omega) hs w).mono ?_
    rintro e w' ⟨rfl, hb⟩
    exact ⟨_, rfl, World.ownsRow_nil _ _ _ _, hb⟩
theorem specUn_any (s : ByteArray) (hs : s.size ≤ maxLen) (w : World) : Calls Try.prog 26 #[.string s] w fun e w' => UnPost (unS s) (unE s) w e w' := by
  by_cases h : s.size ≤ 20000
  · have := specUn_is s h w
    unfold unS unE
    rw [if_pos h, if_pos h]
    exact this
  · unfold unS unE
    rw [if_neg h, if_neg h]
    exact specUn_big s (by omega) hs w
theorem apart_blocks {w w1 : World} {va vb : Value} {n m : Nat} {xs ys : List Value} {B C : Nat} (ha : w.ownsRow B 9 1 va n xs) (hb : w1.ownsRow C 9 1 vb m ys) (h : w.heap.size ≤ C) : va.ownBlock = none ∨ va.ownBlock ≠ vb.ownBlock := by
  cases e : va.ownBlock with
  | none => exact Or.inl rfl
  | some k =>
    refine Or.inr fun e2 => ?_
    have h1 := (ha.lt k e).2
    have h2 := (hb.lt k e2.symm).1
    omega

end Go.Proofs.Ytinhgonmdnbdiaa
