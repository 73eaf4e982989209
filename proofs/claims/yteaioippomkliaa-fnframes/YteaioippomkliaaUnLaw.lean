/- The exact law of Unframe, walked: it answers true at every file. -/
import Derived.Test.YteaioippomkliaaSpecUn
namespace Go.Proofs.Yteaioippomkliaa
open Go.RowKit

/-- What Unframe answers. -/
def unS (s : ByteArray) : List (List UInt8) := if s.size ≤ 20000 then Words.un (s.size + 1) s.data.toList 0 else []
def unE (s : ByteArray) : Nat := if s.size ≤ 20000 then Words.stop (s.size + 1) s.data.toList 0 else 0
theorem unS_len (s : ByteArray) : (unS s).length ≤ 20000 := by
  unfold unS
  split
  · have := @un_long s; omega
  · simp
def UnPost (ps : List (List UInt8)) (z : Nat) (w : World) (e : Ending) (w' : World) : Prop := ∃ v, e = .returned (.tuple #[v, .int .i64 (z : Int)]) ∧ w'.ownsRow w.heap.size 9 1 v ps.length (cellsS ps) ∧ Below w.heap.size w w'
theorem implUn_any (s : ByteArray) (hs : s.size ≤ maxLen) (w : World) : Calls Try.prog 11 #[.string s] w fun e w' => UnPost (unS s) (unE s) w e w' := by
  by_cases h : s.size ≤ 20000
  · have := implUn_is s h w
    unfold unS unE
    rw [if_pos h, if_pos h]
    exact this
  · unfold unS unE
    rw [if_neg h, if_neg h]
    refine (implUn_big s (by omega) hs w).mono ?_
    rintro e w' ⟨rfl, hb⟩
    exact ⟨_, rfl, World.ownsRow_nil _ _ _ _, hb⟩
theorem specUn_any (s : ByteArray) (hs : s.size ≤ maxLen) (w : World) : Calls Try.prog 14 #[.string s] w fun e w' => UnPost (unS s) (unE s) w e w' := by
  by_cases h : s.size ≤ 20000
  · have := specUn_is s h w
    unfold unS unE
    rw [if_pos h, if_pos h]
    exact this
  · unfold unS unE
    rw [if_neg h, if_neg h]
    exact specUn_big s (by omega) hs w
theorem apart_blocks {w w1 : World} {va vb : Value} {n m : Nat} {xs ys : List Value} {B C : Nat} (ha : w.ownsRow B 9 1 va n xs) (hb : w1.ownsRow C 9 1 vb m ys) (h : w.heap.size ≤ C) : va.ownBlock = none ∨ va.ownBlock ≠ vb.ownBlock := by
  cases e : va.ownBlock with
  | none => exact Or.inl rfl
  | some k =>
    refine Or.inr fun e2 => ?_
    have h1 := (ha.lt k e).2
    have h2 := (hb.lt k e2.symm).1
    omega

set_option maxHeartbeats 1000000 in
set_option maxRecDepth 100000 in
theorem lawUn_any (s : ByteArray) (hs : s.size ≤ maxLen) (w : World) :
    Calls Try.prog 5 #[.string s] w fun e w' => e = .returned (.bool true) ∧ Below w.heap.size w w' := by
  by_cases hbig : 1048576 < s.size
  · have hs2 : s.size ≤ 9223372036854775807 := hs
    clear hs
    go_enter Try.func5, Try.ntmps5
    go_wp2
    go_ret
    exact ⟨rfl, Below.refl _ _⟩
  · have HI : Hid (∀ w, Calls Try.prog 11 #[.string s] w fun e w' => UnPost (unS s) (unE s) w e w') := fun w => implUn_any s hs w
    have HS : Hid (∀ w, Calls Try.prog 14 #[.string s] w fun e w' => UnPost (unS s) (unE s) w e w') := fun w => specUn_any s hs w
    have hlen := unS_len s
    generalize unS s = ps at HI HS hlen
    generalize unE s = z at HI HS
    have hz : s.size ≤ 1048576 := by omega
    clear hs hbig
    go_enter Try.func5, Try.ntmps5
    go_wp2_with fail
    refine (HS.out _).mono ?_
    rintro e w1 ⟨vw, rfl, how1, hb1⟩
    go_wp2_with fail
    refine (HI.out _).mono ?_
    rintro e w2 ⟨vg, rfl, hog2, hb2⟩
    have how2 := how1.kept (grown_of hb2 none) (Classical.em _)
    have hap := apart_blocks how1 hog2 (Nat.le_refl _)
    have hB2 : Below w.heap.size w w2 := hb1.trans (hb2.mono hb1.size)
    have hsz1 := hb1.size
    clear how1 hb1 hb2
    go_wp2_with fail
    refine (eq_any hlen _ hog2 how2).mono ?_
    rintro e w3 ⟨rfl, hh3, hb3⟩
    have how3 := own_heap how2 hh3
    have hog3 := own_heap hog2 hh3
    have hB3 : Below w.heap.size w w3 := hB2.trans (hb3.mono hB2.size)
    clear how2 hog2 hh3 hb3
    go_wp2_with fail
    refine (mark_any (n := ps.length) rfl hlen _ hog3).mono ?_
    rintro e w4 ⟨rfl, hog4, hgr4⟩
    have how4 := how3.kept hgr4 hap
    have hB4 : Below w.heap.size w w4 := hB3.grown hgr4 hB3.size (fun k hk => Nat.le_trans hsz1 (hog3.lt k hk).1)
    clear how3 hog3 hgr4 hB3 hap
    go_wp2_with fail
    refine (held_any hlen _ hog4).mono ?_
    rintro e w5 ⟨rfl, hb5⟩
    have how5 := how4.kept (grown_of hb5 none) (Classical.em _)
    have hog5 := hog4.kept (grown_of hb5 none) (Classical.em _)
    have hB5 : Below w.heap.size w w5 := hB4.trans (hb5.mono hB4.size)
    clear how4 hog4 hb5 hB4
    have hq : ¬ ((ps.length : Int) + 1) < 0 := by omega
    go_wp2_with fail
    refine (HI.out _).mono ?_
    rintro e w6 ⟨vh, rfl, hoh6, hb6⟩
    have how6 := how5.kept (grown_of hb6 none) (Classical.em _)
    have hog6 := hog5.kept (grown_of hb6 none) (Classical.em _)
    have hB6 : Below w.heap.size w w6 := hB5.trans (hb6.mono hB5.size)
    clear how5 hog5 hb6 hB5
    go_wp2_with fail
    refine (eq_any hlen _ hoh6 how6).mono ?_
    rintro e w7 ⟨rfl, hh7, hb7⟩
    have hog7 := own_heap hog6 hh7
    have hB7 : Below w.heap.size w w7 := hB6.trans (hb7.mono hB6.size)
    clear hoh6 how6 hog6 hh7 hb7 hB6
    go_wp2_with fail
    refine (held_any hlen _ hog7).mono ?_
    rintro e w8 ⟨rfl, hb8⟩
    have hB8 : Below w.heap.size w w8 := hB7.trans (hb8.mono hB7.size)
    go_wp2
    go_ret
    exact ⟨rfl, hB8⟩
end Go.Proofs.Yteaioippomkliaa
