/- Raw writes copied and measured; disks marked and found marked: szRaw, toRaw, markDisk, heldDisk, walked. -/
import Derived.Test.YthcfnofhdbjemaaGreatDoorDiskMark
namespace Go.Proofs.YthcfnofhdbjemaaGreatDoor
open Go.RowKit


set_option maxHeartbeats 1000000 in
theorem markFileS_nil (k : Nat) (w : World) :
    Calls Tryz.prog 19 #[.slice none 0 0, .int .i64 (k : Int)] w fun e w' => e = .returned (.int .i64 (k : Int)) ∧ w = w' := by
  go_enter Tryz.func19, Tryz.ntmps19
  go_wp2
  refine wp_loop_rounds 1 ?_
  rw [rounds_succ]
  go_wp2
  go_ret
  exact ⟨rfl, rfl⟩

/-- Files of the call's own, marked. -/
theorem markFileS_own {B : Nat} {v : Value} (l : List FileL) (hlen : l.length ≤ 1048576) (w : World) (hA : w.ownsRow B 41 2 v l.length (cellsF l)) :
    Calls Tryz.prog 19 #[v, .int .i64 1] w fun e w' => e = .returned (.int .i64 ((1 + 2 * l.length : Nat) : Int)) ∧ w'.ownsRow B 41 2 v l.length (cellsF (marksF 1 l.length)) ∧ w.grownBy w' v.ownBlock := by
  rcases hA.2 with ⟨h1, h2⟩ | ⟨g, cap, cur, h1, _⟩
  · subst h1
    have hl : l = [] := List.length_eq_zero_iff.1 h2
    subst hl
    refine (markFileS_nil 1 w).mono ?_
    rintro e w' ⟨rfl, rfl⟩
    exact ⟨rfl, World.ownsRow_nil _ _ _ _, World.grownBy.refl _ _⟩
  · subst h1
    exact markFileS_is l hlen 1 (by omega) (by omega) w hA

set_option maxHeartbeats 1000000 in
theorem markDisk_own {B : Nat} {v : Value} (l : List FileL) (hlen : l.length ≤ 1048576) (w : World) (hA : w.ownsRow B 41 2 v l.length (cellsF l)) :
    Calls Tryz.prog 10 #[.agg #[v], .int .i64 1] w fun e w' => e = .returned (.int .i64 ((1 + 2 * l.length : Nat) : Int)) ∧ w'.ownsRow B 41 2 v l.length (cellsF (marksF 1 l.length)) ∧ w.grownBy w' v.ownBlock := by
  obtain ⟨va, vc, rfl⟩ : ∃ a c, v = .slice a l.length c := by
    rcases hA.2 with ⟨h1, h2⟩ | ⟨g, cap, cur, h1, _⟩
    · exact ⟨_, _, by rw [h1, h2]⟩
    · exact ⟨_, _, h1⟩
  have HA : Hid ((w.alloc (.cells #[.slice va l.length vc] 25)).ownsRow B 41 2 (.slice va l.length vc) l.length (cellsF l)) := hA.alloc _
  have HG : Hid (w.grownBy (w.alloc (.cells #[.slice va l.length vc] 25)) (Value.slice va l.length vc).ownBlock) := World.grownBy_alloc w _ _
  clear hA
  go_enter Tryz.func10, Tryz.ntmps10
  go_wp2_with fail
  refine (markFileS_own l hlen _ HA.out).mono ?_
  rintro e w1 ⟨rfl, h1, h2⟩
  have HG1 := HG.out.trans h2
  clear h2
  go_wp2
  go_ret
  exact ⟨rfl, h1, HG1⟩

set_option maxHeartbeats 1000000 in
theorem heldDisk_is {a : Option Addr} {g off cap : Nat} (n : Nat) (hlen : n ≤ 1048576) (w : World) (hf : FilesAt w a g off (marksF 1 n)) :
    Calls Tryz.prog 11 #[.agg #[.slice a n cap], .int .i64 1] w fun e w' => e = .returned (.int .i64 ((1 + 2 * n : Nat) : Int)) ∧ Below w.heap.size w w' := by
  have HB : Hid (Below w.heap.size w (w.alloc (.cells #[.slice a n cap] 25))) := (Below.refl _ _).alloc (Nat.le_refl _) _
  have HF : Hid (FilesAt (w.alloc (.cells #[.slice a n cap] 25)) a g off (marksF 1 n)) := hf.kept HB.out
  clear hf
  obtain ⟨M, hM⟩ : ∃ M : Nat, M = 1 + 2 * n := ⟨_, rfl⟩
  have HC : Hid (∀ wx : World, FilesAt wx a g off (marksF 1 n) → Calls Tryz.prog 20 #[.slice a n cap, .int .i64 1] wx fun e w' => e = .returned (.int .i64 (M : Int)) ∧ Below wx.heap.size wx w') := fun wx h => by
    rw [hM]; exact heldFileS_is n hlen 1 (by omega) (by omega) wx h
  rw [← hM]
  clear hM
  go_enter Tryz.func11, Tryz.ntmps11
  go_wp2_with fail
  refine (HC.out _ HF.out).mono ?_
  rintro e w1 ⟨rfl, hb1⟩
  have hB1 := HB.out.trans (hb1.mono HB.out.size)
  clear hb1
  go_wp2
  go_ret
  exact ⟨rfl, hB1⟩
end Go.Proofs.YthcfnofhdbjemaaGreatDoor
