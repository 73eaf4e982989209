/- Raw writes copied and measured; disks marked and found marked: szRaw, toRaw, markDisk, heldDisk, walked. -/
import Derived.Test.YtpkkejpidlkmnaaMark
import Derived.Test.YtpkkejpidlkmnaaMathRaw
import Derived.Test.YtpkkejpidlkmnaaSz
namespace Go.Proofs.Ytpkkejpidlkmnaa
open Go.RowKit

def rawV (r : Disks.RawL) : Value := .agg #[.int .i64 r.kind, .string r.name, .string r.to, .string r.text]
def totR (r : Disks.RawL) : Nat := r.name.size + r.to.size + r.text.size

set_option maxHeartbeats 1000000 in
theorem szRaw_is (r : Disks.RawL) (hr : r.name.size ≤ maxLen ∧ r.to.size ≤ maxLen ∧ r.text.size ≤ maxLen) (left : Nat) (hl : left ≤ 1048576) (w : World) :
    Calls Try.prog 26 #[rawV r, .int .i64 (left : Int)] w fun e w' => ∃ x : Int, e = .returned (.int .i64 x) ∧ Left left (totR r) x ∧ Below w.heap.size w w' := by
  obtain ⟨K, N, O, X⟩ := r
  obtain ⟨h1, h2, h3⟩ := hr
  unfold maxLen at h1 h2 h3
  simp only at h1 h2 h3
  unfold rawV totR
  go_enter Try.func26, Try.ntmps26
  go_wp2
  · go_ret
    exact ⟨_, rfl, Or.inr ⟨by omega, rfl⟩, (Below.refl _ _).alloc (Nat.le_refl _) _⟩
  · go_ret
    exact ⟨_, rfl, Or.inr ⟨by omega, rfl⟩, (Below.refl _ _).alloc (Nat.le_refl _) _⟩
  · go_ret
    exact ⟨_, rfl, Or.inr ⟨by omega, rfl⟩, (Below.refl _ _).alloc (Nat.le_refl _) _⟩
  · go_ret
    exact ⟨_, rfl, Or.inl ⟨by omega, by omega⟩, (Below.refl _ _).alloc (Nat.le_refl _) _⟩

set_option maxHeartbeats 1000000 in
theorem toRaw_is (r : Disks.RawL) (w : World) :
    Calls Try.prog 28 #[rawV r] w fun e w' => e = .returned (rawV r) ∧ Below w.heap.size w w' := by
  obtain ⟨K, N, O, X⟩ := r
  unfold rawV
  go_enter Try.func28, Try.ntmps28
  go_wp2
  refine bodyPost_ret (v := .agg #[.int .i64 K, .string N, .string O, .string X]) (by simp [results, Try.results28, go_sem]) rfl ⟨rfl, ?_⟩
  exact (((Below.refl _ _).alloc (Nat.le_refl _) _).alloc (by simp) _).alloc (by simp; omega) _

set_option maxHeartbeats 1000000 in
theorem markFileS_nil (k : Nat) (w : World) :
    Calls Try.prog 62 #[.slice none 0 0, .int .i64 (k : Int)] w fun e w' => e = .returned (.int .i64 (k : Int)) ∧ w = w' := by
  go_enter Try.func62, Try.ntmps62
  go_wp2
  refine wp_loop_rounds 1 ?_
  rw [rounds_succ]
  go_wp2
  go_ret
  exact ⟨rfl, rfl⟩

/-- Files of the call's own, marked. -/
theorem markFileS_own {B : Nat} {v : Value} (l : List FileL) (hlen : l.length ≤ 1048576) (w : World) (hA : w.ownsRow B 68 2 v l.length (cellsF l)) :
    Calls Try.prog 62 #[v, .int .i64 1] w fun e w' => e = .returned (.int .i64 ((1 + 2 * l.length : Nat) : Int)) ∧ w'.ownsRow B 68 2 v l.length (cellsF (marksF 1 l.length)) ∧ w.grownBy w' v.ownBlock := by
  rcases hA.2 with ⟨h1, h2⟩ | ⟨g, cap, cur, h1, _⟩
  · subst h1
    have hl : l = [] := List.length_eq_zero_iff.1 h2
    subst hl
    refine (markFileS_nil 1 w).mono ?_
    rintro e w' ⟨rfl, rfl⟩
    exact ⟨rfl, World.ownsRow_nil _ _ _ _, World.grownBy.refl _ _⟩
  · subst h1
    exact markFileS_is l hlen 1 (by omega) (by omega) w hA

set_option maxHeartbeats 1000000 in
theorem markDisk_own {B : Nat} {v : Value} (l : List FileL) (hlen : l.length ≤ 1048576) (w : World) (hA : w.ownsRow B 68 2 v l.length (cellsF l)) :
    Calls Try.prog 30 #[.agg #[v], .int .i64 1] w fun e w' => e = .returned (.int .i64 ((1 + 2 * l.length : Nat) : Int)) ∧ w'.ownsRow B 68 2 v l.length (cellsF (marksF 1 l.length)) ∧ w.grownBy w' v.ownBlock := by
  obtain ⟨va, vc, rfl⟩ : ∃ a c, v = .slice a l.length c := by
    rcases hA.2 with ⟨h1, h2⟩ | ⟨g, cap, cur, h1, _⟩
    · exact ⟨_, _, by rw [h1, h2]⟩
    · exact ⟨_, _, h1⟩
  have HA : Hid ((w.alloc (.cells #[.slice va l.length vc] 34)).ownsRow B 68 2 (.slice va l.length vc) l.length (cellsF l)) := hA.alloc _
  have HG : Hid (w.grownBy (w.alloc (.cells #[.slice va l.length vc] 34)) (Value.slice va l.length vc).ownBlock) := World.grownBy_alloc w _ _
  clear hA
  go_enter Try.func30, Try.ntmps30
  go_wp2_with fail
  refine (markFileS_own l hlen _ HA.out).mono ?_
  rintro e w1 ⟨rfl, h1, h2⟩
  have HG1 := HG.out.trans h2
  clear h2
  go_wp2
  go_ret
  exact ⟨rfl, h1, HG1⟩

set_option maxHeartbeats 1000000 in
theorem heldDisk_is {a : Option Addr} {g off cap : Nat} (n : Nat) (hlen : n ≤ 1048576) (w : World) (hf : FilesAt w a g off (marksF 1 n)) :
    Calls Try.prog 31 #[.agg #[.slice a n cap], .int .i64 1] w fun e w' => e = .returned (.int .i64 ((1 + 2 * n : Nat) : Int)) ∧ Below w.heap.size w w' := by
  have HB : Hid (Below w.heap.size w (w.alloc (.cells #[.slice a n cap] 34))) := (Below.refl _ _).alloc (Nat.le_refl _) _
  have HF : Hid (FilesAt (w.alloc (.cells #[.slice a n cap] 34)) a g off (marksF 1 n)) := hf.kept HB.out
  clear hf
  obtain ⟨M, hM⟩ : ∃ M : Nat, M = 1 + 2 * n := ⟨_, rfl⟩
  have HC : Hid (∀ wx : World, FilesAt wx a g off (marksF 1 n) → Calls Try.prog 63 #[.slice a n cap, .int .i64 1] wx fun e w' => e = .returned (.int .i64 (M : Int)) ∧ Below wx.heap.size wx w') := fun wx h => by
    rw [hM]; exact heldFileS_is n hlen 1 (by omega) (by omega) wx h
  rw [← hM]
  clear hM
  go_enter Try.func31, Try.ntmps31
  go_wp2_with fail
  refine (HC.out _ HF.out).mono ?_
  rintro e w1 ⟨rfl, hb1⟩
  have hB1 := HB.out.trans (hb1.mono HB.out.size)
  clear hb1
  go_wp2
  go_ret
  exact ⟨rfl, hB1⟩
end Go.Proofs.Ytpkkejpidlkmnaa
