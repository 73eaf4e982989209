/- The call of the program's ReadShort, walked. -/
import Derived.Test.YtinhgonmdnbdiaaReadLaw
import Derived.Test.YtinhgonmdnbdiaaClone
namespace Go.Proofs.Ytinhgonmdnbdiaa
open Go.RowKit

set_option maxHeartbeats 400000 in
theorem implRS_none {s : ByteArray} {x : Int} (hs : s.size ≤ 1048576) (h : rdZ s x = none) (w : World) :
    Calls Try.prog 105 #[.string s, .int .i64 x] w fun e w' => e = .returned (.tuple #[.string ⟨#[]⟩, .int .i64 0, .bool false]) ∧ Below w.heap.size w w' := by
  have HR : Hid (_ = _) := h
  clear h
  go_enter Try.func105, Try.ntmps105
  go_wp2_with (go_at_call 104; refine (implRead_none hs HR.out _).mono ?_; rintro e w1 ⟨rfl, rfl⟩)
  go_ret3
  exact ⟨rfl, Below.refl _ _⟩
set_option maxHeartbeats 400000 in
theorem implRS_no {s : ByteArray} {x : Int} {n k : Nat} (hs : s.size ≤ 1048576) (h : rdZ s x = some (n, k)) (hk : k ≤ s.size) (hn : 20000 < n ∨ s.size < k + n) (hn2 : n ≤ 1000000000) (w : World) :
    Calls Try.prog 105 #[.string s, .int .i64 x] w fun e w' => e = .returned (.tuple #[.string ⟨#[]⟩, .int .i64 0, .bool false]) ∧ Below w.heap.size w w' := by
  have HR : Hid (_ = _) := h
  clear h
  by_cases h1 : 20000 < n
  · clear hn
    go_enter Try.func105, Try.ntmps105
    go_wp2_with (go_at_call 104; refine (implRead_some hs HR.out _).mono ?_; rintro e w1 ⟨rfl, rfl⟩)
    go_ret3
    exact ⟨rfl, Below.refl _ _⟩
  · have h2 : (s.size : Int) - (k : Int) < (n : Int) := by omega
    clear hn
    go_enter Try.func105, Try.ntmps105
    go_wp2_with (go_at_call 104; refine (implRead_some hs HR.out _).mono ?_; rintro e w1 ⟨rfl, rfl⟩)
    go_ret3
    exact ⟨rfl, Below.refl _ _⟩
set_option maxHeartbeats 400000 in
theorem implRS_yes {s : ByteArray} {x : Int} {n k : Nat} (hs : s.size ≤ 1048576) (h : rdZ s x = some (n, k)) (hn : n ≤ 20000) (hk : k + n ≤ s.size) (w : World) :
    Calls Try.prog 105 #[.string s, .int .i64 x] w fun e w' => e = .returned (.tuple #[.string (s.extract k (k + n)), .int .i64 ((k : Int) + (n : Int)), .bool true]) ∧ Below w.heap.size w w' := by
  have HR : Hid (_ = _) := h
  clear h
  have hsl : ∀ wx, (Instr.slice 9 (.string s) (some (.int .i64 (k : Int))) (some (.int .i64 ((k : Int) + (n : Int)))) none).run Try.prog wx = .ok (.string (s.extract k (k + n))) wx := fun wx => by
    rw [run_slice_string wx 9 s .i64 .i64 _ _ Try.underlying9 (by omega) (by omega) (by omega)]
    congr 2
  have hx : (s.extract k (k + n)).size ≤ 281474976710656 := by rw [ByteArray.size_extract]; omega
  have h2 : ¬ (s.size : Int) - (k : Int) < (n : Int) := by omega
  go_enter Try.func105, Try.ntmps105
  go_wp2_with (first | (go_at_call 104; refine (implRead_some hs HR.out _).mono ?_; rintro e w1 ⟨rfl, rfl⟩) | (go_at_call 63; refine (clone_any _ hx _).mono ?_; rintro e w2 ⟨rfl, hb2⟩))
  go_ret3
  exact ⟨rfl, hb2⟩

/-- A number that is read is none too great, and its place is within the text. -/
theorem rdF_in : ∀ (f : Nat) (l : List UInt8) (k n N K : Nat), Words.rdF f l k n = some (N, K) → N ≤ 1000000000 ∧ K ≤ k + l.length
  | 0, _, _, _, _, _, h => by simp [Words.rdF] at h
  | _ + 1, [], _, _, _, _, h => by simp [Words.rdF] at h
  | f + 1, b :: r, k, n, N, K, h => by
    rw [Words.rdF] at h
    split at h
    · split at h
      · simp at h
      · rename_i hz
        simp only [Option.some.injEq, Prod.mk.injEq] at h
        obtain ⟨rfl, rfl⟩ := h
        simp only [not_or, Nat.not_lt] at hz
        exact ⟨hz.1, by simp⟩
    · have := rdF_in f r (k + 1) _ N K h
      simp only [List.length_cons]
      omega
theorem rdZ_in {s : ByteArray} {x : Int} {n k : Nat} (h : rdZ s x = some (n, k)) : n ≤ 1000000000 ∧ k ≤ s.size := by
  unfold rdZ at h
  split at h
  · rename_i hx
    unfold Words.rd at h
    rcases hr : Words.rdF 5 (s.data.toList.drop x.toNat) 0 0 with _ | ⟨N, K⟩
    · simp [hr] at h
    · simp only [hr, Option.map_some, Option.some.injEq, Prod.mk.injEq] at h
      have := rdF_in _ _ _ _ _ _ hr
      rw [List.length_drop, Words.size_list] at this
      omega
  · simp at h

end Go.Proofs.Ytinhgonmdnbdiaa
