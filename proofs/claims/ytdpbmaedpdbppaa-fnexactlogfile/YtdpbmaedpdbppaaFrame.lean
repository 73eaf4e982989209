/- The calls of both Frame: they answer with the bytes of the length, of the sum and of the text, and leave old memory as it was; for every text. -/
import Derived.Test.YtdpbmaedpdbppaaImplSeal
import Derived.Test.YtdpbmaedpdbppaaMathFrame
namespace Go.Proofs.Ytdpbmaedpdbppaa
open Go.RowKit

set_option maxHeartbeats 400000 in
theorem sizeOk_yes (x : Int) (h : 1 ≤ x ∧ x ≤ 9000) (w : World) :
    Calls Try.prog 107 #[.int .i64 x] w fun e w' => e = .returned (.bool true) ∧ w' = w := by
  obtain ⟨h1, h2⟩ := h
  go_enter Try.func107, Try.ntmps107
  go_wp2
  go_ret
  exact ⟨rfl, rfl⟩
set_option maxHeartbeats 400000 in
theorem sizeOk_no (x : Int) (h : ¬ (1 ≤ x ∧ x ≤ 9000)) (w : World) :
    Calls Try.prog 107 #[.int .i64 x] w fun e w' => e = .returned (.bool false) ∧ w' = w := by
  by_cases h1 : 1 ≤ x
  · have h2 : ¬ x ≤ 9000 := fun h3 => h ⟨h1, h3⟩
    go_enter Try.func107, Try.ntmps107
    go_wp2
    go_ret
    exact ⟨rfl, rfl⟩
  · go_enter Try.func107, Try.ntmps107
    go_wp2
    go_ret
    exact ⟨rfl, rfl⟩

/-- The frame of a text. -/
def frameB (s : ByteArray) : ByteArray := (⟨(Words.var s.size).toArray⟩ : ByteArray) ++ (⟨(Sums.four (Sums.sumOf s.data.toList)).toArray⟩ : ByteArray) ++ s
def frameTuple (s : ByteArray) : Value := .tuple #[.string (frameB s), .bool true]

theorem varB_size (n : Nat) : (⟨(Words.var n).toArray⟩ : ByteArray).size ≤ n + 1 := by
  have := Words.var_len n
  simpa [ByteArray.size] using this

set_option maxHeartbeats 400000 in
theorem implFrame_no (s : ByteArray) (hs : s.size ≤ maxLen) (h : ¬ (1 ≤ s.size ∧ s.size ≤ 9000)) (w : World) :
    Calls Try.prog 82 #[.string s] w fun e w' => e = .returned (.tuple #[.string ⟨#[]⟩, .bool false]) ∧ Below w.heap.size w w' := by
  unfold maxLen at hs
  go_enter Try.func82, Try.ntmps82
  go_wp2_with (go_at_call 107; refine (sizeOk_no _ (by omega) _).mono ?_; rintro e w' ⟨rfl, rfl⟩)
  go_ret2
  exact ⟨rfl, Below.refl _ _⟩

set_option maxHeartbeats 400000 in
theorem implFrame_yes (s : ByteArray) (h1 : 1 ≤ s.size) (h2 : s.size ≤ 9000) (w : World) :
    Calls Try.prog 82 #[.string s] w fun e w' => e = .returned (frameTuple s) ∧ Below w.heap.size w w' := by
  have hv := Words.var_len s.size
  have hf := four_size (Sums.sumOf s.data.toList)
  go_enter Try.func82, Try.ntmps82
  go_wp2_with (first | (go_at_call 107; refine (sizeOk_yes _ (by omega) _).mono ?_; rintro e w' ⟨rfl, rfl⟩) | (go_at_call 108; refine (implVar_yes s.size (by omega) _).mono ?_; rintro e w1 ⟨rfl, hb1⟩) | (go_at_call 109; refine (sealOf_any s (by omega) _).mono ?_; rintro e w2 ⟨rfl, hb2⟩))
  go_ret2
  exact ⟨rfl, hb1.trans (hb2.mono hb1.size)⟩

set_option maxHeartbeats 400000 in
theorem specFrame_no (s : ByteArray) (hs : s.size ≤ maxLen) (h : ¬ (1 ≤ s.size ∧ s.size ≤ 9000)) (w : World) :
    Calls Try.prog 79 #[.string s] w fun e w' => e = .returned (.tuple #[.string ⟨#[]⟩, .bool false]) ∧ Below w.heap.size w w' := by
  unfold maxLen at hs
  go_enter Try.func79, Try.ntmps79
  go_wp2_with (go_at_call 48; refine (in_no _ _ _ (by omega) _).mono ?_; rintro e w' ⟨rfl, rfl⟩)
  go_ret2
  exact ⟨rfl, Below.refl _ _⟩

set_option maxHeartbeats 400000 in
theorem specFrame_yes (s : ByteArray) (h1 : 1 ≤ s.size) (h2 : s.size ≤ 9000) (w : World) :
    Calls Try.prog 79 #[.string s] w fun e w' => e = .returned (frameTuple s) ∧ Below w.heap.size w w' := by
  have hv := Words.var_len s.size
  have hf := four_size (Sums.sumOf s.data.toList)
  go_enter Try.func79, Try.ntmps79
  go_wp2_with (first | (go_at_call 48; refine (in_yes _ _ _ (by omega) _).mono ?_; rintro e w' ⟨rfl, rfl⟩) | (go_at_call 80; refine (l01Var_any s.size (by omega) _).mono ?_; rintro e w1 ⟨rfl, hb1⟩) | (go_at_call 106; refine (specSumOf_any s (by omega) _).mono ?_; rintro e w' ⟨rfl, rfl⟩) | (go_at_call 105; refine (l02Four_any _ (sum_le s.data.toList) _).mono ?_; rintro e w2 ⟨rfl, hb2⟩))
  go_ret2
  exact ⟨rfl, hb1.trans (hb2.mono hb1.size)⟩

theorem frameB_list (T : ByteArray) : (frameB T).data.toList = Words.frame T.data.toList := by
  unfold frameB Words.frame
  simp
end Go.Proofs.Ytdpbmaedpdbppaa
