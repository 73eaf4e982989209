/- The calls of both Frame: they answer with the bytes of the length, of the sum and of the text, and leave old memory as it was; for every text. -/
import Derived.Test.YthcfnofhdbjemaaGreatDoorImplSeal
namespace Go.Proofs.YthcfnofhdbjemaaGreatDoor
open Go.RowKit

set_option maxHeartbeats 400000 in
theorem sizeOk_yes (x : Int) (h : 1 ≤ x ∧ x ≤ 9000) (w : World) :
    Calls Tryz.prog 72 #[.int .i64 x] w fun e w' => e = .returned (.bool true) ∧ w' = w := by
  obtain ⟨h1, h2⟩ := h
  go_enter Tryz.func72, Tryz.ntmps72
  go_wp2
  go_ret
  exact ⟨rfl, rfl⟩
/-- The frame of a text. -/
def frameB (s : ByteArray) : ByteArray := (⟨(Words.var s.size).toArray⟩ : ByteArray) ++ (⟨(Sums.four (Sums.sumOf s.data.toList)).toArray⟩ : ByteArray) ++ s
def frameTuple (s : ByteArray) : Value := .tuple #[.string (frameB s), .bool true]

set_option maxHeartbeats 400000 in
theorem implFrame_yes (s : ByteArray) (h1 : 1 ≤ s.size) (h2 : s.size ≤ 9000) (w : World) :
    Calls Tryz.prog 52 #[.string s] w fun e w' => e = .returned (frameTuple s) ∧ Below w.heap.size w w' := by
  have hv := Words.var_len s.size
  have hf := four_size (Sums.sumOf s.data.toList)
  go_enter Tryz.func52, Tryz.ntmps52
  go_wp2_with (first | (go_at_call 72; refine (sizeOk_yes _ (by omega) _).mono ?_; rintro e w' ⟨rfl, rfl⟩) | (go_at_call 69; refine (implVar_yes s.size (by omega) _).mono ?_; rintro e w1 ⟨rfl, hb1⟩) | (go_at_call 68; refine (sealOf_any s (by omega) _).mono ?_; rintro e w2 ⟨rfl, hb2⟩))
  go_ret2
  exact ⟨rfl, hb1.trans (hb2.mono hb1.size)⟩

set_option maxHeartbeats 400000 in
theorem specFrame_yes (s : ByteArray) (h1 : 1 ≤ s.size) (h2 : s.size ≤ 9000) (w : World) :
    Calls Tryz.prog 42 #[.string s] w fun e w' => e = .returned (frameTuple s) ∧ Below w.heap.size w w' := by
  have hv := Words.var_len s.size
  have hf := four_size (Sums.sumOf s.data.toList)
  go_enter Tryz.func42, Tryz.ntmps42
  go_wp2_with (first | (go_at_call 39; refine (in_yes _ _ _ (by omega) _).mono ?_; rintro e w' ⟨rfl, rfl⟩) | (go_at_call 37; refine (l01Var_any s.size (by omega) _).mono ?_; rintro e w1 ⟨rfl, hb1⟩) | (go_at_call 64; refine (specSumOf_any s (by omega) _).mono ?_; rintro e w' ⟨rfl, rfl⟩) | (go_at_call 63; refine (l02Four_any _ (sum_le s.data.toList) _).mono ?_; rintro e w2 ⟨rfl, hb2⟩))
  go_ret2
  exact ⟨rfl, hb1.trans (hb2.mono hb1.size)⟩

end Go.Proofs.YthcfnofhdbjemaaGreatDoor
