/- Small calls that chapter 15 makes, walked: l01In, stampOk, ShortText, byteOf. -/
import Derived.Test.YtlmjhobijgmolaaTxt
import Derived.Test.YtlmjhobijgmolaaRead
import Derived.Deep.RegionWith
import Derived.Deep.QuietTactic
import Derived.BigQuiet
import Derived.Deep.RegionHeld3
import Derived.Test.YtlmjhobijgmolaaKit
namespace Go.Proofs.Ytlmjhobijgmolaa
open Go.RowKit
set_option linter.unusedVariables false
set_option linter.unusedSimpArgs false

theorem in_is (n lo hi : Int) (R : Bool) (hR : R = true ↔ lo ≤ n ∧ n ≤ hi) (w : World) : Calls Try.prog 18 #[.int .i64 n, .int .i64 lo, .int .i64 hi] w fun e w' => e = .returned (.bool R) ∧ w' = w := by
  by_cases h1 : lo ≤ n
  · by_cases h2 : n ≤ hi
    · obtain rfl : R = true := hR.2 ⟨h1, h2⟩
      clear hR
      go_enter Try.func18, Try.ntmps18
      go_wp2
      go_ret
      exact ⟨rfl, rfl⟩
    · obtain rfl : R = false := ans_no hR (fun h => h2 h.2)
      clear hR
      go_enter Try.func18, Try.ntmps18
      go_wp2
      go_ret
      exact ⟨rfl, rfl⟩
  · obtain rfl : R = false := ans_no hR (fun h => h1 h.1)
    clear hR
    go_enter Try.func18, Try.ntmps18
    go_wp2
    go_ret
    exact ⟨rfl, rfl⟩
theorem stampOk_is (st : Int) (R : Bool) (hR : R = true ↔ 0 ≤ st ∧ st ≤ 100000) (w : World) :
    Calls Try.prog 19 #[.int .i64 st] w fun e w' => e = .returned (.bool R) ∧ w' = w := by
  by_cases h1 : 0 ≤ st
  · by_cases h2 : st ≤ 100000
    · obtain rfl : R = true := hR.2 ⟨h1, h2⟩
      clear hR
      go_enter Try.func19, Try.ntmps19
      go_wp2
      go_ret
      exact ⟨rfl, rfl⟩
    · obtain rfl : R = false := ans_no hR (fun h => h2 h.2)
      clear hR
      go_enter Try.func19, Try.ntmps19
      go_wp2
      go_ret
      exact ⟨rfl, rfl⟩
  · obtain rfl : R = false := ans_no hR (fun h => h1 h.1)
    clear hR
    go_enter Try.func19, Try.ntmps19
    go_wp2
    go_ret
    exact ⟨rfl, rfl⟩
/-- A row of one byte that a call has laid. -/
def RowAt (W : World) (g : Nat) (b : UInt8) : Prop := W.ownsRow 0 5 1 (.slice (some ⟨g, 0, none⟩) 1 1) 1 (cellsB [b])
theorem RowAt.new (W : World) (b : UInt8) : RowAt (W.alloc (Obj.cells #[.int .u8 (b.toNat : Int)] 5)) W.heap.size b := by
  have := World.ownsRow_lit (base := 0) (e := 5) (size := 1) W #[.int .u8 (b.toNat : Int)] 1 (Nat.zero_le _) (by unfold maxLen; omega) rfl
  exact this
theorem RowAt.kept {W W' : World} {g : Nat} {b : UInt8} (h : RowAt W g b) (hb : Below W.heap.size W W') : RowAt W' g b := own_kept h hb
theorem RowAt.cv {W : World} {g : Nat} {b : UInt8} (h : RowAt W g b) : (convert 35 9 (.slice (some ⟨g, 0, none⟩) 1 1)).run Try.prog W = .ok (.string ⟨#[b]⟩) W := string_own (l := [b]) h
set_option maxHeartbeats 400000 in
theorem implShort_yes (s : ByteArray) (h : s.size ≤ 20000) (w : World) :
    Calls Try.prog 35 #[.string s] w fun e w' => e = .returned (.tuple #[.string (⟨(Words.var s.size).toArray⟩ ++ s), .bool true]) ∧ Below w.heap.size w w' := by
  have hv := var_size s.size
  go_enter Try.func35, Try.ntmps35
  go_wp2_with (go_at_call 34; refine (implVar_yes s.size (by omega) _).mono ?_; rintro e w1 ⟨rfl, hb1⟩)
  go_ret2
  exact ⟨rfl, hb1⟩
set_option maxHeartbeats 400000 in
theorem shortOf_is (s : ByteArray) (h : s.size ≤ 20000) (S : ByteArray) (hS : Is S (Batches.short s)) (w : World) :
    Calls Try.prog 25 #[.string s] w fun e w' => e = .returned (.string S) ∧ Below w.heap.size w w' := by
  have hi : Is (⟨(Words.var s.size).toArray⟩ ++ s) (Batches.short s) := (Is.mk _).app rfl
  have HS : Hid (Value.string S = .string (⟨(Words.var s.size).toArray⟩ ++ s)) := by show _ = _; rw [hS.eq, hi.eq]
  clear hS hi
  go_enter Try.func25, Try.ntmps25
  go_wp2_with (go_at_call 35; refine (implShort_yes s (by omega) _).mono ?_; rintro e w1 ⟨rfl, hb1⟩)
  go_ret
  exact ⟨by rw [HS.out]; rfl, hb1⟩
theorem shortOf_q (s : ByteArray) (h : s.size ≤ 20000) (w : World) : Calls Try.prog 25 #[.string s] w fun e w' => e = .returned (.string (shortS s)) ∧ Below w.heap.size w w' := shortOf_is s h _ (shortS_is s) w
def byteS (x : UInt8) : ByteArray := ⟨#[x]⟩
set_option maxHeartbeats 400000 in
theorem byteOf_q (k : Int) (x : UInt8) (hx : IntKind.u8.wrap k = (x.toNat : Int)) (w : World) : Calls Try.prog 23 #[.int .i64 k] w fun e w' => e = .returned (.string (byteS x)) ∧ Below w.heap.size w w' := by
  have r1 := RowAt.new w x
  have cv := r1.cv
  go_enter Try.func23, Try.ntmps23
  go_wp2
  go_ret
  exact ⟨rfl, (Below.refl _ _).alloc (Nat.le_refl _) _⟩
end Go.Proofs.Ytlmjhobijgmolaa
