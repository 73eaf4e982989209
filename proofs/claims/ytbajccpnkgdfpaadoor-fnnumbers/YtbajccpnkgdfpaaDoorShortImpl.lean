/- The calls of the program's ShortText and ReadShort, walked. -/
import Derived.Test.YtbajccpnkgdfpaaDoorReadImpl
import Derived.Test.YtbajccpnkgdfpaaDoorShelf
namespace Go.Proofs.YtbajccpnkgdfpaaDoor
open Go.RowKit

theorem var_size (n : Nat) : (⟨(Words.var n).toArray⟩ : ByteArray).size ≤ n + 1 := by
  have := Words.var_len n
  simpa [ByteArray.size] using this

set_option maxHeartbeats 400000 in
theorem implShort_yes (s : ByteArray) (h : s.size ≤ 20000) (w : World) :
    Calls Tryd.prog 12 #[.string s] w fun e w' => e = .returned (.tuple #[.string (⟨(Words.var s.size).toArray⟩ ++ s), .bool true]) ∧ Below w.heap.size w w' := by
  have hv := var_size s.size
  go_enter Tryd.func12, Tryd.ntmps12
  go_wp2_with (go_at_call 7; refine (implVar_yes s.size (by omega) _).mono ?_; rintro e w1 ⟨rfl, hb1⟩)
  go_ret2
  exact ⟨rfl, hb1⟩

set_option maxHeartbeats 400000 in
theorem clone_any (s : ByteArray) (h : s.size ≤ 281474976710656) (w : World) :
    Calls Tryd.prog 24 #[.string s] w fun e w' => e = .returned (.string s) ∧ Below w.heap.size w w' := by
  go_enter Tryd.func24, Tryd.ntmps24
  go_wp2_with (go_at_call 30; refine (Tryd.stringslite_Clone s _ h).mono ?_; rintro e w1 ⟨rfl, hb1⟩)
  go_ret
  exact ⟨rfl, hb1⟩

set_option maxHeartbeats 400000 in
theorem implRS_yes {s : ByteArray} {x : Int} {n k : Nat} (hs : s.size ≤ 1048576) (h : rdZ s x = some (n, k)) (hn : n ≤ 20000) (hk : k + n ≤ s.size) (w : World) :
    Calls Tryd.prog 13 #[.string s, .int .i64 x] w fun e w' => e = .returned (.tuple #[.string (s.extract k (k + n)), .int .i64 ((k : Int) + (n : Int)), .bool true]) ∧ Below w.heap.size w w' := by
  have HR : Hid (_ = _) := h
  clear h
  have hsl : ∀ wx, (Instr.slice 9 (.string s) (some (.int .i64 (k : Int))) (some (.int .i64 ((k : Int) + (n : Int)))) none).run Tryd.prog wx = .ok (.string (s.extract k (k + n))) wx := fun wx => by
    rw [run_slice_string wx 9 s .i64 .i64 _ _ Tryd.underlying9 (by omega) (by omega) (by omega)]
    congr 2
  have hx : (s.extract k (k + n)).size ≤ 281474976710656 := by rw [ByteArray.size_extract]; omega
  have h2 : ¬ (s.size : Int) - (k : Int) < (n : Int) := by omega
  go_enter Tryd.func13, Tryd.ntmps13
  go_wp2_with (first | (go_at_call 8; refine (implRead_some hs HR.out _).mono ?_; rintro e w1 ⟨rfl, rfl⟩) | (go_at_call 24; refine (clone_any _ hx _).mono ?_; rintro e w2 ⟨rfl, hb2⟩))
  go_ret3
  exact ⟨rfl, hb2⟩
end Go.Proofs.YtbajccpnkgdfpaaDoor
