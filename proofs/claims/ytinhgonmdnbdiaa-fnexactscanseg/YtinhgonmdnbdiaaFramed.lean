/- The calls of framedAt and of whole, walked. -/
import Derived.Test.YtinhgonmdnbdiaaFrame
import Derived.Test.YtinhgonmdnbdiaaKit
import Derived.Test.YtinhgonmdnbdiaaReadLaw
import Derived.Test.YtinhgonmdnbdiaaMathFrame
import Derived.Test.YtinhgonmdnbdiaaTexts
namespace Go.Proofs.Ytinhgonmdnbdiaa
open Go.RowKit

def framedV (a b : ByteArray) (e : Int) : Value := .agg #[.string a, .string b, .int .i64 e]

theorem rdZ_nat (s : ByteArray) (a : Nat) (h : a ≤ s.size) : rdZ s (a : Int) = Words.rd s.data.toList a := by
  unfold rdZ
  rw [if_pos (by omega)]; simp

set_option maxHeartbeats 1000000 in
theorem framedAt_no (s : ByteArray) (hs : s.size ≤ 20000) (a : Nat) (ha : a ≤ s.size) (h : Words.fit s.data.toList a = none) (w : World) :
    Calls Try.prog 85 #[.string s, .int .i64 (a : Int)] w fun e w' => e = .returned (.tuple #[framedV ⟨#[]⟩ ⟨#[]⟩ 0, .bool false]) ∧ Below w.heap.size w w' := by
  rcases Words.fit_none h with hr | ⟨n, b, hr, hc⟩
  · have HR : Hid (rdZ s (a : Int) = none) := by show _ = _; rw [rdZ_nat s a ha]; exact hr
    clear hr h
    go_enter Try.func85, Try.ntmps85
    go_wp2_with (go_at_call 104; refine (implRead_none (by omega) HR.out _).mono ?_; rintro e w' ⟨rfl, rfl⟩)
    exact bodyPost_ret (v := .tuple #[.agg #[.string ⟨#[]⟩, .string ⟨#[]⟩, .int .i64 0], .bool false]) (by simp [results, Try.results85, go_sem]) rfl ⟨rfl, (Below.refl _ _).alloc (Nat.le_refl _) _⟩
  · have HR : Hid (rdZ s (a : Int) = some (n, b)) := by show _ = _; rw [rdZ_nat s a ha]; exact hr
    obtain ⟨g1, g2, g3, g4, g5, g6⟩ := Words.rd_front hr
    rw [Words.size_list] at g3 g4 hc
    clear hr h g5
    by_cases hn : 1 ≤ n ∧ n ≤ 9000
    · have hn1 := hn.1
      have hn2 := hn.2
      have hlt : ((s.size : Int) - (b : Int)) < 4 + (n : Int) := by omega
      clear hc
      go_enter Try.func85, Try.ntmps85
      go_wp2_with (first | (go_at_call 104; refine (implRead_some (by omega) HR.out _).mono ?_; rintro e w' ⟨rfl, rfl⟩) | (go_at_call 106; refine (sizeOk_yes _ (by omega) _).mono ?_; rintro e w' ⟨rfl, rfl⟩))
      exact bodyPost_ret (v := .tuple #[.agg #[.string ⟨#[]⟩, .string ⟨#[]⟩, .int .i64 0], .bool false]) (by simp [results, Try.results85, go_sem]) rfl ⟨rfl, (Below.refl _ _).alloc (Nat.le_refl _) _⟩
    · go_enter Try.func85, Try.ntmps85
      go_wp2_with (first | (go_at_call 104; refine (implRead_some (by omega) HR.out _).mono ?_; rintro e w' ⟨rfl, rfl⟩) | (go_at_call 106; refine (sizeOk_no _ (by omega) _).mono ?_; rintro e w' ⟨rfl, rfl⟩))
      exact bodyPost_ret (v := .tuple #[.agg #[.string ⟨#[]⟩, .string ⟨#[]⟩, .int .i64 0], .bool false]) (by simp [results, Try.results85, go_sem]) rfl ⟨rfl, (Below.refl _ _).alloc (Nat.le_refl _) _⟩

set_option maxHeartbeats 1000000 in
theorem framedAt_yes (s : ByteArray) (hs : s.size ≤ 20000) (a n b : Nat) (ha : a ≤ s.size) (h : Words.fit s.data.toList a = some (n, b)) (w : World) :
    Calls Try.prog 85 #[.string s, .int .i64 (a : Int)] w fun e w' => e = .returned (.tuple #[framedV (s.extract b (b + 4)) (s.extract (b + 4) (b + 4 + n)) ((b + 4 + n : Nat) : Int), .bool true]) ∧ Below w.heap.size w w' := by
  obtain ⟨hr, hn1, hn2, hn3⟩ := Words.fit_some h
  have HR : Hid (rdZ s (a : Int) = some (n, b)) := by show _ = _; rw [rdZ_nat s a ha]; exact hr
  obtain ⟨g1, g2, g3, g4, g5, g6⟩ := Words.rd_front hr
  rw [Words.size_list] at g3 g4 hn3
  clear hr h g5
  have hs1 : ∀ wx, (Instr.slice 9 (.string s) (some (.int .i64 (b : Int))) (some (.int .i64 ((b : Int) + 4))) none).run Try.prog wx = .ok (.string (s.extract b (b + 4))) wx := fun wx => by
    rw [run_slice_string wx 9 s .i64 .i64 _ _ Try.underlying9 (by omega) (by omega) (by omega), Int.toNat_natCast, show ((b : Int) + 4).toNat = b + 4 from by omega]
  have hs2 : ∀ wx, (Instr.slice 9 (.string s) (some (.int .i64 ((b : Int) + 4))) (some (.int .i64 ((b : Int) + 4 + (n : Int)))) none).run Try.prog wx = .ok (.string (s.extract (b + 4) (b + 4 + n))) wx := fun wx => by
    rw [run_slice_string wx 9 s .i64 .i64 _ _ Try.underlying9 (by omega) (by omega) (by omega), show ((b : Int) + 4).toNat = b + 4 from by omega, show ((b : Int) + 4 + (n : Int)).toNat = b + 4 + n from by omega]
  go_enter Try.func85, Try.ntmps85
  go_wp2_with (first | (go_at_call 104; refine (implRead_some (by omega) HR.out _).mono ?_; rintro e w' ⟨rfl, rfl⟩) | (go_at_call 106; refine (sizeOk_yes _ (by omega) _).mono ?_; rintro e w' ⟨rfl, rfl⟩))
  go_region_held3 (fun _ => True) (trivial) (fail)
  go_wp2
  have hres : (w.alloc (Obj.cells #[.string (s.extract b (b + 4)), .string (s.extract (b + 4) (b + 4 + n)), .int .i64 ((b : Int) + 4 + (n : Int))] 100)).cell? ⟨w.heap.size, 0, none⟩ = some (.string (s.extract b (b + 4))) := by simp
  exact bodyPost_ret (v := .tuple #[.agg #[.string (s.extract b (b + 4)), .string (s.extract (b + 4) (b + 4 + n)), .int .i64 ((b : Int) + 4 + (n : Int))], .bool true]) (by simp [results, Try.results85, go_sem]) rfl ⟨rfl, ((Below.refl _ _).alloc (Nat.le_refl _) _).drew⟩

set_option maxHeartbeats 1000000 in
theorem whole_is (A B : ByteArray) (E : Int) (hB : B.size ≤ 1048576) (w : World) :
    Calls Try.prog 74 #[framedV A B E] w fun e w' => e = .returned (.bool (A.toList == Sums.four (Sums.sumOf B.data.toList))) ∧ Below w.heap.size w w' := by
  unfold framedV
  have hA : (w.alloc (.cells #[.string A, .string B, .int .i64 E] 100)).cell? ⟨w.heap.size, 0, none⟩ = some (.string A) := by simp
  have hBc : (w.alloc (.cells #[.string A, .string B, .int .i64 E] 100)).cell? ⟨w.heap.size, 1, none⟩ = some (.string B) := by simp
  go_enter Try.func74, Try.ntmps74
  go_wp2
  go_region_held3 (fun wx => wx.cell? ⟨w.heap.size, 0, none⟩ = some (.string A) ∧ wx.cell? ⟨w.heap.size, 1, none⟩ = some (.string B)) (first | go_keep | exact ⟨(hb1.cell (p := ⟨w.heap.size, 0, none⟩) (by simp)).trans (by simp), (hb1.cell (p := ⟨w.heap.size, 1, none⟩) (by simp)).trans (by simp)⟩) (first | (go_at_call 66; refine (sealOf_any B (by omega) _).mono ?_; rintro e w1 ⟨rfl, hb1⟩))
  all_goals (try go_wp2)
  go_ret
  exact ⟨rfl, (((Below.refl _ _).alloc (Nat.le_refl _) _).drew).trans (hb1.mono (by simp))⟩
end Go.Proofs.Ytinhgonmdnbdiaa
