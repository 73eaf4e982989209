/- The call of l01Figure, walked: one figure. The call of the specification's Decimal at numbers from 0 on, walked. -/
import Derived.Test.YtpedpdgkbmpfjaaDoorMathBatch
import Derived.Test.YtpedpdgkbmpfjaaDoorMathDec
namespace Go.Proofs.YtpedpdgkbmpfjaaDoor
open Go.RowKit

theorem ret_byte {a b : Int} (h : a = b) : Ending.returned (.int .u8 a) = .returned (.int .u8 b) := by rw [h]

set_option maxHeartbeats 400000 in
theorem figure_any (x : Int) (h0 : 0 ≤ x) (h1 : x < 16) (w : World) :
    Calls Tryd.prog 70 #[.int .i64 x] w fun e w' => e = .returned (.int .u8 ((Words.fig x.toNat).toNat : Int)) ∧ w' = w := by
  by_cases h : x < 10
  · have hf := Words.fig_low x.toNat (by omega)
    have HF : Hid (_ = _) := hf
    clear hf
    go_enter Tryd.func70, Tryd.ntmps70
    go_wp2
    go_ret
    exact ⟨ret_byte (by rw [HF.out]; omega), rfl⟩
  · have hf := Words.fig_high x.toNat (by omega) (by omega)
    have HF : Hid (_ = _) := hf
    clear hf
    go_enter Tryd.func70, Tryd.ntmps70
    go_wp2
    go_ret
    exact ⟨ret_byte (by rw [HF.out]; omega), rfl⟩

theorem figure_nat (X : Nat) (h : X < 16) (w : World) :
    Calls Tryd.prog 70 #[.int .i64 (X : Int)] w fun e w' => e = .returned (.int .u8 ((Words.fig X).toNat : Int)) ∧ w' = w := by
  have := figure_any (X : Int) (by omega) (by omega) w
  rwa [Int.toNat_natCast] at this
end Go.Proofs.YtpedpdgkbmpfjaaDoor
namespace Go.Proofs.YtpedpdgkbmpfjaaDoor
open Go.RowKit

theorem one_string (w : World) (c : UInt8) :
    (convert 36 9 (.slice (some ⟨w.heap.size, 0, none⟩) 1 1)).run Tryd.prog (w.alloc (.cells #[.int .u8 (c.toNat : Int)] 5)) = .ok (.string ⟨#[c]⟩) (w.alloc (.cells #[.int .u8 (c.toNat : Int)] 5)) := by
  refine run_convert_bytes_back (P := Tryd.prog) _ 36 9 5 ⟨w.heap.size, 0, none⟩ 1 [c] Tryd.underlying36 Tryd.underlying5 Tryd.underlying9 fun j hj => ?_
  obtain rfl : j = 0 := by simpa using hj
  simp [Addr.add]

theorem str_app (c : UInt8) (S : ByteArray) : ((⟨#[c]⟩ : ByteArray) ++ S).data.toList = c :: S.data.toList := by
  rw [show ((⟨#[c]⟩ : ByteArray) ++ S).data.toList = (⟨#[c]⟩ : ByteArray).data.toList ++ S.data.toList from by simp]
  rfl
theorem str_ext {S : ByteArray} {l : List UInt8} (h : S.data.toList = l) : S = ⟨l.toArray⟩ := by
  cases S; simp at h; subst h; simp

set_option maxHeartbeats 1000000 in
set_option maxRecDepth 100000 in
theorem dec_nat (n : Nat) (hn : n ≤ 1000000000) (w : World) :
    Calls Tryd.prog 53 #[.int .i64 (n : Int)] w fun e w' => e = .returned (.string ⟨(Words.dec n).toArray⟩) ∧ Below w.heap.size w w' := by
  by_cases h0 : n = 0
  · subst h0
    go_enter Tryd.func53, Tryd.ntmps53
    go_wp2
    go_ret
    exact ⟨rfl, Below.refl _ _⟩
  · have hne : ((n : Int) == 0) = false := by simp; omega
    have HD : Hid (Words.dec n = Words.dig n) := by show _ = _; rw [Words.dec, if_neg h0]
    have hl := Words.dig_len 10 n (by omega)
    have HL : Hid (_ ≤ _) := hl
    clear hl
    go_enter Tryd.func53, Tryd.ntmps53
    go_wp2
    go_loopw [0, 4] (fun x v wr => ∃ (m : Nat) (S : ByteArray), m ≤ 1000000000 ∧ x = .int .i64 (m : Int) ∧ v = .string S ∧ S.size ≤ 10 ∧ Words.dig m ++ S.data.toList = Words.dig n ∧ Below w.heap.size w wr)
      (fun x _ _ => (intOf x).toNat)
    case atStart => exact ⟨n, ⟨#[]⟩, hn, rfl, rfl, by decide, by simp, Below.refl _ _⟩
    case round =>
      obtain ⟨m, S, hm, rfl, rfl, hsz, heq, hbel⟩ := hrel
      have HE : Hid (_ = _) := heq
      clear heq
      by_cases hz : m = 0
      · have hmz : ((m : Int) != 0) = false := by simp; omega
        have HZ : Hid (m = 0) := hz
        clear hz
        go_wp2
        go_ret
        refine ⟨?_, hbel⟩
        have e := HE.out
        rw [HZ.out, Words.dig_zero, List.nil_append] at e
        rw [HD.out, ← str_ext e]; rfl
      · have hmz : ((m : Int) != 0) = true := by simp; omega
        obtain ⟨X, HX, hX⟩ : ∃ X : Nat, Hid (X = m % 10) ∧ (m : Int) % 10 = (X : Int) := ⟨m % 10, rfl, by omega⟩
        have hX16 : X < 16 := by have := HX.out; omega
        have hX10 : ¬ (X : Int) < 0 := by omega
        have hcv := one_string wr (Words.fig X)
        go_wp2_with (go_at_call 70; refine (figure_nat X hX16 _).mono ?_; rintro e w' ⟨rfl, hw⟩; subst hw)
        go_roundw
        case rel =>
          have E : Words.dig (m / 10) ++ ((⟨#[Words.fig X]⟩ : ByteArray) ++ S).data.toList = Words.dig n := by
            rw [str_app, ← HE.out, Words.dig_step m hz, HX.out]; simp
          refine ⟨m / 10, _, by omega, by go_num, rfl, ?_, E, hbel.alloc hbel.size _⟩
          have L := congrArg List.length E
          rw [List.length_append, Words.size_list] at L
          have := HL.out
          omega
        case measure => simp [intOf]; omega
end Go.Proofs.YtpedpdgkbmpfjaaDoor
