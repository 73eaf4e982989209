/- Texts that a call owns; the law's own marks, walked. -/
import Derived.Test.YthcfnofhdbjemaaGreatDoorVar
import Derived.Test.YthcfnofhdbjemaaGreatDoorMathDec
namespace Go.Proofs.YthcfnofhdbjemaaGreatDoor
open Go.RowKit

theorem Tryz.info9 : (Tryz.prog.info? 9).map (fun i => (i.zero, i.size, i.bytes)) = some (some (.string ⟨#[]⟩), 1, 16) := by kernel_rfl
theorem one_string (w : World) (c : UInt8) :
    (convert 67 9 (.slice (some ⟨w.heap.size, 0, none⟩) 1 1)).run Tryz.prog (w.alloc (.cells #[.int .u8 (c.toNat : Int)] 5)) = .ok (.string ⟨#[c]⟩) (w.alloc (.cells #[.int .u8 (c.toNat : Int)] 5)) := by
  refine run_convert_bytes_back (P := Tryz.prog) _ 67 9 5 ⟨w.heap.size, 0, none⟩ 1 [c] Tryz.underlying67 Tryz.underlying5 Tryz.underlying9 fun j hj => ?_
  obtain rfl : j = 0 := by simpa using hj
  simp [Addr.add]

theorem str_app (c : UInt8) (S : ByteArray) : ((⟨#[c]⟩ : ByteArray) ++ S).data.toList = c :: S.data.toList := by
  rw [show ((⟨#[c]⟩ : ByteArray) ++ S).data.toList = (⟨#[c]⟩ : ByteArray).data.toList ++ S.data.toList from by simp]
  rfl
theorem str_ext {S : ByteArray} {l : List UInt8} (h : S.data.toList = l) : S = ⟨l.toArray⟩ := by
  cases S; simp at h; subst h; simp

def mark (k : Nat) : List UInt8 := 109 :: Words.dig k
set_option maxHeartbeats 1000000 in
set_option maxRecDepth 100000 in
theorem markText_any (k : Nat) (h0 : 0 < k) (hk : k ≤ 1000000000) (w : World) :
    Calls Tryz.prog 35 #[.int .i64 (k : Int)] w fun e w' => e = .returned (.string ⟨(mark k).toArray⟩) ∧ Below w.heap.size w w' := by
  have HL : Hid (_ ≤ _) := Words.dig_len 10 k (by omega)
  have h1 : ¬ (k : Int) ≤ 0 := by omega
  go_enter Tryz.func35, Tryz.ntmps35
  go_wp2
  go_loopw [0, 3] (fun x v wr => ∃ (m : Nat) (S : ByteArray), m ≤ 1000000000 ∧ x = .int .i64 (m : Int) ∧ v = .string S ∧ S.size ≤ 10 ∧ Words.dig m ++ S.data.toList = Words.dig k ∧ Below w.heap.size w wr)
    (fun x _ _ => (intOf x).toNat)
  case atStart => exact ⟨k, ⟨#[]⟩, hk, rfl, rfl, by decide, by simp, Below.refl _ _⟩
  case round =>
    obtain ⟨m, S, hm, rfl, rfl, hsz, heq, hbel⟩ := hrel
    have HE : Hid (_ = _) := heq
    clear heq
    by_cases hz : m = 0
    · have hmz : ¬ (0 : Int) < (m : Int) := by omega
      have HZ : Hid (m = 0) := hz
      clear hz
      go_wp2
      go_ret
      refine ⟨?_, hbel⟩
      have e := HE.out
      rw [HZ.out, Words.dig_zero, List.nil_append] at e
      have e2 : ((⟨#[109]⟩ : ByteArray) ++ S) = ⟨(mark k).toArray⟩ := str_ext (by rw [str_app, e]; rfl)
      rw [← e2]; rfl
    · have hmz : (0 : Int) < (m : Int) := by omega
      obtain ⟨c, hc⟩ := byte_of (48 + (m : Int) % 10) (by omega) (by omega)
      have hcf : c = Words.fig (m % 10) := Words.byte_ext (by rw [Words.fig_low _ (by omega)]; have := hc.out; omega)
      have HC : Hid (_ = _) := hcf
      clear hcf
      have hc2 : (48 : Int) + (m : Int) % 10 = (c.toNat : Int) := hc.out.symm
      have hcv := one_string wr c
      go_wp2
      go_roundw
      case rel =>
        have E : Words.dig (m / 10) ++ ((⟨#[c]⟩ : ByteArray) ++ S).data.toList = Words.dig k := by
          rw [str_app, ← HE.out, Words.dig_step m hz, HC.out]; simp
        refine ⟨m / 10, _, by omega, by go_num, rfl, ?_, E, hbel.alloc hbel.size _⟩
        have L := congrArg List.length E
        rw [List.length_append, Words.size_list] at L
        have := HL.out
        omega
      case measure => simp [intOf]; omega

end Go.Proofs.YthcfnofhdbjemaaGreatDoor
