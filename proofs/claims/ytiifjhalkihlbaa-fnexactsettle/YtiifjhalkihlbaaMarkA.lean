/- Plain facts on decimal figures; no program is named here. Texts that a call owns; the law's own marks, walked. -/
import Derived.Test.YtiifjhalkihlbaaVar
namespace Go.Proofs.Ytiifjhalkihlbaa
section
namespace Words
def digF : Nat → Nat → List UInt8
  | 0, _ => []
  | f + 1, m => if m = 0 then [] else digF f (m / 10) ++ [fig (m % 10)]
def dig (m : Nat) : List UInt8 := digF m m
theorem digF_zero (f : Nat) : digF f 0 = [] := by cases f <;> simp [digF]
theorem digF_fuel : ∀ (f g m : Nat), m ≤ f → m ≤ g → digF f m = digF g m
  | 0, g, m, h, _ => by
    obtain rfl : m = 0 := by omega
    rw [digF_zero, digF_zero]
  | f + 1, g, m, h, k => by
    by_cases hm : m = 0
    · subst hm; rw [digF_zero, digF_zero]
    · obtain ⟨g, rfl⟩ : ∃ g', g = g' + 1 := ⟨g - 1, by omega⟩
      rw [digF, digF, if_neg hm, if_neg hm, digF_fuel f g (m / 10) (by omega) (by omega)]
theorem dig_zero : dig 0 = [] := rfl
theorem dig_step (m : Nat) (h : m ≠ 0) : dig m = dig (m / 10) ++ [fig (m % 10)] := by
  unfold dig
  obtain ⟨f, hf⟩ : ∃ f, m = f + 1 := ⟨m - 1, by omega⟩
  have h1 : digF m m = digF (f + 1) m := by rw [← hf]
  rw [h1, digF, if_neg h, digF_fuel f (m / 10) (m / 10) (by omega) (by omega)]
theorem dig_len : ∀ (k m : Nat), m < 10 ^ k → (dig m).length ≤ k
  | 0, m, h => by
    obtain rfl : m = 0 := by simpa using h
    simp [dig_zero]
  | k + 1, m, h => by
    by_cases hm : m = 0
    · subst hm; simp [dig_zero]
    · rw [dig_step m hm, List.length_append]
      have := dig_len k (m / 10) (by rw [Nat.pow_succ] at h; omega)
      simp; omega
end Words
end
section
open Go.RowKit

theorem one_string (w : World) (c : UInt8) :
    (convert 106 9 (.slice (some ⟨w.heap.size, 0, none⟩) 1 1)).run Try.prog (w.alloc (.cells #[.int .u8 (c.toNat : Int)] 5)) = .ok (.string ⟨#[c]⟩) (w.alloc (.cells #[.int .u8 (c.toNat : Int)] 5)) := by
  refine run_convert_bytes_back (P := Try.prog) _ 106 9 5 ⟨w.heap.size, 0, none⟩ 1 [c] Try.underlying106 Try.underlying5 Try.underlying9 fun j hj => ?_
  obtain rfl : j = 0 := by simpa using hj
  simp [Addr.add]

theorem str_app (c : UInt8) (S : ByteArray) : ((⟨#[c]⟩ : ByteArray) ++ S).data.toList = c :: S.data.toList := by
  rw [show ((⟨#[c]⟩ : ByteArray) ++ S).data.toList = (⟨#[c]⟩ : ByteArray).data.toList ++ S.data.toList from by simp]
  rfl
theorem str_ext {S : ByteArray} {l : List UInt8} (h : S.data.toList = l) : S = ⟨l.toArray⟩ := by
  cases S; simp at h; subst h; simp

def mark (k : Nat) : List UInt8 := 109 :: Words.dig k
set_option maxHeartbeats 1000000 in
set_option maxRecDepth 100000 in
theorem markText_any (k : Nat) (h0 : 0 < k) (hk : k ≤ 1000000000) (w : World) :
    Calls Try.prog 86 #[.int .i64 (k : Int)] w fun e w' => e = .returned (.string ⟨(mark k).toArray⟩) ∧ Below w.heap.size w w' := by
  have HL : Hid (_ ≤ _) := Words.dig_len 10 k (by omega)
  have h1 : ¬ (k : Int) ≤ 0 := by omega
  go_enter Try.func86, Try.ntmps86
  go_wp2
  go_loopw [0, 3] (fun x v wr => ∃ (m : Nat) (S : ByteArray), m ≤ 1000000000 ∧ x = .int .i64 (m : Int) ∧ v = .string S ∧ S.size ≤ 10 ∧ Words.dig m ++ S.data.toList = Words.dig k ∧ Below w.heap.size w wr)
    (fun x _ _ => (intOf x).toNat)
  case atStart => exact ⟨k, ⟨#[]⟩, hk, rfl, rfl, by decide, by simp, Below.refl _ _⟩
  case round =>
    obtain ⟨m, S, hm, rfl, rfl, hsz, heq, hbel⟩ := hrel
    have HE : Hid (_ = _) := heq
    clear heq
    by_cases hz : m = 0
    · have hmz : ¬ (0 : Int) < (m : Int) := by omega
      have HZ : Hid (m = 0) := hz
      clear hz
      go_wp2
      go_ret
      refine ⟨?_, hbel⟩
      have e := HE.out
      rw [HZ.out, Words.dig_zero, List.nil_append] at e
      have e2 : ((⟨#[109]⟩ : ByteArray) ++ S) = ⟨(mark k).toArray⟩ := str_ext (by rw [str_app, e]; rfl)
      rw [← e2]; rfl
    · have hmz : (0 : Int) < (m : Int) := by omega
      obtain ⟨c, hc⟩ := byte_of (48 + (m : Int) % 10) (by omega) (by omega)
      have hcf : c = Words.fig (m % 10) := Words.byte_ext (by rw [Words.fig_low _ (by omega)]; have := hc.out; omega)
      have HC : Hid (_ = _) := hcf
      clear hcf
      have hc2 : (48 : Int) + (m : Int) % 10 = (c.toNat : Int) := hc.out.symm
      have hcv := one_string wr c
      go_wp2
      go_roundw
      case rel =>
        have E : Words.dig (m / 10) ++ ((⟨#[c]⟩ : ByteArray) ++ S).data.toList = Words.dig k := by
          rw [str_app, ← HE.out, Words.dig_step m hz, HC.out]; simp
        refine ⟨m / 10, _, by omega, by go_num, rfl, ?_, E, hbel.alloc hbel.size _⟩
        have L := congrArg List.length E
        rw [List.length_append, Words.size_list] at L
        have := HL.out
        omega
      case measure => simp [intOf]; omega

def mk (k : Nat) : ByteArray := ⟨(mark k).toArray⟩
theorem markText_is (k : Nat) (h0 : 0 < k) (hk : k ≤ 1000000000) (w : World) :
    Calls Try.prog 86 #[.int .i64 (k : Int)] w fun e w' => e = .returned (.string (mk k)) ∧ Below w.heap.size w w' := markText_any k h0 hk w
end
end Go.Proofs.Ytiifjhalkihlbaa
