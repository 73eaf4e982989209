/- Marks: markText, markFileS, heldFileS, markDisk, heldDisk, walked. -/
import Derived.Test.YtpkkejpidlkmnaaDiskOk
namespace Go.Proofs.Ytpkkejpidlkmnaa.Words
def fig (n : Nat) : UInt8 := if n < 10 then UInt8.ofNat (48 + n) else UInt8.ofNat (87 + n)
theorem fig_low (n : Nat) (h : n < 10) : (fig n).toNat = 48 + n := by rw [fig, if_pos h, ofNat_toNat _ (by omega)]
def digF : Nat → Nat → List UInt8
  | 0, _ => []
  | f + 1, m => if m = 0 then [] else digF f (m / 10) ++ [fig (m % 10)]
def dig (m : Nat) : List UInt8 := digF m m
theorem digF_zero (f : Nat) : digF f 0 = [] := by cases f <;> simp [digF]
theorem digF_fuel : ∀ (f g m : Nat), m ≤ f → m ≤ g → digF f m = digF g m
  | 0, g, m, h, _ => by
    obtain rfl : m = 0 := by omega
    rw [digF_zero, digF_zero]
  | f + 1, g, m, h, k => by
    by_cases hm : m = 0
    · subst hm; rw [digF_zero, digF_zero]
    · obtain ⟨g, rfl⟩ : ∃ g', g = g' + 1 := ⟨g - 1, by omega⟩
      rw [digF, digF, if_neg hm, if_neg hm, digF_fuel f g (m / 10) (by omega) (by omega)]
theorem dig_zero : dig 0 = [] := rfl
theorem dig_step (m : Nat) (h : m ≠ 0) : dig m = dig (m / 10) ++ [fig (m % 10)] := by
  unfold dig
  obtain ⟨f, hf⟩ : ∃ f, m = f + 1 := ⟨m - 1, by omega⟩
  have h1 : digF m m = digF (f + 1) m := by rw [← hf]
  rw [h1, digF, if_neg h, digF_fuel f (m / 10) (m / 10) (by omega) (by omega)]
theorem dig_len : ∀ (k m : Nat), m < 10 ^ k → (dig m).length ≤ k
  | 0, m, h => by
    obtain rfl : m = 0 := by simpa using h
    simp [dig_zero]
  | k + 1, m, h => by
    by_cases hm : m = 0
    · subst hm; simp [dig_zero]
    · rw [dig_step m hm, List.length_append]
      have := dig_len k (m / 10) (by rw [Nat.pow_succ] at h; omega)
      simp; omega
end Go.Proofs.Ytpkkejpidlkmnaa.Words
namespace Go.Proofs.Ytpkkejpidlkmnaa
open Go.RowKit

theorem one_string (w : World) (c : UInt8) :
    (convert 60 9 (.slice (some ⟨w.heap.size, 0, none⟩) 1 1)).run Try.prog (w.alloc (.cells #[.int .u8 (c.toNat : Int)] 5)) = .ok (.string ⟨#[c]⟩) (w.alloc (.cells #[.int .u8 (c.toNat : Int)] 5)) := by
  refine run_convert_bytes_back (P := Try.prog) _ 60 9 5 ⟨w.heap.size, 0, none⟩ 1 [c] Try.underlying60 Try.underlying5 Try.underlying9 fun j hj => ?_
  obtain rfl : j = 0 := by simpa using hj
  simp [Addr.add]
theorem str_app (c : UInt8) (S : ByteArray) : ((⟨#[c]⟩ : ByteArray) ++ S).data.toList = c :: S.data.toList := by
  rw [show ((⟨#[c]⟩ : ByteArray) ++ S).data.toList = (⟨#[c]⟩ : ByteArray).data.toList ++ S.data.toList from by simp]
  rfl
theorem str_ext {S : ByteArray} {l : List UInt8} (h : S.data.toList = l) : S = ⟨l.toArray⟩ := by
  cases S; simp at h; subst h; simp
def mark (k : Nat) : List UInt8 := 109 :: Words.dig k
def marks (k n : Nat) : List (List UInt8) := (List.range n).map fun i => mark (k + i)
theorem marks_len (k n : Nat) : (marks k n).length = n := by simp [marks]

set_option maxHeartbeats 1000000 in
set_option maxRecDepth 100000 in
theorem markText_any (k : Nat) (h0 : 0 < k) (hk : k ≤ 1000000000) (w : World) :
    Calls Try.prog 66 #[.int .i64 (k : Int)] w fun e w' => e = .returned (.string ⟨(mark k).toArray⟩) ∧ Below w.heap.size w w' := by
  have HL : Hid (_ ≤ _) := Words.dig_len 10 k (by omega)
  have h1 : ¬ (k : Int) ≤ 0 := by omega
  go_enter Try.func66, Try.ntmps66
  go_wp2
  go_loopw [0, 3] (fun x v wr => ∃ (m : Nat) (S : ByteArray), m ≤ 1000000000 ∧ x = .int .i64 (m : Int) ∧ v = .string S ∧ S.size ≤ 10 ∧ Words.dig m ++ S.data.toList = Words.dig k ∧ Below w.heap.size w wr)
    (fun x _ _ => (intOf x).toNat)
  case atStart => exact ⟨k, ⟨#[]⟩, hk, rfl, rfl, by decide, by simp, Below.refl _ _⟩
  case round =>
    obtain ⟨m, S, hm, rfl, rfl, hsz, heq, hbel⟩ := hrel
    have HE : Hid (_ = _) := heq
    clear heq
    by_cases hz : m = 0
    · have hmz : ¬ (0 : Int) < (m : Int) := by omega
      have HZ : Hid (m = 0) := hz
      clear hz
      go_wp2
      go_ret
      refine ⟨?_, hbel⟩
      have e := HE.out
      rw [HZ.out, Words.dig_zero, List.nil_append] at e
      have e2 : ((⟨#[109]⟩ : ByteArray) ++ S) = ⟨(mark k).toArray⟩ := str_ext (by rw [str_app, e]; rfl)
      rw [← e2]; rfl
    · have hmz : (0 : Int) < (m : Int) := by omega
      obtain ⟨c, hc⟩ := byte_of (48 + (m : Int) % 10) (by omega) (by omega)
      have hcf : c = Words.fig (m % 10) := Words.byte_ext (by rw [Words.fig_low _ (by omega)]; have := hc.out; omega)
      have HC : Hid (_ = _) := hcf
      clear hcf
      have hc2 : (48 : Int) + (m : Int) % 10 = (c.toNat : Int) := hc.out.symm
      have hcv := one_string wr c
      go_wp2
      go_roundw
      case rel =>
        have E : Words.dig (m / 10) ++ ((⟨#[c]⟩ : ByteArray) ++ S).data.toList = Words.dig k := by
          rw [str_app, ← HE.out, Words.dig_step m hz, HC.out]; simp
        refine ⟨m / 10, _, by omega, by go_num, rfl, ?_, E, hbel.alloc hbel.size _⟩
        have L := congrArg List.length E
        rw [List.length_append, Words.size_list] at L
        have := HL.out
        omega
      case measure => simp [intOf]; omega

theorem markText_int (x : Int) (h0 : 0 < x) (hk : x ≤ 1000000000) (w : World) :
    Calls Try.prog 66 #[.int .i64 x] w fun e w' => e = .returned (.string ⟨(mark x.toNat).toArray⟩) ∧ Below w.heap.size w w' := by
  have h := markText_any x.toNat (by omega) (by omega) w
  rwa [Int.toNat_of_nonneg (by omega)] at h

/-- The mark of a number, as a text. -/
def mk (k : Nat) : ByteArray := ⟨(mark k).toArray⟩
theorem markText_is (k : Nat) (h0 : 0 < k) (hk : k ≤ 1000000000) (w : World) :
    Calls Try.prog 66 #[.int .i64 (k : Int)] w fun e w' => e = .returned (.string (mk k)) ∧ Below w.heap.size w w' := markText_any k h0 hk w
theorem markText_succ (M : Nat) (hk : M + 1 ≤ 1000000000) (w : World) :
    Calls Try.prog 66 #[.int .i64 ((M : Int) + 1)] w fun e w' => e = .returned (.string (mk (M + 1))) ∧ Below w.heap.size w w' := markText_any (M + 1) (Nat.succ_pos _) hk w
/-- Marked files: from k on, two numbers each. -/
def marksF (k n : Nat) : List FileL := (List.range n).map fun i => (mk (k + 2 * i), mk (k + 2 * i + 1))
theorem marksF_len (k n : Nat) : (marksF k n).length = n := by simp [marksF]
theorem marksF_at (k n j : Nat) (hj : j < (marksF k n).length) : (marksF k n)[j] = (mk (k + 2 * j), mk (k + 2 * j + 1)) := by simp [marksF]
/-- The row behind j marked files. -/
theorem own_below' {w w' : World} {g : Nat} (h : Below w.heap.size w w') : w.grownBy w' (some g) := ⟨h.os, h.tape, h.output, h.size, fun k hk _ => h.block k hk⟩

set_option maxHeartbeats 2000000 in
set_option maxRecDepth 100000 in
theorem markFileS_is {B g cap : Nat} (l : List FileL) (hlen : l.length ≤ 1048576) (k : Nat) (h0 : 0 < k) (hk : k ≤ 100000000) (w : World) (hA : w.ownsRow B 68 2 (.slice (some ⟨g, 0, none⟩) l.length cap) l.length (cellsF l)) :
    Calls Try.prog 62 #[.slice (some ⟨g, 0, none⟩) l.length cap, .int .i64 (k : Int)] w fun e w' => e = .returned (.int .i64 ((k + 2 * l.length : Nat) : Int)) ∧ w'.ownsRow B 68 2 (.slice (some ⟨g, 0, none⟩) l.length cap) l.length (cellsF (marksF k l.length)) ∧ w.grownBy w' (some g) := by
  go_enter Try.func62, Try.ntmps62
  go_wp2
  go_loopw [1, 5] (fun x i wr => ∃ (j : Nat) (pre : List FileL), j ≤ l.length ∧ i = .int .i64 (j : Int) ∧ x = .int .i64 ((k + 2 * j : Nat) : Int) ∧ pre.length = l.length ∧ pre.take j = (marksF k l.length).take j ∧
      wr.ownsRow B 68 2 (.slice (some ⟨g, 0, none⟩) l.length cap) l.length (cellsF pre) ∧ w.grownBy wr (some g)) (fun _ i _ => l.length - (intOf i).toNat)
  case atStart => exact ⟨0, l, Nat.zero_le _, rfl, rfl, rfl, by simp, hA, World.grownBy.refl _ _⟩
  case round =>
    obtain ⟨j, pre, hj, rfl, rfl, hpl, hpt, hown, hgr⟩ := hrel
    have HL : Hid (pre.length = l.length) := hpl
    have HT : Hid (pre.take j = (marksF k l.length).take j) := hpt
    clear hpl hpt hA
    by_cases hlt : j < l.length
    · have hk0 : (0 : Int) ≤ (j : Int) := by omega
      have hk1 : (j : Int) < (l.length : Int) := by omega
      obtain ⟨M, hM⟩ : ∃ M : Nat, M = k + 2 * j := ⟨_, rfl⟩
      have hMb : 0 < M ∧ M ≤ 900000000 := by omega
      have HM : Hid (M = k + 2 * j) := hM
      rw [← hM]
      clear hM
      go_wp2_with fail
      refine (markText_is M hMb.1 (by omega) _).mono ?_
      rintro e w1 ⟨rfl, hb1⟩
      have hown1 := own_kept hown hb1
      have hgr1 := hgr.trans (own_below' hb1)
      have hf0 := hown1.frozenAt (j * 2)
      obtain ⟨u0, hu0⟩ : ∃ u0, w1.cell? ⟨g, j * 2, none⟩ = some u0 := by
        rw [hown1.cellAt (j * 2) (by omega)]
        exact ⟨_, (cellsF_at pre j (by rw [HL.out]; exact hlt)).1⟩
      have hs1 := hown1.stored (j * 2) (.string (mk M))
      have HS1 : Hid (_ ∧ _) := hs1
      clear hs1 hown1 hown hb1 hgr
      go_wp2_with fail
      refine (markText_succ M (by omega) _).mono ?_
      rintro e w2 ⟨rfl, hb2⟩
      have hown2 := own_kept HS1.out.1 hb2
      have hgr2 := (hgr1.trans HS1.out.2).trans (own_below' hb2)
      have hf1 := hown2.frozenAt (j * 2 + 1)
      obtain ⟨u1, hu1⟩ : ∃ u1, w2.cell? ⟨g, j * 2 + 1, none⟩ = some u1 := by
        rw [hown2.cellAt (j * 2 + 1) (by omega)]
        rw [List.getElem?_set_ne (by omega)]
        exact ⟨_, (cellsF_at pre j (by rw [HL.out]; exact hlt)).2⟩
      have hs2 := hown2.stored (j * 2 + 1) (.string (mk (M + 1)))
      rw [← cellsF_set pre j (mk M, mk (M + 1))] at hs2
      have HS2 : Hid (_ ∧ _) := hs2
      clear hs2 hown2 hb2 hgr1
      go_wp2
      go_roundw
      case rel =>
        refine ⟨j + 1, pre.set j (mk M, mk (M + 1)), by omega, by go_num, ?_, by rw [List.length_set]; exact HL.out, ?_, HS2.out.1, hgr2.trans HS2.out.2⟩
        · rw [show k + 2 * (j + 1) = M + 1 + 1 by have := HM.out; omega]; rfl
        · refine take_set_step (by rw [marksF_len]; exact hlt) (by rw [marksF_len]; exact HL.out) HT.out ?_
          rw [marksF_at, ← HM.out]
      case measure => simp [intOf]; omega
    · have hk1 : ¬ (j : Int) < (l.length : Int) := by omega
      have HE : Hid (pre = marksF k l.length ∧ j = l.length) := by
        have h := HT.out
        rw [List.take_of_length_le (by rw [HL.out]; omega), List.take_of_length_le (by rw [marksF_len]; omega)] at h
        exact ⟨h, by omega⟩
      go_wp2
      go_ret
      refine ⟨by rw [← HE.out.2]; rfl, by rw [← HE.out.1]; exact hown, hgr⟩

set_option maxHeartbeats 2000000 in
set_option maxRecDepth 100000 in
theorem heldFileS_is {a : Option Addr} {g off cap : Nat} (n : Nat) (hlen : n ≤ 1048576) (k : Nat) (h0 : 0 < k) (hk : k ≤ 100000000) (w : World) (hf : FilesAt w a g off (marksF k n)) :
    Calls Try.prog 63 #[.slice a n cap, .int .i64 (k : Int)] w fun e w' => e = .returned (.int .i64 ((k + 2 * n : Nat) : Int)) ∧ Below w.heap.size w w' := by
  have HF : Hid (FilesAt w a g off (marksF k n)) := hf
  clear hf
  go_enter Try.func63, Try.ntmps63
  go_wp2
  go_loopw [1, 5] (fun x i wr => ∃ j : Nat, j ≤ n ∧ i = .int .i64 (j : Int) ∧ x = .int .i64 ((k + 2 * j : Nat) : Int) ∧ Below w.heap.size w wr) (fun _ i _ => n - (intOf i).toNat)
  case atStart => exact ⟨0, Nat.zero_le _, rfl, rfl, Below.refl _ _⟩
  case round =>
    obtain ⟨j, hj, rfl, rfl, hbel⟩ := hrel
    by_cases hlt : j < n
    · have hjl : j < (marksF k n).length := by rw [marksF_len]; exact hlt
      obtain ⟨c0, c1⟩ := (HF.out.kept hbel).2 j hjl
      have hgz := (HF.out.kept hbel).lt (by omega)
      rw [marksF_at] at c0 c1
      have ea := HF.out.1 (by omega)
      subst ea
      have hk0 : (0 : Int) ≤ (j : Int) := by omega
      have hk1 : (j : Int) < (n : Int) := by omega
      obtain ⟨M, hM⟩ : ∃ M : Nat, M = k + 2 * j := ⟨_, rfl⟩
      have hMb : 0 < M ∧ M ≤ 900000000 := by omega
      have HM : Hid (M = k + 2 * j) := hM
      rw [← hM] at c0 c1 ⊢
      clear hM hjl
      simp only at c0 c1
      go_wp2
      go_region_held3 (fun w' => w'.cell? ⟨g, off + j * 2, none⟩ = some (.string (mk M)) ∧ w'.cell? ⟨g, off + j * 2 + 1, none⟩ = some (.string (mk (M + 1)))) (first | go_keep | exact ⟨(hb1.cell (p := ⟨g, off + j * 2, none⟩) hgz).trans c0, (hb1.cell (p := ⟨g, off + j * 2 + 1, none⟩) hgz).trans c1⟩) (first | (go_at_call 66; refine (markText_is M hMb.1 (by omega) _).mono ?_; rintro e w1 ⟨rfl, hb1⟩))
      all_goals
        have d1 := (hb1.cell (p := ⟨g, off + j * 2 + 1, none⟩) hgz).trans c1
        have hB1 : Below w.heap.size w w1 := (hbel.drew).trans (hb1.mono hbel.size)
        have hgz1 : g < w1.heap.size := Nat.lt_of_lt_of_le hgz hb1.size
        clear hb1 c0 c1
        go_wp2
        go_region_held3 (fun w' => w'.cell? ⟨g, off + j * 2 + 1, none⟩ = some (.string (mk (M + 1)))) (first | go_keep | exact (hb2.cell (p := ⟨g, off + j * 2 + 1, none⟩) hgz1).trans d1) (first | (go_at_call 66; refine (markText_succ M (by omega) _).mono ?_; rintro e w2 ⟨rfl, hb2⟩))
        all_goals
          go_wp2
          go_roundw
          case rel =>
            refine ⟨j + 1, by omega, by go_num, ?_, (hB1.drew).trans (hb2.mono hB1.size)⟩
            rw [show k + 2 * (j + 1) = M + 1 + 1 by have := HM.out; omega]; rfl
          case measure => simp [intOf]; omega
    · have hk1 : ¬ (j : Int) < (n : Int) := by omega
      have HE : Hid (j = n) := by show _ = _; omega
      go_wp2
      go_ret
      exact ⟨by rw [← HE.out]; rfl, hbel⟩
end Go.Proofs.Ytpkkejpidlkmnaa
