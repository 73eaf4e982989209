/- sameDisk and big of the laws, walked. -/
import Derived.Test.YtpkkejpidlkmnaaEq
namespace Go.Proofs.Ytpkkejpidlkmnaa
open Go.RowKit
set_option linter.unusedVariables false
set_option maxHeartbeats 1000000 in
set_option maxRecDepth 100000 in
theorem sameDisk_yes {a b : Option Addr} {g off cap g' off' cap' : Nat} (l : List FileL) (hlen : l.length ≤ 1048576) (w : World) (hf : FilesAt w a g off l) (hf' : FilesAt w b g' off' l) :
    Calls Try.prog 42 #[.agg #[.slice a l.length cap], .agg #[.slice b l.length cap']] w fun e w' => e = .returned (.bool true) ∧ Below w.heap.size w w' := by
  have hb0 : Below w.heap.size w ((w.alloc (.cells #[.slice a l.length cap] 34)).alloc (.cells #[.slice b l.length cap'] 34)) := ((Below.refl _ _).alloc (Nat.le_refl _) _).alloc (by simp) _
  have HF : Hid (FilesAt w a g off l) := hf
  have HF' : Hid (FilesAt w b g' off' l) := hf'
  have HB : Hid (Below w.heap.size w ((w.alloc (.cells #[.slice a l.length cap] 34)).alloc (.cells #[.slice b l.length cap'] 34))) := hb0
  clear hf hf' hb0
  go_enter Try.func42, Try.ntmps42
  go_wp2
  go_loopw [5] (fun i wr => ∃ k : Nat, k ≤ l.length ∧ i = .int .i64 (k : Int) ∧ wr.cell? ⟨w.heap.size, 0, none⟩ = some (.slice a l.length cap) ∧ wr.cell? ⟨w.heap.size + 1, 0, none⟩ = some (.slice b l.length cap') ∧ Below w.heap.size w wr)
    (fun i _ => l.length - (intOf i).toNat)
  case atStart => exact ⟨0, Nat.zero_le _, rfl, by simp, by simp, HB.out⟩
  case round =>
    obtain ⟨k, hk, rfl, ha, hb, hbel⟩ := hrel
    by_cases hlt : k < l.length
    · obtain ⟨c0, c1⟩ := (HF.out.kept hbel).2 k hlt
      obtain ⟨d0, d1⟩ := (HF'.out.kept hbel).2 k hlt
      have ea := HF.out.1 (by omega)
      have eb := HF'.out.1 (by omega)
      subst ea eb
      obtain ⟨A, hA⟩ : ∃ A, A = l[k].1 := ⟨_, rfl⟩
      obtain ⟨T, hT⟩ : ∃ T, T = l[k].2 := ⟨_, rfl⟩
      rw [← hA] at c0 d0
      rw [← hT] at c1 d1
      clear hA hT
      have hk0 : (0 : Int) ≤ (k : Int) := by omega
      have hk1 : (k : Int) < (l.length : Int) := by omega
      go_wp2
      go_region_held3 (fun w' => w'.cell? ⟨g, off + k * 2, none⟩ = some (.string A) ∧ w'.cell? ⟨g, off + k * 2 + 1, none⟩ = some (.string T) ∧ w'.cell? ⟨g', off' + k * 2, none⟩ = some (.string A) ∧ w'.cell? ⟨g', off' + k * 2 + 1, none⟩ = some (.string T) ∧ w'.cell? ⟨w.heap.size, 0, none⟩ = some (.slice (some ⟨g, off, none⟩) l.length cap) ∧ w'.cell? ⟨w.heap.size + 1, 0, none⟩ = some (.slice (some ⟨g', off', none⟩) l.length cap')) (go_keep) (fail)
      all_goals
        go_wp2
        go_roundw
        case rel => exact ⟨k + 1, by omega, by go_num, ha, hb, hbel.drew⟩
        case measure => simp [intOf]; omega
    · have hk1 : ¬ (k : Int) < (l.length : Int) := by omega
      go_wp2
      go_ret
      exact ⟨rfl, hbel⟩
set_option maxHeartbeats 400000 in
theorem big_no (a : Option Addr) (len cap : Nat) (h : len ≤ 1048576) (w : World) :
    Calls Try.prog 40 #[.slice a len cap] w fun e w' => e = .returned (.bool false) ∧ w = w' := by
  have h1 : ¬ (1048576 : Int) < (len : Int) := by omega
  go_enter Try.func40, Try.ntmps40
  go_wp2
  go_ret
  exact ⟨rfl, rfl⟩
set_option maxHeartbeats 400000 in
theorem big_yes (a : Option Addr) (len cap : Nat) (h : 1048576 < len) (w : World) :
    Calls Try.prog 40 #[.slice a len cap] w fun e w' => e = .returned (.bool true) ∧ w = w' := by
  have h1 : (1048576 : Int) < (len : Int) := by omega
  go_enter Try.func40, Try.ntmps40
  go_wp2
  go_ret
  exact ⟨rfl, rfl⟩
end Go.Proofs.Ytpkkejpidlkmnaa
