/- Disks held against each other: eqFile, eqFileS, eqDisk at the same files, walked. -/
import Derived.Test.YthcfnofhdbjemaaGreatDoorFiles
import Derived.Deep.RegionWith
import Derived.Deep.QuietTactic
import Derived.BigQuiet
import Derived.Deep.RegionHeld3
namespace Go.Proofs.YthcfnofhdbjemaaGreatDoor
open Go.RowKit

set_option maxHeartbeats 1000000 in
theorem eqFile_same (n t : ByteArray) (w : World) :
    Calls Tryz.prog 34 #[.agg #[.string n, .string t], .agg #[.string n, .string t]] w fun e w' => e = .returned (.bool true) ∧ Below w.heap.size w w' := by
  go_enter Tryz.func34, Tryz.ntmps34
  go_wp2
  go_ret
  exact ⟨rfl, ((Below.refl _ _).alloc (Nat.le_refl _) _).alloc (by simp) _⟩

set_option maxHeartbeats 1000000 in
set_option maxRecDepth 100000 in
theorem eqFileS_same {a b : Option Addr} {g off cap h off' cap' : Nat} (l : List FileL) (hlen : l.length ≤ 1048576) (w : World) (hf : FilesAt w a g off l) (hf' : FilesAt w b h off' l) :
    Calls Tryz.prog 18 #[.slice a l.length cap, .slice b l.length cap'] w fun e w' => e = .returned (.bool true) ∧ Below w.heap.size w w' := by
  have HF : Hid (FilesAt w a g off l) := hf
  have HF' : Hid (FilesAt w b h off' l) := hf'
  clear hf hf'
  go_enter Tryz.func18, Tryz.ntmps18
  go_wp2
  go_loopw [5] (fun i wr => ∃ k : Nat, k ≤ l.length ∧ i = .int .i64 (k : Int) ∧ Below w.heap.size w wr)
    (fun i _ => l.length - (intOf i).toNat)
  case atStart => exact ⟨0, Nat.zero_le _, rfl, Below.refl _ _⟩
  case round =>
    obtain ⟨k, hk, rfl, hbel⟩ := hrel
    by_cases hlt : k < l.length
    · obtain ⟨c0, c1⟩ := (HF.out.kept hbel).2 k hlt
      obtain ⟨d0, d1⟩ := (HF'.out.kept hbel).2 k hlt
      have ea := HF.out.1 (by omega)
      have eb := HF'.out.1 (by omega)
      subst ea eb
      have hgz := (HF.out.kept hbel).lt (by omega)
      have hhz := (HF'.out.kept hbel).lt (by omega)
      obtain ⟨A, hA⟩ : ∃ A, A = l[k].1 := ⟨_, rfl⟩
      obtain ⟨T, hT⟩ : ∃ T, T = l[k].2 := ⟨_, rfl⟩
      rw [← hA] at c0 d0
      rw [← hT] at c1 d1
      clear hA hT
      have hk0 : (0 : Int) ≤ (k : Int) := by omega
      have hk1 : (k : Int) < (l.length : Int) := by omega
      go_wp2
      go_region_held3 (fun w' => w'.cell? ⟨g, off + k * 2, none⟩ = some (.string A) ∧ w'.cell? ⟨g, off + k * 2 + 1, none⟩ = some (.string T) ∧ w'.cell? ⟨h, off' + k * 2, none⟩ = some (.string A) ∧ w'.cell? ⟨h, off' + k * 2 + 1, none⟩ = some (.string T)) (first | go_keep | exact ⟨(hb1.cell (p := ⟨g, off + k * 2, none⟩) hgz).trans c0, (hb1.cell (p := ⟨g, off + k * 2 + 1, none⟩) hgz).trans c1, (hb1.cell (p := ⟨h, off' + k * 2, none⟩) hhz).trans d0, (hb1.cell (p := ⟨h, off' + k * 2 + 1, none⟩) hhz).trans d1⟩) (first | (go_at_call 34; refine (eqFile_same A T _).mono ?_; rintro e w1 ⟨rfl, hb1⟩))
      all_goals
        go_wp2
        go_roundw
        case rel => exact ⟨k + 1, by omega, by go_num, (hbel.drew).trans (hb1.mono hbel.size)⟩
        case measure => simp [intOf]; omega
    · have hk1 : ¬ (k : Int) < (l.length : Int) := by omega
      go_wp2
      go_ret
      exact ⟨rfl, hbel⟩

set_option maxHeartbeats 1000000 in
theorem eqDisk_same {a b : Option Addr} {g off cap h off' cap' : Nat} (l : List FileL) (hlen : l.length ≤ 1048576) (w : World) (hf : FilesAt w a g off l) (hf' : FilesAt w b h off' l) :
    Calls Tryz.prog 7 #[.agg #[.slice a l.length cap], .agg #[.slice b l.length cap']] w fun e w' => e = .returned (.bool true) ∧ Below w.heap.size w w' := by
  have HF : Hid (FilesAt w a g off l) := hf
  have HF' : Hid (FilesAt w b h off' l) := hf'
  clear hf hf'
  go_enter Tryz.func7, Tryz.ntmps7
  go_wp2_with fail
  have hB : Below w.heap.size w ((w.alloc (Obj.cells #[Value.slice a l.length cap] 25)).alloc (Obj.cells #[Value.slice b l.length cap'] 25)) := ((Below.refl _ _).alloc (Nat.le_refl _) _).alloc (by simp) _
  refine (eqFileS_same l hlen _ (HF.out.kept hB) (HF'.out.kept hB)).mono ?_
  rintro e w1 ⟨rfl, hb1⟩
  have hB1 := hB.trans (hb1.mono hB.size)
  clear hb1 hB
  go_wp2
  go_ret
  exact ⟨rfl, hB1⟩
end Go.Proofs.YthcfnofhdbjemaaGreatDoor
