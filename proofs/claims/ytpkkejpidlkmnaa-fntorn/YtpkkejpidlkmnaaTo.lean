/- Disks copied: toFile, toFileS, toDisk, walked. -/
import Derived.Test.YtpkkejpidlkmnaaFiles
namespace Go.Proofs.Ytpkkejpidlkmnaa
open Go.RowKit

set_option maxHeartbeats 1000000 in
theorem toFile_any (n t : ByteArray) (w : World) :
    Calls Try.prog 79 #[.agg #[.string n, .string t]] w fun e w' => e = .returned (.agg #[.string n, .string t]) ∧ Below w.heap.size w w' := by
  go_enter Try.func79, Try.ntmps79
  go_wp2
  refine bodyPost_ret (v := .agg #[.string n, .string t]) (by simp [results, Try.results79, go_sem]) rfl ⟨rfl, ?_⟩
  exact (((Below.refl _ _).alloc (Nat.le_refl _) _).alloc (by simp) _).alloc (by simp; omega) _

set_option maxHeartbeats 1000000 in
set_option maxRecDepth 100000 in
theorem toFileS_any {a : Option Addr} {g off cap : Nat} (l : List FileL) (hlen : l.length ≤ 1048576) (w : World) (hf : FilesAt w a g off l) :
    Calls Try.prog 52 #[.slice a l.length cap] w fun e w' => e = .returned (.slice (some ⟨w.heap.size, 0, none⟩) l.length l.length) ∧
      w'.ownsRow w.heap.size 68 2 (.slice (some ⟨w.heap.size, 0, none⟩) l.length l.length) l.length (cellsF l) ∧ Below w.heap.size w w' := by
  obtain ⟨i0, hi, hz0, hz1, hz2⟩ := info_parts Try.info68
  have HF : Hid (FilesAt w a g off l) := hf
  clear hf
  go_enter Try.func52, Try.ntmps52
  go_wp2_with (at_make; refine wpList_make_full _ rfl _ _ 32 rfl w.heap.size 68 i0 (.agg #[.string ByteArray.empty, .string ByteArray.empty]) 2 Try.underlying32 hi hz0 hz1 _ _ _ _ l.length rfl rfl (by omega) (by omega) ?b2 ?b3 (Nat.le_refl _) ?_)
  case b2 => rw [hz2]; omega
  case b3 => unfold maxLen; omega
  intro w0 hown0 hgrow0
  have hbel0 : Below w.heap.size w w0 := (Below.refl _ _).grown hgrow0 (Nat.le_refl _) (by simp)
  rw [made_files] at hown0
  clear hgrow0
  go_wp2
  go_loopw [4] (fun i wr => ∃ (k : Nat) (pre : List FileL), k ≤ l.length ∧ i = .int .i64 (k : Int) ∧ pre.length = l.length ∧ pre.take k = l.take k ∧
      wr.ownsRow w.heap.size 68 2 (.slice (some ⟨w.heap.size, 0, none⟩) l.length l.length) l.length (cellsF pre) ∧ Below w.heap.size w wr)
    (fun i _ => l.length - (intOf i).toNat)
  case atStart => exact ⟨0, _, Nat.zero_le _, rfl, by simp, by simp, hown0, hbel0⟩
  case round =>
    obtain ⟨k, pre, hk, rfl, hpl, hpt, hown, hbel⟩ := hrel
    have HL : Hid (pre.length = l.length) := hpl
    have HT : Hid (pre.take k = l.take k) := hpt
    clear hpl hpt hown0 hbel0
    by_cases hlt : k < l.length
    · obtain ⟨c0, c1⟩ := (HF.out.kept hbel).2 k hlt
      have ea := HF.out.1 (by omega)
      subst ea
      have hgz := HF.out.lt (by omega)
      obtain ⟨A, hA⟩ : ∃ A, A = l[k].1 := ⟨_, rfl⟩
      obtain ⟨T, hT⟩ : ∃ T, T = l[k].2 := ⟨_, rfl⟩
      rw [← hA] at c0
      rw [← hT] at c1
      have HAT : Hid (l[k] = (A, T)) := by show _ = _; rw [hA, hT]
      clear hA hT
      have hk0 : (0 : Int) ≤ (k : Int) := by omega
      have hk1 : (k : Int) < (l.length : Int) := by omega
      go_wp2_with fail
      refine (toFile_any A T wr).mono ?_
      rintro e w1 ⟨rfl, hb1⟩
      have hown1 := own_kept hown hb1
      have hbel1 : Below w.heap.size w w1 := hbel.trans (hb1.mono hbel.size)
      have hf0 := hown1.frozenAt (k * 2)
      have hf1 := hown1.frozenAt (k * 2 + 1)
      obtain ⟨u0, hu0⟩ : ∃ u0, w1.cell? ⟨w.heap.size, k * 2, none⟩ = some u0 := by
        rw [hown1.cellAt (k * 2) (by omega)]
        exact ⟨_, (cellsF_at pre k (by rw [HL.out]; exact hlt)).1⟩
      obtain ⟨u1, hu1⟩ : ∃ u1, w1.cell? ⟨w.heap.size, k * 2 + 1, none⟩ = some u1 := by
        rw [hown1.cellAt (k * 2 + 1) (by omega)]
        exact ⟨_, (cellsF_at pre k (by rw [HL.out]; exact hlt)).2⟩
      have hst := (hown1.stored (k * 2) (.string A)).1.stored (k * 2 + 1) (.string T)
      rw [← cellsF_set pre k (A, T)] at hst
      have HST : Hid (_ ∧ _) := hst
      clear hst
      go_wp2
      go_roundw
      case rel => exact ⟨k + 1, pre.set k (A, T), by omega, by go_num, by rw [List.length_set]; exact HL.out, take_set_step hlt HL.out HT.out HAT.out, HST.out.1, (hbel1.setCell (Nat.le_refl _) _).setCell (Nat.le_refl _) _⟩
      case measure => simp [intOf]; omega
    · have hk1 : ¬ (k : Int) < (l.length : Int) := by omega
      have HE : Hid (pre = l) := by
        show _ = _
        have h := HT.out
        rwa [List.take_of_length_le (by rw [HL.out]; omega), List.take_of_length_le (by omega)] at h
      go_wp2
      go_ret
      exact ⟨rfl, by rw [HE.out] at hown; exact hown, hbel⟩

set_option maxHeartbeats 1000000 in
theorem toDisk_any {a : Option Addr} {g off cap : Nat} (l : List FileL) (hlen : l.length ≤ 1048576) (w : World) (hf : FilesAt w a g off l) :
    Calls Try.prog 21 #[.agg #[.slice a l.length cap]] w fun e w' => ∃ g' : Nat, e = .returned (.agg #[.slice (some ⟨g', 0, none⟩) l.length l.length]) ∧ w.heap.size ≤ g' ∧
      w'.ownsRow w.heap.size 68 2 (.slice (some ⟨g', 0, none⟩) l.length l.length) l.length (cellsF l) ∧ Below w.heap.size w w' := by
  have HF : Hid (FilesAt w a g off l) := hf
  clear hf
  go_enter Try.func21, Try.ntmps21
  go_wp2_with fail
  obtain ⟨W, hW⟩ : ∃ W, W = (((w.alloc (Obj.cells #[Value.slice a l.length cap] 29)).alloc (Obj.cells #[Value.slice none 0 0] 34)).alloc (Obj.cells #[Value.slice none 0 0] 34)) := ⟨_, rfl⟩
  rw [← hW]
  have hWs : W.heap.size = w.heap.size + 3 := by rw [hW]; simp
  have hWb : Below w.heap.size w W := by rw [hW]; exact (((Below.refl _ _).alloc (Nat.le_refl _) _).alloc (by simp) _).alloc (by simp; omega) _
  have b2 : W.heap[w.heap.size + 1 + 1]? = some (.cells #[.slice none 0 0] 34 (0, 0)) := by
    rw [hW]; have := heap_alloc_new ((w.alloc (Obj.cells #[Value.slice a l.length cap] 29)).alloc (Obj.cells #[Value.slice none 0 0] 34)) (Obj.cells #[Value.slice none 0 0] 34); simpa using this
  have b1 : W.heap[w.heap.size + 1]? = some (.cells #[.slice none 0 0] 34 (0, 0)) := by
    rw [hW, Below.heap_alloc _ _ _ (by simp)]
    have := heap_alloc_new (w.alloc (Obj.cells #[Value.slice a l.length cap] 29)) (Obj.cells #[Value.slice none 0 0] 34); simpa using this
  clear hW
  refine (toFileS_any l hlen W (HF.out.kept hWb)).mono ?_
  rintro e w1 ⟨rfl, hown, hb1⟩
  rw [hWs] at hown ⊢
  rw [← hb1.block _ (by omega)] at b1 b2
  have c1 : w1.cell? ⟨w.heap.size + 1, 0, none⟩ = some (.slice none 0 0) := by simp [World.cell?, b1]
  have c2 : w1.cell? ⟨w.heap.size + 1 + 1, 0, none⟩ = some (.slice none 0 0) := by simp [World.cell?, b2]
  have f1 : w1.frozen? ⟨w.heap.size + 1, 0, none⟩ = false := by simp [World.frozen?, b1]
  have f2 : w1.frozen? ⟨w.heap.size + 1 + 1, 0, none⟩ = false := by simp [World.frozen?, b2]
  have hB : Below w.heap.size w w1 := hWb.trans (hb1.mono (by omega))
  clear b1 b2 hWb hb1
  have hr := cell_set2 (p := ⟨w.heap.size + 1 + 1, 0, none⟩) (x := .slice (some ⟨w.heap.size + 3, 0, none⟩) l.length l.length) (y := .slice (some ⟨w.heap.size + 3, 0, none⟩) l.length l.length) c1
  go_wp2
  refine bodyPost_ret (v := .agg #[.slice (some ⟨w.heap.size + 3, 0, none⟩) l.length l.length]) (by simp [results, Try.results21, go_sem, hr]) rfl ⟨w.heap.size + 3, rfl, by omega, ?_, ?_⟩
  · exact own_set (own_set (own_mono hown (by omega)) _ _ _ (by simp [Value.ownBlock])) _ _ _ (by simp [Value.ownBlock])
  · exact (hB.setCell (by simp; omega) _).setCell (by simp) _
end Go.Proofs.Ytpkkejpidlkmnaa
