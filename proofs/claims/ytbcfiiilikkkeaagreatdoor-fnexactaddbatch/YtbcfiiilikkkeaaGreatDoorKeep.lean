/- The call of the specification's PutRaw, walked: what it refuses; and all of it. Disks copied: toFile, toFileS, toDisk, walked. Disks held against each other: eqFile, eqFileS, eqDisk at the same files, walked. What a law holds while it calls: its variables, its rows of files. -/
import Derived.Test.YtbcfiiilikkkeaaGreatDoorPutRaw3
import Derived.Test.YtbcfiiilikkkeaaGreatDoorLChange
import Derived.Test.YtbcfiiilikkkeaaGreatDoorMathAt
import Derived.Deep.RegionWith
import Derived.Deep.QuietTactic
import Derived.BigQuiet
import Derived.Deep.RegionHeld3
namespace Go.Proofs.YtbcfiiilikkkeaaGreatDoor
open Go.RowKit

theorem put_bad {l : List FileL} {r : Disks.RawL} (h : ¬ Disks.good l r) : Disks.putRaw l r = none := by
  rw [Disks.putRaw_neg (fun h2 => h h2.1)]

set_option maxHeartbeats 4000000 in
set_option maxRecDepth 100000 in
theorem specPutRaw_b1 {a : Option Addr} {g off cap : Nat} (l : List FileL) (hlen : l.length ≤ 1048576) (hsz : ∀ f ∈ l, f.1.size ≤ 1048576 ∧ f.2.size ≤ 1048576) (K : Int) (N O X : ByteArray) (hno : ¬ Disks.ok l) (HB : ¬ Disks.good l ⟨K, N, O, X⟩) (w : World) (hf : FilesAt w a g off l) :
    Calls Tryz.prog 97 #[.agg #[.slice a l.length cap], rawV ⟨K, N, O, X⟩] w (putPost w (Disks.putRaw l ⟨K, N, O, X⟩)) := by
  have HNO : Hid (¬ Disks.ok l) := hno
  clear hno
  have HF : Hid (FilesAt w a g off l) := hf
  have HSZ : Hid (∀ f ∈ l, f.1.size ≤ 1048576 ∧ f.2.size ≤ 1048576) := hsz
  obtain ⟨x, hx⟩ : ∃ x : Int, (Disks.None l N ∧ x = -1) ∨ ∃ k : Nat, Disks.At l N k ∧ x = (k : Int) := by
    rcases Disks.at_or_none l N with h | ⟨k, h⟩
    · exact ⟨-1, Or.inl ⟨h, rfl⟩⟩
    · exact ⟨k, Or.inr ⟨k, h, rfl⟩⟩
  have HX : Hid ((Disks.None l N ∧ x = -1) ∨ ∃ k : Nat, Disks.At l N k ∧ x = (k : Int)) := hx
  have HP : Hid (Disks.putRaw l ⟨K, N, O, X⟩ = none) := put_bad HB
  clear hf hsz hx
  unfold rawV
  go_enter Tryz.func97, Tryz.ntmps97
  go_wp2_with fail
  obtain ⟨W, hW⟩ : ∃ W, W = (((w.alloc (.cells #[.slice a l.length cap] 46)).alloc (.cells #[.int .i64 K, .string N, .string O, .string X] 103)).alloc (.cells #[.slice none 0 0] 46)) := ⟨_, rfl⟩
  rw [← hW]
  have hBW : Below w.heap.size w W := by rw [hW]; exact (((Below.refl _ _).alloc (Nat.le_refl _) _).alloc (by simp) _).alloc (by simp; omega) _
  have hst : RawAt w.heap.size (.slice a l.length cap) ⟨K, N, O, X⟩ W := by rw [hW]; exact RawAt.start w _ ⟨K, N, O, X⟩
  clear hW
  refine (l03At_is l hlen N x HX.out W (HF.out.kept hBW)).mono ?_
  rintro e w1 ⟨rfl, hb1⟩
  have hB1 : Below w.heap.size w w1 := hBW.trans (hb1.mono hBW.size)
  have hst1 := hst.kept hb1
  have hd1 := hst1.cd
  clear hBW hst hb1
  go_wp2_with fail
  refine (specDiskOk_any false l hlen w1 (HF.out.kept hB1) HSZ.out ⟨fun h => (by cases h), fun h => absurd h HNO.out⟩).mono ?_
  rintro e w2 ⟨rfl, hb2⟩
  have hB2 : Below w.heap.size w w2 := hB1.trans (hb2.mono hB1.size)
  have hst2 := hst1.kept hb2
  have hr2 := hst2.cr
  have hfr2 := hst2.fr
  have q0 : w2.cell? ⟨w.heap.size + 1, 0, none⟩ = some (.int .i64 K) := hst2.c0
  have hres := World.cell?_setCell_same w2 _ (.slice none 0 0) hr2
  clear hB1 hst1 hb2 hd1
  go_wp2
  refine bodyPost_ret (v := .tuple #[.agg #[.slice none 0 0], .bool false]) (by simp [results, Tryz.results97, go_sem, hres]) rfl (putPost_none HP.out (hB2.setCell (by simp; omega) _))

set_option maxHeartbeats 4000000 in
set_option maxRecDepth 100000 in
theorem specPutRaw_b2 {a : Option Addr} {g off cap : Nat} (l : List FileL) (hlen : l.length ≤ 1048576) (hsz : ∀ f ∈ l, f.1.size ≤ 1048576 ∧ f.2.size ≤ 1048576) (K : Int) (N O X : ByteArray) (hok : Disks.ok l) (hk : ¬ (1 ≤ K ∧ K ≤ 4)) (HB : ¬ Disks.good l ⟨K, N, O, X⟩) (w : World) (hf : FilesAt w a g off l) :
    Calls Tryz.prog 97 #[.agg #[.slice a l.length cap], rawV ⟨K, N, O, X⟩] w (putPost w (Disks.putRaw l ⟨K, N, O, X⟩)) := by
  have HOK : Hid (Disks.ok l) := hok
  clear hok
  have HF : Hid (FilesAt w a g off l) := hf
  have HSZ : Hid (∀ f ∈ l, f.1.size ≤ 1048576 ∧ f.2.size ≤ 1048576) := hsz
  obtain ⟨x, hx⟩ : ∃ x : Int, (Disks.None l N ∧ x = -1) ∨ ∃ k : Nat, Disks.At l N k ∧ x = (k : Int) := by
    rcases Disks.at_or_none l N with h | ⟨k, h⟩
    · exact ⟨-1, Or.inl ⟨h, rfl⟩⟩
    · exact ⟨k, Or.inr ⟨k, h, rfl⟩⟩
  have HX : Hid ((Disks.None l N ∧ x = -1) ∨ ∃ k : Nat, Disks.At l N k ∧ x = (k : Int)) := hx
  have HP : Hid (Disks.putRaw l ⟨K, N, O, X⟩ = none) := put_bad HB
  clear hf hsz hx
  unfold rawV
  go_enter Tryz.func97, Tryz.ntmps97
  go_wp2_with fail
  obtain ⟨W, hW⟩ : ∃ W, W = (((w.alloc (.cells #[.slice a l.length cap] 46)).alloc (.cells #[.int .i64 K, .string N, .string O, .string X] 103)).alloc (.cells #[.slice none 0 0] 46)) := ⟨_, rfl⟩
  rw [← hW]
  have hBW : Below w.heap.size w W := by rw [hW]; exact (((Below.refl _ _).alloc (Nat.le_refl _) _).alloc (by simp) _).alloc (by simp; omega) _
  have hst : RawAt w.heap.size (.slice a l.length cap) ⟨K, N, O, X⟩ W := by rw [hW]; exact RawAt.start w _ ⟨K, N, O, X⟩
  clear hW
  refine (l03At_is l hlen N x HX.out W (HF.out.kept hBW)).mono ?_
  rintro e w1 ⟨rfl, hb1⟩
  have hB1 : Below w.heap.size w w1 := hBW.trans (hb1.mono hBW.size)
  have hst1 := hst.kept hb1
  have hd1 := hst1.cd
  clear hBW hst hb1
  go_wp2_with fail
  refine (specDiskOk_any true l hlen w1 (HF.out.kept hB1) HSZ.out ⟨fun _ => HOK.out, fun _ => rfl⟩).mono ?_
  rintro e w2 ⟨rfl, hb2⟩
  have hB2 : Below w.heap.size w w2 := hB1.trans (hb2.mono hB1.size)
  have hst2 := hst1.kept hb2
  have hr2 := hst2.cr
  have hfr2 := hst2.fr
  have q0 : w2.cell? ⟨w.heap.size + 1, 0, none⟩ = some (.int .i64 K) := hst2.c0
  have hres := World.cell?_setCell_same w2 _ (.slice none 0 0) hr2
  clear hB1 hst1 hb2 hd1
  go_wp2_with fail
  refine (in_no_pk K 1 4 hk w2).mono ?_
  rintro e w2' ⟨rfl, rfl⟩
  go_wp2
  refine bodyPost_ret (v := .tuple #[.agg #[.slice none 0 0], .bool false]) (by simp [results, Tryz.results97, go_sem, hres]) rfl (putPost_none HP.out (hB2.setCell (by simp; omega) _))

set_option maxHeartbeats 4000000 in
set_option maxRecDepth 100000 in
theorem specPutRaw_b3 {a : Option Addr} {g off cap : Nat} (l : List FileL) (hlen : l.length ≤ 1048576) (hsz : ∀ f ∈ l, f.1.size ≤ 1048576 ∧ f.2.size ≤ 1048576) (K : Int) (N O X : ByteArray) (hok : Disks.ok l) (hk : 1 ≤ K ∧ K ≤ 4) (hk3 : 3 ≤ K) (hno : Disks.None l N) (HB : ¬ Disks.good l ⟨K, N, O, X⟩) (w : World) (hf : FilesAt w a g off l) :
    Calls Tryz.prog 97 #[.agg #[.slice a l.length cap], rawV ⟨K, N, O, X⟩] w (putPost w (Disks.putRaw l ⟨K, N, O, X⟩)) := by
  have HOK : Hid (Disks.ok l) := hok
  have HNO : Hid (Disks.None l N) := hno
  clear hok hno
  have HF : Hid (FilesAt w a g off l) := hf
  have HSZ : Hid (∀ f ∈ l, f.1.size ≤ 1048576 ∧ f.2.size ≤ 1048576) := hsz
  obtain ⟨x, hx⟩ : ∃ x : Int, (Disks.None l N ∧ x = -1) ∨ ∃ k : Nat, Disks.At l N k ∧ x = (k : Int) := by
    rcases Disks.at_or_none l N with h | ⟨k, h⟩
    · exact ⟨-1, Or.inl ⟨h, rfl⟩⟩
    · exact ⟨k, Or.inr ⟨k, h, rfl⟩⟩
  have HX : Hid ((Disks.None l N ∧ x = -1) ∨ ∃ k : Nat, Disks.At l N k ∧ x = (k : Int)) := hx
  have HP : Hid (Disks.putRaw l ⟨K, N, O, X⟩ = none) := put_bad HB
  clear hf hsz hx
  unfold rawV
  go_enter Tryz.func97, Tryz.ntmps97
  go_wp2_with fail
  obtain ⟨W, hW⟩ : ∃ W, W = (((w.alloc (.cells #[.slice a l.length cap] 46)).alloc (.cells #[.int .i64 K, .string N, .string O, .string X] 103)).alloc (.cells #[.slice none 0 0] 46)) := ⟨_, rfl⟩
  rw [← hW]
  have hBW : Below w.heap.size w W := by rw [hW]; exact (((Below.refl _ _).alloc (Nat.le_refl _) _).alloc (by simp) _).alloc (by simp; omega) _
  have hst : RawAt w.heap.size (.slice a l.length cap) ⟨K, N, O, X⟩ W := by rw [hW]; exact RawAt.start w _ ⟨K, N, O, X⟩
  clear hW
  refine (l03At_is l hlen N x HX.out W (HF.out.kept hBW)).mono ?_
  rintro e w1 ⟨rfl, hb1⟩
  have hB1 : Below w.heap.size w w1 := hBW.trans (hb1.mono hBW.size)
  have hst1 := hst.kept hb1
  have hd1 := hst1.cd
  clear hBW hst hb1
  have hxm : x = -1 := by
    rcases HX.out with ⟨_, h⟩ | ⟨k, ⟨hk, h1, _⟩, _⟩
    · exact h
    · have := HNO.out k hk
      rw [h1] at this
      cases this
  subst hxm
  go_wp2_with fail
  refine (specDiskOk_any true l hlen w1 (HF.out.kept hB1) HSZ.out ⟨fun _ => HOK.out, fun _ => rfl⟩).mono ?_
  rintro e w2 ⟨rfl, hb2⟩
  have hB2 : Below w.heap.size w w2 := hB1.trans (hb2.mono hB1.size)
  have hst2 := hst1.kept hb2
  have hr2 := hst2.cr
  have hfr2 := hst2.fr
  have q0 : w2.cell? ⟨w.heap.size + 1, 0, none⟩ = some (.int .i64 K) := hst2.c0
  have hres := World.cell?_setCell_same w2 _ (.slice none 0 0) hr2
  clear hB1 hst1 hb2 hd1
  go_wp2_with fail
  refine (in_yes_pk K 1 4 hk w2).mono ?_
  rintro e w2' ⟨rfl, rfl⟩
  go_wp2
  refine bodyPost_ret (v := .tuple #[.agg #[.slice none 0 0], .bool false]) (by simp [results, Tryz.results97, go_sem, hres]) rfl (putPost_none HP.out (hB2.setCell (by simp; omega) _))

/-- PutRaw of the specification, at every disk and raw write within bounds. -/
theorem specPutRaw_is {a : Option Addr} {g off cap : Nat} (l : List FileL) (hlen : l.length ≤ 1048576) (hsz : ∀ f ∈ l, f.1.size ≤ 1048576 ∧ f.2.size ≤ 1048576) (r : Disks.RawL) (hnil : a = none → cap = 0) (hr : r.name.size ≤ 1048576 ∧ r.to.size ≤ 1048576 ∧ r.text.size ≤ 1048576) (w : World) (hf : FilesAt w a g off l) :
    Calls Tryz.prog 97 #[.agg #[.slice a l.length cap], rawV r] w (putPost w (Disks.putRaw l r)) := by
  obtain ⟨K, N, O, X⟩ := r
  by_cases hg : Disks.good l ⟨K, N, O, X⟩
  · obtain ⟨_, ⟨h1, h2⟩, h3⟩ := id hg
    simp only at h1 h2
    have hc : K = 1 ∨ K = 2 ∨ K = 3 ∨ K = 4 := by omega
    rcases Disks.at_or_none l N with hx | ⟨k, hx⟩
    · have h4 : K < 3 := h3 hx
      rcases hc with rfl | rfl | rfl | rfl
      · exact specPutRaw_1n l N O X hg hnil hr hx w hf
      · exact specPutRaw_2n l N O X hg hnil hr hx w hf
      · omega
      · omega
    · rcases hc with rfl | rfl | rfl | rfl
      · exact specPutRaw_1a l N O X hg hnil hr k hx w hf
      · exact specPutRaw_2a l N O X hg hnil hr k hx w hf
      · by_cases ht : (O.toList == N.toList) = true
        · exact specPutRaw_3s l N O X hg hnil hr k hx ht w hf
        · exact specPutRaw_3d l N O X hg hnil hr k hx (by simpa using ht) w hf
      · exact specPutRaw_4a l N O X hg hnil hr k hx w hf
  · by_cases hok : Disks.ok l
    · by_cases hk : 1 ≤ K ∧ K ≤ 4
      · have h3 : Disks.None l N ∧ 3 ≤ K := by
          by_cases hn : Disks.None l N
          · refine ⟨hn, ?_⟩
            by_cases h : 3 ≤ K
            · exact h
            · exact absurd ⟨hok, hk, fun _ => (by show K < 3; omega)⟩ hg
          · exact absurd ⟨hok, hk, fun h => absurd h hn⟩ hg
        exact specPutRaw_b3 l hlen hsz K N O X hok hk h3.2 h3.1 hg w hf
      · exact specPutRaw_b2 l hlen hsz K N O X hok hk hg w hf
    · exact specPutRaw_b1 l hlen hsz K N O X hok hg w hf
end Go.Proofs.YtbcfiiilikkkeaaGreatDoor
namespace Go.Proofs.YtbcfiiilikkkeaaGreatDoor
open Go.RowKit

set_option maxHeartbeats 1000000 in
theorem toFile_any (n t : ByteArray) (w : World) :
    Calls Tryz.prog 134 #[.agg #[.string n, .string t]] w fun e w' => e = .returned (.agg #[.string n, .string t]) ∧ Below w.heap.size w w' := by
  go_enter Tryz.func134, Tryz.ntmps134
  go_wp2
  refine bodyPost_ret (v := .agg #[.string n, .string t]) (by simp [results, Tryz.results134, go_sem]) rfl ⟨rfl, ?_⟩
  exact (((Below.refl _ _).alloc (Nat.le_refl _) _).alloc (by simp) _).alloc (by simp; omega) _

set_option maxHeartbeats 1000000 in
set_option maxRecDepth 100000 in
theorem toFileS_any {a : Option Addr} {g off cap : Nat} (l : List FileL) (hlen : l.length ≤ 1048576) (w : World) (hf : FilesAt w a g off l) :
    Calls Tryz.prog 66 #[.slice a l.length cap] w fun e w' => e = .returned (.slice (some ⟨w.heap.size, 0, none⟩) l.length l.length) ∧
      w'.ownsRow w.heap.size 164 2 (.slice (some ⟨w.heap.size, 0, none⟩) l.length l.length) l.length (cellsF l) ∧ Below w.heap.size w w' := by
  obtain ⟨i0, hi, hz0, hz1, hz2⟩ := info_parts Tryz.info164
  have HF : Hid (FilesAt w a g off l) := hf
  clear hf
  go_enter Tryz.func66, Tryz.ntmps66
  go_wp2_with (at_make; refine wpList_make_full _ rfl _ _ 44 rfl w.heap.size 164 i0 (.agg #[.string ByteArray.empty, .string ByteArray.empty]) 2 Tryz.underlying44 hi hz0 hz1 _ _ _ _ l.length rfl rfl (by omega) (by omega) ?b2 ?b3 (Nat.le_refl _) ?_)
  case b2 => rw [hz2]; omega
  case b3 => unfold maxLen; omega
  intro w0 hown0 hgrow0
  have hbel0 : Below w.heap.size w w0 := (Below.refl _ _).grown hgrow0 (Nat.le_refl _) (by simp)
  rw [made_files] at hown0
  clear hgrow0
  go_wp2
  go_loopw [4] (fun i wr => ∃ (k : Nat) (pre : List FileL), k ≤ l.length ∧ i = .int .i64 (k : Int) ∧ pre.length = l.length ∧ pre.take k = l.take k ∧
      wr.ownsRow w.heap.size 164 2 (.slice (some ⟨w.heap.size, 0, none⟩) l.length l.length) l.length (cellsF pre) ∧ Below w.heap.size w wr)
    (fun i _ => l.length - (intOf i).toNat)
  case atStart => exact ⟨0, _, Nat.zero_le _, rfl, by simp, by simp, hown0, hbel0⟩
  case round =>
    obtain ⟨k, pre, hk, rfl, hpl, hpt, hown, hbel⟩ := hrel
    have HL : Hid (pre.length = l.length) := hpl
    have HT : Hid (pre.take k = l.take k) := hpt
    clear hpl hpt hown0 hbel0
    by_cases hlt : k < l.length
    · obtain ⟨c0, c1⟩ := (HF.out.kept hbel).2 k hlt
      have ea := HF.out.1 (by omega)
      subst ea
      have hgz := HF.out.lt (by omega)
      obtain ⟨A, hA⟩ : ∃ A, A = l[k].1 := ⟨_, rfl⟩
      obtain ⟨T, hT⟩ : ∃ T, T = l[k].2 := ⟨_, rfl⟩
      rw [← hA] at c0
      rw [← hT] at c1
      have HAT : Hid (l[k] = (A, T)) := by show _ = _; rw [hA, hT]
      clear hA hT
      have hk0 : (0 : Int) ≤ (k : Int) := by omega
      have hk1 : (k : Int) < (l.length : Int) := by omega
      go_wp2_with fail
      refine (toFile_any A T wr).mono ?_
      rintro e w1 ⟨rfl, hb1⟩
      have hown1 := own_kept hown hb1
      have hbel1 : Below w.heap.size w w1 := hbel.trans (hb1.mono hbel.size)
      have hf0 := hown1.frozenAt (k * 2)
      have hf1 := hown1.frozenAt (k * 2 + 1)
      obtain ⟨u0, hu0⟩ : ∃ u0, w1.cell? ⟨w.heap.size, k * 2, none⟩ = some u0 := by
        rw [hown1.cellAt (k * 2) (by omega)]
        exact ⟨_, (cellsF_at pre k (by rw [HL.out]; exact hlt)).1⟩
      obtain ⟨u1, hu1⟩ : ∃ u1, w1.cell? ⟨w.heap.size, k * 2 + 1, none⟩ = some u1 := by
        rw [hown1.cellAt (k * 2 + 1) (by omega)]
        exact ⟨_, (cellsF_at pre k (by rw [HL.out]; exact hlt)).2⟩
      have hst := (hown1.stored (k * 2) (.string A)).1.stored (k * 2 + 1) (.string T)
      rw [← cellsF_set pre k (A, T)] at hst
      have HST : Hid (_ ∧ _) := hst
      clear hst
      go_wp2
      go_roundw
      case rel => exact ⟨k + 1, pre.set k (A, T), by omega, by go_num, by rw [List.length_set]; exact HL.out, take_set_step hlt HL.out HT.out HAT.out, HST.out.1, (hbel1.setCell (Nat.le_refl _) _).setCell (Nat.le_refl _) _⟩
      case measure => simp [intOf]; omega
    · have hk1 : ¬ (k : Int) < (l.length : Int) := by omega
      have HE : Hid (pre = l) := by
        show _ = _
        have h := HT.out
        rwa [List.take_of_length_le (by rw [HL.out]; omega), List.take_of_length_le (by omega)] at h
      go_wp2
      go_ret
      exact ⟨rfl, by rw [HE.out] at hown; exact hown, hbel⟩

set_option maxHeartbeats 1000000 in
theorem toDisk_any {a : Option Addr} {g off cap : Nat} (l : List FileL) (hlen : l.length ≤ 1048576) (w : World) (hf : FilesAt w a g off l) :
    Calls Tryz.prog 15 #[.agg #[.slice a l.length cap]] w fun e w' => ∃ g' : Nat, e = .returned (.agg #[.slice (some ⟨g', 0, none⟩) l.length l.length]) ∧ w.heap.size ≤ g' ∧
      w'.ownsRow w.heap.size 164 2 (.slice (some ⟨g', 0, none⟩) l.length l.length) l.length (cellsF l) ∧ Below w.heap.size w w' := by
  have HF : Hid (FilesAt w a g off l) := hf
  clear hf
  go_enter Tryz.func15, Tryz.ntmps15
  go_wp2_with fail
  obtain ⟨W, hW⟩ : ∃ W, W = (((w.alloc (Obj.cells #[Value.slice a l.length cap] 24)).alloc (Obj.cells #[Value.slice none 0 0] 46)).alloc (Obj.cells #[Value.slice none 0 0] 46)) := ⟨_, rfl⟩
  rw [← hW]
  have hWs : W.heap.size = w.heap.size + 3 := by rw [hW]; simp
  have hWb : Below w.heap.size w W := by rw [hW]; exact (((Below.refl _ _).alloc (Nat.le_refl _) _).alloc (by simp) _).alloc (by simp; omega) _
  have b2 : W.heap[w.heap.size + 1 + 1]? = some (.cells #[.slice none 0 0] 46 (0, 0)) := by
    rw [hW]; have := heap_alloc_new ((w.alloc (Obj.cells #[Value.slice a l.length cap] 24)).alloc (Obj.cells #[Value.slice none 0 0] 46)) (Obj.cells #[Value.slice none 0 0] 46); simpa using this
  have b1 : W.heap[w.heap.size + 1]? = some (.cells #[.slice none 0 0] 46 (0, 0)) := by
    rw [hW, Below.heap_alloc _ _ _ (by simp)]
    have := heap_alloc_new (w.alloc (Obj.cells #[Value.slice a l.length cap] 24)) (Obj.cells #[Value.slice none 0 0] 46); simpa using this
  clear hW
  refine (toFileS_any l hlen W (HF.out.kept hWb)).mono ?_
  rintro e w1 ⟨rfl, hown, hb1⟩
  rw [hWs] at hown ⊢
  rw [← hb1.block _ (by omega)] at b1 b2
  have c1 : w1.cell? ⟨w.heap.size + 1, 0, none⟩ = some (.slice none 0 0) := by simp [World.cell?, b1]
  have c2 : w1.cell? ⟨w.heap.size + 1 + 1, 0, none⟩ = some (.slice none 0 0) := by simp [World.cell?, b2]
  have f1 : w1.frozen? ⟨w.heap.size + 1, 0, none⟩ = false := by simp [World.frozen?, b1]
  have f2 : w1.frozen? ⟨w.heap.size + 1 + 1, 0, none⟩ = false := by simp [World.frozen?, b2]
  have hB : Below w.heap.size w w1 := hWb.trans (hb1.mono (by omega))
  clear b1 b2 hWb hb1
  have hr := cell_set2 (p := ⟨w.heap.size + 1 + 1, 0, none⟩) (x := .slice (some ⟨w.heap.size + 3, 0, none⟩) l.length l.length) (y := .slice (some ⟨w.heap.size + 3, 0, none⟩) l.length l.length) c1
  go_wp2
  refine bodyPost_ret (v := .agg #[.slice (some ⟨w.heap.size + 3, 0, none⟩) l.length l.length]) (by simp [results, Tryz.results15, go_sem, hr]) rfl ⟨w.heap.size + 3, rfl, by omega, ?_, ?_⟩
  · exact own_set (own_set (own_mono hown (by omega)) _ _ _ (by simp [Value.ownBlock])) _ _ _ (by simp [Value.ownBlock])
  · exact (hB.setCell (by simp; omega) _).setCell (by simp) _
end Go.Proofs.YtbcfiiilikkkeaaGreatDoor
namespace Go.Proofs.YtbcfiiilikkkeaaGreatDoor
open Go.RowKit

set_option maxHeartbeats 1000000 in
theorem eqFile_same (n t : ByteArray) (w : World) :
    Calls Tryz.prog 147 #[.agg #[.string n, .string t], .agg #[.string n, .string t]] w fun e w' => e = .returned (.bool true) ∧ Below w.heap.size w w' := by
  go_enter Tryz.func147, Tryz.ntmps147
  go_wp2
  go_ret
  exact ⟨rfl, ((Below.refl _ _).alloc (Nat.le_refl _) _).alloc (by simp) _⟩

set_option maxHeartbeats 1000000 in
set_option maxRecDepth 100000 in
theorem eqFileS_same {a b : Option Addr} {g off cap h off' cap' : Nat} (l : List FileL) (hlen : l.length ≤ 1048576) (w : World) (hf : FilesAt w a g off l) (hf' : FilesAt w b h off' l) :
    Calls Tryz.prog 78 #[.slice a l.length cap, .slice b l.length cap'] w fun e w' => e = .returned (.bool true) ∧ Below w.heap.size w w' := by
  have HF : Hid (FilesAt w a g off l) := hf
  have HF' : Hid (FilesAt w b h off' l) := hf'
  clear hf hf'
  go_enter Tryz.func78, Tryz.ntmps78
  go_wp2
  go_loopw [5] (fun i wr => ∃ k : Nat, k ≤ l.length ∧ i = .int .i64 (k : Int) ∧ Below w.heap.size w wr)
    (fun i _ => l.length - (intOf i).toNat)
  case atStart => exact ⟨0, Nat.zero_le _, rfl, Below.refl _ _⟩
  case round =>
    obtain ⟨k, hk, rfl, hbel⟩ := hrel
    by_cases hlt : k < l.length
    · obtain ⟨c0, c1⟩ := (HF.out.kept hbel).2 k hlt
      obtain ⟨d0, d1⟩ := (HF'.out.kept hbel).2 k hlt
      have ea := HF.out.1 (by omega)
      have eb := HF'.out.1 (by omega)
      subst ea eb
      have hgz := (HF.out.kept hbel).lt (by omega)
      have hhz := (HF'.out.kept hbel).lt (by omega)
      obtain ⟨A, hA⟩ : ∃ A, A = l[k].1 := ⟨_, rfl⟩
      obtain ⟨T, hT⟩ : ∃ T, T = l[k].2 := ⟨_, rfl⟩
      rw [← hA] at c0 d0
      rw [← hT] at c1 d1
      clear hA hT
      have hk0 : (0 : Int) ≤ (k : Int) := by omega
      have hk1 : (k : Int) < (l.length : Int) := by omega
      go_wp2
      go_region_held3 (fun w' => w'.cell? ⟨g, off + k * 2, none⟩ = some (.string A) ∧ w'.cell? ⟨g, off + k * 2 + 1, none⟩ = some (.string T) ∧ w'.cell? ⟨h, off' + k * 2, none⟩ = some (.string A) ∧ w'.cell? ⟨h, off' + k * 2 + 1, none⟩ = some (.string T)) (first | go_keep | exact ⟨(hb1.cell (p := ⟨g, off + k * 2, none⟩) hgz).trans c0, (hb1.cell (p := ⟨g, off + k * 2 + 1, none⟩) hgz).trans c1, (hb1.cell (p := ⟨h, off' + k * 2, none⟩) hhz).trans d0, (hb1.cell (p := ⟨h, off' + k * 2 + 1, none⟩) hhz).trans d1⟩) (first | (go_at_call 147; refine (eqFile_same A T _).mono ?_; rintro e w1 ⟨rfl, hb1⟩))
      all_goals
        go_wp2
        go_roundw
        case rel => exact ⟨k + 1, by omega, by go_num, (hbel.drew).trans (hb1.mono hbel.size)⟩
        case measure => simp [intOf]; omega
    · have hk1 : ¬ (k : Int) < (l.length : Int) := by omega
      go_wp2
      go_ret
      exact ⟨rfl, hbel⟩

set_option maxHeartbeats 1000000 in
theorem eqDisk_same {a b : Option Addr} {g off cap h off' cap' : Nat} (l : List FileL) (hlen : l.length ≤ 1048576) (w : World) (hf : FilesAt w a g off l) (hf' : FilesAt w b h off' l) :
    Calls Tryz.prog 21 #[.agg #[.slice a l.length cap], .agg #[.slice b l.length cap']] w fun e w' => e = .returned (.bool true) ∧ Below w.heap.size w w' := by
  have HF : Hid (FilesAt w a g off l) := hf
  have HF' : Hid (FilesAt w b h off' l) := hf'
  clear hf hf'
  go_enter Tryz.func21, Tryz.ntmps21
  go_wp2_with fail
  have hB : Below w.heap.size w ((w.alloc (Obj.cells #[Value.slice a l.length cap] 46)).alloc (Obj.cells #[Value.slice b l.length cap'] 46)) := ((Below.refl _ _).alloc (Nat.le_refl _) _).alloc (by simp) _
  refine (eqFileS_same l hlen _ (HF.out.kept hB) (HF'.out.kept hB)).mono ?_
  rintro e w1 ⟨rfl, hb1⟩
  have hB1 := hB.trans (hb1.mono hB.size)
  clear hb1 hB
  go_wp2
  go_ret
  exact ⟨rfl, hB1⟩
end Go.Proofs.YtbcfiiilikkkeaaGreatDoor
namespace Go.Proofs.YtbcfiiilikkkeaaGreatDoor
open Go.RowKit

structure LawSt (w : World) (bs : List (Nat × Obj)) (rows : List (Value × List FileL)) (W : World) : Prop where
  below : Below w.heap.size w W
  has : ∀ p ∈ bs, W.heap[p.1]? = some p.2
  own : ∀ p ∈ rows, W.ownsRow w.heap.size 164 2 p.1 p.2.length (cellsF p.2)
  sep : ∀ p ∈ bs, ∀ q ∈ rows, q.1.ownBlock ≠ some p.1
  apart : rows.Pairwise fun p q => p.1.ownBlock = none ∨ p.1.ownBlock ≠ q.1.ownBlock
  dist : bs.Pairwise fun p q => p.1 ≠ q.1
  up : ∀ p ∈ bs, w.heap.size ≤ p.1
theorem LawSt.bsz {w W : World} {bs : List (Nat × Obj)} {rows : List (Value × List FileL)} (h : LawSt w bs rows W) : ∀ p ∈ bs, p.1 < W.heap.size := fun p hp => (Array.getElem?_eq_some_iff.1 (h.has p hp)).1
theorem LawSt.rsz {w W : World} {bs : List (Nat × Obj)} {rows : List (Value × List FileL)} (h : LawSt w bs rows W) : ∀ q ∈ rows, ∀ k, q.1.ownBlock = some k → k < W.heap.size := fun q hq k hk => ((h.own q hq).lt k hk).2
theorem LawSt.step {w W W' : World} {bs : List (Nat × Obj)} {rows : List (Value × List FileL)} (h : LawSt w bs rows W) (hb : Below W.heap.size W W') : LawSt w bs rows W' :=
  ⟨h.below.trans (hb.mono h.below.size), fun p hp => (hb.block _ (h.bsz p hp)).trans (h.has p hp), fun p hp => own_kept (h.own p hp) hb, h.sep, h.apart, h.dist, h.up⟩
theorem LawSt.drew {w W : World} {bs : List (Nat × Obj)} {rows : List (Value × List FileL)} (h : LawSt w bs rows W) : LawSt w bs rows W.drew := ⟨h.below.drew, h.has, h.own, h.sep, h.apart, h.dist, h.up⟩
theorem LawSt.alloc {w W : World} {bs : List (Nat × Obj)} {rows : List (Value × List FileL)} (h : LawSt w bs rows W) (o : Obj) : LawSt w ((W.heap.size, o) :: bs) rows (W.alloc o) := by
  have hb : Below W.heap.size W (W.alloc o) := (Below.refl _ _).alloc (Nat.le_refl _) _
  have h2 := h.step hb
  refine ⟨h2.below, fun p hp => ?_, h2.own, fun p hp q hq => ?_, h.apart, List.Pairwise.cons (fun q hq => by have := h.bsz q hq; simp only; omega) h.dist, fun p hp => ?_⟩
  · rcases List.mem_cons.1 hp with rfl | hp
    · exact heap_alloc_new W o
    · exact h2.has p hp
  · rcases List.mem_cons.1 hp with rfl | hp
    · intro e
      have := h.rsz q hq _ e
      exact Nat.lt_irrefl _ this
    · exact h.sep p hp q hq
  · rcases List.mem_cons.1 hp with rfl | hp
    · exact h.below.size
    · exact h.up p hp
/-- A call that answers with a row of its own. -/
theorem LawSt.call {w W W' : World} {bs : List (Nat × Obj)} {rows : List (Value × List FileL)} (h : LawSt w bs rows W) (hb : Below W.heap.size W W') {v : Value} {l : List FileL} (hv : W'.ownsRow W.heap.size 164 2 v l.length (cellsF l)) : LawSt w bs ((v, l) :: rows) W' := by
  have h2 := h.step hb
  refine ⟨h2.below, h2.has, fun p hp => ?_, fun p hp q hq => ?_, List.Pairwise.cons (fun q hq => ?_) h.apart, h.dist, h.up⟩
  · rcases List.mem_cons.1 hp with rfl | hp
    · exact own_mono hv h.below.size
    · exact h2.own p hp
  · rcases List.mem_cons.1 hq with rfl | hq
    · intro e
      have h3 := (hv.lt _ e).1
      have h4 := h.bsz p hp
      omega
    · exact h.sep p hp q hq
  · cases e : v.ownBlock with
    | none => exact Or.inl rfl
    | some k =>
      right
      intro e2
      have h3 := (hv.lt _ e).1
      have h4 := h.rsz q hq k e2.symm
      omega
/-- A variable is set. -/
theorem LawSt.set {w W : World} {bs : List (Nat × Obj)} {rows : List (Value × List FileL)} {b : Nat} {x : Value} {t : TypeId} (h : LawSt w ((b, Obj.cells #[x] t (0, 0)) :: bs) rows W) (v : Value) : LawSt w ((b, .cells #[v] t (0, 0)) :: bs) rows (W.setCell ⟨b, 0, none⟩ v) := by
  have hd := (List.pairwise_cons.1 h.dist)
  refine ⟨h.below.setCell (h.up _ (List.Mem.head _)) _, fun p hp => ?_, fun p hp => own_set (h.own p hp) b 0 v (h.sep _ (List.Mem.head _) p hp), fun p hp q hq => ?_, h.apart, List.Pairwise.cons (fun q hq => hd.1 q hq) hd.2, fun p hp => ?_⟩
  · rcases List.mem_cons.1 hp with rfl | hp
    · have := heap_setCell_same W b 0 _ t v (h.has _ (List.Mem.head _))
      simpa using this
    · exact (Below.heap_setCell W ⟨b, 0, none⟩ v p.1 (fun e => hd.1 p hp e.symm)).trans (h.has p (List.mem_cons_of_mem _ hp))
  · rcases List.mem_cons.1 hp with rfl | hp
    · exact h.sep (b, Obj.cells #[x] t (0, 0)) (List.Mem.head _) q hq
    · exact h.sep p (List.mem_cons_of_mem _ hp) q hq
  · rcases List.mem_cons.1 hp with rfl | hp
    · exact h.up (b, Obj.cells #[x] t (0, 0)) (List.Mem.head _)
    · exact h.up p (List.mem_cons_of_mem _ hp)
/-- One row is marked: what else there is stays. -/
theorem LawSt.mark {w W W' : World} {bs : List (Nat × Obj)} {rows : List (Value × List FileL)} (h : LawSt w bs rows W) {v : Value} {l l' : List FileL} (hm : (v, l) ∈ rows) (hg : W.grownBy W' v.ownBlock) (hv : W'.ownsRow w.heap.size 164 2 v l'.length (cellsF l'))
    (rest : List (Value × List FileL)) (hrest : ∀ p ∈ rest, p ∈ rows ∧ (p.1.ownBlock = none ∨ p.1.ownBlock ≠ v.ownBlock)) (hpw : rest.Pairwise fun p q => p.1.ownBlock = none ∨ p.1.ownBlock ≠ q.1.ownBlock) : LawSt w bs ((v, l') :: rest) W' := by
  refine ⟨h.below.grown hg h.below.size (fun j hj => (hv.lt j hj).1), fun p hp => (hg.block _ (h.bsz p hp) (fun e => h.sep p hp _ hm e.symm)).trans (h.has p hp), fun p hp => ?_, fun p hp q hq => ?_, List.Pairwise.cons (fun q hq => ?_) hpw, h.dist, h.up⟩
  · rcases List.mem_cons.1 hp with rfl | hp
    · exact hv
    · exact (h.own p (hrest p hp).1).kept hg (hrest p hp).2
  · rcases List.mem_cons.1 hq with rfl | hq
    · exact h.sep p hp (v, l) hm
    · exact h.sep p hp q (hrest q hq).1
  · rcases (hrest q hq).2 with h1 | h1
    · cases e : v.ownBlock with
      | none => exact Or.inl rfl
      | some k => right; rw [h1]; simp
    · exact Or.inr (fun e => h1 e.symm)
theorem LawSt.cell {w W : World} {bs : List (Nat × Obj)} {rows : List (Value × List FileL)} (h : LawSt w bs rows W) {b : Nat} {x : Value} {t : TypeId} (hm : (b, Obj.cells #[x] t (0, 0)) ∈ bs) : W.cell? ⟨b, 0, none⟩ = some x := cell_of_row _ _ 0 _ _ _ (h.has _ hm)
theorem LawSt.frozen {w W : World} {bs : List (Nat × Obj)} {rows : List (Value × List FileL)} (h : LawSt w bs rows W) {b : Nat} {x : Value} {t : TypeId} (hm : (b, Obj.cells #[x] t (0, 0)) ∈ bs) : W.frozen? ⟨b, 0, none⟩ = false := frozen_of_row _ _ _ _ _ (h.has _ hm)
theorem LawSt.files {w W : World} {bs : List (Nat × Obj)} {rows : List (Value × List FileL)} (h : LawSt w bs rows W) {a : Option Addr} {n c : Nat} {l : List FileL} (hn : l.length = n) (hm : (Value.slice a n c, l) ∈ rows) : ∃ g, FilesAt W a g 0 l := by
  subst hn
  obtain ⟨a', g', c', e, hf⟩ := own_filesAt (h.own _ hm)
  have e1 : a = a' := by simpa using congrArg (fun v => match v with | Value.slice x _ _ => x | _ => none) e
  subst e1
  exact ⟨g', hf⟩
theorem LawSt.tail {w W : World} {bs : List (Nat × Obj)} {r : Value × List FileL} {rows : List (Value × List FileL)} (h : LawSt w bs (r :: rows) W) : LawSt w bs rows W :=
  ⟨h.below, h.has, fun p hp => h.own p (List.mem_cons_of_mem _ hp), fun p hp q hq => h.sep p hp q (List.mem_cons_of_mem _ hq), (List.pairwise_cons.1 h.apart).2, h.dist, h.up⟩
theorem LawSt.second {w W : World} {bs : List (Nat × Obj)} {r s : Value × List FileL} {rows : List (Value × List FileL)} (h : LawSt w bs (r :: s :: rows) W) : LawSt w bs (r :: rows) W :=
  ⟨h.below, h.has, fun p hp => h.own p (by rcases List.mem_cons.1 hp with rfl | hp <;> simp [*]), fun p hp q hq => h.sep p hp q (by rcases List.mem_cons.1 hq with rfl | hq <;> simp [*]),
    List.Pairwise.cons (fun q hq => (List.pairwise_cons.1 h.apart).1 q (List.mem_cons_of_mem _ hq)) (List.pairwise_cons.1 (List.pairwise_cons.1 h.apart).2).2, h.dist, h.up⟩
theorem LawSt.start (w : World) (x y : Obj) : LawSt w [(w.heap.size + 1, y), (w.heap.size, x)] [] ((w.alloc x).alloc y) := by
  refine ⟨((Below.refl _ _).alloc (Nat.le_refl _) _).alloc (by simp) _, fun p hp => ?_, fun p hp => (List.not_mem_nil hp).elim, fun p _ q hq => (List.not_mem_nil hq).elim, List.Pairwise.nil, by simp, fun p hp => by rcases List.mem_cons.1 hp with rfl | hp; exact Nat.le_succ _; obtain rfl := List.mem_singleton.1 hp; exact Nat.le_refl _⟩
  simp only [List.mem_cons, List.not_mem_nil, or_false] at hp
  rcases hp with rfl | rfl
  · have := heap_alloc_new (w.alloc x) y
    simpa using this
  · show ((w.alloc x).alloc y).heap[w.heap.size]? = some x
    rw [Below.heap_alloc _ _ _ (by simp)]
    exact heap_alloc_new w x
end Go.Proofs.YtbcfiiilikkkeaaGreatDoor
