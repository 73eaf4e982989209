/- The call of the specification's PutRaw, walked: what it refuses; and all of it. -/
import Derived.Test.YtpkkejpidlkmnaaPutRaw3
namespace Go.Proofs.Ytpkkejpidlkmnaa
open Go.RowKit

theorem put_bad {l : List FileL} {r : Disks.RawL} (h : ¬ Disks.good l r) : Disks.putRaw l r = none := by
  rw [Disks.putRaw_neg (fun h2 => h h2.1)]

set_option maxHeartbeats 4000000 in
set_option maxRecDepth 100000 in
theorem specPutRaw_b1 {a : Option Addr} {g off cap : Nat} (l : List FileL) (hlen : l.length ≤ 1048576) (hsz : ∀ f ∈ l, f.1.size ≤ 1048576 ∧ f.2.size ≤ 1048576) (K : Int) (N O X : ByteArray) (hno : ¬ Disks.ok l) (HB : ¬ Disks.good l ⟨K, N, O, X⟩) (w : World) (hf : FilesAt w a g off l) :
    Calls Try.prog 27 #[.agg #[.slice a l.length cap], rawV ⟨K, N, O, X⟩] w (putPost w (Disks.putRaw l ⟨K, N, O, X⟩)) := by
  have HNO : Hid (¬ Disks.ok l) := hno
  clear hno
  have HF : Hid (FilesAt w a g off l) := hf
  have HSZ : Hid (∀ f ∈ l, f.1.size ≤ 1048576 ∧ f.2.size ≤ 1048576) := hsz
  obtain ⟨x, hx⟩ : ∃ x : Int, (Disks.None l N ∧ x = -1) ∨ ∃ k : Nat, Disks.At l N k ∧ x = (k : Int) := by
    rcases Disks.at_or_none l N with h | ⟨k, h⟩
    · exact ⟨-1, Or.inl ⟨h, rfl⟩⟩
    · exact ⟨k, Or.inr ⟨k, h, rfl⟩⟩
  have HX : Hid ((Disks.None l N ∧ x = -1) ∨ ∃ k : Nat, Disks.At l N k ∧ x = (k : Int)) := hx
  have HP : Hid (Disks.putRaw l ⟨K, N, O, X⟩ = none) := put_bad HB
  clear hf hsz hx
  unfold rawV
  go_enter Try.func27, Try.ntmps27
  go_wp2_with fail
  obtain ⟨W, hW⟩ : ∃ W, W = (((w.alloc (.cells #[.slice a l.length cap] 34)).alloc (.cells #[.int .i64 K, .string N, .string O, .string X] 45)).alloc (.cells #[.slice none 0 0] 34)) := ⟨_, rfl⟩
  rw [← hW]
  have hBW : Below w.heap.size w W := by rw [hW]; exact (((Below.refl _ _).alloc (Nat.le_refl _) _).alloc (by simp) _).alloc (by simp; omega) _
  have hst : RawAt w.heap.size (.slice a l.length cap) ⟨K, N, O, X⟩ W := by rw [hW]; exact RawAt.start w _ ⟨K, N, O, X⟩
  clear hW
  refine (l03At_is l hlen N x HX.out W (HF.out.kept hBW)).mono ?_
  rintro e w1 ⟨rfl, hb1⟩
  have hB1 : Below w.heap.size w w1 := hBW.trans (hb1.mono hBW.size)
  have hst1 := hst.kept hb1
  have hd1 := hst1.cd
  clear hBW hst hb1
  go_wp2_with fail
  refine (specDiskOk_any false l hlen w1 (HF.out.kept hB1) HSZ.out ⟨fun h => (by cases h), fun h => absurd h HNO.out⟩).mono ?_
  rintro e w2 ⟨rfl, hb2⟩
  have hB2 : Below w.heap.size w w2 := hB1.trans (hb2.mono hB1.size)
  have hst2 := hst1.kept hb2
  have hr2 := hst2.cr
  have hfr2 := hst2.fr
  have q0 : w2.cell? ⟨w.heap.size + 1, 0, none⟩ = some (.int .i64 K) := hst2.c0
  have hres := World.cell?_setCell_same w2 _ (.slice none 0 0) hr2
  clear hB1 hst1 hb2 hd1
  go_wp2
  refine bodyPost_ret (v := .tuple #[.agg #[.slice none 0 0], .bool false]) (by simp [results, Try.results27, go_sem, hres]) rfl (putPost_none HP.out (hB2.setCell (by simp; omega) _))

set_option maxHeartbeats 4000000 in
set_option maxRecDepth 100000 in
theorem specPutRaw_b2 {a : Option Addr} {g off cap : Nat} (l : List FileL) (hlen : l.length ≤ 1048576) (hsz : ∀ f ∈ l, f.1.size ≤ 1048576 ∧ f.2.size ≤ 1048576) (K : Int) (N O X : ByteArray) (hok : Disks.ok l) (hk : ¬ (1 ≤ K ∧ K ≤ 4)) (HB : ¬ Disks.good l ⟨K, N, O, X⟩) (w : World) (hf : FilesAt w a g off l) :
    Calls Try.prog 27 #[.agg #[.slice a l.length cap], rawV ⟨K, N, O, X⟩] w (putPost w (Disks.putRaw l ⟨K, N, O, X⟩)) := by
  have HOK : Hid (Disks.ok l) := hok
  clear hok
  have HF : Hid (FilesAt w a g off l) := hf
  have HSZ : Hid (∀ f ∈ l, f.1.size ≤ 1048576 ∧ f.2.size ≤ 1048576) := hsz
  obtain ⟨x, hx⟩ : ∃ x : Int, (Disks.None l N ∧ x = -1) ∨ ∃ k : Nat, Disks.At l N k ∧ x = (k : Int) := by
    rcases Disks.at_or_none l N with h | ⟨k, h⟩
    · exact ⟨-1, Or.inl ⟨h, rfl⟩⟩
    · exact ⟨k, Or.inr ⟨k, h, rfl⟩⟩
  have HX : Hid ((Disks.None l N ∧ x = -1) ∨ ∃ k : Nat, Disks.At l N k ∧ x = (k : Int)) := hx
  have HP : Hid (Disks.putRaw l ⟨K, N, O, X⟩ = none) := put_bad HB
  clear hf hsz hx
  unfold rawV
  go_enter Try.func27, Try.ntmps27
  go_wp2_with fail
  obtain ⟨W, hW⟩ : ∃ W, W = (((w.alloc (.cells #[.slice a l.length cap] 34)).alloc (.cells #[.int .i64 K, .string N, .string O, .string X] 45)).alloc (.cells #[.slice none 0 0] 34)) := ⟨_, rfl⟩
  rw [← hW]
  have hBW : Below w.heap.size w W := by rw [hW]; exact (((Below.refl _ _).alloc (Nat.le_refl _) _).alloc (by simp) _).alloc (by simp; omega) _
  have hst : RawAt w.heap.size (.slice a l.length cap) ⟨K, N, O, X⟩ W := by rw [hW]; exact RawAt.start w _ ⟨K, N, O, X⟩
  clear hW
  refine (l03At_is l hlen N x HX.out W (HF.out.kept hBW)).mono ?_
  rintro e w1 ⟨rfl, hb1⟩
  have hB1 : Below w.heap.size w w1 := hBW.trans (hb1.mono hBW.size)
  have hst1 := hst.kept hb1
  have hd1 := hst1.cd
  clear hBW hst hb1
  go_wp2_with fail
  refine (specDiskOk_any true l hlen w1 (HF.out.kept hB1) HSZ.out ⟨fun _ => HOK.out, fun _ => rfl⟩).mono ?_
  rintro e w2 ⟨rfl, hb2⟩
  have hB2 : Below w.heap.size w w2 := hB1.trans (hb2.mono hB1.size)
  have hst2 := hst1.kept hb2
  have hr2 := hst2.cr
  have hfr2 := hst2.fr
  have q0 : w2.cell? ⟨w.heap.size + 1, 0, none⟩ = some (.int .i64 K) := hst2.c0
  have hres := World.cell?_setCell_same w2 _ (.slice none 0 0) hr2
  clear hB1 hst1 hb2 hd1
  go_wp2_with fail
  refine (in_no K 1 4 hk w2).mono ?_
  rintro e w2' ⟨rfl, rfl⟩
  go_wp2
  refine bodyPost_ret (v := .tuple #[.agg #[.slice none 0 0], .bool false]) (by simp [results, Try.results27, go_sem, hres]) rfl (putPost_none HP.out (hB2.setCell (by simp; omega) _))

set_option maxHeartbeats 4000000 in
set_option maxRecDepth 100000 in
theorem specPutRaw_b3 {a : Option Addr} {g off cap : Nat} (l : List FileL) (hlen : l.length ≤ 1048576) (hsz : ∀ f ∈ l, f.1.size ≤ 1048576 ∧ f.2.size ≤ 1048576) (K : Int) (N O X : ByteArray) (hok : Disks.ok l) (hk : 1 ≤ K ∧ K ≤ 4) (hk3 : 3 ≤ K) (hno : Disks.None l N) (HB : ¬ Disks.good l ⟨K, N, O, X⟩) (w : World) (hf : FilesAt w a g off l) :
    Calls Try.prog 27 #[.agg #[.slice a l.length cap], rawV ⟨K, N, O, X⟩] w (putPost w (Disks.putRaw l ⟨K, N, O, X⟩)) := by
  have HOK : Hid (Disks.ok l) := hok
  have HNO : Hid (Disks.None l N) := hno
  clear hok hno
  have HF : Hid (FilesAt w a g off l) := hf
  have HSZ : Hid (∀ f ∈ l, f.1.size ≤ 1048576 ∧ f.2.size ≤ 1048576) := hsz
  obtain ⟨x, hx⟩ : ∃ x : Int, (Disks.None l N ∧ x = -1) ∨ ∃ k : Nat, Disks.At l N k ∧ x = (k : Int) := by
    rcases Disks.at_or_none l N with h | ⟨k, h⟩
    · exact ⟨-1, Or.inl ⟨h, rfl⟩⟩
    · exact ⟨k, Or.inr ⟨k, h, rfl⟩⟩
  have HX : Hid ((Disks.None l N ∧ x = -1) ∨ ∃ k : Nat, Disks.At l N k ∧ x = (k : Int)) := hx
  have HP : Hid (Disks.putRaw l ⟨K, N, O, X⟩ = none) := put_bad HB
  clear hf hsz hx
  unfold rawV
  go_enter Try.func27, Try.ntmps27
  go_wp2_with fail
  obtain ⟨W, hW⟩ : ∃ W, W = (((w.alloc (.cells #[.slice a l.length cap] 34)).alloc (.cells #[.int .i64 K, .string N, .string O, .string X] 45)).alloc (.cells #[.slice none 0 0] 34)) := ⟨_, rfl⟩
  rw [← hW]
  have hBW : Below w.heap.size w W := by rw [hW]; exact (((Below.refl _ _).alloc (Nat.le_refl _) _).alloc (by simp) _).alloc (by simp; omega) _
  have hst : RawAt w.heap.size (.slice a l.length cap) ⟨K, N, O, X⟩ W := by rw [hW]; exact RawAt.start w _ ⟨K, N, O, X⟩
  clear hW
  refine (l03At_is l hlen N x HX.out W (HF.out.kept hBW)).mono ?_
  rintro e w1 ⟨rfl, hb1⟩
  have hB1 : Below w.heap.size w w1 := hBW.trans (hb1.mono hBW.size)
  have hst1 := hst.kept hb1
  have hd1 := hst1.cd
  clear hBW hst hb1
  have hxm : x = -1 := by
    rcases HX.out with ⟨_, h⟩ | ⟨k, ⟨hk, h1, _⟩, _⟩
    · exact h
    · have := HNO.out k hk
      rw [h1] at this
      cases this
  subst hxm
  go_wp2_with fail
  refine (specDiskOk_any true l hlen w1 (HF.out.kept hB1) HSZ.out ⟨fun _ => HOK.out, fun _ => rfl⟩).mono ?_
  rintro e w2 ⟨rfl, hb2⟩
  have hB2 : Below w.heap.size w w2 := hB1.trans (hb2.mono hB1.size)
  have hst2 := hst1.kept hb2
  have hr2 := hst2.cr
  have hfr2 := hst2.fr
  have q0 : w2.cell? ⟨w.heap.size + 1, 0, none⟩ = some (.int .i64 K) := hst2.c0
  have hres := World.cell?_setCell_same w2 _ (.slice none 0 0) hr2
  clear hB1 hst1 hb2 hd1
  go_wp2_with fail
  refine (in_yes K 1 4 hk w2).mono ?_
  rintro e w2' ⟨rfl, rfl⟩
  go_wp2
  refine bodyPost_ret (v := .tuple #[.agg #[.slice none 0 0], .bool false]) (by simp [results, Try.results27, go_sem, hres]) rfl (putPost_none HP.out (hB2.setCell (by simp; omega) _))

/-- PutRaw of the specification, at every disk and raw write within bounds. -/
theorem specPutRaw_is {a : Option Addr} {g off cap : Nat} (l : List FileL) (hlen : l.length ≤ 1048576) (hsz : ∀ f ∈ l, f.1.size ≤ 1048576 ∧ f.2.size ≤ 1048576) (r : Disks.RawL) (hnil : a = none → cap = 0) (hr : r.name.size ≤ 1048576 ∧ r.to.size ≤ 1048576 ∧ r.text.size ≤ 1048576) (w : World) (hf : FilesAt w a g off l) :
    Calls Try.prog 27 #[.agg #[.slice a l.length cap], rawV r] w (putPost w (Disks.putRaw l r)) := by
  obtain ⟨K, N, O, X⟩ := r
  by_cases hg : Disks.good l ⟨K, N, O, X⟩
  · obtain ⟨_, ⟨h1, h2⟩, h3⟩ := id hg
    simp only at h1 h2
    have hc : K = 1 ∨ K = 2 ∨ K = 3 ∨ K = 4 := by omega
    rcases Disks.at_or_none l N with hx | ⟨k, hx⟩
    · have h4 : K < 3 := h3 hx
      rcases hc with rfl | rfl | rfl | rfl
      · exact specPutRaw_1n l N O X hg hnil hr hx w hf
      · exact specPutRaw_2n l N O X hg hnil hr hx w hf
      · omega
      · omega
    · rcases hc with rfl | rfl | rfl | rfl
      · exact specPutRaw_1a l N O X hg hnil hr k hx w hf
      · exact specPutRaw_2a l N O X hg hnil hr k hx w hf
      · by_cases ht : (O.toList == N.toList) = true
        · exact specPutRaw_3s l N O X hg hnil hr k hx ht w hf
        · exact specPutRaw_3d l N O X hg hnil hr k hx (by simpa using ht) w hf
      · exact specPutRaw_4a l N O X hg hnil hr k hx w hf
  · by_cases hok : Disks.ok l
    · by_cases hk : 1 ≤ K ∧ K ≤ 4
      · have h3 : Disks.None l N ∧ 3 ≤ K := by
          by_cases hn : Disks.None l N
          · refine ⟨hn, ?_⟩
            by_cases h : 3 ≤ K
            · exact h
            · exact absurd ⟨hok, hk, fun _ => (by show K < 3; omega)⟩ hg
          · exact absurd ⟨hok, hk, fun h => absurd h hn⟩ hg
        exact specPutRaw_b3 l hlen hsz K N O X hok hk h3.2 h3.1 hg w hf
      · exact specPutRaw_b2 l hlen hsz K N O X hok hk hg w hf
    · exact specPutRaw_b1 l hlen hsz K N O X hok hg w hf
end Go.Proofs.Ytpkkejpidlkmnaa
