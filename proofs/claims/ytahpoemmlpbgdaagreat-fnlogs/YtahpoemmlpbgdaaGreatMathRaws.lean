/- The call of the specification's PutRaw, walked: what it refuses; and all of it. What a law holds while it calls: its variables, its rows of files. Plain facts on lists of raw writes. -/
import Derived.Test.YtahpoemmlpbgdaaGreatPutRaw3
import Derived.Test.YtahpoemmlpbgdaaGreatPutRaw
namespace Go.Proofs.YtahpoemmlpbgdaaGreat
open Go.RowKit

theorem put_bad {l : List FileL} {r : Disks.RawL} (h : ¬ Disks.good l r) : Disks.putRaw l r = none := by
  rw [Disks.putRaw_neg (fun h2 => h h2.1)]

set_option maxHeartbeats 4000000 in
set_option maxRecDepth 100000 in
theorem specPutRaw_b1 {a : Option Addr} {g off cap : Nat} (l : List FileL) (hlen : l.length ≤ 1048576) (hsz : ∀ f ∈ l, f.1.size ≤ 1048576 ∧ f.2.size ≤ 1048576) (K : Int) (N O X : ByteArray) (hno : ¬ Disks.ok l) (HB : ¬ Disks.good l ⟨K, N, O, X⟩) (w : World) (hf : FilesAt w a g off l) :
    Calls Tryz.prog 34 #[.agg #[.slice a l.length cap], rawV ⟨K, N, O, X⟩] w (putPost w (Disks.putRaw l ⟨K, N, O, X⟩)) := by
  have HNO : Hid (¬ Disks.ok l) := hno
  clear hno
  have HF : Hid (FilesAt w a g off l) := hf
  have HSZ : Hid (∀ f ∈ l, f.1.size ≤ 1048576 ∧ f.2.size ≤ 1048576) := hsz
  obtain ⟨x, hx⟩ : ∃ x : Int, (Disks.None l N ∧ x = -1) ∨ ∃ k : Nat, Disks.At l N k ∧ x = (k : Int) := by
    rcases Disks.at_or_none l N with h | ⟨k, h⟩
    · exact ⟨-1, Or.inl ⟨h, rfl⟩⟩
    · exact ⟨k, Or.inr ⟨k, h, rfl⟩⟩
  have HX : Hid ((Disks.None l N ∧ x = -1) ∨ ∃ k : Nat, Disks.At l N k ∧ x = (k : Int)) := hx
  have HP : Hid (Disks.putRaw l ⟨K, N, O, X⟩ = none) := put_bad HB
  clear hf hsz hx
  unfold rawV
  go_enter Tryz.func34, Tryz.ntmps34
  go_wp2_with fail
  obtain ⟨W, hW⟩ : ∃ W, W = (((w.alloc (.cells #[.slice a l.length cap] 41)).alloc (.cells #[.int .i64 K, .string N, .string O, .string X] 69)).alloc (.cells #[.slice none 0 0] 41)) := ⟨_, rfl⟩
  rw [← hW]
  have hBW : Below w.heap.size w W := by rw [hW]; exact (((Below.refl _ _).alloc (Nat.le_refl _) _).alloc (by simp) _).alloc (by simp; omega) _
  have hst : RawAt w.heap.size (.slice a l.length cap) ⟨K, N, O, X⟩ W := by rw [hW]; exact RawAt.start w _ ⟨K, N, O, X⟩
  clear hW
  refine (l03At_is l hlen N x HX.out W (HF.out.kept hBW)).mono ?_
  rintro e w1 ⟨rfl, hb1⟩
  have hB1 : Below w.heap.size w w1 := hBW.trans (hb1.mono hBW.size)
  have hst1 := hst.kept hb1
  have hd1 := hst1.cd
  clear hBW hst hb1
  go_wp2_with fail
  refine (specDiskOk_any false l hlen w1 (HF.out.kept hB1) HSZ.out ⟨fun h => (by cases h), fun h => absurd h HNO.out⟩).mono ?_
  rintro e w2 ⟨rfl, hb2⟩
  have hB2 : Below w.heap.size w w2 := hB1.trans (hb2.mono hB1.size)
  have hst2 := hst1.kept hb2
  have hr2 := hst2.cr
  have hfr2 := hst2.fr
  have q0 : w2.cell? ⟨w.heap.size + 1, 0, none⟩ = some (.int .i64 K) := hst2.c0
  have hres := World.cell?_setCell_same w2 _ (.slice none 0 0) hr2
  clear hB1 hst1 hb2 hd1
  go_wp2
  refine bodyPost_ret (v := .tuple #[.agg #[.slice none 0 0], .bool false]) (by simp [results, Tryz.results34, go_sem, hres]) rfl (putPost_none HP.out (hB2.setCell (by simp; omega) _))

set_option maxHeartbeats 4000000 in
set_option maxRecDepth 100000 in
theorem specPutRaw_b2 {a : Option Addr} {g off cap : Nat} (l : List FileL) (hlen : l.length ≤ 1048576) (hsz : ∀ f ∈ l, f.1.size ≤ 1048576 ∧ f.2.size ≤ 1048576) (K : Int) (N O X : ByteArray) (hok : Disks.ok l) (hk : ¬ (1 ≤ K ∧ K ≤ 4)) (HB : ¬ Disks.good l ⟨K, N, O, X⟩) (w : World) (hf : FilesAt w a g off l) :
    Calls Tryz.prog 34 #[.agg #[.slice a l.length cap], rawV ⟨K, N, O, X⟩] w (putPost w (Disks.putRaw l ⟨K, N, O, X⟩)) := by
  have HOK : Hid (Disks.ok l) := hok
  clear hok
  have HF : Hid (FilesAt w a g off l) := hf
  have HSZ : Hid (∀ f ∈ l, f.1.size ≤ 1048576 ∧ f.2.size ≤ 1048576) := hsz
  obtain ⟨x, hx⟩ : ∃ x : Int, (Disks.None l N ∧ x = -1) ∨ ∃ k : Nat, Disks.At l N k ∧ x = (k : Int) := by
    rcases Disks.at_or_none l N with h | ⟨k, h⟩
    · exact ⟨-1, Or.inl ⟨h, rfl⟩⟩
    · exact ⟨k, Or.inr ⟨k, h, rfl⟩⟩
  have HX : Hid ((Disks.None l N ∧ x = -1) ∨ ∃ k : Nat, Disks.At l N k ∧ x = (k : Int)) := hx
  have HP : Hid (Disks.putRaw l ⟨K, N, O, X⟩ = none) := put_bad HB
  clear hf hsz hx
  unfold rawV
  go_enter Tryz.func34, Tryz.ntmps34
  go_wp2_with fail
  obtain ⟨W, hW⟩ : ∃ W, W = (((w.alloc (.cells #[.slice a l.length cap] 41)).alloc (.cells #[.int .i64 K, .string N, .string O, .string X] 69)).alloc (.cells #[.slice none 0 0] 41)) := ⟨_, rfl⟩
  rw [← hW]
  have hBW : Below w.heap.size w W := by rw [hW]; exact (((Below.refl _ _).alloc (Nat.le_refl _) _).alloc (by simp) _).alloc (by simp; omega) _
  have hst : RawAt w.heap.size (.slice a l.length cap) ⟨K, N, O, X⟩ W := by rw [hW]; exact RawAt.start w _ ⟨K, N, O, X⟩
  clear hW
  refine (l03At_is l hlen N x HX.out W (HF.out.kept hBW)).mono ?_
  rintro e w1 ⟨rfl, hb1⟩
  have hB1 : Below w.heap.size w w1 := hBW.trans (hb1.mono hBW.size)
  have hst1 := hst.kept hb1
  have hd1 := hst1.cd
  clear hBW hst hb1
  go_wp2_with fail
  refine (specDiskOk_any true l hlen w1 (HF.out.kept hB1) HSZ.out ⟨fun _ => HOK.out, fun _ => rfl⟩).mono ?_
  rintro e w2 ⟨rfl, hb2⟩
  have hB2 : Below w.heap.size w w2 := hB1.trans (hb2.mono hB1.size)
  have hst2 := hst1.kept hb2
  have hr2 := hst2.cr
  have hfr2 := hst2.fr
  have q0 : w2.cell? ⟨w.heap.size + 1, 0, none⟩ = some (.int .i64 K) := hst2.c0
  have hres := World.cell?_setCell_same w2 _ (.slice none 0 0) hr2
  clear hB1 hst1 hb2 hd1
  go_wp2_with fail
  refine (in_no_pk K 1 4 hk w2).mono ?_
  rintro e w2' ⟨rfl, rfl⟩
  go_wp2
  refine bodyPost_ret (v := .tuple #[.agg #[.slice none 0 0], .bool false]) (by simp [results, Tryz.results34, go_sem, hres]) rfl (putPost_none HP.out (hB2.setCell (by simp; omega) _))

set_option maxHeartbeats 4000000 in
set_option maxRecDepth 100000 in
theorem specPutRaw_b3 {a : Option Addr} {g off cap : Nat} (l : List FileL) (hlen : l.length ≤ 1048576) (hsz : ∀ f ∈ l, f.1.size ≤ 1048576 ∧ f.2.size ≤ 1048576) (K : Int) (N O X : ByteArray) (hok : Disks.ok l) (hk : 1 ≤ K ∧ K ≤ 4) (hk3 : 3 ≤ K) (hno : Disks.None l N) (HB : ¬ Disks.good l ⟨K, N, O, X⟩) (w : World) (hf : FilesAt w a g off l) :
    Calls Tryz.prog 34 #[.agg #[.slice a l.length cap], rawV ⟨K, N, O, X⟩] w (putPost w (Disks.putRaw l ⟨K, N, O, X⟩)) := by
  have HOK : Hid (Disks.ok l) := hok
  have HNO : Hid (Disks.None l N) := hno
  clear hok hno
  have HF : Hid (FilesAt w a g off l) := hf
  have HSZ : Hid (∀ f ∈ l, f.1.size ≤ 1048576 ∧ f.2.size ≤ 1048576) := hsz
  obtain ⟨x, hx⟩ : ∃ x : Int, (Disks.None l N ∧ x = -1) ∨ ∃ k : Nat, Disks.At l N k ∧ x = (k : Int) := by
    rcases Disks.at_or_none l N with h | ⟨k, h⟩
    · exact ⟨-1, Or.inl ⟨h, rfl⟩⟩
    · exact ⟨k, Or.inr ⟨k, h, rfl⟩⟩
  have HX : Hid ((Disks.None l N ∧ x = -1) ∨ ∃ k : Nat, Disks.At l N k ∧ x = (k : Int)) := hx
  have HP : Hid (Disks.putRaw l ⟨K, N, O, X⟩ = none) := put_bad HB
  clear hf hsz hx
  unfold rawV
  go_enter Tryz.func34, Tryz.ntmps34
  go_wp2_with fail
  obtain ⟨W, hW⟩ : ∃ W, W = (((w.alloc (.cells #[.slice a l.length cap] 41)).alloc (.cells #[.int .i64 K, .string N, .string O, .string X] 69)).alloc (.cells #[.slice none 0 0] 41)) := ⟨_, rfl⟩
  rw [← hW]
  have hBW : Below w.heap.size w W := by rw [hW]; exact (((Below.refl _ _).alloc (Nat.le_refl _) _).alloc (by simp) _).alloc (by simp; omega) _
  have hst : RawAt w.heap.size (.slice a l.length cap) ⟨K, N, O, X⟩ W := by rw [hW]; exact RawAt.start w _ ⟨K, N, O, X⟩
  clear hW
  refine (l03At_is l hlen N x HX.out W (HF.out.kept hBW)).mono ?_
  rintro e w1 ⟨rfl, hb1⟩
  have hB1 : Below w.heap.size w w1 := hBW.trans (hb1.mono hBW.size)
  have hst1 := hst.kept hb1
  have hd1 := hst1.cd
  clear hBW hst hb1
  have hxm : x = -1 := by
    rcases HX.out with ⟨_, h⟩ | ⟨k, ⟨hk, h1, _⟩, _⟩
    · exact h
    · have := HNO.out k hk
      rw [h1] at this
      cases this
  subst hxm
  go_wp2_with fail
  refine (specDiskOk_any true l hlen w1 (HF.out.kept hB1) HSZ.out ⟨fun _ => HOK.out, fun _ => rfl⟩).mono ?_
  rintro e w2 ⟨rfl, hb2⟩
  have hB2 : Below w.heap.size w w2 := hB1.trans (hb2.mono hB1.size)
  have hst2 := hst1.kept hb2
  have hr2 := hst2.cr
  have hfr2 := hst2.fr
  have q0 : w2.cell? ⟨w.heap.size + 1, 0, none⟩ = some (.int .i64 K) := hst2.c0
  have hres := World.cell?_setCell_same w2 _ (.slice none 0 0) hr2
  clear hB1 hst1 hb2 hd1
  go_wp2_with fail
  refine (in_yes_pk K 1 4 hk w2).mono ?_
  rintro e w2' ⟨rfl, rfl⟩
  go_wp2
  refine bodyPost_ret (v := .tuple #[.agg #[.slice none 0 0], .bool false]) (by simp [results, Tryz.results34, go_sem, hres]) rfl (putPost_none HP.out (hB2.setCell (by simp; omega) _))

/-- PutRaw of the specification, at every disk and raw write within bounds. -/
theorem specPutRaw_is {a : Option Addr} {g off cap : Nat} (l : List FileL) (hlen : l.length ≤ 1048576) (hsz : ∀ f ∈ l, f.1.size ≤ 1048576 ∧ f.2.size ≤ 1048576) (r : Disks.RawL) (hnil : a = none → cap = 0) (hr : r.name.size ≤ 1048576 ∧ r.to.size ≤ 1048576 ∧ r.text.size ≤ 1048576) (w : World) (hf : FilesAt w a g off l) :
    Calls Tryz.prog 34 #[.agg #[.slice a l.length cap], rawV r] w (putPost w (Disks.putRaw l r)) := by
  obtain ⟨K, N, O, X⟩ := r
  by_cases hg : Disks.good l ⟨K, N, O, X⟩
  · obtain ⟨_, ⟨h1, h2⟩, h3⟩ := id hg
    simp only at h1 h2
    have hc : K = 1 ∨ K = 2 ∨ K = 3 ∨ K = 4 := by omega
    rcases Disks.at_or_none l N with hx | ⟨k, hx⟩
    · have h4 : K < 3 := h3 hx
      rcases hc with rfl | rfl | rfl | rfl
      · exact specPutRaw_1n l N O X hg hnil hr hx w hf
      · exact specPutRaw_2n l N O X hg hnil hr hx w hf
      · omega
      · omega
    · rcases hc with rfl | rfl | rfl | rfl
      · exact specPutRaw_1a l N O X hg hnil hr k hx w hf
      · exact specPutRaw_2a l N O X hg hnil hr k hx w hf
      · by_cases ht : (O.toList == N.toList) = true
        · exact specPutRaw_3s l N O X hg hnil hr k hx ht w hf
        · exact specPutRaw_3d l N O X hg hnil hr k hx (by simpa using ht) w hf
      · exact specPutRaw_4a l N O X hg hnil hr k hx w hf
  · by_cases hok : Disks.ok l
    · by_cases hk : 1 ≤ K ∧ K ≤ 4
      · have h3 : Disks.None l N ∧ 3 ≤ K := by
          by_cases hn : Disks.None l N
          · refine ⟨hn, ?_⟩
            by_cases h : 3 ≤ K
            · exact h
            · exact absurd ⟨hok, hk, fun _ => (by show K < 3; omega)⟩ hg
          · exact absurd ⟨hok, hk, fun h => absurd h hn⟩ hg
        exact specPutRaw_b3 l hlen hsz K N O X hok hk h3.2 h3.1 hg w hf
      · exact specPutRaw_b2 l hlen hsz K N O X hok hk hg w hf
    · exact specPutRaw_b1 l hlen hsz K N O X hok hg w hf
end Go.Proofs.YtahpoemmlpbgdaaGreat
namespace Go.Proofs.YtahpoemmlpbgdaaGreat
open Go.RowKit

structure LawSt (w : World) (bs : List (Nat × Obj)) (rows : List (Value × List FileL)) (W : World) : Prop where
  below : Below w.heap.size w W
  has : ∀ p ∈ bs, W.heap[p.1]? = some p.2
  own : ∀ p ∈ rows, W.ownsRow w.heap.size 38 2 p.1 p.2.length (cellsF p.2)
  sep : ∀ p ∈ bs, ∀ q ∈ rows, q.1.ownBlock ≠ some p.1
  apart : rows.Pairwise fun p q => p.1.ownBlock = none ∨ p.1.ownBlock ≠ q.1.ownBlock
  dist : bs.Pairwise fun p q => p.1 ≠ q.1
  up : ∀ p ∈ bs, w.heap.size ≤ p.1
theorem LawSt.bsz {w W : World} {bs : List (Nat × Obj)} {rows : List (Value × List FileL)} (h : LawSt w bs rows W) : ∀ p ∈ bs, p.1 < W.heap.size := fun p hp => (Array.getElem?_eq_some_iff.1 (h.has p hp)).1
theorem LawSt.rsz {w W : World} {bs : List (Nat × Obj)} {rows : List (Value × List FileL)} (h : LawSt w bs rows W) : ∀ q ∈ rows, ∀ k, q.1.ownBlock = some k → k < W.heap.size := fun q hq k hk => ((h.own q hq).lt k hk).2
theorem LawSt.step {w W W' : World} {bs : List (Nat × Obj)} {rows : List (Value × List FileL)} (h : LawSt w bs rows W) (hb : Below W.heap.size W W') : LawSt w bs rows W' :=
  ⟨h.below.trans (hb.mono h.below.size), fun p hp => (hb.block _ (h.bsz p hp)).trans (h.has p hp), fun p hp => own_kept (h.own p hp) hb, h.sep, h.apart, h.dist, h.up⟩
theorem LawSt.drew {w W : World} {bs : List (Nat × Obj)} {rows : List (Value × List FileL)} (h : LawSt w bs rows W) : LawSt w bs rows W.drew := ⟨h.below.drew, h.has, h.own, h.sep, h.apart, h.dist, h.up⟩
theorem LawSt.alloc {w W : World} {bs : List (Nat × Obj)} {rows : List (Value × List FileL)} (h : LawSt w bs rows W) (o : Obj) : LawSt w ((W.heap.size, o) :: bs) rows (W.alloc o) := by
  have hb : Below W.heap.size W (W.alloc o) := (Below.refl _ _).alloc (Nat.le_refl _) _
  have h2 := h.step hb
  refine ⟨h2.below, fun p hp => ?_, h2.own, fun p hp q hq => ?_, h.apart, List.Pairwise.cons (fun q hq => by have := h.bsz q hq; simp only; omega) h.dist, fun p hp => ?_⟩
  · rcases List.mem_cons.1 hp with rfl | hp
    · exact heap_alloc_new W o
    · exact h2.has p hp
  · rcases List.mem_cons.1 hp with rfl | hp
    · intro e
      have := h.rsz q hq _ e
      exact Nat.lt_irrefl _ this
    · exact h.sep p hp q hq
  · rcases List.mem_cons.1 hp with rfl | hp
    · exact h.below.size
    · exact h.up p hp
/-- A call that answers with a row of its own. -/
theorem LawSt.call {w W W' : World} {bs : List (Nat × Obj)} {rows : List (Value × List FileL)} (h : LawSt w bs rows W) (hb : Below W.heap.size W W') {v : Value} {l : List FileL} (hv : W'.ownsRow W.heap.size 38 2 v l.length (cellsF l)) : LawSt w bs ((v, l) :: rows) W' := by
  have h2 := h.step hb
  refine ⟨h2.below, h2.has, fun p hp => ?_, fun p hp q hq => ?_, List.Pairwise.cons (fun q hq => ?_) h.apart, h.dist, h.up⟩
  · rcases List.mem_cons.1 hp with rfl | hp
    · exact own_mono hv h.below.size
    · exact h2.own p hp
  · rcases List.mem_cons.1 hq with rfl | hq
    · intro e
      have h3 := (hv.lt _ e).1
      have h4 := h.bsz p hp
      omega
    · exact h.sep p hp q hq
  · cases e : v.ownBlock with
    | none => exact Or.inl rfl
    | some k =>
      right
      intro e2
      have h3 := (hv.lt _ e).1
      have h4 := h.rsz q hq k e2.symm
      omega
/-- A variable is set. -/
theorem LawSt.set {w W : World} {bs : List (Nat × Obj)} {rows : List (Value × List FileL)} {b : Nat} {x : Value} {t : TypeId} (h : LawSt w ((b, Obj.cells #[x] t (0, 0)) :: bs) rows W) (v : Value) : LawSt w ((b, .cells #[v] t (0, 0)) :: bs) rows (W.setCell ⟨b, 0, none⟩ v) := by
  have hd := (List.pairwise_cons.1 h.dist)
  refine ⟨h.below.setCell (h.up _ (List.Mem.head _)) _, fun p hp => ?_, fun p hp => own_set (h.own p hp) b 0 v (h.sep _ (List.Mem.head _) p hp), fun p hp q hq => ?_, h.apart, List.Pairwise.cons (fun q hq => hd.1 q hq) hd.2, fun p hp => ?_⟩
  · rcases List.mem_cons.1 hp with rfl | hp
    · have := heap_setCell_same W b 0 _ t v (h.has _ (List.Mem.head _))
      simpa using this
    · exact (Below.heap_setCell W ⟨b, 0, none⟩ v p.1 (fun e => hd.1 p hp e.symm)).trans (h.has p (List.mem_cons_of_mem _ hp))
  · rcases List.mem_cons.1 hp with rfl | hp
    · exact h.sep (b, Obj.cells #[x] t (0, 0)) (List.Mem.head _) q hq
    · exact h.sep p (List.mem_cons_of_mem _ hp) q hq
  · rcases List.mem_cons.1 hp with rfl | hp
    · exact h.up (b, Obj.cells #[x] t (0, 0)) (List.Mem.head _)
    · exact h.up p (List.mem_cons_of_mem _ hp)
theorem LawSt.cell {w W : World} {bs : List (Nat × Obj)} {rows : List (Value × List FileL)} (h : LawSt w bs rows W) {b : Nat} {x : Value} {t : TypeId} (hm : (b, Obj.cells #[x] t (0, 0)) ∈ bs) : W.cell? ⟨b, 0, none⟩ = some x := cell_of_row _ _ 0 _ _ _ (h.has _ hm)
theorem LawSt.frozen {w W : World} {bs : List (Nat × Obj)} {rows : List (Value × List FileL)} (h : LawSt w bs rows W) {b : Nat} {x : Value} {t : TypeId} (hm : (b, Obj.cells #[x] t (0, 0)) ∈ bs) : W.frozen? ⟨b, 0, none⟩ = false := frozen_of_row _ _ _ _ _ (h.has _ hm)
theorem LawSt.files {w W : World} {bs : List (Nat × Obj)} {rows : List (Value × List FileL)} (h : LawSt w bs rows W) {a : Option Addr} {n c : Nat} {l : List FileL} (hn : l.length = n) (hm : (Value.slice a n c, l) ∈ rows) : ∃ g, FilesAt W a g 0 l := by
  subst hn
  obtain ⟨a', g', c', e, hf⟩ := own_filesAt (h.own _ hm)
  have e1 : a = a' := by simpa using congrArg (fun v => match v with | Value.slice x _ _ => x | _ => none) e
  subst e1
  exact ⟨g', hf⟩
theorem LawSt.tail {w W : World} {bs : List (Nat × Obj)} {r : Value × List FileL} {rows : List (Value × List FileL)} (h : LawSt w bs (r :: rows) W) : LawSt w bs rows W :=
  ⟨h.below, h.has, fun p hp => h.own p (List.mem_cons_of_mem _ hp), fun p hp q hq => h.sep p hp q (List.mem_cons_of_mem _ hq), (List.pairwise_cons.1 h.apart).2, h.dist, h.up⟩
theorem LawSt.second {w W : World} {bs : List (Nat × Obj)} {r s : Value × List FileL} {rows : List (Value × List FileL)} (h : LawSt w bs (r :: s :: rows) W) : LawSt w bs (r :: rows) W :=
  ⟨h.below, h.has, fun p hp => h.own p (by rcases List.mem_cons.1 hp with rfl | hp <;> simp [*]), fun p hp q hq => h.sep p hp q (by rcases List.mem_cons.1 hq with rfl | hq <;> simp [*]),
    List.Pairwise.cons (fun q hq => (List.pairwise_cons.1 h.apart).1 q (List.mem_cons_of_mem _ hq)) (List.pairwise_cons.1 (List.pairwise_cons.1 h.apart).2).2, h.dist, h.up⟩
theorem LawSt.start (w : World) (x y : Obj) : LawSt w [(w.heap.size + 1, y), (w.heap.size, x)] [] ((w.alloc x).alloc y) := by
  refine ⟨((Below.refl _ _).alloc (Nat.le_refl _) _).alloc (by simp) _, fun p hp => ?_, fun p hp => (List.not_mem_nil hp).elim, fun p _ q hq => (List.not_mem_nil hq).elim, List.Pairwise.nil, by simp, fun p hp => by rcases List.mem_cons.1 hp with rfl | hp; exact Nat.le_succ _; obtain rfl := List.mem_singleton.1 hp; exact Nat.le_refl _⟩
  simp only [List.mem_cons, List.not_mem_nil, or_false] at hp
  rcases hp with rfl | rfl
  · have := heap_alloc_new (w.alloc x) y
    simpa using this
  · show ((w.alloc x).alloc y).heap[w.heap.size]? = some x
    rw [Below.heap_alloc _ _ _ (by simp)]
    exact heap_alloc_new w x
end Go.Proofs.YtahpoemmlpbgdaaGreat
namespace Go.Proofs.YtahpoemmlpbgdaaGreat.Disks
open Go
/-- Raw writes done one by one, up to the first that is refused: the disk, and how many were done. -/
def run : List FileL → List RawL → List FileL × Nat
  | l, [] => (l, 0)
  | l, r :: rs => match putRaw l r with
    | none => (l, 0)
    | some l' => ((run l' rs).1, (run l' rs).2 + 1)
theorem run_none {l : List FileL} {r : RawL} {rs : List RawL} (h : putRaw l r = none) : run l (r :: rs) = (l, 0) := by
  rw [run, h]
theorem run_some {l l' : List FileL} {r : RawL} {rs : List RawL} (h : putRaw l r = some l') : run l (r :: rs) = ((run l' rs).1, (run l' rs).2 + 1) := by
  rw [run, h]
theorem put_ok {l l' : List FileL} {r : RawL} (h : putRaw l r = some l') : ok l' := by
  obtain ⟨_, h2, rfl⟩ := putRaw_some h
  exact h2
end Go.Proofs.YtahpoemmlpbgdaaGreat.Disks
