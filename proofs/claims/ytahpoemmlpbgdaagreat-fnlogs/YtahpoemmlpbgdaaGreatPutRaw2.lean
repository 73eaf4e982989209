/- The call of the specification's PutRaw, walked, kind by kind. -/
import Derived.Test.YtahpoemmlpbgdaaGreatPutRaw
namespace Go.Proofs.YtahpoemmlpbgdaaGreat
open Go.RowKit

set_option maxHeartbeats 8000000 in
set_option maxRecDepth 100000 in
theorem specPutRaw_1n {a : Option Addr} {g off cap : Nat} (l : List FileL) (N O X : ByteArray) (hg : Disks.good l ⟨1, N, O, X⟩) (hnil : a = none → cap = 0) (hr : N.size ≤ 1048576 ∧ O.size ≤ 1048576 ∧ X.size ≤ 1048576) (hx : Disks.None l N) (w : World) (hf : FilesAt w a g off l) :
    Calls Tryz.prog 34 #[.agg #[.slice a l.length cap], rawV ⟨1, N, O, X⟩] w (putPost w (Disks.putRaw l ⟨1, N, O, X⟩)) := by
  have HF : Hid (FilesAt w a g off l) := hf
  have HG : Hid (Disks.good l ⟨1, N, O, X⟩) := hg
  have HNIL : Hid (a = none → cap = 0) := hnil
  have HR : Hid (N.size ≤ 1048576 ∧ O.size ≤ 1048576 ∧ X.size ≤ 1048576) := hr
  have h30 := hg.1.1
  have hsz := ok_sizes hg.1
  have HSZ : Hid (∀ f ∈ l, f.1.size ≤ 12 ∧ f.2.size ≤ 20000) := hsz
  have HX : Hid (_) := hx
  clear hf hg hnil hr hsz
  clear hx
  unfold rawV
  go_enter Tryz.func34, Tryz.ntmps34
  go_wp2_with fail
  obtain ⟨W, hW⟩ : ∃ W, W = (((w.alloc (.cells #[.slice a l.length cap] 41)).alloc (.cells #[.int .i64 1, .string N, .string O, .string X] 69)).alloc (.cells #[.slice none 0 0] 41)) := ⟨_, rfl⟩
  rw [← hW]
  have hBW : Below w.heap.size w W := by rw [hW]; exact (((Below.refl _ _).alloc (Nat.le_refl _) _).alloc (by simp) _).alloc (by simp; omega) _
  have hst : RawAt w.heap.size (.slice a l.length cap) ⟨1, N, O, X⟩ W := by rw [hW]; exact RawAt.start w _ ⟨1, N, O, X⟩
  clear hW
  refine (l03At_is l (by omega) N (-1) (Or.inl ⟨HX.out, rfl⟩) W (HF.out.kept hBW)).mono ?_
  rintro e w1 ⟨rfl, hb1⟩
  have hB1 : Below w.heap.size w w1 := hBW.trans (hb1.mono hBW.size)
  have hst1 := hst.kept hb1
  have hd1 := hst1.cd
  clear hBW hst hb1
  go_wp2_with fail
  refine (specDiskOk_any true l (by omega) w1 (HF.out.kept hB1) (fun f h => by have := HSZ.out f h; omega) ⟨fun _ => HG.out.1, fun _ => rfl⟩).mono ?_
  rintro e w2 ⟨rfl, hb2⟩
  have hB2 : Below w.heap.size w w2 := hB1.trans (hb2.mono hB1.size)
  have hst2 := hst1.kept hb2
  have hd2 := hst2.cd
  have q0 : w2.cell? ⟨w.heap.size + 1, 0, none⟩ = some (.int .i64 1) := hst2.c0
  have q1 : w2.cell? ⟨w.heap.size + 1, 1, none⟩ = some (.string N) := hst2.c1
  have q2 : w2.cell? ⟨w.heap.size + 1, 2, none⟩ = some (.string O) := hst2.c2
  have q3 : w2.cell? ⟨w.heap.size + 1, 3, none⟩ = some (.string X) := hst2.c3
  clear hB1 hst1 hb2 hd1
  go_wp2_with fail
  refine (in_yes_pk 1 1 4 (by omega) w2).mono ?_
  rintro e w2' ⟨rfl, rfl⟩
  have hdA : (w2.alloc (.cells #[] 38)).cell? ⟨w.heap.size, 0, none⟩ = some (.slice a l.length cap) := (World.cell?_alloc_lt w2 _ _ (World.block_lt_of_cell? w2 _ hd2)).trans hd2
  have hbs : w2.heap.size ≤ (w2.alloc (.cells #[] 38)).heap.size := by simp
  go_wp2_with (at_builtin; refine wpList_append_files rfl _ _ rfl w2.heap.size (.slice (some ⟨w2.heap.size, 0, none⟩) 0 0) 0 [] rfl (World.ownsRow_made w2 #[] 0 (Nat.le_refl _) (by unfold maxLen; omega) rfl) a g off cap l rfl ((HF.out.kept hB2).kept ((Below.refl _ _).alloc (Nat.le_refl _) _)) HNIL.out (by omega) hbs ?_)
  intro v3 w3 hown3 hgrow3
  have hb3 : Below w2.heap.size w2 w3 := ((Below.refl _ _).alloc (Nat.le_refl _) _).grown hgrow3 (by simp) (fun j hj => by cases hj; exact Nat.le_refl _)
  have hB3 : Below w.heap.size w w3 := hB2.trans (hb3.mono hB2.size)
  have hst3 := hst2.kept hb3
  obtain ⟨va, vc, rfl⟩ := own_slice hown3
  have HOWN3 : Hid (w3.ownsRow w.heap.size 38 2 (.slice va l.length vc) l.length (cellsF l)) := own_mono hown3 hB2.size
  have HNR3 : Hid ((Value.slice va l.length vc).ownBlock ≠ some (w.heap.size + 1 + 1)) := fun e => by have h1 := (hown3.lt _ e).1; have h2 := hst2.lt; omega
  clear hown3 hgrow3 hB2 hst2 hb3 hd2 hdA q0 q1 q2 q3 hbs
  have q0 : w3.cell? ⟨w.heap.size + 1, 0, none⟩ = some (.int .i64 1) := hst3.c0
  have q1 : w3.cell? ⟨w.heap.size + 1, 1, none⟩ = some (.string N) := hst3.c1
  have q2 : w3.cell? ⟨w.heap.size + 1, 2, none⟩ = some (.string O) := hst3.c2
  have q3 : w3.cell? ⟨w.heap.size + 1, 3, none⟩ = some (.string X) := hst3.c3
  have hb4 : Below w3.heap.size w3 (w3.alloc (Obj.cells #[Value.slice va l.length vc] 41)) := (Below.refl _ _).alloc (Nat.le_refl _) _
  have hst4 := hst3.kept hb4
  have hd4 : (w3.alloc (Obj.cells #[Value.slice va l.length vc] 41)).cell? ⟨w.heap.size, 0, none⟩ = some (.slice a l.length cap) := hst4.cd
  have q0 : (w3.alloc (Obj.cells #[Value.slice va l.length vc] 41)).cell? ⟨w.heap.size + 1, 0, none⟩ = some (.int .i64 1) := hst4.c0
  have q1 : (w3.alloc (Obj.cells #[Value.slice va l.length vc] 41)).cell? ⟨w.heap.size + 1, 1, none⟩ = some (.string N) := hst4.c1
  have q2 : (w3.alloc (Obj.cells #[Value.slice va l.length vc] 41)).cell? ⟨w.heap.size + 1, 2, none⟩ = some (.string O) := hst4.c2
  have q3 : (w3.alloc (Obj.cells #[Value.slice va l.length vc] 41)).cell? ⟨w.heap.size + 1, 3, none⟩ = some (.string X) := hst4.c3
  have HB4 : Hid (Below w.heap.size w (w3.alloc (Obj.cells #[Value.slice va l.length vc] 41))) := hB3.trans (hb4.mono hB3.size)
  have HST4 : Hid (RawAt w.heap.size (.slice a l.length cap) ⟨1, N, O, X⟩ (w3.alloc (Obj.cells #[Value.slice va l.length vc] 41))) := hst4
  have HO4 : Hid ((w3.alloc (Obj.cells #[Value.slice va l.length vc] 41)).heap[w3.heap.size]? = some (.cells #[.slice va l.length vc] 41 (0, 0))) := heap_alloc_new w3 _
  have HLT : Hid (w.heap.size + 1 + 1 < w3.heap.size) := hst3.lt
  clear hb4 hst4 hst3
  go_wp2_with fail
  refine (l03Put_is l (by omega) N X _ (HF.out.kept HB4.out)).mono ?_
  obtain ⟨L, hL⟩ : ∃ L, L = Disks.put l (N, X) := ⟨_, rfl⟩
  rw [← hL]
  have HL : Hid (L = Disks.rawOut l ⟨1, N, O, X⟩) := by rw [hL]; rfl
  have HLL : Hid (L.length ≤ 1048576 ∧ ∀ f ∈ L, f.1.size ≤ 2097152 ∧ f.2.size ≤ 2097152) := by
    refine ⟨by have := Disks.put_len l (N, X); rw [hL]; omega, fun f hf => ?_⟩
    rw [hL] at hf
    rcases Disks.put_mem hf with rfl | h
    · have := HR.out; exact ⟨by show N.size ≤ _; omega, by show X.size ≤ _; omega⟩
    · have := HSZ.out f h; omega
  clear hL
  rintro e w5 ⟨v5, rfl, hown5, hb5⟩
  have hB5 : Below w.heap.size w w5 := HB4.out.trans (hb5.mono HB4.out.size)
  have HST5 : Hid (RawAt w.heap.size (.slice a l.length cap) ⟨1, N, O, X⟩ w5) := HST4.out.kept hb5
  have HO5 : Hid (w5.heap[w3.heap.size]? = some (.cells #[.slice va l.length vc] 41 (0, 0))) := (hb5.block _ (Array.getElem?_eq_some_iff.1 HO4.out).1).trans HO4.out
  have HNEQ : Hid (v5.ownBlock ≠ some w3.heap.size) := fun e => by have := (hown5.lt _ e).1; simp at this; omega
  have HNR : Hid (v5.ownBlock ≠ some (w.heap.size + 1 + 1)) := fun e => by have h1 := (hown5.lt _ e).1; simp at h1; have := HLT.out; omega
  have HOWN5 : Hid (w5.ownsRow w.heap.size 38 2 v5 L.length (cellsF L)) := own_mono hown5 HB4.out.size
  clear hb5 hown5 hd4 q0 q1 q2 q3
  have hLl : L.length ≤ 1048576 := HLL.out.1
  obtain ⟨va5, vc5, rfl⟩ := own_slice HOWN5.out
  have ho5 : w5.cell? ⟨w3.heap.size, 0, none⟩ = some (.slice va l.length vc) := cell_of_row _ _ 0 _ _ _ HO5.out
  have hof5 : w5.frozen? ⟨w3.heap.size, 0, none⟩ = false := frozen_of_row _ _ _ _ _ HO5.out
  have hc6 := World.cell?_setCell_same w5 _ (.slice va5 L.length vc5) ho5
  have HOWN6 : Hid ((w5.setCell ⟨w3.heap.size, 0, none⟩ (.slice va5 L.length vc5)).ownsRow w.heap.size 38 2 (.slice va5 L.length vc5) L.length (cellsF L)) := own_set HOWN5.out _ _ _ HNEQ.out
  have HST6 : Hid (RawAt w.heap.size (.slice a l.length cap) ⟨1, N, O, X⟩ (w5.setCell ⟨w3.heap.size, 0, none⟩ (.slice va5 L.length vc5))) := HST5.out.set _ _ _ HLT.out
  have HB6 : Hid (Below w.heap.size w (w5.setCell ⟨w3.heap.size, 0, none⟩ (.slice va5 L.length vc5))) := hB5.setCell (by have := HLT.out; simp; omega) _
  by_cases hok : Disks.ok L
  · have HOK : Hid (Disks.ok L) := hok
    clear hok
    go_wp2_with fail
    obtain ⟨a6, g6, cap6, e6, hf6⟩ := own_filesAt HOWN6.out
    cases e6
    refine (specDiskOk_big true L hLl _ hf6 HLL.out.2 ⟨fun _ => HOK.out, fun _ => rfl⟩).mono ?_
    rintro e w7 ⟨rfl, hb7⟩
    have hB7 : Below w.heap.size w w7 := HB6.out.trans (hb7.mono HB6.out.size)
    have hst7 := HST6.out.kept hb7
    have hr7 := hst7.cr
    have hfr7 := hst7.fr
    have hc7 := (hb7.cell (p := ⟨w3.heap.size, 0, none⟩) (World.block_lt_of_cell? _ _ hc6)).trans hc6
    have hres := World.cell?_setCell_same w7 _ (.slice va5 L.length vc5) hr7
    have HOWN7 : Hid (w7.ownsRow w.heap.size 38 2 (.slice va5 L.length vc5) L.length (cellsF L)) := own_kept HOWN6.out hb7
    clear hb7 hst7 hf6
    go_wp2
    refine bodyPost_ret (v := .tuple #[.agg #[.slice va5 L.length vc5], .bool true]) (by simp [results, Tryz.results34, go_sem, hres]) rfl (putPost_some (put_some HG.out HL.out HOK.out) (own_set HOWN7.out _ _ _ HNR.out) (hB7.setCell (by simp; omega) _))
  · have HOK : Hid (¬ Disks.ok L) := hok
    clear hok
    go_wp2_with fail
    obtain ⟨a6, g6, cap6, e6, hf6⟩ := own_filesAt HOWN6.out
    cases e6
    refine (specDiskOk_big false L hLl _ hf6 HLL.out.2 ⟨fun h => (by cases h), fun h => absurd h HOK.out⟩).mono ?_
    rintro e w7 ⟨rfl, hb7⟩
    have hB7 : Below w.heap.size w w7 := HB6.out.trans (hb7.mono HB6.out.size)
    have hst7 := HST6.out.kept hb7
    have hr7 := hst7.cr
    have hfr7 := hst7.fr
    have hres := World.cell?_setCell_same w7 _ (.slice none 0 0) hr7
    clear hb7 hst7 hf6
    go_wp2
    refine bodyPost_ret (v := .tuple #[.agg #[.slice none 0 0], .bool false]) (by simp [results, Tryz.results34, go_sem, hres]) rfl (putPost_none (put_none HL.out HOK.out) (hB7.setCell (by simp; omega) _))

set_option maxHeartbeats 8000000 in
set_option maxRecDepth 100000 in
theorem specPutRaw_1a {a : Option Addr} {g off cap : Nat} (l : List FileL) (N O X : ByteArray) (hg : Disks.good l ⟨1, N, O, X⟩) (hnil : a = none → cap = 0) (hr : N.size ≤ 1048576 ∧ O.size ≤ 1048576 ∧ X.size ≤ 1048576) (k : Nat) (hx : Disks.At l N k) (w : World) (hf : FilesAt w a g off l) :
    Calls Tryz.prog 34 #[.agg #[.slice a l.length cap], rawV ⟨1, N, O, X⟩] w (putPost w (Disks.putRaw l ⟨1, N, O, X⟩)) := by
  have HF : Hid (FilesAt w a g off l) := hf
  have HG : Hid (Disks.good l ⟨1, N, O, X⟩) := hg
  have HNIL : Hid (a = none → cap = 0) := hnil
  have HR : Hid (N.size ≤ 1048576 ∧ O.size ≤ 1048576 ∧ X.size ≤ 1048576) := hr
  have h30 := hg.1.1
  have hsz := ok_sizes hg.1
  have HSZ : Hid (∀ f ∈ l, f.1.size ≤ 12 ∧ f.2.size ≤ 20000) := hsz
  have HX : Hid (_) := hx
  clear hf hg hnil hr hsz
  have hkl := hx.1
  have hk0 : (0 : Int) ≤ (k : Int) := by omega
  have hk1 : (k : Int) < (l.length : Int) := by omega
  clear hx
  unfold rawV
  go_enter Tryz.func34, Tryz.ntmps34
  go_wp2_with fail
  obtain ⟨W, hW⟩ : ∃ W, W = (((w.alloc (.cells #[.slice a l.length cap] 41)).alloc (.cells #[.int .i64 1, .string N, .string O, .string X] 69)).alloc (.cells #[.slice none 0 0] 41)) := ⟨_, rfl⟩
  rw [← hW]
  have hBW : Below w.heap.size w W := by rw [hW]; exact (((Below.refl _ _).alloc (Nat.le_refl _) _).alloc (by simp) _).alloc (by simp; omega) _
  have hst : RawAt w.heap.size (.slice a l.length cap) ⟨1, N, O, X⟩ W := by rw [hW]; exact RawAt.start w _ ⟨1, N, O, X⟩
  clear hW
  refine (l03At_is l (by omega) N (k : Int) (Or.inr ⟨k, HX.out, rfl⟩) W (HF.out.kept hBW)).mono ?_
  rintro e w1 ⟨rfl, hb1⟩
  have hB1 : Below w.heap.size w w1 := hBW.trans (hb1.mono hBW.size)
  have hst1 := hst.kept hb1
  have hd1 := hst1.cd
  clear hBW hst hb1
  go_wp2_with fail
  refine (specDiskOk_any true l (by omega) w1 (HF.out.kept hB1) (fun f h => by have := HSZ.out f h; omega) ⟨fun _ => HG.out.1, fun _ => rfl⟩).mono ?_
  rintro e w2 ⟨rfl, hb2⟩
  have hB2 : Below w.heap.size w w2 := hB1.trans (hb2.mono hB1.size)
  have hst2 := hst1.kept hb2
  have hd2 := hst2.cd
  have q0 : w2.cell? ⟨w.heap.size + 1, 0, none⟩ = some (.int .i64 1) := hst2.c0
  have q1 : w2.cell? ⟨w.heap.size + 1, 1, none⟩ = some (.string N) := hst2.c1
  have q2 : w2.cell? ⟨w.heap.size + 1, 2, none⟩ = some (.string O) := hst2.c2
  have q3 : w2.cell? ⟨w.heap.size + 1, 3, none⟩ = some (.string X) := hst2.c3
  clear hB1 hst1 hb2 hd1
  go_wp2_with fail
  refine (in_yes_pk 1 1 4 (by omega) w2).mono ?_
  rintro e w2' ⟨rfl, rfl⟩
  have hdA : (w2.alloc (.cells #[] 38)).cell? ⟨w.heap.size, 0, none⟩ = some (.slice a l.length cap) := (World.cell?_alloc_lt w2 _ _ (World.block_lt_of_cell? w2 _ hd2)).trans hd2
  have hbs : w2.heap.size ≤ (w2.alloc (.cells #[] 38)).heap.size := by simp
  go_wp2_with (at_builtin; refine wpList_append_files rfl _ _ rfl w2.heap.size (.slice (some ⟨w2.heap.size, 0, none⟩) 0 0) 0 [] rfl (World.ownsRow_made w2 #[] 0 (Nat.le_refl _) (by unfold maxLen; omega) rfl) a g off cap l rfl ((HF.out.kept hB2).kept ((Below.refl _ _).alloc (Nat.le_refl _) _)) HNIL.out (by omega) hbs ?_)
  intro v3 w3 hown3 hgrow3
  have hb3 : Below w2.heap.size w2 w3 := ((Below.refl _ _).alloc (Nat.le_refl _) _).grown hgrow3 (by simp) (fun j hj => by cases hj; exact Nat.le_refl _)
  have hB3 : Below w.heap.size w w3 := hB2.trans (hb3.mono hB2.size)
  have hst3 := hst2.kept hb3
  obtain ⟨va, vc, rfl⟩ := own_slice hown3
  have HOWN3 : Hid (w3.ownsRow w.heap.size 38 2 (.slice va l.length vc) l.length (cellsF l)) := own_mono hown3 hB2.size
  have HNR3 : Hid ((Value.slice va l.length vc).ownBlock ≠ some (w.heap.size + 1 + 1)) := fun e => by have h1 := (hown3.lt _ e).1; have h2 := hst2.lt; omega
  clear hown3 hgrow3 hB2 hst2 hb3 hd2 hdA q0 q1 q2 q3 hbs
  have q0 : w3.cell? ⟨w.heap.size + 1, 0, none⟩ = some (.int .i64 1) := hst3.c0
  have q1 : w3.cell? ⟨w.heap.size + 1, 1, none⟩ = some (.string N) := hst3.c1
  have q2 : w3.cell? ⟨w.heap.size + 1, 2, none⟩ = some (.string O) := hst3.c2
  have q3 : w3.cell? ⟨w.heap.size + 1, 3, none⟩ = some (.string X) := hst3.c3
  have hb4 : Below w3.heap.size w3 (w3.alloc (Obj.cells #[Value.slice va l.length vc] 41)) := (Below.refl _ _).alloc (Nat.le_refl _) _
  have hst4 := hst3.kept hb4
  have hd4 : (w3.alloc (Obj.cells #[Value.slice va l.length vc] 41)).cell? ⟨w.heap.size, 0, none⟩ = some (.slice a l.length cap) := hst4.cd
  have q0 : (w3.alloc (Obj.cells #[Value.slice va l.length vc] 41)).cell? ⟨w.heap.size + 1, 0, none⟩ = some (.int .i64 1) := hst4.c0
  have q1 : (w3.alloc (Obj.cells #[Value.slice va l.length vc] 41)).cell? ⟨w.heap.size + 1, 1, none⟩ = some (.string N) := hst4.c1
  have q2 : (w3.alloc (Obj.cells #[Value.slice va l.length vc] 41)).cell? ⟨w.heap.size + 1, 2, none⟩ = some (.string O) := hst4.c2
  have q3 : (w3.alloc (Obj.cells #[Value.slice va l.length vc] 41)).cell? ⟨w.heap.size + 1, 3, none⟩ = some (.string X) := hst4.c3
  have HB4 : Hid (Below w.heap.size w (w3.alloc (Obj.cells #[Value.slice va l.length vc] 41))) := hB3.trans (hb4.mono hB3.size)
  have HST4 : Hid (RawAt w.heap.size (.slice a l.length cap) ⟨1, N, O, X⟩ (w3.alloc (Obj.cells #[Value.slice va l.length vc] 41))) := hst4
  have HO4 : Hid ((w3.alloc (Obj.cells #[Value.slice va l.length vc] 41)).heap[w3.heap.size]? = some (.cells #[.slice va l.length vc] 41 (0, 0))) := heap_alloc_new w3 _
  have HLT : Hid (w.heap.size + 1 + 1 < w3.heap.size) := hst3.lt
  clear hb4 hst4 hst3
  go_wp2_with fail
  refine (l03Put_is l (by omega) N X _ (HF.out.kept HB4.out)).mono ?_
  obtain ⟨L, hL⟩ : ∃ L, L = Disks.put l (N, X) := ⟨_, rfl⟩
  rw [← hL]
  have HL : Hid (L = Disks.rawOut l ⟨1, N, O, X⟩) := by rw [hL]; rfl
  have HLL : Hid (L.length ≤ 1048576 ∧ ∀ f ∈ L, f.1.size ≤ 2097152 ∧ f.2.size ≤ 2097152) := by
    refine ⟨by have := Disks.put_len l (N, X); rw [hL]; omega, fun f hf => ?_⟩
    rw [hL] at hf
    rcases Disks.put_mem hf with rfl | h
    · have := HR.out; exact ⟨by show N.size ≤ _; omega, by show X.size ≤ _; omega⟩
    · have := HSZ.out f h; omega
  clear hL
  rintro e w5 ⟨v5, rfl, hown5, hb5⟩
  have hB5 : Below w.heap.size w w5 := HB4.out.trans (hb5.mono HB4.out.size)
  have HST5 : Hid (RawAt w.heap.size (.slice a l.length cap) ⟨1, N, O, X⟩ w5) := HST4.out.kept hb5
  have HO5 : Hid (w5.heap[w3.heap.size]? = some (.cells #[.slice va l.length vc] 41 (0, 0))) := (hb5.block _ (Array.getElem?_eq_some_iff.1 HO4.out).1).trans HO4.out
  have HNEQ : Hid (v5.ownBlock ≠ some w3.heap.size) := fun e => by have := (hown5.lt _ e).1; simp at this; omega
  have HNR : Hid (v5.ownBlock ≠ some (w.heap.size + 1 + 1)) := fun e => by have h1 := (hown5.lt _ e).1; simp at h1; have := HLT.out; omega
  have HOWN5 : Hid (w5.ownsRow w.heap.size 38 2 v5 L.length (cellsF L)) := own_mono hown5 HB4.out.size
  clear hb5 hown5 hd4 q0 q1 q2 q3
  have hLl : L.length ≤ 1048576 := HLL.out.1
  obtain ⟨va5, vc5, rfl⟩ := own_slice HOWN5.out
  have ho5 : w5.cell? ⟨w3.heap.size, 0, none⟩ = some (.slice va l.length vc) := cell_of_row _ _ 0 _ _ _ HO5.out
  have hof5 : w5.frozen? ⟨w3.heap.size, 0, none⟩ = false := frozen_of_row _ _ _ _ _ HO5.out
  have hc6 := World.cell?_setCell_same w5 _ (.slice va5 L.length vc5) ho5
  have HOWN6 : Hid ((w5.setCell ⟨w3.heap.size, 0, none⟩ (.slice va5 L.length vc5)).ownsRow w.heap.size 38 2 (.slice va5 L.length vc5) L.length (cellsF L)) := own_set HOWN5.out _ _ _ HNEQ.out
  have HST6 : Hid (RawAt w.heap.size (.slice a l.length cap) ⟨1, N, O, X⟩ (w5.setCell ⟨w3.heap.size, 0, none⟩ (.slice va5 L.length vc5))) := HST5.out.set _ _ _ HLT.out
  have HB6 : Hid (Below w.heap.size w (w5.setCell ⟨w3.heap.size, 0, none⟩ (.slice va5 L.length vc5))) := hB5.setCell (by have := HLT.out; simp; omega) _
  by_cases hok : Disks.ok L
  · have HOK : Hid (Disks.ok L) := hok
    clear hok
    go_wp2_with fail
    obtain ⟨a6, g6, cap6, e6, hf6⟩ := own_filesAt HOWN6.out
    cases e6
    refine (specDiskOk_big true L hLl _ hf6 HLL.out.2 ⟨fun _ => HOK.out, fun _ => rfl⟩).mono ?_
    rintro e w7 ⟨rfl, hb7⟩
    have hB7 : Below w.heap.size w w7 := HB6.out.trans (hb7.mono HB6.out.size)
    have hst7 := HST6.out.kept hb7
    have hr7 := hst7.cr
    have hfr7 := hst7.fr
    have hc7 := (hb7.cell (p := ⟨w3.heap.size, 0, none⟩) (World.block_lt_of_cell? _ _ hc6)).trans hc6
    have hres := World.cell?_setCell_same w7 _ (.slice va5 L.length vc5) hr7
    have HOWN7 : Hid (w7.ownsRow w.heap.size 38 2 (.slice va5 L.length vc5) L.length (cellsF L)) := own_kept HOWN6.out hb7
    clear hb7 hst7 hf6
    go_wp2
    refine bodyPost_ret (v := .tuple #[.agg #[.slice va5 L.length vc5], .bool true]) (by simp [results, Tryz.results34, go_sem, hres]) rfl (putPost_some (put_some HG.out HL.out HOK.out) (own_set HOWN7.out _ _ _ HNR.out) (hB7.setCell (by simp; omega) _))
  · have HOK : Hid (¬ Disks.ok L) := hok
    clear hok
    go_wp2_with fail
    obtain ⟨a6, g6, cap6, e6, hf6⟩ := own_filesAt HOWN6.out
    cases e6
    refine (specDiskOk_big false L hLl _ hf6 HLL.out.2 ⟨fun h => (by cases h), fun h => absurd h HOK.out⟩).mono ?_
    rintro e w7 ⟨rfl, hb7⟩
    have hB7 : Below w.heap.size w w7 := HB6.out.trans (hb7.mono HB6.out.size)
    have hst7 := HST6.out.kept hb7
    have hr7 := hst7.cr
    have hfr7 := hst7.fr
    have hres := World.cell?_setCell_same w7 _ (.slice none 0 0) hr7
    clear hb7 hst7 hf6
    go_wp2
    refine bodyPost_ret (v := .tuple #[.agg #[.slice none 0 0], .bool false]) (by simp [results, Tryz.results34, go_sem, hres]) rfl (putPost_none (put_none HL.out HOK.out) (hB7.setCell (by simp; omega) _))

set_option maxHeartbeats 8000000 in
set_option maxRecDepth 100000 in
theorem specPutRaw_4a {a : Option Addr} {g off cap : Nat} (l : List FileL) (N O X : ByteArray) (hg : Disks.good l ⟨4, N, O, X⟩) (hnil : a = none → cap = 0) (hr : N.size ≤ 1048576 ∧ O.size ≤ 1048576 ∧ X.size ≤ 1048576) (k : Nat) (hx : Disks.At l N k) (w : World) (hf : FilesAt w a g off l) :
    Calls Tryz.prog 34 #[.agg #[.slice a l.length cap], rawV ⟨4, N, O, X⟩] w (putPost w (Disks.putRaw l ⟨4, N, O, X⟩)) := by
  have HF : Hid (FilesAt w a g off l) := hf
  have HG : Hid (Disks.good l ⟨4, N, O, X⟩) := hg
  have HNIL : Hid (a = none → cap = 0) := hnil
  have HR : Hid (N.size ≤ 1048576 ∧ O.size ≤ 1048576 ∧ X.size ≤ 1048576) := hr
  have h30 := hg.1.1
  have hsz := ok_sizes hg.1
  have HSZ : Hid (∀ f ∈ l, f.1.size ≤ 12 ∧ f.2.size ≤ 20000) := hsz
  have HX : Hid (_) := hx
  clear hf hg hnil hr hsz
  have hkl := hx.1
  have hk0 : (0 : Int) ≤ (k : Int) := by omega
  have hk1 : (k : Int) < (l.length : Int) := by omega
  clear hx
  unfold rawV
  go_enter Tryz.func34, Tryz.ntmps34
  go_wp2_with fail
  obtain ⟨W, hW⟩ : ∃ W, W = (((w.alloc (.cells #[.slice a l.length cap] 41)).alloc (.cells #[.int .i64 4, .string N, .string O, .string X] 69)).alloc (.cells #[.slice none 0 0] 41)) := ⟨_, rfl⟩
  rw [← hW]
  have hBW : Below w.heap.size w W := by rw [hW]; exact (((Below.refl _ _).alloc (Nat.le_refl _) _).alloc (by simp) _).alloc (by simp; omega) _
  have hst : RawAt w.heap.size (.slice a l.length cap) ⟨4, N, O, X⟩ W := by rw [hW]; exact RawAt.start w _ ⟨4, N, O, X⟩
  clear hW
  refine (l03At_is l (by omega) N (k : Int) (Or.inr ⟨k, HX.out, rfl⟩) W (HF.out.kept hBW)).mono ?_
  rintro e w1 ⟨rfl, hb1⟩
  have hB1 : Below w.heap.size w w1 := hBW.trans (hb1.mono hBW.size)
  have hst1 := hst.kept hb1
  have hd1 := hst1.cd
  clear hBW hst hb1
  go_wp2_with fail
  refine (specDiskOk_any true l (by omega) w1 (HF.out.kept hB1) (fun f h => by have := HSZ.out f h; omega) ⟨fun _ => HG.out.1, fun _ => rfl⟩).mono ?_
  rintro e w2 ⟨rfl, hb2⟩
  have hB2 : Below w.heap.size w w2 := hB1.trans (hb2.mono hB1.size)
  have hst2 := hst1.kept hb2
  have hd2 := hst2.cd
  have q0 : w2.cell? ⟨w.heap.size + 1, 0, none⟩ = some (.int .i64 4) := hst2.c0
  have q1 : w2.cell? ⟨w.heap.size + 1, 1, none⟩ = some (.string N) := hst2.c1
  have q2 : w2.cell? ⟨w.heap.size + 1, 2, none⟩ = some (.string O) := hst2.c2
  have q3 : w2.cell? ⟨w.heap.size + 1, 3, none⟩ = some (.string X) := hst2.c3
  clear hB1 hst1 hb2 hd1
  go_wp2_with fail
  refine (in_yes_pk 4 1 4 (by omega) w2).mono ?_
  rintro e w2' ⟨rfl, rfl⟩
  have hdA : (w2.alloc (.cells #[] 38)).cell? ⟨w.heap.size, 0, none⟩ = some (.slice a l.length cap) := (World.cell?_alloc_lt w2 _ _ (World.block_lt_of_cell? w2 _ hd2)).trans hd2
  have hbs : w2.heap.size ≤ (w2.alloc (.cells #[] 38)).heap.size := by simp
  go_wp2_with (at_builtin; refine wpList_append_files rfl _ _ rfl w2.heap.size (.slice (some ⟨w2.heap.size, 0, none⟩) 0 0) 0 [] rfl (World.ownsRow_made w2 #[] 0 (Nat.le_refl _) (by unfold maxLen; omega) rfl) a g off cap l rfl ((HF.out.kept hB2).kept ((Below.refl _ _).alloc (Nat.le_refl _) _)) HNIL.out (by omega) hbs ?_)
  intro v3 w3 hown3 hgrow3
  have hb3 : Below w2.heap.size w2 w3 := ((Below.refl _ _).alloc (Nat.le_refl _) _).grown hgrow3 (by simp) (fun j hj => by cases hj; exact Nat.le_refl _)
  have hB3 : Below w.heap.size w w3 := hB2.trans (hb3.mono hB2.size)
  have hst3 := hst2.kept hb3
  obtain ⟨va, vc, rfl⟩ := own_slice hown3
  have HOWN3 : Hid (w3.ownsRow w.heap.size 38 2 (.slice va l.length vc) l.length (cellsF l)) := own_mono hown3 hB2.size
  have HNR3 : Hid ((Value.slice va l.length vc).ownBlock ≠ some (w.heap.size + 1 + 1)) := fun e => by have h1 := (hown3.lt _ e).1; have h2 := hst2.lt; omega
  clear hown3 hgrow3 hB2 hst2 hb3 hd2 hdA q0 q1 q2 q3 hbs
  have q0 : w3.cell? ⟨w.heap.size + 1, 0, none⟩ = some (.int .i64 4) := hst3.c0
  have q1 : w3.cell? ⟨w.heap.size + 1, 1, none⟩ = some (.string N) := hst3.c1
  have q2 : w3.cell? ⟨w.heap.size + 1, 2, none⟩ = some (.string O) := hst3.c2
  have q3 : w3.cell? ⟨w.heap.size + 1, 3, none⟩ = some (.string X) := hst3.c3
  have hb4 : Below w3.heap.size w3 (w3.alloc (Obj.cells #[Value.slice va l.length vc] 41)) := (Below.refl _ _).alloc (Nat.le_refl _) _
  have hst4 := hst3.kept hb4
  have hd4 : (w3.alloc (Obj.cells #[Value.slice va l.length vc] 41)).cell? ⟨w.heap.size, 0, none⟩ = some (.slice a l.length cap) := hst4.cd
  have q0 : (w3.alloc (Obj.cells #[Value.slice va l.length vc] 41)).cell? ⟨w.heap.size + 1, 0, none⟩ = some (.int .i64 4) := hst4.c0
  have q1 : (w3.alloc (Obj.cells #[Value.slice va l.length vc] 41)).cell? ⟨w.heap.size + 1, 1, none⟩ = some (.string N) := hst4.c1
  have q2 : (w3.alloc (Obj.cells #[Value.slice va l.length vc] 41)).cell? ⟨w.heap.size + 1, 2, none⟩ = some (.string O) := hst4.c2
  have q3 : (w3.alloc (Obj.cells #[Value.slice va l.length vc] 41)).cell? ⟨w.heap.size + 1, 3, none⟩ = some (.string X) := hst4.c3
  have HB4 : Hid (Below w.heap.size w (w3.alloc (Obj.cells #[Value.slice va l.length vc] 41))) := hB3.trans (hb4.mono hB3.size)
  have HST4 : Hid (RawAt w.heap.size (.slice a l.length cap) ⟨4, N, O, X⟩ (w3.alloc (Obj.cells #[Value.slice va l.length vc] 41))) := hst4
  have HO4 : Hid ((w3.alloc (Obj.cells #[Value.slice va l.length vc] 41)).heap[w3.heap.size]? = some (.cells #[.slice va l.length vc] 41 (0, 0))) := heap_alloc_new w3 _
  have HLT : Hid (w.heap.size + 1 + 1 < w3.heap.size) := hst3.lt
  clear hb4 hst4 hst3
  go_wp2_with fail
  refine (l03Drop_is l (by omega) N _ (HF.out.kept HB4.out)).mono ?_
  obtain ⟨L, hL⟩ : ∃ L, L = l.filter (fun f => !Disks.nameIs N f) := ⟨_, rfl⟩
  rw [← hL]
  have HL : Hid (L = Disks.rawOut l ⟨4, N, O, X⟩) := by rw [hL]; rfl
  have HLL : Hid (L.length ≤ 1048576 ∧ ∀ f ∈ L, f.1.size ≤ 2097152 ∧ f.2.size ≤ 2097152) := by
    refine ⟨by have := List.length_filter_le (fun f => !Disks.nameIs N f) l; rw [hL]; omega, fun f hf => ?_⟩
    rw [hL] at hf
    have := HSZ.out f (List.mem_filter.1 hf).1
    omega
  clear hL
  rintro e w5 ⟨v5, rfl, hown5, hb5⟩
  have hB5 : Below w.heap.size w w5 := HB4.out.trans (hb5.mono HB4.out.size)
  have HST5 : Hid (RawAt w.heap.size (.slice a l.length cap) ⟨4, N, O, X⟩ w5) := HST4.out.kept hb5
  have HO5 : Hid (w5.heap[w3.heap.size]? = some (.cells #[.slice va l.length vc] 41 (0, 0))) := (hb5.block _ (Array.getElem?_eq_some_iff.1 HO4.out).1).trans HO4.out
  have HNEQ : Hid (v5.ownBlock ≠ some w3.heap.size) := fun e => by have := (hown5.lt _ e).1; simp at this; omega
  have HNR : Hid (v5.ownBlock ≠ some (w.heap.size + 1 + 1)) := fun e => by have h1 := (hown5.lt _ e).1; simp at h1; have := HLT.out; omega
  have HOWN5 : Hid (w5.ownsRow w.heap.size 38 2 v5 L.length (cellsF L)) := own_mono hown5 HB4.out.size
  clear hb5 hown5 hd4 q0 q1 q2 q3
  have hLl : L.length ≤ 1048576 := HLL.out.1
  obtain ⟨va5, vc5, rfl⟩ := own_slice HOWN5.out
  have ho5 : w5.cell? ⟨w3.heap.size, 0, none⟩ = some (.slice va l.length vc) := cell_of_row _ _ 0 _ _ _ HO5.out
  have hof5 : w5.frozen? ⟨w3.heap.size, 0, none⟩ = false := frozen_of_row _ _ _ _ _ HO5.out
  have hc6 := World.cell?_setCell_same w5 _ (.slice va5 L.length vc5) ho5
  have HOWN6 : Hid ((w5.setCell ⟨w3.heap.size, 0, none⟩ (.slice va5 L.length vc5)).ownsRow w.heap.size 38 2 (.slice va5 L.length vc5) L.length (cellsF L)) := own_set HOWN5.out _ _ _ HNEQ.out
  have HST6 : Hid (RawAt w.heap.size (.slice a l.length cap) ⟨4, N, O, X⟩ (w5.setCell ⟨w3.heap.size, 0, none⟩ (.slice va5 L.length vc5))) := HST5.out.set _ _ _ HLT.out
  have HB6 : Hid (Below w.heap.size w (w5.setCell ⟨w3.heap.size, 0, none⟩ (.slice va5 L.length vc5))) := hB5.setCell (by have := HLT.out; simp; omega) _
  by_cases hok : Disks.ok L
  · have HOK : Hid (Disks.ok L) := hok
    clear hok
    go_wp2_with fail
    obtain ⟨a6, g6, cap6, e6, hf6⟩ := own_filesAt HOWN6.out
    cases e6
    refine (specDiskOk_big true L hLl _ hf6 HLL.out.2 ⟨fun _ => HOK.out, fun _ => rfl⟩).mono ?_
    rintro e w7 ⟨rfl, hb7⟩
    have hB7 : Below w.heap.size w w7 := HB6.out.trans (hb7.mono HB6.out.size)
    have hst7 := HST6.out.kept hb7
    have hr7 := hst7.cr
    have hfr7 := hst7.fr
    have hc7 := (hb7.cell (p := ⟨w3.heap.size, 0, none⟩) (World.block_lt_of_cell? _ _ hc6)).trans hc6
    have hres := World.cell?_setCell_same w7 _ (.slice va5 L.length vc5) hr7
    have HOWN7 : Hid (w7.ownsRow w.heap.size 38 2 (.slice va5 L.length vc5) L.length (cellsF L)) := own_kept HOWN6.out hb7
    clear hb7 hst7 hf6
    go_wp2
    refine bodyPost_ret (v := .tuple #[.agg #[.slice va5 L.length vc5], .bool true]) (by simp [results, Tryz.results34, go_sem, hres]) rfl (putPost_some (put_some HG.out HL.out HOK.out) (own_set HOWN7.out _ _ _ HNR.out) (hB7.setCell (by simp; omega) _))
  · have HOK : Hid (¬ Disks.ok L) := hok
    clear hok
    go_wp2_with fail
    obtain ⟨a6, g6, cap6, e6, hf6⟩ := own_filesAt HOWN6.out
    cases e6
    refine (specDiskOk_big false L hLl _ hf6 HLL.out.2 ⟨fun h => (by cases h), fun h => absurd h HOK.out⟩).mono ?_
    rintro e w7 ⟨rfl, hb7⟩
    have hB7 : Below w.heap.size w w7 := HB6.out.trans (hb7.mono HB6.out.size)
    have hst7 := HST6.out.kept hb7
    have hr7 := hst7.cr
    have hfr7 := hst7.fr
    have hres := World.cell?_setCell_same w7 _ (.slice none 0 0) hr7
    clear hb7 hst7 hf6
    go_wp2
    refine bodyPost_ret (v := .tuple #[.agg #[.slice none 0 0], .bool false]) (by simp [results, Tryz.results34, go_sem, hres]) rfl (putPost_none (put_none HL.out HOK.out) (hB7.setCell (by simp; omega) _))
end Go.Proofs.YtahpoemmlpbgdaaGreat
