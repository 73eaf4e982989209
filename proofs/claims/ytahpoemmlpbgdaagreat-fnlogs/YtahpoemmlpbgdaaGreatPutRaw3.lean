/- The call of the specification's PutRaw, walked, kind by kind. -/
import Derived.Test.YtahpoemmlpbgdaaGreatPutRaw2
namespace Go.Proofs.YtahpoemmlpbgdaaGreat
open Go.RowKit

theorem text_size {l : List FileL} {n t : ByteArray} (h : Disks.TextIs l n t) (hs : ∀ f ∈ l, f.1.size ≤ 12 ∧ f.2.size ≤ 20000) : t.size ≤ 20000 := by
  rcases h with ⟨_, rfl⟩ | ⟨k, hk, _, rfl⟩
  · exact Nat.zero_le _
  · exact (hs l[k] (List.getElem_mem _)).2

set_option maxHeartbeats 8000000 in
set_option maxRecDepth 100000 in
theorem specPutRaw_2n {a : Option Addr} {g off cap : Nat} (l : List FileL) (N O X : ByteArray) (hg : Disks.good l ⟨2, N, O, X⟩) (hnil : a = none → cap = 0) (hr : N.size ≤ 1048576 ∧ O.size ≤ 1048576 ∧ X.size ≤ 1048576) (hx : Disks.None l N) (w : World) (hf : FilesAt w a g off l) :
    Calls Tryz.prog 34 #[.agg #[.slice a l.length cap], rawV ⟨2, N, O, X⟩] w (putPost w (Disks.putRaw l ⟨2, N, O, X⟩)) := by
  have HF : Hid (FilesAt w a g off l) := hf
  have HG : Hid (Disks.good l ⟨2, N, O, X⟩) := hg
  have HNIL : Hid (a = none → cap = 0) := hnil
  have HR : Hid (N.size ≤ 1048576 ∧ O.size ≤ 1048576 ∧ X.size ≤ 1048576) := hr
  have h30 := hg.1.1
  have hsz := ok_sizes hg.1
  have HSZ : Hid (∀ f ∈ l, f.1.size ≤ 12 ∧ f.2.size ≤ 20000) := hsz
  have HX : Hid (_) := hx
  clear hf hg hnil hr hsz
  clear hx
  unfold rawV
  go_enter Tryz.func34, Tryz.ntmps34
  go_wp2_with fail
  obtain ⟨W, hW⟩ : ∃ W, W = (((w.alloc (.cells #[.slice a l.length cap] 41)).alloc (.cells #[.int .i64 2, .string N, .string O, .string X] 69)).alloc (.cells #[.slice none 0 0] 41)) := ⟨_, rfl⟩
  rw [← hW]
  have hBW : Below w.heap.size w W := by rw [hW]; exact (((Below.refl _ _).alloc (Nat.le_refl _) _).alloc (by simp) _).alloc (by simp; omega) _
  have hst : RawAt w.heap.size (.slice a l.length cap) ⟨2, N, O, X⟩ W := by rw [hW]; exact RawAt.start w _ ⟨2, N, O, X⟩
  clear hW
  refine (l03At_is l (by omega) N (-1) (Or.inl ⟨HX.out, rfl⟩) W (HF.out.kept hBW)).mono ?_
  rintro e w1 ⟨rfl, hb1⟩
  have hB1 : Below w.heap.size w w1 := hBW.trans (hb1.mono hBW.size)
  have hst1 := hst.kept hb1
  have hd1 := hst1.cd
  clear hBW hst hb1
  go_wp2_with fail
  refine (specDiskOk_any true l (by omega) w1 (HF.out.kept hB1) (fun f h => by have := HSZ.out f h; omega) ⟨fun _ => HG.out.1, fun _ => rfl⟩).mono ?_
  rintro e w2 ⟨rfl, hb2⟩
  have hB2 : Below w.heap.size w w2 := hB1.trans (hb2.mono hB1.size)
  have hst2 := hst1.kept hb2
  have hd2 := hst2.cd
  have q0 : w2.cell? ⟨w.heap.size + 1, 0, none⟩ = some (.int .i64 2) := hst2.c0
  have q1 : w2.cell? ⟨w.heap.size + 1, 1, none⟩ = some (.string N) := hst2.c1
  have q2 : w2.cell? ⟨w.heap.size + 1, 2, none⟩ = some (.string O) := hst2.c2
  have q3 : w2.cell? ⟨w.heap.size + 1, 3, none⟩ = some (.string X) := hst2.c3
  clear hB1 hst1 hb2 hd1
  go_wp2_with fail
  refine (in_yes_pk 2 1 4 (by omega) w2).mono ?_
  rintro e w2' ⟨rfl, rfl⟩
  have hdA : (w2.alloc (.cells #[] 38)).cell? ⟨w.heap.size, 0, none⟩ = some (.slice a l.length cap) := (World.cell?_alloc_lt w2 _ _ (World.block_lt_of_cell? w2 _ hd2)).trans hd2
  have hbs : w2.heap.size ≤ (w2.alloc (.cells #[] 38)).heap.size := by simp
  go_wp2_with (at_builtin; refine wpList_append_files rfl _ _ rfl w2.heap.size (.slice (some ⟨w2.heap.size, 0, none⟩) 0 0) 0 [] rfl (World.ownsRow_made w2 #[] 0 (Nat.le_refl _) (by unfold maxLen; omega) rfl) a g off cap l rfl ((HF.out.kept hB2).kept ((Below.refl _ _).alloc (Nat.le_refl _) _)) HNIL.out (by omega) hbs ?_)
  intro v3 w3 hown3 hgrow3
  have hb3 : Below w2.heap.size w2 w3 := ((Below.refl _ _).alloc (Nat.le_refl _) _).grown hgrow3 (by simp) (fun j hj => by cases hj; exact Nat.le_refl _)
  have hB3 : Below w.heap.size w w3 := hB2.trans (hb3.mono hB2.size)
  have hst3 := hst2.kept hb3
  obtain ⟨va, vc, rfl⟩ := own_slice hown3
  have HOWN3 : Hid (w3.ownsRow w.heap.size 38 2 (.slice va l.length vc) l.length (cellsF l)) := own_mono hown3 hB2.size
  have HNR3 : Hid ((Value.slice va l.length vc).ownBlock ≠ some (w.heap.size + 1 + 1)) := fun e => by have h1 := (hown3.lt _ e).1; have h2 := hst2.lt; omega
  clear hown3 hgrow3 hB2 hst2 hb3 hd2 hdA q0 q1 q2 q3 hbs
  have q0 : w3.cell? ⟨w.heap.size + 1, 0, none⟩ = some (.int .i64 2) := hst3.c0
  have q1 : w3.cell? ⟨w.heap.size + 1, 1, none⟩ = some (.string N) := hst3.c1
  have q2 : w3.cell? ⟨w.heap.size + 1, 2, none⟩ = some (.string O) := hst3.c2
  have q3 : w3.cell? ⟨w.heap.size + 1, 3, none⟩ = some (.string X) := hst3.c3
  have hb4 : Below w3.heap.size w3 (w3.alloc (Obj.cells #[Value.slice va l.length vc] 41)) := (Below.refl _ _).alloc (Nat.le_refl _) _
  have hst4 := hst3.kept hb4
  have hd4 : (w3.alloc (Obj.cells #[Value.slice va l.length vc] 41)).cell? ⟨w.heap.size, 0, none⟩ = some (.slice a l.length cap) := hst4.cd
  have q0 : (w3.alloc (Obj.cells #[Value.slice va l.length vc] 41)).cell? ⟨w.heap.size + 1, 0, none⟩ = some (.int .i64 2) := hst4.c0
  have q1 : (w3.alloc (Obj.cells #[Value.slice va l.length vc] 41)).cell? ⟨w.heap.size + 1, 1, none⟩ = some (.string N) := hst4.c1
  have q2 : (w3.alloc (Obj.cells #[Value.slice va l.length vc] 41)).cell? ⟨w.heap.size + 1, 2, none⟩ = some (.string O) := hst4.c2
  have q3 : (w3.alloc (Obj.cells #[Value.slice va l.length vc] 41)).cell? ⟨w.heap.size + 1, 3, none⟩ = some (.string X) := hst4.c3
  have HB4 : Hid (Below w.heap.size w (w3.alloc (Obj.cells #[Value.slice va l.length vc] 41))) := hB3.trans (hb4.mono hB3.size)
  have HST4 : Hid (RawAt w.heap.size (.slice a l.length cap) ⟨2, N, O, X⟩ (w3.alloc (Obj.cells #[Value.slice va l.length vc] 41))) := hst4
  have HO4 : Hid ((w3.alloc (Obj.cells #[Value.slice va l.length vc] 41)).heap[w3.heap.size]? = some (.cells #[.slice va l.length vc] 41 (0, 0))) := heap_alloc_new w3 _
  have HLT : Hid (w.heap.size + 1 + 1 < w3.heap.size) := hst3.lt
  clear hb4 hst4 hst3
  have hT : Disks.TextIs l N (Disks.textOf l N) := Disks.textOf_is l N
  obtain ⟨T, hTT⟩ : ∃ T, T = Disks.textOf l N := ⟨_, rfl⟩
  rw [← hTT] at hT
  have hTs : T.size ≤ 20000 := text_size hT HSZ.out
  have HT : Hid (Disks.TextIs l N T) := hT
  have hXs := HR.out.2.2
  obtain ⟨L, hL⟩ : ∃ L, L = Disks.put l (N, T ++ X) := ⟨_, rfl⟩
  have HL : Hid (L = Disks.rawOut l ⟨2, N, O, X⟩) := by rw [hL, hTT]; rfl
  have HLL : Hid (L.length ≤ 1048576 ∧ ∀ f ∈ L, f.1.size ≤ 2097152 ∧ f.2.size ≤ 2097152) := by
    refine ⟨by have := Disks.put_len l (N, T ++ X); rw [hL]; omega, fun f hf => ?_⟩
    rw [hL] at hf
    rcases Disks.put_mem hf with rfl | h
    · have := HR.out; exact ⟨by show N.size ≤ _; omega, by show (T ++ X).size ≤ _; rw [ByteArray.size_append]; omega⟩
    · have := HSZ.out f h; omega
  have HPUTL : Hid (∀ wx : World, FilesAt wx a g off l → Calls Tryz.prog 71 #[.agg #[.slice a l.length cap], .agg #[.string N, .string (T ++ X)]] wx fun e w' => ∃ v : Value, e = .returned (.agg #[v]) ∧ w'.ownsRow wx.heap.size 38 2 v L.length (cellsF L) ∧ Below wx.heap.size wx w') := fun wx h => by
    rw [hL]; exact l03Put_is l (by omega) N (T ++ X) wx h
  clear hT hTT hL
  have hcat : ¬ 9223372036854775807 < T.size + X.size := by omega
  have hcat' : T.size + X.size ≤ 9223372036854775807 := by omega
  have hn0 : w.heap.size ≠ w3.heap.size := by have := HLT.out; omega
  have hn1 : w.heap.size + 1 ≠ w3.heap.size := by have := HLT.out; omega
  go_wp2
  go_region_held3 (fun w' => w'.cell? ⟨w.heap.size, 0, none⟩ = some (.slice a l.length cap) ∧ w'.cell? ⟨w.heap.size + 1, 1, none⟩ = some (.string N) ∧ w'.cell? ⟨w.heap.size + 1, 3, none⟩ = some (.string X)) (first | go_keep | exact ⟨hdT, hnT, htT⟩ | exact ⟨hd5, hn5, ht5⟩ | exact ⟨cell_far hd5 hn0, cell_far hn5 hn1, cell_far ht5 hn1⟩) (first | (go_at_call 72; refine (l03Text_is l (by omega) N T HT.out _ (HF.out.kept HB4.out.drew)).mono ?_; rintro e wT ⟨rfl, hbT⟩; have hBT := HB4.out.drew.trans (hbT.mono HB4.out.size); have hstT := HST4.out.drew.kept hbT; have hdT := hstT.cd; have hnT : wT.cell? ⟨w.heap.size + 1, 1, none⟩ = some (.string N) := hstT.c1; have htT : wT.cell? ⟨w.heap.size + 1, 3, none⟩ = some (.string X) := hstT.c3; have HOT : Hid (wT.heap[w3.heap.size]? = some (.cells #[.slice va l.length vc] 41 (0, 0))) := (hbT.block _ (Array.getElem?_eq_some_iff.1 HO4.out).1).trans HO4.out; have hzT : w3.heap.size < wT.heap.size := (Array.getElem?_eq_some_iff.1 HOT.out).1) | (go_at_call 71; refine (HPUTL.out _ (HF.out.kept hBT)).mono ?_; rintro e w5 ⟨v5, rfl, hown5, hb5⟩; have hB5 : Below w.heap.size w w5 := hBT.trans (hb5.mono hBT.size); have hst5 := hstT.kept hb5; have hd5 := hst5.cd; have hn5 : w5.cell? ⟨w.heap.size + 1, 1, none⟩ = some (.string N) := hst5.c1; have ht5 : w5.cell? ⟨w.heap.size + 1, 3, none⟩ = some (.string X) := hst5.c3; have HO5 : Hid (w5.heap[w3.heap.size]? = some (.cells #[.slice va l.length vc] 41 (0, 0))) := (hb5.block _ (Array.getElem?_eq_some_iff.1 HOT.out).1).trans HOT.out; obtain ⟨va5, vc5, rfl⟩ := own_slice hown5; have ho5 : w5.cell? ⟨w3.heap.size, 0, none⟩ = some (.slice va l.length vc) := cell_of_row _ _ 0 _ _ _ HO5.out; have hof5 : w5.frozen? ⟨w3.heap.size, 0, none⟩ = false := frozen_of_row _ _ _ _ _ HO5.out))
  all_goals
    have HST5 : Hid (RawAt w.heap.size (.slice a l.length cap) ⟨2, N, O, X⟩ w5) := hst5
    have HNEQ : Hid ((Value.slice va5 L.length vc5).ownBlock ≠ some w3.heap.size) := fun e => by have h1 := (hown5.lt _ e).1; have h2 := hzT; omega
    have HNR : Hid ((Value.slice va5 L.length vc5).ownBlock ≠ some (w.heap.size + 1 + 1)) := fun e => by have h1 := (hown5.lt _ e).1; have := HLT.out; have h2 := hzT; omega
    have HOWN5 : Hid (w5.ownsRow w.heap.size 38 2 (.slice va5 L.length vc5) L.length (cellsF L)) := own_mono hown5 hBT.size
    have hLl : L.length ≤ 1048576 := HLL.out.1
    have hc6 := World.cell?_setCell_same w5 _ (.slice va5 L.length vc5) ho5
    have HOWN6 : Hid ((w5.setCell ⟨w3.heap.size, 0, none⟩ (.slice va5 L.length vc5)).ownsRow w.heap.size 38 2 (.slice va5 L.length vc5) L.length (cellsF L)) := own_set HOWN5.out _ _ _ HNEQ.out
    have HST6 : Hid (RawAt w.heap.size (.slice a l.length cap) ⟨2, N, O, X⟩ (w5.setCell ⟨w3.heap.size, 0, none⟩ (.slice va5 L.length vc5))) := HST5.out.set _ _ _ HLT.out
    have HB6 : Hid (Below w.heap.size w (w5.setCell ⟨w3.heap.size, 0, none⟩ (.slice va5 L.length vc5))) := hB5.setCell (by have := HLT.out; simp; omega) _
    clear hown5 hst5 hbT hb5 hstT
    by_cases hok : Disks.ok L
    · have HOK : Hid (Disks.ok L) := hok
      clear hok
      go_wp2_with fail
      obtain ⟨a6, g6, cap6, e6, hf6⟩ := own_filesAt HOWN6.out
      cases e6
      refine (specDiskOk_big true L hLl _ hf6 HLL.out.2 ⟨fun _ => HOK.out, fun _ => rfl⟩).mono ?_
      rintro e w7 ⟨rfl, hb7⟩
      have hB7 : Below w.heap.size w w7 := HB6.out.trans (hb7.mono HB6.out.size)
      have hst7 := HST6.out.kept hb7
      have hr7 := hst7.cr
      have hfr7 := hst7.fr
      have hc7 := (hb7.cell (p := ⟨w3.heap.size, 0, none⟩) (World.block_lt_of_cell? _ _ hc6)).trans hc6
      have hres := World.cell?_setCell_same w7 _ (.slice va5 L.length vc5) hr7
      have HOWN7 : Hid (w7.ownsRow w.heap.size 38 2 (.slice va5 L.length vc5) L.length (cellsF L)) := own_kept HOWN6.out hb7
      clear hb7 hst7 hf6
      go_wp2
      refine bodyPost_ret (v := .tuple #[.agg #[.slice va5 L.length vc5], .bool true]) (by simp [results, Tryz.results34, go_sem, hres]) rfl (putPost_some (put_some HG.out HL.out HOK.out) (own_set HOWN7.out _ _ _ HNR.out) (hB7.setCell (by simp; omega) _))
    · have HOK : Hid (¬ Disks.ok L) := hok
      clear hok
      go_wp2_with fail
      obtain ⟨a6, g6, cap6, e6, hf6⟩ := own_filesAt HOWN6.out
      cases e6
      refine (specDiskOk_big false L hLl _ hf6 HLL.out.2 ⟨fun h => (by cases h), fun h => absurd h HOK.out⟩).mono ?_
      rintro e w7 ⟨rfl, hb7⟩
      have hB7 : Below w.heap.size w w7 := HB6.out.trans (hb7.mono HB6.out.size)
      have hst7 := HST6.out.kept hb7
      have hr7 := hst7.cr
      have hfr7 := hst7.fr
      have hres := World.cell?_setCell_same w7 _ (.slice none 0 0) hr7
      clear hb7 hst7 hf6
      go_wp2
      refine bodyPost_ret (v := .tuple #[.agg #[.slice none 0 0], .bool false]) (by simp [results, Tryz.results34, go_sem, hres]) rfl (putPost_none (put_none HL.out HOK.out) (hB7.setCell (by simp; omega) _))

set_option maxHeartbeats 8000000 in
set_option maxRecDepth 100000 in
theorem specPutRaw_2a {a : Option Addr} {g off cap : Nat} (l : List FileL) (N O X : ByteArray) (hg : Disks.good l ⟨2, N, O, X⟩) (hnil : a = none → cap = 0) (hr : N.size ≤ 1048576 ∧ O.size ≤ 1048576 ∧ X.size ≤ 1048576) (k : Nat) (hx : Disks.At l N k) (w : World) (hf : FilesAt w a g off l) :
    Calls Tryz.prog 34 #[.agg #[.slice a l.length cap], rawV ⟨2, N, O, X⟩] w (putPost w (Disks.putRaw l ⟨2, N, O, X⟩)) := by
  have HF : Hid (FilesAt w a g off l) := hf
  have HG : Hid (Disks.good l ⟨2, N, O, X⟩) := hg
  have HNIL : Hid (a = none → cap = 0) := hnil
  have HR : Hid (N.size ≤ 1048576 ∧ O.size ≤ 1048576 ∧ X.size ≤ 1048576) := hr
  have h30 := hg.1.1
  have hsz := ok_sizes hg.1
  have HSZ : Hid (∀ f ∈ l, f.1.size ≤ 12 ∧ f.2.size ≤ 20000) := hsz
  have HX : Hid (_) := hx
  clear hf hg hnil hr hsz
  have hkl := hx.1
  have hk0 : (0 : Int) ≤ (k : Int) := by omega
  have hk1 : (k : Int) < (l.length : Int) := by omega
  clear hx
  unfold rawV
  go_enter Tryz.func34, Tryz.ntmps34
  go_wp2_with fail
  obtain ⟨W, hW⟩ : ∃ W, W = (((w.alloc (.cells #[.slice a l.length cap] 41)).alloc (.cells #[.int .i64 2, .string N, .string O, .string X] 69)).alloc (.cells #[.slice none 0 0] 41)) := ⟨_, rfl⟩
  rw [← hW]
  have hBW : Below w.heap.size w W := by rw [hW]; exact (((Below.refl _ _).alloc (Nat.le_refl _) _).alloc (by simp) _).alloc (by simp; omega) _
  have hst : RawAt w.heap.size (.slice a l.length cap) ⟨2, N, O, X⟩ W := by rw [hW]; exact RawAt.start w _ ⟨2, N, O, X⟩
  clear hW
  refine (l03At_is l (by omega) N (k : Int) (Or.inr ⟨k, HX.out, rfl⟩) W (HF.out.kept hBW)).mono ?_
  rintro e w1 ⟨rfl, hb1⟩
  have hB1 : Below w.heap.size w w1 := hBW.trans (hb1.mono hBW.size)
  have hst1 := hst.kept hb1
  have hd1 := hst1.cd
  clear hBW hst hb1
  go_wp2_with fail
  refine (specDiskOk_any true l (by omega) w1 (HF.out.kept hB1) (fun f h => by have := HSZ.out f h; omega) ⟨fun _ => HG.out.1, fun _ => rfl⟩).mono ?_
  rintro e w2 ⟨rfl, hb2⟩
  have hB2 : Below w.heap.size w w2 := hB1.trans (hb2.mono hB1.size)
  have hst2 := hst1.kept hb2
  have hd2 := hst2.cd
  have q0 : w2.cell? ⟨w.heap.size + 1, 0, none⟩ = some (.int .i64 2) := hst2.c0
  have q1 : w2.cell? ⟨w.heap.size + 1, 1, none⟩ = some (.string N) := hst2.c1
  have q2 : w2.cell? ⟨w.heap.size + 1, 2, none⟩ = some (.string O) := hst2.c2
  have q3 : w2.cell? ⟨w.heap.size + 1, 3, none⟩ = some (.string X) := hst2.c3
  clear hB1 hst1 hb2 hd1
  go_wp2_with fail
  refine (in_yes_pk 2 1 4 (by omega) w2).mono ?_
  rintro e w2' ⟨rfl, rfl⟩
  have hdA : (w2.alloc (.cells #[] 38)).cell? ⟨w.heap.size, 0, none⟩ = some (.slice a l.length cap) := (World.cell?_alloc_lt w2 _ _ (World.block_lt_of_cell? w2 _ hd2)).trans hd2
  have hbs : w2.heap.size ≤ (w2.alloc (.cells #[] 38)).heap.size := by simp
  go_wp2_with (at_builtin; refine wpList_append_files rfl _ _ rfl w2.heap.size (.slice (some ⟨w2.heap.size, 0, none⟩) 0 0) 0 [] rfl (World.ownsRow_made w2 #[] 0 (Nat.le_refl _) (by unfold maxLen; omega) rfl) a g off cap l rfl ((HF.out.kept hB2).kept ((Below.refl _ _).alloc (Nat.le_refl _) _)) HNIL.out (by omega) hbs ?_)
  intro v3 w3 hown3 hgrow3
  have hb3 : Below w2.heap.size w2 w3 := ((Below.refl _ _).alloc (Nat.le_refl _) _).grown hgrow3 (by simp) (fun j hj => by cases hj; exact Nat.le_refl _)
  have hB3 : Below w.heap.size w w3 := hB2.trans (hb3.mono hB2.size)
  have hst3 := hst2.kept hb3
  obtain ⟨va, vc, rfl⟩ := own_slice hown3
  have HOWN3 : Hid (w3.ownsRow w.heap.size 38 2 (.slice va l.length vc) l.length (cellsF l)) := own_mono hown3 hB2.size
  have HNR3 : Hid ((Value.slice va l.length vc).ownBlock ≠ some (w.heap.size + 1 + 1)) := fun e => by have h1 := (hown3.lt _ e).1; have h2 := hst2.lt; omega
  clear hown3 hgrow3 hB2 hst2 hb3 hd2 hdA q0 q1 q2 q3 hbs
  have q0 : w3.cell? ⟨w.heap.size + 1, 0, none⟩ = some (.int .i64 2) := hst3.c0
  have q1 : w3.cell? ⟨w.heap.size + 1, 1, none⟩ = some (.string N) := hst3.c1
  have q2 : w3.cell? ⟨w.heap.size + 1, 2, none⟩ = some (.string O) := hst3.c2
  have q3 : w3.cell? ⟨w.heap.size + 1, 3, none⟩ = some (.string X) := hst3.c3
  have hb4 : Below w3.heap.size w3 (w3.alloc (Obj.cells #[Value.slice va l.length vc] 41)) := (Below.refl _ _).alloc (Nat.le_refl _) _
  have hst4 := hst3.kept hb4
  have hd4 : (w3.alloc (Obj.cells #[Value.slice va l.length vc] 41)).cell? ⟨w.heap.size, 0, none⟩ = some (.slice a l.length cap) := hst4.cd
  have q0 : (w3.alloc (Obj.cells #[Value.slice va l.length vc] 41)).cell? ⟨w.heap.size + 1, 0, none⟩ = some (.int .i64 2) := hst4.c0
  have q1 : (w3.alloc (Obj.cells #[Value.slice va l.length vc] 41)).cell? ⟨w.heap.size + 1, 1, none⟩ = some (.string N) := hst4.c1
  have q2 : (w3.alloc (Obj.cells #[Value.slice va l.length vc] 41)).cell? ⟨w.heap.size + 1, 2, none⟩ = some (.string O) := hst4.c2
  have q3 : (w3.alloc (Obj.cells #[Value.slice va l.length vc] 41)).cell? ⟨w.heap.size + 1, 3, none⟩ = some (.string X) := hst4.c3
  have HB4 : Hid (Below w.heap.size w (w3.alloc (Obj.cells #[Value.slice va l.length vc] 41))) := hB3.trans (hb4.mono hB3.size)
  have HST4 : Hid (RawAt w.heap.size (.slice a l.length cap) ⟨2, N, O, X⟩ (w3.alloc (Obj.cells #[Value.slice va l.length vc] 41))) := hst4
  have HO4 : Hid ((w3.alloc (Obj.cells #[Value.slice va l.length vc] 41)).heap[w3.heap.size]? = some (.cells #[.slice va l.length vc] 41 (0, 0))) := heap_alloc_new w3 _
  have HLT : Hid (w.heap.size + 1 + 1 < w3.heap.size) := hst3.lt
  clear hb4 hst4 hst3
  have hT : Disks.TextIs l N (Disks.textOf l N) := Disks.textOf_is l N
  obtain ⟨T, hTT⟩ : ∃ T, T = Disks.textOf l N := ⟨_, rfl⟩
  rw [← hTT] at hT
  have hTs : T.size ≤ 20000 := text_size hT HSZ.out
  have HT : Hid (Disks.TextIs l N T) := hT
  have hXs := HR.out.2.2
  obtain ⟨L, hL⟩ : ∃ L, L = Disks.put l (N, T ++ X) := ⟨_, rfl⟩
  have HL : Hid (L = Disks.rawOut l ⟨2, N, O, X⟩) := by rw [hL, hTT]; rfl
  have HLL : Hid (L.length ≤ 1048576 ∧ ∀ f ∈ L, f.1.size ≤ 2097152 ∧ f.2.size ≤ 2097152) := by
    refine ⟨by have := Disks.put_len l (N, T ++ X); rw [hL]; omega, fun f hf => ?_⟩
    rw [hL] at hf
    rcases Disks.put_mem hf with rfl | h
    · have := HR.out; exact ⟨by show N.size ≤ _; omega, by show (T ++ X).size ≤ _; rw [ByteArray.size_append]; omega⟩
    · have := HSZ.out f h; omega
  have HPUTL : Hid (∀ wx : World, FilesAt wx a g off l → Calls Tryz.prog 71 #[.agg #[.slice a l.length cap], .agg #[.string N, .string (T ++ X)]] wx fun e w' => ∃ v : Value, e = .returned (.agg #[v]) ∧ w'.ownsRow wx.heap.size 38 2 v L.length (cellsF L) ∧ Below wx.heap.size wx w') := fun wx h => by
    rw [hL]; exact l03Put_is l (by omega) N (T ++ X) wx h
  clear hT hTT hL
  have hcat : ¬ 9223372036854775807 < T.size + X.size := by omega
  have hcat' : T.size + X.size ≤ 9223372036854775807 := by omega
  have hn0 : w.heap.size ≠ w3.heap.size := by have := HLT.out; omega
  have hn1 : w.heap.size + 1 ≠ w3.heap.size := by have := HLT.out; omega
  go_wp2
  go_region_held3 (fun w' => w'.cell? ⟨w.heap.size, 0, none⟩ = some (.slice a l.length cap) ∧ w'.cell? ⟨w.heap.size + 1, 1, none⟩ = some (.string N) ∧ w'.cell? ⟨w.heap.size + 1, 3, none⟩ = some (.string X)) (first | go_keep | exact ⟨hdT, hnT, htT⟩ | exact ⟨hd5, hn5, ht5⟩ | exact ⟨cell_far hd5 hn0, cell_far hn5 hn1, cell_far ht5 hn1⟩) (first | (go_at_call 72; refine (l03Text_is l (by omega) N T HT.out _ (HF.out.kept HB4.out.drew)).mono ?_; rintro e wT ⟨rfl, hbT⟩; have hBT := HB4.out.drew.trans (hbT.mono HB4.out.size); have hstT := HST4.out.drew.kept hbT; have hdT := hstT.cd; have hnT : wT.cell? ⟨w.heap.size + 1, 1, none⟩ = some (.string N) := hstT.c1; have htT : wT.cell? ⟨w.heap.size + 1, 3, none⟩ = some (.string X) := hstT.c3; have HOT : Hid (wT.heap[w3.heap.size]? = some (.cells #[.slice va l.length vc] 41 (0, 0))) := (hbT.block _ (Array.getElem?_eq_some_iff.1 HO4.out).1).trans HO4.out; have hzT : w3.heap.size < wT.heap.size := (Array.getElem?_eq_some_iff.1 HOT.out).1) | (go_at_call 71; refine (HPUTL.out _ (HF.out.kept hBT)).mono ?_; rintro e w5 ⟨v5, rfl, hown5, hb5⟩; have hB5 : Below w.heap.size w w5 := hBT.trans (hb5.mono hBT.size); have hst5 := hstT.kept hb5; have hd5 := hst5.cd; have hn5 : w5.cell? ⟨w.heap.size + 1, 1, none⟩ = some (.string N) := hst5.c1; have ht5 : w5.cell? ⟨w.heap.size + 1, 3, none⟩ = some (.string X) := hst5.c3; have HO5 : Hid (w5.heap[w3.heap.size]? = some (.cells #[.slice va l.length vc] 41 (0, 0))) := (hb5.block _ (Array.getElem?_eq_some_iff.1 HOT.out).1).trans HOT.out; obtain ⟨va5, vc5, rfl⟩ := own_slice hown5; have ho5 : w5.cell? ⟨w3.heap.size, 0, none⟩ = some (.slice va l.length vc) := cell_of_row _ _ 0 _ _ _ HO5.out; have hof5 : w5.frozen? ⟨w3.heap.size, 0, none⟩ = false := frozen_of_row _ _ _ _ _ HO5.out))
  all_goals
    have HST5 : Hid (RawAt w.heap.size (.slice a l.length cap) ⟨2, N, O, X⟩ w5) := hst5
    have HNEQ : Hid ((Value.slice va5 L.length vc5).ownBlock ≠ some w3.heap.size) := fun e => by have h1 := (hown5.lt _ e).1; have h2 := hzT; omega
    have HNR : Hid ((Value.slice va5 L.length vc5).ownBlock ≠ some (w.heap.size + 1 + 1)) := fun e => by have h1 := (hown5.lt _ e).1; have := HLT.out; have h2 := hzT; omega
    have HOWN5 : Hid (w5.ownsRow w.heap.size 38 2 (.slice va5 L.length vc5) L.length (cellsF L)) := own_mono hown5 hBT.size
    have hLl : L.length ≤ 1048576 := HLL.out.1
    have hc6 := World.cell?_setCell_same w5 _ (.slice va5 L.length vc5) ho5
    have HOWN6 : Hid ((w5.setCell ⟨w3.heap.size, 0, none⟩ (.slice va5 L.length vc5)).ownsRow w.heap.size 38 2 (.slice va5 L.length vc5) L.length (cellsF L)) := own_set HOWN5.out _ _ _ HNEQ.out
    have HST6 : Hid (RawAt w.heap.size (.slice a l.length cap) ⟨2, N, O, X⟩ (w5.setCell ⟨w3.heap.size, 0, none⟩ (.slice va5 L.length vc5))) := HST5.out.set _ _ _ HLT.out
    have HB6 : Hid (Below w.heap.size w (w5.setCell ⟨w3.heap.size, 0, none⟩ (.slice va5 L.length vc5))) := hB5.setCell (by have := HLT.out; simp; omega) _
    clear hown5 hst5 hbT hb5 hstT
    by_cases hok : Disks.ok L
    · have HOK : Hid (Disks.ok L) := hok
      clear hok
      go_wp2_with fail
      obtain ⟨a6, g6, cap6, e6, hf6⟩ := own_filesAt HOWN6.out
      cases e6
      refine (specDiskOk_big true L hLl _ hf6 HLL.out.2 ⟨fun _ => HOK.out, fun _ => rfl⟩).mono ?_
      rintro e w7 ⟨rfl, hb7⟩
      have hB7 : Below w.heap.size w w7 := HB6.out.trans (hb7.mono HB6.out.size)
      have hst7 := HST6.out.kept hb7
      have hr7 := hst7.cr
      have hfr7 := hst7.fr
      have hc7 := (hb7.cell (p := ⟨w3.heap.size, 0, none⟩) (World.block_lt_of_cell? _ _ hc6)).trans hc6
      have hres := World.cell?_setCell_same w7 _ (.slice va5 L.length vc5) hr7
      have HOWN7 : Hid (w7.ownsRow w.heap.size 38 2 (.slice va5 L.length vc5) L.length (cellsF L)) := own_kept HOWN6.out hb7
      clear hb7 hst7 hf6
      go_wp2
      refine bodyPost_ret (v := .tuple #[.agg #[.slice va5 L.length vc5], .bool true]) (by simp [results, Tryz.results34, go_sem, hres]) rfl (putPost_some (put_some HG.out HL.out HOK.out) (own_set HOWN7.out _ _ _ HNR.out) (hB7.setCell (by simp; omega) _))
    · have HOK : Hid (¬ Disks.ok L) := hok
      clear hok
      go_wp2_with fail
      obtain ⟨a6, g6, cap6, e6, hf6⟩ := own_filesAt HOWN6.out
      cases e6
      refine (specDiskOk_big false L hLl _ hf6 HLL.out.2 ⟨fun h => (by cases h), fun h => absurd h HOK.out⟩).mono ?_
      rintro e w7 ⟨rfl, hb7⟩
      have hB7 : Below w.heap.size w w7 := HB6.out.trans (hb7.mono HB6.out.size)
      have hst7 := HST6.out.kept hb7
      have hr7 := hst7.cr
      have hfr7 := hst7.fr
      have hres := World.cell?_setCell_same w7 _ (.slice none 0 0) hr7
      clear hb7 hst7 hf6
      go_wp2
      refine bodyPost_ret (v := .tuple #[.agg #[.slice none 0 0], .bool false]) (by simp [results, Tryz.results34, go_sem, hres]) rfl (putPost_none (put_none HL.out HOK.out) (hB7.setCell (by simp; omega) _))

set_option maxHeartbeats 8000000 in
set_option maxRecDepth 100000 in
theorem specPutRaw_3d {a : Option Addr} {g off cap : Nat} (l : List FileL) (N O X : ByteArray) (hg : Disks.good l ⟨3, N, O, X⟩) (hnil : a = none → cap = 0) (hr : N.size ≤ 1048576 ∧ O.size ≤ 1048576 ∧ X.size ≤ 1048576) (k : Nat) (hx : Disks.At l N k) (hto : (O.toList == N.toList) = false) (w : World) (hf : FilesAt w a g off l) :
    Calls Tryz.prog 34 #[.agg #[.slice a l.length cap], rawV ⟨3, N, O, X⟩] w (putPost w (Disks.putRaw l ⟨3, N, O, X⟩)) := by
  have HF : Hid (FilesAt w a g off l) := hf
  have HG : Hid (Disks.good l ⟨3, N, O, X⟩) := hg
  have HNIL : Hid (a = none → cap = 0) := hnil
  have HR : Hid (N.size ≤ 1048576 ∧ O.size ≤ 1048576 ∧ X.size ≤ 1048576) := hr
  have h30 := hg.1.1
  have hsz := ok_sizes hg.1
  have HSZ : Hid (∀ f ∈ l, f.1.size ≤ 12 ∧ f.2.size ≤ 20000) := hsz
  have HX : Hid (_) := hx
  clear hf hg hnil hr hsz
  have hkl := hx.1
  have hk0 : (0 : Int) ≤ (k : Int) := by omega
  have hk1 : (k : Int) < (l.length : Int) := by omega
  clear hx
  unfold rawV
  go_enter Tryz.func34, Tryz.ntmps34
  go_wp2_with fail
  obtain ⟨W, hW⟩ : ∃ W, W = (((w.alloc (.cells #[.slice a l.length cap] 41)).alloc (.cells #[.int .i64 3, .string N, .string O, .string X] 69)).alloc (.cells #[.slice none 0 0] 41)) := ⟨_, rfl⟩
  rw [← hW]
  have hBW : Below w.heap.size w W := by rw [hW]; exact (((Below.refl _ _).alloc (Nat.le_refl _) _).alloc (by simp) _).alloc (by simp; omega) _
  have hst : RawAt w.heap.size (.slice a l.length cap) ⟨3, N, O, X⟩ W := by rw [hW]; exact RawAt.start w _ ⟨3, N, O, X⟩
  clear hW
  refine (l03At_is l (by omega) N (k : Int) (Or.inr ⟨k, HX.out, rfl⟩) W (HF.out.kept hBW)).mono ?_
  rintro e w1 ⟨rfl, hb1⟩
  have hB1 : Below w.heap.size w w1 := hBW.trans (hb1.mono hBW.size)
  have hst1 := hst.kept hb1
  have hd1 := hst1.cd
  clear hBW hst hb1
  go_wp2_with fail
  refine (specDiskOk_any true l (by omega) w1 (HF.out.kept hB1) (fun f h => by have := HSZ.out f h; omega) ⟨fun _ => HG.out.1, fun _ => rfl⟩).mono ?_
  rintro e w2 ⟨rfl, hb2⟩
  have hB2 : Below w.heap.size w w2 := hB1.trans (hb2.mono hB1.size)
  have hst2 := hst1.kept hb2
  have hd2 := hst2.cd
  have q0 : w2.cell? ⟨w.heap.size + 1, 0, none⟩ = some (.int .i64 3) := hst2.c0
  have q1 : w2.cell? ⟨w.heap.size + 1, 1, none⟩ = some (.string N) := hst2.c1
  have q2 : w2.cell? ⟨w.heap.size + 1, 2, none⟩ = some (.string O) := hst2.c2
  have q3 : w2.cell? ⟨w.heap.size + 1, 3, none⟩ = some (.string X) := hst2.c3
  clear hB1 hst1 hb2 hd1
  go_wp2_with fail
  refine (in_yes_pk 3 1 4 (by omega) w2).mono ?_
  rintro e w2' ⟨rfl, rfl⟩
  have hdA : (w2.alloc (.cells #[] 38)).cell? ⟨w.heap.size, 0, none⟩ = some (.slice a l.length cap) := (World.cell?_alloc_lt w2 _ _ (World.block_lt_of_cell? w2 _ hd2)).trans hd2
  have hbs : w2.heap.size ≤ (w2.alloc (.cells #[] 38)).heap.size := by simp
  go_wp2_with (at_builtin; refine wpList_append_files rfl _ _ rfl w2.heap.size (.slice (some ⟨w2.heap.size, 0, none⟩) 0 0) 0 [] rfl (World.ownsRow_made w2 #[] 0 (Nat.le_refl _) (by unfold maxLen; omega) rfl) a g off cap l rfl ((HF.out.kept hB2).kept ((Below.refl _ _).alloc (Nat.le_refl _) _)) HNIL.out (by omega) hbs ?_)
  intro v3 w3 hown3 hgrow3
  have hb3 : Below w2.heap.size w2 w3 := ((Below.refl _ _).alloc (Nat.le_refl _) _).grown hgrow3 (by simp) (fun j hj => by cases hj; exact Nat.le_refl _)
  have hB3 : Below w.heap.size w w3 := hB2.trans (hb3.mono hB2.size)
  have hst3 := hst2.kept hb3
  obtain ⟨va, vc, rfl⟩ := own_slice hown3
  have HOWN3 : Hid (w3.ownsRow w.heap.size 38 2 (.slice va l.length vc) l.length (cellsF l)) := own_mono hown3 hB2.size
  have HNR3 : Hid ((Value.slice va l.length vc).ownBlock ≠ some (w.heap.size + 1 + 1)) := fun e => by have h1 := (hown3.lt _ e).1; have h2 := hst2.lt; omega
  clear hown3 hgrow3 hB2 hst2 hb3 hd2 hdA q0 q1 q2 q3 hbs
  have q0 : w3.cell? ⟨w.heap.size + 1, 0, none⟩ = some (.int .i64 3) := hst3.c0
  have q1 : w3.cell? ⟨w.heap.size + 1, 1, none⟩ = some (.string N) := hst3.c1
  have q2 : w3.cell? ⟨w.heap.size + 1, 2, none⟩ = some (.string O) := hst3.c2
  have q3 : w3.cell? ⟨w.heap.size + 1, 3, none⟩ = some (.string X) := hst3.c3
  have hb4 : Below w3.heap.size w3 (w3.alloc (Obj.cells #[Value.slice va l.length vc] 41)) := (Below.refl _ _).alloc (Nat.le_refl _) _
  have hst4 := hst3.kept hb4
  have hd4 : (w3.alloc (Obj.cells #[Value.slice va l.length vc] 41)).cell? ⟨w.heap.size, 0, none⟩ = some (.slice a l.length cap) := hst4.cd
  have q0 : (w3.alloc (Obj.cells #[Value.slice va l.length vc] 41)).cell? ⟨w.heap.size + 1, 0, none⟩ = some (.int .i64 3) := hst4.c0
  have q1 : (w3.alloc (Obj.cells #[Value.slice va l.length vc] 41)).cell? ⟨w.heap.size + 1, 1, none⟩ = some (.string N) := hst4.c1
  have q2 : (w3.alloc (Obj.cells #[Value.slice va l.length vc] 41)).cell? ⟨w.heap.size + 1, 2, none⟩ = some (.string O) := hst4.c2
  have q3 : (w3.alloc (Obj.cells #[Value.slice va l.length vc] 41)).cell? ⟨w.heap.size + 1, 3, none⟩ = some (.string X) := hst4.c3
  have HB4 : Hid (Below w.heap.size w (w3.alloc (Obj.cells #[Value.slice va l.length vc] 41))) := hB3.trans (hb4.mono hB3.size)
  have HST4 : Hid (RawAt w.heap.size (.slice a l.length cap) ⟨3, N, O, X⟩ (w3.alloc (Obj.cells #[Value.slice va l.length vc] 41))) := hst4
  have HO4 : Hid ((w3.alloc (Obj.cells #[Value.slice va l.length vc] 41)).heap[w3.heap.size]? = some (.cells #[.slice va l.length vc] 41 (0, 0))) := heap_alloc_new w3 _
  have HLT : Hid (w.heap.size + 1 + 1 < w3.heap.size) := hst3.lt
  clear hb4 hst4 hst3
  have ea := HF.out.1 (by omega)
  subst ea
  obtain ⟨T, hT⟩ : ∃ T, T = l[k].2 := ⟨_, rfl⟩
  have hTT : T = Disks.textOf l N := by
    rcases Disks.textOf_is l N with ⟨h1, _⟩ | ⟨k', hk', h1, h2⟩
    · have h3 := h1 k hkl
      rw [HX.out.2.1] at h3
      cases h3
    · have := Disks.at_unique HX.out h1
      subst this
      rw [hT, h2]
  have hTs : T.size ≤ 20000 := by rw [hT]; exact (HSZ.out l[k] (List.getElem_mem _)).2
  have HTC : Hid (∀ wx : World, Below w.heap.size w wx → wx.cell? ⟨g, off + k * 2 + 1, none⟩ = some (.string T)) := fun wx h => by rw [hT]; exact ((HF.out.kept h).2 k hkl).2
  obtain ⟨M, hM⟩ : ∃ M, M = l.filter (fun f => !Disks.nameIs N f) := ⟨_, rfl⟩
  have hMl : M.length ≤ 30 := by rw [hM]; have := List.length_filter_le (fun f => !Disks.nameIs N f) l; omega
  have hMm : ∀ f ∈ M, f ∈ l := fun f hf => by rw [hM] at hf; exact (List.mem_filter.1 hf).1
  obtain ⟨L, hL⟩ : ∃ L, L = Disks.put M (O, T) := ⟨_, rfl⟩
  have HL : Hid (L = Disks.rawOut l ⟨3, N, O, X⟩) := by show _ = _; rw [hL, hTT, hM]; simp [Disks.rawOut, hto, Disks.drop]
  have HLL : Hid (L.length ≤ 1048576 ∧ ∀ f ∈ L, f.1.size ≤ 2097152 ∧ f.2.size ≤ 2097152) := by
    refine ⟨by have := Disks.put_len M (O, T); rw [hL]; omega, fun f hf => ?_⟩
    rw [hL] at hf
    rcases Disks.put_mem hf with rfl | h
    · have := HR.out; exact ⟨by show O.size ≤ _; omega, by show T.size ≤ _; omega⟩
    · have := HSZ.out f (hMm f h); omega
  have HDROP : Hid (∀ wx : World, FilesAt wx (some ⟨g, off, none⟩) g off l → Calls Tryz.prog 73 #[.agg #[.slice (some ⟨g, off, none⟩) l.length cap], .string N] wx fun e w' => ∃ v : Value, e = .returned (.agg #[v]) ∧ w'.ownsRow wx.heap.size 38 2 v M.length (cellsF M) ∧ Below wx.heap.size wx w') := fun wx h => by
    rw [hM]; exact l03Drop_is l (by omega) N wx h
  have HPUTL : Hid (∀ (wx : World) (a6 : Option Addr) (g6 cap6 : Nat), FilesAt wx a6 g6 0 M → Calls Tryz.prog 71 #[.agg #[.slice a6 M.length cap6], .agg #[.string O, .string T]] wx fun e w' => ∃ v : Value, e = .returned (.agg #[v]) ∧ w'.ownsRow wx.heap.size 38 2 v L.length (cellsF L) ∧ Below wx.heap.size wx w') := fun wx a6 g6 cap6 h => by
    rw [hL]; exact l03Put_is M (by omega) O T wx h
  have ct4 := HTC.out _ HB4.out
  clear hTT hL hM hT hMm
  have hgz : g ≠ w3.heap.size := by have := (HF.out.kept (show Below w.heap.size w w from Below.refl _ _)).lt (by omega); have := HLT.out; omega
  have hn0 : w.heap.size ≠ w3.heap.size := by have := HLT.out; omega
  have hn1 : w.heap.size + 1 ≠ w3.heap.size := by have := HLT.out; omega
  go_wp2
  go_region_held3 (fun w' => w'.cell? ⟨w.heap.size, 0, none⟩ = some (.slice (some ⟨g, off, none⟩) l.length cap) ∧ w'.cell? ⟨w.heap.size + 1, 1, none⟩ = some (.string N) ∧ w'.cell? ⟨w.heap.size + 1, 2, none⟩ = some (.string O) ∧ w'.cell? ⟨g, off + k * 2 + 1, none⟩ = some (.string T)) (first | go_keep | exact ⟨hdT, hnT, htT, cT⟩ | exact ⟨hd5, hn5, ht5, c5⟩ | exact ⟨cell_far hd5 hn0, cell_far hn5 hn1, cell_far ht5 hn1, cell_far c5 hgz⟩) (first | (go_at_call 73; refine (HDROP.out _ (HF.out.kept HB4.out.drew)).mono ?_; rintro e wT ⟨vT, rfl, hownT, hbT⟩; obtain ⟨a6, g6, cap6, rfl, hf6⟩ := own_filesAt hownT; have hBT := HB4.out.drew.trans (hbT.mono HB4.out.size); have hstT := HST4.out.drew.kept hbT; have hdT := hstT.cd; have hnT : wT.cell? ⟨w.heap.size + 1, 1, none⟩ = some (.string N) := hstT.c1; have htT : wT.cell? ⟨w.heap.size + 1, 2, none⟩ = some (.string O) := hstT.c2; have cT := HTC.out _ hBT; have HOT : Hid (wT.heap[w3.heap.size]? = some (.cells #[.slice va l.length vc] 41 (0, 0))) := (hbT.block _ (Array.getElem?_eq_some_iff.1 HO4.out).1).trans HO4.out; have hzT : w3.heap.size < wT.heap.size := (Array.getElem?_eq_some_iff.1 HOT.out).1) | (go_at_call 71; refine (HPUTL.out _ a6 g6 cap6 hf6).mono ?_; rintro e w5 ⟨v5, rfl, hown5, hb5⟩; have hB5 : Below w.heap.size w w5 := hBT.trans (hb5.mono hBT.size); have hst5 := hstT.kept hb5; have hd5 := hst5.cd; have hn5 : w5.cell? ⟨w.heap.size + 1, 1, none⟩ = some (.string N) := hst5.c1; have ht5 : w5.cell? ⟨w.heap.size + 1, 2, none⟩ = some (.string O) := hst5.c2; have c5 := HTC.out _ hB5; have HO5 : Hid (w5.heap[w3.heap.size]? = some (.cells #[.slice va l.length vc] 41 (0, 0))) := (hb5.block _ (Array.getElem?_eq_some_iff.1 HOT.out).1).trans HOT.out; obtain ⟨va5, vc5, rfl⟩ := own_slice hown5; have ho5 : w5.cell? ⟨w3.heap.size, 0, none⟩ = some (.slice va l.length vc) := cell_of_row _ _ 0 _ _ _ HO5.out; have hof5 : w5.frozen? ⟨w3.heap.size, 0, none⟩ = false := frozen_of_row _ _ _ _ _ HO5.out))
  all_goals
    have HST5 : Hid (RawAt w.heap.size (.slice (some ⟨g, off, none⟩) l.length cap) ⟨3, N, O, X⟩ w5) := hst5
    have HNEQ : Hid ((Value.slice va5 L.length vc5).ownBlock ≠ some w3.heap.size) := fun e => by have h1 := (hown5.lt _ e).1; have h2 := hzT; omega
    have HNR : Hid ((Value.slice va5 L.length vc5).ownBlock ≠ some (w.heap.size + 1 + 1)) := fun e => by have h1 := (hown5.lt _ e).1; have := HLT.out; have h2 := hzT; omega
    have HOWN5 : Hid (w5.ownsRow w.heap.size 38 2 (.slice va5 L.length vc5) L.length (cellsF L)) := own_mono hown5 hBT.size
    have hLl : L.length ≤ 1048576 := HLL.out.1
    have hc6 := World.cell?_setCell_same w5 _ (.slice va5 L.length vc5) ho5
    have HOWN6 : Hid ((w5.setCell ⟨w3.heap.size, 0, none⟩ (.slice va5 L.length vc5)).ownsRow w.heap.size 38 2 (.slice va5 L.length vc5) L.length (cellsF L)) := own_set HOWN5.out _ _ _ HNEQ.out
    have HST6 : Hid (RawAt w.heap.size (.slice (some ⟨g, off, none⟩) l.length cap) ⟨3, N, O, X⟩ (w5.setCell ⟨w3.heap.size, 0, none⟩ (.slice va5 L.length vc5))) := HST5.out.set _ _ _ HLT.out
    have HB6 : Hid (Below w.heap.size w (w5.setCell ⟨w3.heap.size, 0, none⟩ (.slice va5 L.length vc5))) := hB5.setCell (by have := HLT.out; simp; omega) _
    clear hown5 hst5 hbT hb5 hstT
    by_cases hok : Disks.ok L
    · have HOK : Hid (Disks.ok L) := hok
      clear hok
      go_wp2_with fail
      obtain ⟨a6, g6, cap6, e6, hf6⟩ := own_filesAt HOWN6.out
      cases e6
      refine (specDiskOk_big true L hLl _ hf6 HLL.out.2 ⟨fun _ => HOK.out, fun _ => rfl⟩).mono ?_
      rintro e w7 ⟨rfl, hb7⟩
      have hB7 : Below w.heap.size w w7 := HB6.out.trans (hb7.mono HB6.out.size)
      have hst7 := HST6.out.kept hb7
      have hr7 := hst7.cr
      have hfr7 := hst7.fr
      have hc7 := (hb7.cell (p := ⟨w3.heap.size, 0, none⟩) (World.block_lt_of_cell? _ _ hc6)).trans hc6
      have hres := World.cell?_setCell_same w7 _ (.slice va5 L.length vc5) hr7
      have HOWN7 : Hid (w7.ownsRow w.heap.size 38 2 (.slice va5 L.length vc5) L.length (cellsF L)) := own_kept HOWN6.out hb7
      clear hb7 hst7 hf6
      go_wp2
      refine bodyPost_ret (v := .tuple #[.agg #[.slice va5 L.length vc5], .bool true]) (by simp [results, Tryz.results34, go_sem, hres]) rfl (putPost_some (put_some HG.out HL.out HOK.out) (own_set HOWN7.out _ _ _ HNR.out) (hB7.setCell (by simp; omega) _))
    · have HOK : Hid (¬ Disks.ok L) := hok
      clear hok
      go_wp2_with fail
      obtain ⟨a6, g6, cap6, e6, hf6⟩ := own_filesAt HOWN6.out
      cases e6
      refine (specDiskOk_big false L hLl _ hf6 HLL.out.2 ⟨fun h => (by cases h), fun h => absurd h HOK.out⟩).mono ?_
      rintro e w7 ⟨rfl, hb7⟩
      have hB7 : Below w.heap.size w w7 := HB6.out.trans (hb7.mono HB6.out.size)
      have hst7 := HST6.out.kept hb7
      have hr7 := hst7.cr
      have hfr7 := hst7.fr
      have hres := World.cell?_setCell_same w7 _ (.slice none 0 0) hr7
      clear hb7 hst7 hf6
      go_wp2
      refine bodyPost_ret (v := .tuple #[.agg #[.slice none 0 0], .bool false]) (by simp [results, Tryz.results34, go_sem, hres]) rfl (putPost_none (put_none HL.out HOK.out) (hB7.setCell (by simp; omega) _))

set_option maxHeartbeats 8000000 in
set_option maxRecDepth 100000 in
theorem specPutRaw_3s {a : Option Addr} {g off cap : Nat} (l : List FileL) (N O X : ByteArray) (hg : Disks.good l ⟨3, N, O, X⟩) (hnil : a = none → cap = 0) (hr : N.size ≤ 1048576 ∧ O.size ≤ 1048576 ∧ X.size ≤ 1048576) (k : Nat) (hx : Disks.At l N k) (hto : (O.toList == N.toList) = true) (w : World) (hf : FilesAt w a g off l) :
    Calls Tryz.prog 34 #[.agg #[.slice a l.length cap], rawV ⟨3, N, O, X⟩] w (putPost w (Disks.putRaw l ⟨3, N, O, X⟩)) := by
  have HF : Hid (FilesAt w a g off l) := hf
  have HG : Hid (Disks.good l ⟨3, N, O, X⟩) := hg
  have HNIL : Hid (a = none → cap = 0) := hnil
  have HR : Hid (N.size ≤ 1048576 ∧ O.size ≤ 1048576 ∧ X.size ≤ 1048576) := hr
  have h30 := hg.1.1
  have hsz := ok_sizes hg.1
  have HSZ : Hid (∀ f ∈ l, f.1.size ≤ 12 ∧ f.2.size ≤ 20000) := hsz
  have HX : Hid (_) := hx
  clear hf hg hnil hr hsz
  have hkl := hx.1
  have hk0 : (0 : Int) ≤ (k : Int) := by omega
  have hk1 : (k : Int) < (l.length : Int) := by omega
  clear hx
  unfold rawV
  go_enter Tryz.func34, Tryz.ntmps34
  go_wp2_with fail
  obtain ⟨W, hW⟩ : ∃ W, W = (((w.alloc (.cells #[.slice a l.length cap] 41)).alloc (.cells #[.int .i64 3, .string N, .string O, .string X] 69)).alloc (.cells #[.slice none 0 0] 41)) := ⟨_, rfl⟩
  rw [← hW]
  have hBW : Below w.heap.size w W := by rw [hW]; exact (((Below.refl _ _).alloc (Nat.le_refl _) _).alloc (by simp) _).alloc (by simp; omega) _
  have hst : RawAt w.heap.size (.slice a l.length cap) ⟨3, N, O, X⟩ W := by rw [hW]; exact RawAt.start w _ ⟨3, N, O, X⟩
  clear hW
  refine (l03At_is l (by omega) N (k : Int) (Or.inr ⟨k, HX.out, rfl⟩) W (HF.out.kept hBW)).mono ?_
  rintro e w1 ⟨rfl, hb1⟩
  have hB1 : Below w.heap.size w w1 := hBW.trans (hb1.mono hBW.size)
  have hst1 := hst.kept hb1
  have hd1 := hst1.cd
  clear hBW hst hb1
  go_wp2_with fail
  refine (specDiskOk_any true l (by omega) w1 (HF.out.kept hB1) (fun f h => by have := HSZ.out f h; omega) ⟨fun _ => HG.out.1, fun _ => rfl⟩).mono ?_
  rintro e w2 ⟨rfl, hb2⟩
  have hB2 : Below w.heap.size w w2 := hB1.trans (hb2.mono hB1.size)
  have hst2 := hst1.kept hb2
  have hd2 := hst2.cd
  have q0 : w2.cell? ⟨w.heap.size + 1, 0, none⟩ = some (.int .i64 3) := hst2.c0
  have q1 : w2.cell? ⟨w.heap.size + 1, 1, none⟩ = some (.string N) := hst2.c1
  have q2 : w2.cell? ⟨w.heap.size + 1, 2, none⟩ = some (.string O) := hst2.c2
  have q3 : w2.cell? ⟨w.heap.size + 1, 3, none⟩ = some (.string X) := hst2.c3
  clear hB1 hst1 hb2 hd1
  go_wp2_with fail
  refine (in_yes_pk 3 1 4 (by omega) w2).mono ?_
  rintro e w2' ⟨rfl, rfl⟩
  have hdA : (w2.alloc (.cells #[] 38)).cell? ⟨w.heap.size, 0, none⟩ = some (.slice a l.length cap) := (World.cell?_alloc_lt w2 _ _ (World.block_lt_of_cell? w2 _ hd2)).trans hd2
  have hbs : w2.heap.size ≤ (w2.alloc (.cells #[] 38)).heap.size := by simp
  go_wp2_with (at_builtin; refine wpList_append_files rfl _ _ rfl w2.heap.size (.slice (some ⟨w2.heap.size, 0, none⟩) 0 0) 0 [] rfl (World.ownsRow_made w2 #[] 0 (Nat.le_refl _) (by unfold maxLen; omega) rfl) a g off cap l rfl ((HF.out.kept hB2).kept ((Below.refl _ _).alloc (Nat.le_refl _) _)) HNIL.out (by omega) hbs ?_)
  intro v3 w3 hown3 hgrow3
  have hb3 : Below w2.heap.size w2 w3 := ((Below.refl _ _).alloc (Nat.le_refl _) _).grown hgrow3 (by simp) (fun j hj => by cases hj; exact Nat.le_refl _)
  have hB3 : Below w.heap.size w w3 := hB2.trans (hb3.mono hB2.size)
  have hst3 := hst2.kept hb3
  obtain ⟨va, vc, rfl⟩ := own_slice hown3
  have HOWN3 : Hid (w3.ownsRow w.heap.size 38 2 (.slice va l.length vc) l.length (cellsF l)) := own_mono hown3 hB2.size
  have HNR3 : Hid ((Value.slice va l.length vc).ownBlock ≠ some (w.heap.size + 1 + 1)) := fun e => by have h1 := (hown3.lt _ e).1; have h2 := hst2.lt; omega
  clear hown3 hgrow3 hB2 hst2 hb3 hd2 hdA q0 q1 q2 q3 hbs
  have q0 : w3.cell? ⟨w.heap.size + 1, 0, none⟩ = some (.int .i64 3) := hst3.c0
  have q1 : w3.cell? ⟨w.heap.size + 1, 1, none⟩ = some (.string N) := hst3.c1
  have q2 : w3.cell? ⟨w.heap.size + 1, 2, none⟩ = some (.string O) := hst3.c2
  have q3 : w3.cell? ⟨w.heap.size + 1, 3, none⟩ = some (.string X) := hst3.c3
  have hb4 : Below w3.heap.size w3 (w3.alloc (Obj.cells #[Value.slice va l.length vc] 41)) := (Below.refl _ _).alloc (Nat.le_refl _) _
  have hst4 := hst3.kept hb4
  have hd4 : (w3.alloc (Obj.cells #[Value.slice va l.length vc] 41)).cell? ⟨w.heap.size, 0, none⟩ = some (.slice a l.length cap) := hst4.cd
  have q0 : (w3.alloc (Obj.cells #[Value.slice va l.length vc] 41)).cell? ⟨w.heap.size + 1, 0, none⟩ = some (.int .i64 3) := hst4.c0
  have q1 : (w3.alloc (Obj.cells #[Value.slice va l.length vc] 41)).cell? ⟨w.heap.size + 1, 1, none⟩ = some (.string N) := hst4.c1
  have q2 : (w3.alloc (Obj.cells #[Value.slice va l.length vc] 41)).cell? ⟨w.heap.size + 1, 2, none⟩ = some (.string O) := hst4.c2
  have q3 : (w3.alloc (Obj.cells #[Value.slice va l.length vc] 41)).cell? ⟨w.heap.size + 1, 3, none⟩ = some (.string X) := hst4.c3
  have HB4 : Hid (Below w.heap.size w (w3.alloc (Obj.cells #[Value.slice va l.length vc] 41))) := hB3.trans (hb4.mono hB3.size)
  have HST4 : Hid (RawAt w.heap.size (.slice a l.length cap) ⟨3, N, O, X⟩ (w3.alloc (Obj.cells #[Value.slice va l.length vc] 41))) := hst4
  have HO4 : Hid ((w3.alloc (Obj.cells #[Value.slice va l.length vc] 41)).heap[w3.heap.size]? = some (.cells #[.slice va l.length vc] 41 (0, 0))) := heap_alloc_new w3 _
  have HLT : Hid (w.heap.size + 1 + 1 < w3.heap.size) := hst3.lt
  clear hb4 hst4 hst3
  obtain ⟨L, hL⟩ : ∃ L, L = l := ⟨_, rfl⟩
  have HL : Hid (L = Disks.rawOut l ⟨3, N, O, X⟩) := by show _ = _; rw [hL]; simp [Disks.rawOut, hto]
  have HLL : Hid (L.length ≤ 1048576 ∧ ∀ f ∈ L, f.1.size ≤ 2097152 ∧ f.2.size ≤ 2097152) := by
    rw [hL]
    exact ⟨by omega, fun f hf => by have := HSZ.out f hf; omega⟩
  have HG' : Hid (L = l) := hL
  clear hL
  have hok : Disks.ok L := by rw [HG'.out]; exact HG.out.1
  have HOK : Hid (Disks.ok L) := hok
  clear hok
  have ho4 := cell_of_row _ _ 0 _ _ _ HO4.out
  have HOWN4 : Hid ((w3.alloc (Obj.cells #[Value.slice va l.length vc] 41)).ownsRow w.heap.size 38 2 (.slice va l.length vc) l.length (cellsF l)) := HOWN3.out.alloc _
  go_wp2_with fail
  obtain ⟨a6, g6, cap6, e6, hf6⟩ := own_filesAt HOWN4.out
  cases e6
  refine (specDiskOk_big true l (by omega) _ hf6 (by have := HLL.out.2; rw [HG'.out] at this; exact this) ⟨fun _ => HG.out.1, fun _ => rfl⟩).mono ?_
  rintro e w7 ⟨rfl, hb7⟩
  have hB7 : Below w.heap.size w w7 := HB4.out.trans (hb7.mono HB4.out.size)
  have hst7 := HST4.out.kept hb7
  have hr7 := hst7.cr
  have hfr7 := hst7.fr
  have hc7 : w7.cell? ⟨w3.heap.size, 0, none⟩ = some (.slice va l.length vc) := cell_of_row _ _ 0 _ _ _ ((hb7.block _ (Array.getElem?_eq_some_iff.1 HO4.out).1).trans HO4.out)
  have hres := World.cell?_setCell_same w7 _ (.slice va l.length vc) hr7
  have HOWN7 : Hid (w7.ownsRow w.heap.size 38 2 (.slice va l.length vc) l.length (cellsF l)) := own_kept HOWN4.out hb7
  have HNR : Hid ((Value.slice va l.length vc).ownBlock ≠ some (w.heap.size + 1 + 1)) := HNR3.out
  clear hb7 hst7 hf6
  go_wp2
  refine bodyPost_ret (v := .tuple #[.agg #[.slice va l.length vc], .bool true]) (by simp [results, Tryz.results34, go_sem, hres]) rfl (putPost_some (put_some HG.out (HG'.out.symm.trans HL.out) HG.out.1) (own_set HOWN7.out _ _ _ HNR.out) (hB7.setCell (by simp; omega) _))
end Go.Proofs.YtahpoemmlpbgdaaGreat
