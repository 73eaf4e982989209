/- The exact law of OpenShelf, walked. Made by program. -/
import Derived.Test.YtjpokcjpogkafaaGreatDoorShelfEq
import Derived.Test.YtjpokcjpogkafaaGreatDoorImplOpen
import Derived.Test.YtjpokcjpogkafaaGreatDoorMathComes2
import Derived.Test.YtjpokcjpogkafaaGreatDoorFiles
import Derived.Test.YtjpokcjpogkafaaGreatDoorRaws
import Derived.Test.YtjpokcjpogkafaaGreatDoorPutRaw
namespace Go.Proofs.YtjpokcjpogkafaaGreatDoor
open Go.RowKit
open Shelves (OpenIs)
set_option linter.unusedVariables false
set_option linter.unusedSimpArgs false

theorem LawS.calls {w W W' : World} {bs : List (Nat × Obj)} {rows : List RowD} (h : LawS w bs rows W) (hb : Below W.heap.size W W') (new : List RowD) (hv : ∀ r ∈ new, W'.ownsRow W.heap.size r.e r.z r.v r.n r.xs) (ha : new.Pairwise fun r s => r.v.ownBlock = none ∨ r.v.ownBlock ≠ s.v.ownBlock) : LawS w bs (new ++ rows) W' := by
  have h2 := h.step hb
  refine ⟨h2.below, h2.has, fun p hp => ?_, fun p hp q hq => ?_, List.pairwise_append.2 ⟨ha, h.apart, fun r hr q hq => ?_⟩, h.dist, h.up⟩
  · rcases List.mem_append.1 hp with hp | hp
    · exact own_mono (hv p hp) h.below.size
    · exact h2.own p hp
  · rcases List.mem_append.1 hq with hq | hq
    · intro e
      have h3 := ((hv q hq).lt _ e).1
      have h4 := h.bsz p hp
      omega
    · exact h.sep p hp q hq
  · cases e : r.v.ownBlock with
    | none => exact Or.inl rfl
    | some k =>
      right
      intro e2
      have h3 := ((hv r hr).lt _ e).1
      have h4 := h.rsz q hq k e2.symm
      omega
theorem own_types {W : World} {B1 B2 t1 t2 z1 z2 n1 n2 : Nat} {u v : Value} {xs ys : List Value} (h1 : W.ownsRow B1 t1 z1 u n1 xs) (h2 : W.ownsRow B2 t2 z2 v n2 ys) (hne : t1 ≠ t2) : u.ownBlock = none ∨ u.ownBlock ≠ v.ownBlock := by
  rcases h2.2 with ⟨rfl, _⟩ | ⟨g, cap, cur, rfl, _, hh, _⟩
  · cases e : u.ownBlock with
    | none => exact Or.inl rfl
    | some k => right; simp [Value.ownBlock]
  · exact Or.inr (own_not h1 hh hne)
theorem LawS.shelf {w W W' : World} {bs : List (Nat × Obj)} {rows : List RowD} (h : LawS w bs rows W) (hb : Below W.heap.size W W') {s : ShelfL} {va vc vd rv : Value} {rs : List Disks.RawL} (hs : ShOwn W.heap.size s va vc vd W') (hap : Apart va vc) (hr : W'.ownsRow W.heap.size 86 4 rv rs.length (cellsRaw rs)) :
    LawS w bs (⟨va, 3, 1, s.man.segs.length, cellsI s.man.segs⟩ :: ⟨vc, 3, 1, s.man.conf.length, cellsI s.man.conf⟩ :: ⟨vd, 135, 4, s.dir.length, cellsSpot s.dir⟩ :: ⟨rv, 86, 4, rs.length, cellsRaw rs⟩ :: rows) W' := by
  refine h.calls hb [⟨va, 3, 1, s.man.segs.length, cellsI s.man.segs⟩, ⟨vc, 3, 1, s.man.conf.length, cellsI s.man.conf⟩, ⟨vd, 135, 4, s.dir.length, cellsSpot s.dir⟩, ⟨rv, 86, 4, rs.length, cellsRaw rs⟩] (fun r hm => ?_) ?_
  · simp only [List.mem_cons, List.not_mem_nil, or_false] at hm
    rcases hm with rfl | rfl | rfl | rfl
    · exact hs.segs
    · exact hs.conf
    · exact hs.dir
    · exact hr
  · simp only [List.pairwise_cons, List.mem_cons, List.not_mem_nil, or_false, List.Pairwise.nil, and_true, forall_eq_or_imp, forall_eq, false_implies, implies_true]
    exact ⟨⟨apart_ne hap, own_types hs.segs hs.dir (by decide), own_types hs.segs hr (by decide)⟩, ⟨own_types hs.conf hs.dir (by decide), own_types hs.conf hr (by decide)⟩, own_types hs.dir hr (by decide)⟩
theorem eqRawS_own {B B' : Nat} {v v' : Value} (l : List Disks.RawL) (hlen : l.length ≤ 100) (w : World) (h : w.ownsRow B 86 4 v l.length (cellsRaw l)) (h' : w.ownsRow B' 86 4 v' l.length (cellsRaw l)) :
    Calls Tryz.prog 12 #[v, v'] w fun e w' => e = .returned (.bool true) ∧ Below w.heap.size w w' := by
  obtain ⟨a, g, cap, rfl, h1⟩ := cellsRaw_slice h
  obtain ⟨a', g', cap', rfl, h2⟩ := cellsRaw_slice h'
  exact eqRawS_same l (by omega) w h1 h2
set_option maxHeartbeats 8000000 in
set_option maxRecDepth 100000 in
theorem lawOpen_any {a : Option Addr} {g off cap : Nat} (l : List FileL) (hlen : l.length ≤ maxLen) (hsz : ∀ f ∈ l, f.1.size ≤ maxLen ∧ f.2.size ≤ maxLen) (w : World) (hf : FilesAt w a g off l) (hp : Pow w) (hE : ErrT w) :
    Calls Tryz.prog 3 #[.agg #[.slice a l.length cap]] w fun e w' => e = .returned (.bool true) ∧ Below w.heap.size w w' := by
  have HF : Hid (FilesAt w a g off l) := hf
  have HS : Hid (∀ f ∈ l, f.1.size ≤ maxLen ∧ f.2.size ≤ maxLen) := hsz
  have HL : Hid (l.length ≤ maxLen) := hlen
  have HP : Hid (Pow w) := hp
  have HE : Hid (ErrT w) := hE
  clear hf hsz hlen hp hE
  go_enter Tryz.func3, Tryz.ntmps3
  go_wp2_with fail
  obtain ⟨W, hW⟩ : ∃ W, W = w.alloc (Obj.cells #[Value.slice a l.length cap] 24) := ⟨_, rfl⟩
  rw [← hW]
  have hWb : Below w.heap.size w W := by rw [hW]; exact (Below.refl _ _).alloc (Nat.le_refl _) _
  have hWc : W.cell? ⟨w.heap.size, 0, none⟩ = some (.slice a l.length cap) := by rw [hW]; exact cell_of_row _ _ _ _ _ _ (heap_alloc_new w _)
  have hWz : w.heap.size < W.heap.size := World.block_lt_of_cell? W _ hWc
  clear hW
  refine (szDisk_any l HL.out HS.out 1048576 (Nat.le_refl _) W (HF.out.kept hWb)).mono ?_
  rintro e w1 ⟨x, rfl, hx, hb1⟩
  have hB1 : Below w.heap.size w w1 := hWb.trans (hb1.mono hWb.size)
  have hc1 : w1.cell? ⟨w.heap.size, 0, none⟩ = some (.slice a l.length cap) := by rw [hb1.cell (p := ⟨w.heap.size, 0, none⟩) hWz]; exact hWc
  have hz1 : w.heap.size < w1.heap.size := Nat.lt_of_lt_of_le hWz hb1.size
  clear hWb hb1 hWc hWz
  rcases hx with ⟨hx1, hx2⟩ | ⟨hx1, hx2⟩
  · obtain ⟨Y, hY⟩ : ∃ Y : Nat, Y = 1048576 - tot l := ⟨_, rfl⟩
    rw [← hY] at hx2
    subst hx2
    clear hY
    obtain ⟨hl, hs⟩ := sizes_of_tot hx1
    have HSS : Hid (∀ f ∈ l, f.1.size ≤ 1048576 ∧ f.2.size ≤ 1048576) := hs
    clear hs hx1
    obtain ⟨s, rs, c, hO⟩ := Shelves.open_ex l
    obtain ⟨n1, n2, n3, n4⟩ := Shelves.open_small hO
    have HO : Hid (OpenIs l s rs c) := hO
    clear hO
    go_wp2_with fail
    refine (toDisk_any l hl w1 (HF.out.kept hB1)).mono ?_
    rintro e w2 ⟨g2, rfl, hg2, hown2, hb2⟩
    have hB2 : Below w.heap.size w w2 := hB1.trans (hb2.mono hB1.size)
    have hc2 : w2.cell? ⟨w.heap.size, 0, none⟩ = some (.slice a l.length cap) := by rw [hb2.cell (p := ⟨w.heap.size, 0, none⟩) hz1]; exact hc1
    have hz2 : w.heap.size < w2.heap.size := Nat.lt_of_lt_of_le hz1 hb2.size
    have HF2 : Hid (FilesAt w2 (some ⟨g2, 0, none⟩) g2 0 l) := own_files rfl hown2
    clear hB1 hb2 hc1 hz1 hown2
    go_wp2_with fail
    refine (specOpen_any l hl HSS.out s rs c HO.out w2 HF2.out).mono ?_
    rintro e w3 ⟨va, vc, vd, rv, rfl, hsh, hrw, hb3⟩
    unfold shV cells7
    obtain ⟨va, vb, hva⟩ := own_slice hsh.segs
    subst hva
    obtain ⟨vc, vd, hvc⟩ := own_slice hsh.conf
    subst hvc
    obtain ⟨ve, vf, hvd⟩ := own_slice hsh.dir
    subst hvd
    obtain ⟨vg, vh, hrv⟩ := own_slice hrw
    subst hrv
    have hB3 : Below w.heap.size w w3 := hB2.trans (hb3.mono hB2.size)
    have hc3 : w3.cell? ⟨w.heap.size, 0, none⟩ = some (.slice a l.length cap) := by rw [hb3.cell (p := ⟨w.heap.size, 0, none⟩) hz2]; exact hc2
    clear hB2 hb3 hc2 hz2 HF2
    obtain ⟨WB, hWB⟩ : ∃ WB, WB = w3.alloc (Obj.cells #[.slice va s.man.segs.length vb, .int .i64 s.man.next, .int .i64 s.man.base, .int .i64 s.man.term, .slice vc s.man.conf.length vd, .slice ve s.dir.length vf, .int .i64 s.stamp] 31) := ⟨_, rfl⟩
    obtain ⟨bw, hbw⟩ : ∃ bw, bw = w3.heap.size := ⟨_, rfl⟩
    have hbW : Below w3.heap.size w3 WB := by rw [hWB]; exact (Below.refl _ _).alloc (Nat.le_refl _) _
    have hBB : Below w.heap.size w WB := hB3.trans (hbW.mono hB3.size)
    have HBB : Hid (Below w.heap.size w WB) := hBB
    have hcB : WB.cell? ⟨w.heap.size, 0, none⟩ = some (.slice a l.length cap) := (hbW.cell (p := ⟨w.heap.size, 0, none⟩) (World.block_lt_of_cell? _ _ hc3)).trans hc3
    have hqB : WB.heap[bw]? = some (.cells #[.slice va s.man.segs.length vb, .int .i64 s.man.next, .int .i64 s.man.base, .int .i64 s.man.term, .slice vc s.man.conf.length vd, .slice ve s.dir.length vf, .int .i64 s.stamp] 31 (0, 0)) := by rw [hWB, hbw]; exact heap_alloc_new w3 _
    have HBX : Hid (∀ W', Below WB.heap.size WB W' → W'.cell? ⟨w.heap.size, 0, none⟩ = some (.slice a l.length cap)) := fun W' h => (h.cell (p := ⟨w.heap.size, 0, none⟩) (World.block_lt_of_cell? _ _ hcB)).trans hcB
    have HW0 : Hid (∀ W', Below WB.heap.size WB W' → W'.cell? ⟨bw, 0, none⟩ = some (.slice va s.man.segs.length vb) ∧ W'.cell? ⟨bw, 1, none⟩ = some (.int .i64 s.man.next) ∧ W'.cell? ⟨bw, 2, none⟩ = some (.int .i64 s.man.base) ∧ W'.cell? ⟨bw, 3, none⟩ = some (.int .i64 s.man.term) ∧ W'.cell? ⟨bw, 4, none⟩ = some (.slice vc s.man.conf.length vd) ∧ W'.cell? ⟨bw, 5, none⟩ = some (.slice ve s.dir.length vf) ∧ W'.cell? ⟨bw, 6, none⟩ = some (.int .i64 s.stamp)) := fun W' h => (seven_cells ((h.block _ (Array.getElem?_eq_some_iff.1 hqB).1).trans hqB)).1
    have HSP : Hid (∀ W', Below WB.heap.size WB W' → ShOwn w2.heap.size s (.slice va s.man.segs.length vb) (.slice vc s.man.conf.length vd) (.slice ve s.dir.length vf) W') := fun W' h => (hsh.kept hbW).kept h
    have HRP : Hid (∀ W', Below WB.heap.size WB W' → W'.ownsRow w2.heap.size 86 4 (.slice vg rs.length vh) rs.length (cellsRaw rs)) := fun W' h => own_kept (own_kept hrw hbW) h
    have HFB : Hid (FilesAt WB a g off l) := HF.out.kept hBB
    have HPB : Hid (Pow WB) := HP.out.below hBB
    have HEB : Hid (ErrT WB) := HE.out.below hBB
    clear hsh hrw hB3 hbW hBB hqB hc3 HF HP HE HS HL
    rw [hWB] at hcB
    go_wp2_with fail
    rw [← hWB]
    try rw [← hbw]
    clear hWB hbw hcB
    have L1 : Hid (LawS WB [] [] WB) := LawS.start WB
    refine Calls.mono (toDisk_any l hl _ (HFB.out.kept L1.out.below)) ?_
    rintro en w1 ⟨gX, rfl, _, hown, hb⟩
    have L2 : Hid (LawS WB [] [⟨.slice (some ⟨gX, 0, none⟩) l.length l.length, 89, 2, l.length, cellsF l⟩] w1) := L1.out.call hb hown
    clear L1
    clear hb hown
    obtain ⟨W2, hW2⟩ : ∃ W2, W2 = w1.alloc (Obj.cells #[.slice (some ⟨gX, 0, none⟩) l.length l.length] 37) := ⟨_, rfl⟩
    obtain ⟨bx02, hbx02⟩ : ∃ bx02, bx02 = w1.heap.size := ⟨_, rfl⟩
    have L3 : Hid (LawS WB [(bx02, Obj.cells #[.slice (some ⟨gX, 0, none⟩) l.length l.length] 37)] [⟨.slice (some ⟨gX, 0, none⟩) l.length l.length, 89, 2, l.length, cellsF l⟩] W2) := by rw [hW2, hbx02]; exact L2.out.alloc _
    have d0_0 : (W2).cell? ⟨bx02, 0, none⟩ = some (.slice (some ⟨gX, 0, none⟩) l.length l.length) := cell_of_row _ _ 0 _ _ _ (L3.out.has _ (List.Mem.head _))
    rw [hW2] at d0_0
    rw [hbx02] at d0_0
    go_wp2_with fail
    rw [← hW2, ← hbx02]
    clear hW2 hbx02 L2 d0_0
    refine Calls.mono (implOpen_any l hl HSS.out s rs c HO.out _ (own_files rfl (L3.out.row 0 rfl)) (HPB.out.below L3.out.below) (HEB.out.below L3.out.below)) ?_
    rintro en w3o ⟨va, vc, vd, rv, rfl, hsh, hap, hrw, hb⟩
    unfold shV cells7
    obtain ⟨xa, xb, hva⟩ := own_slice hsh.segs
    subst hva
    obtain ⟨xc, xd, hvc⟩ := own_slice hsh.conf
    subst hvc
    obtain ⟨xe, xf, hvd⟩ := own_slice hsh.dir
    subst hvd
    obtain ⟨xg, xh, hrv⟩ := own_slice hrw
    subst hrv
    have HAP : Hid (Apart (.slice xa s.man.segs.length xb) (.slice xc s.man.conf.length xd)) := hap
    have L4 : Hid (LawS WB [(bx02, Obj.cells #[.slice (some ⟨gX, 0, none⟩) l.length l.length] 37)] [⟨.slice xa s.man.segs.length xb, 3, 1, s.man.segs.length, cellsI s.man.segs⟩, ⟨.slice xc s.man.conf.length xd, 3, 1, s.man.conf.length, cellsI s.man.conf⟩, ⟨.slice xe s.dir.length xf, 135, 4, s.dir.length, cellsSpot s.dir⟩, ⟨.slice xg rs.length xh, 86, 4, rs.length, cellsRaw rs⟩, ⟨.slice (some ⟨gX, 0, none⟩) l.length l.length, 89, 2, l.length, cellsF l⟩] w3o) := L3.out.shelf hb hsh hap hrw
    clear L3
    clear hb hsh hap hrw
    obtain ⟨W4, hW4⟩ : ∃ W4, W4 = w3o.alloc (Obj.cells #[.slice xa s.man.segs.length xb, .int .i64 s.man.next, .int .i64 s.man.base, .int .i64 s.man.term, .slice xc s.man.conf.length xd, .slice xe s.dir.length xf, .int .i64 s.stamp] 31) := ⟨_, rfl⟩
    obtain ⟨bx0g4, hbx0g4⟩ : ∃ bx0g4, bx0g4 = w3o.heap.size := ⟨_, rfl⟩
    have L5 : Hid (LawS WB [(bx0g4, Obj.cells #[.slice xa s.man.segs.length xb, .int .i64 s.man.next, .int .i64 s.man.base, .int .i64 s.man.term, .slice xc s.man.conf.length xd, .slice xe s.dir.length xf, .int .i64 s.stamp] 31), (bx02, Obj.cells #[.slice (some ⟨gX, 0, none⟩) l.length l.length] 37)] [⟨.slice xa s.man.segs.length xb, 3, 1, s.man.segs.length, cellsI s.man.segs⟩, ⟨.slice xc s.man.conf.length xd, 3, 1, s.man.conf.length, cellsI s.man.conf⟩, ⟨.slice xe s.dir.length xf, 135, 4, s.dir.length, cellsSpot s.dir⟩, ⟨.slice xg rs.length xh, 86, 4, rs.length, cellsRaw rs⟩, ⟨.slice (some ⟨gX, 0, none⟩) l.length l.length, 89, 2, l.length, cellsF l⟩] W4) := by rw [hW4, hbx0g4]; exact L4.out.alloc _
    have d0_0 : (W4).cell? ⟨bx0g4, 0, none⟩ = some (.slice xa s.man.segs.length xb) := cell_of_row _ _ 0 _ _ _ (L5.out.has _ (List.Mem.head _))
    have d0_1 : (W4).cell? ⟨bx0g4, 1, none⟩ = some (.int .i64 s.man.next) := cell_of_row _ _ 1 _ _ _ (L5.out.has _ (List.Mem.head _))
    have d0_2 : (W4).cell? ⟨bx0g4, 2, none⟩ = some (.int .i64 s.man.base) := cell_of_row _ _ 2 _ _ _ (L5.out.has _ (List.Mem.head _))
    have d0_3 : (W4).cell? ⟨bx0g4, 3, none⟩ = some (.int .i64 s.man.term) := cell_of_row _ _ 3 _ _ _ (L5.out.has _ (List.Mem.head _))
    have d0_4 : (W4).cell? ⟨bx0g4, 4, none⟩ = some (.slice xc s.man.conf.length xd) := cell_of_row _ _ 4 _ _ _ (L5.out.has _ (List.Mem.head _))
    have d0_5 : (W4).cell? ⟨bx0g4, 5, none⟩ = some (.slice xe s.dir.length xf) := cell_of_row _ _ 5 _ _ _ (L5.out.has _ (List.Mem.head _))
    have d0_6 : (W4).cell? ⟨bx0g4, 6, none⟩ = some (.int .i64 s.stamp) := cell_of_row _ _ 6 _ _ _ (L5.out.has _ (List.Mem.head _))
    obtain ⟨dw00, dw01, dw02, dw03, dw04, dw05, dw06⟩ := HW0.out _ L5.out.below
    rw [hW4] at d0_0 d0_1 d0_2 d0_3 d0_4 d0_5 d0_6 dw00 dw01 dw02 dw03 dw04 dw05 dw06
    rw [hbx0g4] at d0_0 d0_1 d0_2 d0_3 d0_4 d0_5 d0_6
    go_wp2_with fail
    rw [← hW4, ← hbx0g4]
    clear hW4 hbx0g4 L4 d0_0 d0_1 d0_2 d0_3 d0_4 d0_5 d0_6 dw00 dw01 dw02 dw03 dw04 dw05 dw06
    refine Calls.mono (eqShelf_same s n1 n2 n3 _ (b := WB.heap.size) ⟨(L5.out.row 0 rfl), (L5.out.row 1 rfl), (L5.out.row 2 rfl)⟩ (HSP.out _ L5.out.below)) ?_
    rintro en w5 ⟨rfl, hb⟩
    have L6 : Hid (LawS WB [(bx0g4, Obj.cells #[.slice xa s.man.segs.length xb, .int .i64 s.man.next, .int .i64 s.man.base, .int .i64 s.man.term, .slice xc s.man.conf.length xd, .slice xe s.dir.length xf, .int .i64 s.stamp] 31), (bx02, Obj.cells #[.slice (some ⟨gX, 0, none⟩) l.length l.length] 37)] [⟨.slice xa s.man.segs.length xb, 3, 1, s.man.segs.length, cellsI s.man.segs⟩, ⟨.slice xc s.man.conf.length xd, 3, 1, s.man.conf.length, cellsI s.man.conf⟩, ⟨.slice xe s.dir.length xf, 135, 4, s.dir.length, cellsSpot s.dir⟩, ⟨.slice xg rs.length xh, 86, 4, rs.length, cellsRaw rs⟩, ⟨.slice (some ⟨gX, 0, none⟩) l.length l.length, 89, 2, l.length, cellsF l⟩] w5) := L5.out.step hb
    clear L5
    clear hb
    go_wp2_with fail
    refine Calls.mono (eqRawS_own rs n4 _ (L6.out.row 3 rfl) (HRP.out _ L6.out.below)) ?_
    rintro en w6 ⟨rfl, hb⟩
    have L7 : Hid (LawS WB [(bx0g4, Obj.cells #[.slice xa s.man.segs.length xb, .int .i64 s.man.next, .int .i64 s.man.base, .int .i64 s.man.term, .slice xc s.man.conf.length xd, .slice xe s.dir.length xf, .int .i64 s.stamp] 31), (bx02, Obj.cells #[.slice (some ⟨gX, 0, none⟩) l.length l.length] 37)] [⟨.slice xa s.man.segs.length xb, 3, 1, s.man.segs.length, cellsI s.man.segs⟩, ⟨.slice xc s.man.conf.length xd, 3, 1, s.man.conf.length, cellsI s.man.conf⟩, ⟨.slice xe s.dir.length xf, 135, 4, s.dir.length, cellsSpot s.dir⟩, ⟨.slice xg rs.length xh, 86, 4, rs.length, cellsRaw rs⟩, ⟨.slice (some ⟨gX, 0, none⟩) l.length l.length, 89, 2, l.length, cellsF l⟩] w6) := L6.out.step hb
    clear L6
    clear hb
    have d1_0 : (w6).cell? ⟨bx02, 0, none⟩ = some (.slice (some ⟨gX, 0, none⟩) l.length l.length) := cell_of_row _ _ 0 _ _ _ (L7.out.has _ (List.Mem.tail _ (List.Mem.head _)))
    have dbx0 := HBX.out _ L7.out.below
    have hX := own_files rfl (L7.out.row 4 rfl)
    go_wp2
    have hzx : bx02 < w6.heap.size := World.block_lt_of_cell? _ _ d1_0
    have hzd : w.heap.size < w6.heap.size := World.block_lt_of_cell? _ _ dbx0
    go_region_held3 (fun w' => w'.cell? ⟨bx02, 0, none⟩ = some (.slice (some ⟨gX, 0, none⟩) l.length l.length) ∧ w'.cell? ⟨w.heap.size, 0, none⟩ = some (.slice a l.length cap)) (first | go_keep | exact ⟨(hb7.cell (p := ⟨bx02, 0, none⟩) hzx).trans d1_0, (hb7.cell (p := ⟨w.heap.size, 0, none⟩) hzd).trans dbx0⟩ | exact ⟨(hb8.cell (p := ⟨bx02, 0, none⟩) (Nat.lt_of_lt_of_le hzx hb7.size)).trans ((hb7.cell (p := ⟨bx02, 0, none⟩) hzx).trans d1_0), (hb8.cell (p := ⟨w.heap.size, 0, none⟩) (Nat.lt_of_lt_of_le hzd hb7.size)).trans ((hb7.cell (p := ⟨w.heap.size, 0, none⟩) hzd).trans dbx0)⟩) (first | (go_at_call 9; refine (toDisk_any l hl _ (HFB.out.kept L7.out.below.drew)).mono ?_; rintro e w7 ⟨g7, rfl, hg7, hown7, hb7⟩) | (go_at_call 13; refine (eqDisk_same l hl _ (FilesAt.kept (w := w6.drew) hX hb7) (own_files rfl hown7)).mono ?_; rintro e w8 ⟨rfl, hb8⟩))
    clear d1_0 dbx0
    have L8 : Hid (LawS WB [(bx0g4, Obj.cells #[.slice xa s.man.segs.length xb, .int .i64 s.man.next, .int .i64 s.man.base, .int .i64 s.man.term, .slice xc s.man.conf.length xd, .slice xe s.dir.length xf, .int .i64 s.stamp] 31), (bx02, Obj.cells #[.slice (some ⟨gX, 0, none⟩) l.length l.length] 37)] [⟨.slice (some ⟨g7, 0, none⟩) l.length l.length, 89, 2, l.length, cellsF l⟩, ⟨.slice xa s.man.segs.length xb, 3, 1, s.man.segs.length, cellsI s.man.segs⟩, ⟨.slice xc s.man.conf.length xd, 3, 1, s.man.conf.length, cellsI s.man.conf⟩, ⟨.slice xe s.dir.length xf, 135, 4, s.dir.length, cellsSpot s.dir⟩, ⟨.slice xg rs.length xh, 86, 4, rs.length, cellsRaw rs⟩, ⟨.slice (some ⟨gX, 0, none⟩) l.length l.length, 89, 2, l.length, cellsF l⟩] w8) := (L7.out.drew.call hb7 hown7).step hb8
    clear L7
    clear hb7 hb8 hown7 hg7 hX hzx hzd
    have d1_0 : (w8).cell? ⟨bx02, 0, none⟩ = some (.slice (some ⟨gX, 0, none⟩) l.length l.length) := cell_of_row _ _ 0 _ _ _ (L8.out.has _ (List.Mem.tail _ (List.Mem.head _)))
    go_wp2_with fail
    clear d1_0
    refine Calls.mono (markDisk_own l hl _ (L8.out.row 5 rfl)) ?_
    rintro en w7 ⟨rfl, hown, hg⟩
    have L9 : Hid (LawS WB [(bx0g4, Obj.cells #[.slice xa s.man.segs.length xb, .int .i64 s.man.next, .int .i64 s.man.base, .int .i64 s.man.term, .slice xc s.man.conf.length xd, .slice xe s.dir.length xf, .int .i64 s.stamp] 31), (bx02, Obj.cells #[.slice (some ⟨gX, 0, none⟩) l.length l.length] 37)] [⟨.slice (some ⟨g7, 0, none⟩) l.length l.length, 89, 2, l.length, cellsF l⟩, ⟨.slice xa s.man.segs.length xb, 3, 1, s.man.segs.length, cellsI s.man.segs⟩, ⟨.slice xc s.man.conf.length xd, 3, 1, s.man.conf.length, cellsI s.man.conf⟩, ⟨.slice xe s.dir.length xf, 135, 4, s.dir.length, cellsSpot s.dir⟩, ⟨.slice xg rs.length xh, 86, 4, rs.length, cellsRaw rs⟩, ⟨.slice (some ⟨gX, 0, none⟩) l.length l.length, 89, 2, l.length, cellsF (marksF 1 l.length)⟩] w7) := L8.out.mark 5 (r := ⟨.slice (some ⟨gX, 0, none⟩) l.length l.length, 89, 2, l.length, cellsF l⟩) rfl hg hown
    clear L8
    clear hown hg
    obtain ⟨D0, hD0⟩ : ∃ D0 : Nat, D0 = 1 + 2 * l.length := ⟨_, rfl⟩
    rw [← hD0]
    clear hD0
    have hd0 : ¬ (D0 : Int) < 0 := by omega
    have d0_0 : (w7).cell? ⟨bx0g4, 0, none⟩ = some (.slice xa s.man.segs.length xb) := cell_of_row _ _ 0 _ _ _ (L9.out.has _ (List.Mem.head _))
    have d0_1 : (w7).cell? ⟨bx0g4, 1, none⟩ = some (.int .i64 s.man.next) := cell_of_row _ _ 1 _ _ _ (L9.out.has _ (List.Mem.head _))
    have d0_2 : (w7).cell? ⟨bx0g4, 2, none⟩ = some (.int .i64 s.man.base) := cell_of_row _ _ 2 _ _ _ (L9.out.has _ (List.Mem.head _))
    have d0_3 : (w7).cell? ⟨bx0g4, 3, none⟩ = some (.int .i64 s.man.term) := cell_of_row _ _ 3 _ _ _ (L9.out.has _ (List.Mem.head _))
    have d0_4 : (w7).cell? ⟨bx0g4, 4, none⟩ = some (.slice xc s.man.conf.length xd) := cell_of_row _ _ 4 _ _ _ (L9.out.has _ (List.Mem.head _))
    have d0_5 : (w7).cell? ⟨bx0g4, 5, none⟩ = some (.slice xe s.dir.length xf) := cell_of_row _ _ 5 _ _ _ (L9.out.has _ (List.Mem.head _))
    have d0_6 : (w7).cell? ⟨bx0g4, 6, none⟩ = some (.int .i64 s.stamp) := cell_of_row _ _ 6 _ _ _ (L9.out.has _ (List.Mem.head _))
    obtain ⟨dw00, dw01, dw02, dw03, dw04, dw05, dw06⟩ := HW0.out _ L9.out.below
    go_wp2_with fail
    clear d0_0 d0_1 d0_2 d0_3 d0_4 d0_5 d0_6 dw00 dw01 dw02 dw03 dw04 dw05 dw06
    refine Calls.mono (eqShelf_same s n1 n2 n3 _ (b := WB.heap.size) ⟨(L9.out.row 1 rfl), (L9.out.row 2 rfl), (L9.out.row 3 rfl)⟩ (HSP.out _ L9.out.below)) ?_
    rintro en w8 ⟨rfl, hb⟩
    have L10 : Hid (LawS WB [(bx0g4, Obj.cells #[.slice xa s.man.segs.length xb, .int .i64 s.man.next, .int .i64 s.man.base, .int .i64 s.man.term, .slice xc s.man.conf.length xd, .slice xe s.dir.length xf, .int .i64 s.stamp] 31), (bx02, Obj.cells #[.slice (some ⟨gX, 0, none⟩) l.length l.length] 37)] [⟨.slice (some ⟨g7, 0, none⟩) l.length l.length, 89, 2, l.length, cellsF l⟩, ⟨.slice xa s.man.segs.length xb, 3, 1, s.man.segs.length, cellsI s.man.segs⟩, ⟨.slice xc s.man.conf.length xd, 3, 1, s.man.conf.length, cellsI s.man.conf⟩, ⟨.slice xe s.dir.length xf, 135, 4, s.dir.length, cellsSpot s.dir⟩, ⟨.slice xg rs.length xh, 86, 4, rs.length, cellsRaw rs⟩, ⟨.slice (some ⟨gX, 0, none⟩) l.length l.length, 89, 2, l.length, cellsF (marksF 1 l.length)⟩] w8) := L9.out.step hb
    clear L9
    clear hb
    go_wp2_with fail
    refine Calls.mono (eqRawS_own rs n4 _ (L10.out.row 4 rfl) (HRP.out _ L10.out.below)) ?_
    rintro en w9 ⟨rfl, hb⟩
    have L11 : Hid (LawS WB [(bx0g4, Obj.cells #[.slice xa s.man.segs.length xb, .int .i64 s.man.next, .int .i64 s.man.base, .int .i64 s.man.term, .slice xc s.man.conf.length xd, .slice xe s.dir.length xf, .int .i64 s.stamp] 31), (bx02, Obj.cells #[.slice (some ⟨gX, 0, none⟩) l.length l.length] 37)] [⟨.slice (some ⟨g7, 0, none⟩) l.length l.length, 89, 2, l.length, cellsF l⟩, ⟨.slice xa s.man.segs.length xb, 3, 1, s.man.segs.length, cellsI s.man.segs⟩, ⟨.slice xc s.man.conf.length xd, 3, 1, s.man.conf.length, cellsI s.man.conf⟩, ⟨.slice xe s.dir.length xf, 135, 4, s.dir.length, cellsSpot s.dir⟩, ⟨.slice xg rs.length xh, 86, 4, rs.length, cellsRaw rs⟩, ⟨.slice (some ⟨gX, 0, none⟩) l.length l.length, 89, 2, l.length, cellsF (marksF 1 l.length)⟩] w9) := L10.out.step hb
    clear L10
    clear hb
    have d0_0 : (w9).cell? ⟨bx0g4, 0, none⟩ = some (.slice xa s.man.segs.length xb) := cell_of_row _ _ 0 _ _ _ (L11.out.has _ (List.Mem.head _))
    have d0_1 : (w9).cell? ⟨bx0g4, 1, none⟩ = some (.int .i64 s.man.next) := cell_of_row _ _ 1 _ _ _ (L11.out.has _ (List.Mem.head _))
    have d0_2 : (w9).cell? ⟨bx0g4, 2, none⟩ = some (.int .i64 s.man.base) := cell_of_row _ _ 2 _ _ _ (L11.out.has _ (List.Mem.head _))
    have d0_3 : (w9).cell? ⟨bx0g4, 3, none⟩ = some (.int .i64 s.man.term) := cell_of_row _ _ 3 _ _ _ (L11.out.has _ (List.Mem.head _))
    have d0_4 : (w9).cell? ⟨bx0g4, 4, none⟩ = some (.slice xc s.man.conf.length xd) := cell_of_row _ _ 4 _ _ _ (L11.out.has _ (List.Mem.head _))
    have d0_5 : (w9).cell? ⟨bx0g4, 5, none⟩ = some (.slice xe s.dir.length xf) := cell_of_row _ _ 5 _ _ _ (L11.out.has _ (List.Mem.head _))
    have d0_6 : (w9).cell? ⟨bx0g4, 6, none⟩ = some (.int .i64 s.stamp) := cell_of_row _ _ 6 _ _ _ (L11.out.has _ (List.Mem.head _))
    go_wp2_with fail
    clear d0_0 d0_1 d0_2 d0_3 d0_4 d0_5 d0_6
    refine Calls.mono (markShelf_is s n1 n2 n3 _ (B := WB.heap.size) ⟨(L11.out.row 1 rfl), (L11.out.row 2 rfl), (L11.out.row 3 rfl)⟩ HAP.out) ?_
    rintro en w10m ⟨rfl, m1, m2, hg1, ho1, hg2, ho2, hg3, ho3⟩
    have L12 : Hid (LawS WB [(bx0g4, Obj.cells #[.slice xa s.man.segs.length xb, .int .i64 s.man.next, .int .i64 s.man.base, .int .i64 s.man.term, .slice xc s.man.conf.length xd, .slice xe s.dir.length xf, .int .i64 s.stamp] 31), (bx02, Obj.cells #[.slice (some ⟨gX, 0, none⟩) l.length l.length] 37)] [⟨.slice (some ⟨g7, 0, none⟩) l.length l.length, 89, 2, l.length, cellsF l⟩, ⟨.slice xa s.man.segs.length xb, 3, 1, s.man.segs.length, cellsI (marksI 1 s.man.segs.length)⟩, ⟨.slice xc s.man.conf.length xd, 3, 1, s.man.conf.length, cellsI s.man.conf⟩, ⟨.slice xe s.dir.length xf, 135, 4, s.dir.length, cellsSpot s.dir⟩, ⟨.slice xg rs.length xh, 86, 4, rs.length, cellsRaw rs⟩, ⟨.slice (some ⟨gX, 0, none⟩) l.length l.length, 89, 2, l.length, cellsF (marksF 1 l.length)⟩] m1) := L11.out.mark 1 (r := ⟨.slice xa s.man.segs.length xb, 3, 1, s.man.segs.length, cellsI s.man.segs⟩) rfl hg1 ho1
    clear L11
    have L13 : Hid (LawS WB [(bx0g4, Obj.cells #[.slice xa s.man.segs.length xb, .int .i64 s.man.next, .int .i64 s.man.base, .int .i64 s.man.term, .slice xc s.man.conf.length xd, .slice xe s.dir.length xf, .int .i64 s.stamp] 31), (bx02, Obj.cells #[.slice (some ⟨gX, 0, none⟩) l.length l.length] 37)] [⟨.slice (some ⟨g7, 0, none⟩) l.length l.length, 89, 2, l.length, cellsF l⟩, ⟨.slice xa s.man.segs.length xb, 3, 1, s.man.segs.length, cellsI (marksI 1 s.man.segs.length)⟩, ⟨.slice xc s.man.conf.length xd, 3, 1, s.man.conf.length, cellsI (marksI (1 + s.man.segs.length) s.man.conf.length)⟩, ⟨.slice xe s.dir.length xf, 135, 4, s.dir.length, cellsSpot s.dir⟩, ⟨.slice xg rs.length xh, 86, 4, rs.length, cellsRaw rs⟩, ⟨.slice (some ⟨gX, 0, none⟩) l.length l.length, 89, 2, l.length, cellsF (marksF 1 l.length)⟩] m2) := L12.out.mark 2 (r := ⟨.slice xc s.man.conf.length xd, 3, 1, s.man.conf.length, cellsI s.man.conf⟩) rfl hg2 ho2
    clear L12
    have L14 : Hid (LawS WB [(bx0g4, Obj.cells #[.slice xa s.man.segs.length xb, .int .i64 s.man.next, .int .i64 s.man.base, .int .i64 s.man.term, .slice xc s.man.conf.length xd, .slice xe s.dir.length xf, .int .i64 s.stamp] 31), (bx02, Obj.cells #[.slice (some ⟨gX, 0, none⟩) l.length l.length] 37)] [⟨.slice (some ⟨g7, 0, none⟩) l.length l.length, 89, 2, l.length, cellsF l⟩, ⟨.slice xa s.man.segs.length xb, 3, 1, s.man.segs.length, cellsI (marksI 1 s.man.segs.length)⟩, ⟨.slice xc s.man.conf.length xd, 3, 1, s.man.conf.length, cellsI (marksI (1 + s.man.segs.length) s.man.conf.length)⟩, ⟨.slice xe s.dir.length xf, 135, 4, s.dir.length, cellsSpot (marksSpot (1 + s.man.segs.length + s.man.conf.length) s.dir.length)⟩, ⟨.slice xg rs.length xh, 86, 4, rs.length, cellsRaw rs⟩, ⟨.slice (some ⟨gX, 0, none⟩) l.length l.length, 89, 2, l.length, cellsF (marksF 1 l.length)⟩] w10m) := L13.out.mark 3 (r := ⟨.slice xe s.dir.length xf, 135, 4, s.dir.length, cellsSpot s.dir⟩) rfl hg3 ho3
    clear L13
    clear hg1 hg2 hg3 ho1 ho2 ho3
    obtain ⟨K, hK⟩ : ∃ K : Nat, K = 1 + s.man.segs.length + s.man.conf.length + 4 * s.dir.length := ⟨_, rfl⟩
    have HK : Hid (K = 1 + s.man.segs.length + s.man.conf.length + 4 * s.dir.length) := hK
    have hK0 : 0 < K := by omega
    have hK1 : K ≤ 1000 := by omega
    rw [← hK]
    clear hK
    have hkn : ¬ (K : Int) < 0 := by omega
    go_wp2_with fail
    refine Calls.mono (markRawS_own rs (by omega) K hK0 (by omega) _ (L14.out.row 4 rfl)) ?_
    rintro en w11 ⟨rfl, hown, hg⟩
    have L15 : Hid (LawS WB [(bx0g4, Obj.cells #[.slice xa s.man.segs.length xb, .int .i64 s.man.next, .int .i64 s.man.base, .int .i64 s.man.term, .slice xc s.man.conf.length xd, .slice xe s.dir.length xf, .int .i64 s.stamp] 31), (bx02, Obj.cells #[.slice (some ⟨gX, 0, none⟩) l.length l.length] 37)] [⟨.slice (some ⟨g7, 0, none⟩) l.length l.length, 89, 2, l.length, cellsF l⟩, ⟨.slice xa s.man.segs.length xb, 3, 1, s.man.segs.length, cellsI (marksI 1 s.man.segs.length)⟩, ⟨.slice xc s.man.conf.length xd, 3, 1, s.man.conf.length, cellsI (marksI (1 + s.man.segs.length) s.man.conf.length)⟩, ⟨.slice xe s.dir.length xf, 135, 4, s.dir.length, cellsSpot (marksSpot (1 + s.man.segs.length + s.man.conf.length) s.dir.length)⟩, ⟨.slice xg rs.length xh, 86, 4, rs.length, cellsRaw (marksRaw K rs.length)⟩, ⟨.slice (some ⟨gX, 0, none⟩) l.length l.length, 89, 2, l.length, cellsF (marksF 1 l.length)⟩] w11) := L14.out.mark 4 (r := ⟨.slice xg rs.length xh, 86, 4, rs.length, cellsRaw rs⟩) rfl hg hown
    clear L14
    clear hown hg
    obtain ⟨M, hM⟩ : ∃ M : Nat, M = K + 4 * rs.length := ⟨_, rfl⟩
    have HM : Hid (M = K + 4 * rs.length) := hM
    rw [← hM]
    clear hM
    have hmn : ¬ (M : Int) < 0 := by omega
    have d0_0 : (w11).cell? ⟨bx0g4, 0, none⟩ = some (.slice xa s.man.segs.length xb) := cell_of_row _ _ 0 _ _ _ (L15.out.has _ (List.Mem.head _))
    have d0_1 : (w11).cell? ⟨bx0g4, 1, none⟩ = some (.int .i64 s.man.next) := cell_of_row _ _ 1 _ _ _ (L15.out.has _ (List.Mem.head _))
    have d0_2 : (w11).cell? ⟨bx0g4, 2, none⟩ = some (.int .i64 s.man.base) := cell_of_row _ _ 2 _ _ _ (L15.out.has _ (List.Mem.head _))
    have d0_3 : (w11).cell? ⟨bx0g4, 3, none⟩ = some (.int .i64 s.man.term) := cell_of_row _ _ 3 _ _ _ (L15.out.has _ (List.Mem.head _))
    have d0_4 : (w11).cell? ⟨bx0g4, 4, none⟩ = some (.slice xc s.man.conf.length xd) := cell_of_row _ _ 4 _ _ _ (L15.out.has _ (List.Mem.head _))
    have d0_5 : (w11).cell? ⟨bx0g4, 5, none⟩ = some (.slice xe s.dir.length xf) := cell_of_row _ _ 5 _ _ _ (L15.out.has _ (List.Mem.head _))
    have d0_6 : (w11).cell? ⟨bx0g4, 6, none⟩ = some (.int .i64 s.stamp) := cell_of_row _ _ 6 _ _ _ (L15.out.has _ (List.Mem.head _))
    go_wp2_with fail
    clear d0_0 d0_1 d0_2 d0_3 d0_4 d0_5 d0_6
    refine Calls.mono (heldShelf_is s.man.segs.length s.man.conf.length s.dir.length n1 n2 n3 _ (L15.out.row 1 rfl) (L15.out.row 2 rfl) (L15.out.row 3 rfl)) ?_
    rintro en w12 ⟨rfl, hb⟩
    have L16 : Hid (LawS WB [(bx0g4, Obj.cells #[.slice xa s.man.segs.length xb, .int .i64 s.man.next, .int .i64 s.man.base, .int .i64 s.man.term, .slice xc s.man.conf.length xd, .slice xe s.dir.length xf, .int .i64 s.stamp] 31), (bx02, Obj.cells #[.slice (some ⟨gX, 0, none⟩) l.length l.length] 37)] [⟨.slice (some ⟨g7, 0, none⟩) l.length l.length, 89, 2, l.length, cellsF l⟩, ⟨.slice xa s.man.segs.length xb, 3, 1, s.man.segs.length, cellsI (marksI 1 s.man.segs.length)⟩, ⟨.slice xc s.man.conf.length xd, 3, 1, s.man.conf.length, cellsI (marksI (1 + s.man.segs.length) s.man.conf.length)⟩, ⟨.slice xe s.dir.length xf, 135, 4, s.dir.length, cellsSpot (marksSpot (1 + s.man.segs.length + s.man.conf.length) s.dir.length)⟩, ⟨.slice xg rs.length xh, 86, 4, rs.length, cellsRaw (marksRaw K rs.length)⟩, ⟨.slice (some ⟨gX, 0, none⟩) l.length l.length, 89, 2, l.length, cellsF (marksF 1 l.length)⟩] w12) := L15.out.step hb
    clear L15
    clear hb
    rw [← HK.out]
    go_wp2_with fail
    refine Calls.mono (heldRawS_own (n := rs.length) (by omega) K hK0 (by omega) _ (L16.out.row 4 rfl)) ?_
    rintro en w13 ⟨rfl, hb⟩
    have L17 : Hid (LawS WB [(bx0g4, Obj.cells #[.slice xa s.man.segs.length xb, .int .i64 s.man.next, .int .i64 s.man.base, .int .i64 s.man.term, .slice xc s.man.conf.length xd, .slice xe s.dir.length xf, .int .i64 s.stamp] 31), (bx02, Obj.cells #[.slice (some ⟨gX, 0, none⟩) l.length l.length] 37)] [⟨.slice (some ⟨g7, 0, none⟩) l.length l.length, 89, 2, l.length, cellsF l⟩, ⟨.slice xa s.man.segs.length xb, 3, 1, s.man.segs.length, cellsI (marksI 1 s.man.segs.length)⟩, ⟨.slice xc s.man.conf.length xd, 3, 1, s.man.conf.length, cellsI (marksI (1 + s.man.segs.length) s.man.conf.length)⟩, ⟨.slice xe s.dir.length xf, 135, 4, s.dir.length, cellsSpot (marksSpot (1 + s.man.segs.length + s.man.conf.length) s.dir.length)⟩, ⟨.slice xg rs.length xh, 86, 4, rs.length, cellsRaw (marksRaw K rs.length)⟩, ⟨.slice (some ⟨gX, 0, none⟩) l.length l.length, 89, 2, l.length, cellsF (marksF 1 l.length)⟩] w13) := L16.out.step hb
    clear L16
    clear hb
    rw [← HM.out]
    have dbx0 := HBX.out _ L17.out.below
    go_wp2_with fail
    clear dbx0
    refine Calls.mono (toDisk_any l hl _ (HFB.out.kept L17.out.below)) ?_
    rintro en w14 ⟨gY, rfl, _, hown, hb⟩
    have L18 : Hid (LawS WB [(bx0g4, Obj.cells #[.slice xa s.man.segs.length xb, .int .i64 s.man.next, .int .i64 s.man.base, .int .i64 s.man.term, .slice xc s.man.conf.length xd, .slice xe s.dir.length xf, .int .i64 s.stamp] 31), (bx02, Obj.cells #[.slice (some ⟨gX, 0, none⟩) l.length l.length] 37)] [⟨.slice (some ⟨gY, 0, none⟩) l.length l.length, 89, 2, l.length, cellsF l⟩, ⟨.slice (some ⟨g7, 0, none⟩) l.length l.length, 89, 2, l.length, cellsF l⟩, ⟨.slice xa s.man.segs.length xb, 3, 1, s.man.segs.length, cellsI (marksI 1 s.man.segs.length)⟩, ⟨.slice xc s.man.conf.length xd, 3, 1, s.man.conf.length, cellsI (marksI (1 + s.man.segs.length) s.man.conf.length)⟩, ⟨.slice xe s.dir.length xf, 135, 4, s.dir.length, cellsSpot (marksSpot (1 + s.man.segs.length + s.man.conf.length) s.dir.length)⟩, ⟨.slice xg rs.length xh, 86, 4, rs.length, cellsRaw (marksRaw K rs.length)⟩, ⟨.slice (some ⟨gX, 0, none⟩) l.length l.length, 89, 2, l.length, cellsF (marksF 1 l.length)⟩] w14) := L17.out.call hb hown
    clear L17
    clear hb hown
    go_wp2_with fail
    refine Calls.mono (implOpen_any l hl HSS.out s rs c HO.out _ (own_files rfl (L18.out.row 0 rfl)) (HPB.out.below L18.out.below) (HEB.out.below L18.out.below)) ?_
    rintro en w15o ⟨va, vc, vd, rv, rfl, hsh, hap, hrw, hb⟩
    unfold shV cells7
    obtain ⟨ya, yb, hva⟩ := own_slice hsh.segs
    subst hva
    obtain ⟨yc, yd, hvc⟩ := own_slice hsh.conf
    subst hvc
    obtain ⟨ye, yf, hvd⟩ := own_slice hsh.dir
    subst hvd
    obtain ⟨yg, yh, hrv⟩ := own_slice hrw
    subst hrv
    have L19 : Hid (LawS WB [(bx0g4, Obj.cells #[.slice xa s.man.segs.length xb, .int .i64 s.man.next, .int .i64 s.man.base, .int .i64 s.man.term, .slice xc s.man.conf.length xd, .slice xe s.dir.length xf, .int .i64 s.stamp] 31), (bx02, Obj.cells #[.slice (some ⟨gX, 0, none⟩) l.length l.length] 37)] [⟨.slice ya s.man.segs.length yb, 3, 1, s.man.segs.length, cellsI s.man.segs⟩, ⟨.slice yc s.man.conf.length yd, 3, 1, s.man.conf.length, cellsI s.man.conf⟩, ⟨.slice ye s.dir.length yf, 135, 4, s.dir.length, cellsSpot s.dir⟩, ⟨.slice yg rs.length yh, 86, 4, rs.length, cellsRaw rs⟩, ⟨.slice (some ⟨gY, 0, none⟩) l.length l.length, 89, 2, l.length, cellsF l⟩, ⟨.slice (some ⟨g7, 0, none⟩) l.length l.length, 89, 2, l.length, cellsF l⟩, ⟨.slice xa s.man.segs.length xb, 3, 1, s.man.segs.length, cellsI (marksI 1 s.man.segs.length)⟩, ⟨.slice xc s.man.conf.length xd, 3, 1, s.man.conf.length, cellsI (marksI (1 + s.man.segs.length) s.man.conf.length)⟩, ⟨.slice xe s.dir.length xf, 135, 4, s.dir.length, cellsSpot (marksSpot (1 + s.man.segs.length + s.man.conf.length) s.dir.length)⟩, ⟨.slice xg rs.length xh, 86, 4, rs.length, cellsRaw (marksRaw K rs.length)⟩, ⟨.slice (some ⟨gX, 0, none⟩) l.length l.length, 89, 2, l.length, cellsF (marksF 1 l.length)⟩] w15o) := L18.out.shelf hb hsh hap hrw
    clear L18
    clear hb hsh hap hrw
    obtain ⟨W16, hW16⟩ : ∃ W16, W16 = w15o.alloc (Obj.cells #[.slice ya s.man.segs.length yb, .int .i64 s.man.next, .int .i64 s.man.base, .int .i64 s.man.term, .slice yc s.man.conf.length yd, .slice ye s.dir.length yf, .int .i64 s.stamp] 31) := ⟨_, rfl⟩
    obtain ⟨by0g16, hby0g16⟩ : ∃ by0g16, by0g16 = w15o.heap.size := ⟨_, rfl⟩
    have L20 : Hid (LawS WB [(by0g16, Obj.cells #[.slice ya s.man.segs.length yb, .int .i64 s.man.next, .int .i64 s.man.base, .int .i64 s.man.term, .slice yc s.man.conf.length yd, .slice ye s.dir.length yf, .int .i64 s.stamp] 31), (bx0g4, Obj.cells #[.slice xa s.man.segs.length xb, .int .i64 s.man.next, .int .i64 s.man.base, .int .i64 s.man.term, .slice xc s.man.conf.length xd, .slice xe s.dir.length xf, .int .i64 s.stamp] 31), (bx02, Obj.cells #[.slice (some ⟨gX, 0, none⟩) l.length l.length] 37)] [⟨.slice ya s.man.segs.length yb, 3, 1, s.man.segs.length, cellsI s.man.segs⟩, ⟨.slice yc s.man.conf.length yd, 3, 1, s.man.conf.length, cellsI s.man.conf⟩, ⟨.slice ye s.dir.length yf, 135, 4, s.dir.length, cellsSpot s.dir⟩, ⟨.slice yg rs.length yh, 86, 4, rs.length, cellsRaw rs⟩, ⟨.slice (some ⟨gY, 0, none⟩) l.length l.length, 89, 2, l.length, cellsF l⟩, ⟨.slice (some ⟨g7, 0, none⟩) l.length l.length, 89, 2, l.length, cellsF l⟩, ⟨.slice xa s.man.segs.length xb, 3, 1, s.man.segs.length, cellsI (marksI 1 s.man.segs.length)⟩, ⟨.slice xc s.man.conf.length xd, 3, 1, s.man.conf.length, cellsI (marksI (1 + s.man.segs.length) s.man.conf.length)⟩, ⟨.slice xe s.dir.length xf, 135, 4, s.dir.length, cellsSpot (marksSpot (1 + s.man.segs.length + s.man.conf.length) s.dir.length)⟩, ⟨.slice xg rs.length xh, 86, 4, rs.length, cellsRaw (marksRaw K rs.length)⟩, ⟨.slice (some ⟨gX, 0, none⟩) l.length l.length, 89, 2, l.length, cellsF (marksF 1 l.length)⟩] W16) := by rw [hW16, hby0g16]; exact L19.out.alloc _
    have d0_0 : (W16).cell? ⟨by0g16, 0, none⟩ = some (.slice ya s.man.segs.length yb) := cell_of_row _ _ 0 _ _ _ (L20.out.has _ (List.Mem.head _))
    have d0_1 : (W16).cell? ⟨by0g16, 1, none⟩ = some (.int .i64 s.man.next) := cell_of_row _ _ 1 _ _ _ (L20.out.has _ (List.Mem.head _))
    have d0_2 : (W16).cell? ⟨by0g16, 2, none⟩ = some (.int .i64 s.man.base) := cell_of_row _ _ 2 _ _ _ (L20.out.has _ (List.Mem.head _))
    have d0_3 : (W16).cell? ⟨by0g16, 3, none⟩ = some (.int .i64 s.man.term) := cell_of_row _ _ 3 _ _ _ (L20.out.has _ (List.Mem.head _))
    have d0_4 : (W16).cell? ⟨by0g16, 4, none⟩ = some (.slice yc s.man.conf.length yd) := cell_of_row _ _ 4 _ _ _ (L20.out.has _ (List.Mem.head _))
    have d0_5 : (W16).cell? ⟨by0g16, 5, none⟩ = some (.slice ye s.dir.length yf) := cell_of_row _ _ 5 _ _ _ (L20.out.has _ (List.Mem.head _))
    have d0_6 : (W16).cell? ⟨by0g16, 6, none⟩ = some (.int .i64 s.stamp) := cell_of_row _ _ 6 _ _ _ (L20.out.has _ (List.Mem.head _))
    obtain ⟨dw00, dw01, dw02, dw03, dw04, dw05, dw06⟩ := HW0.out _ L20.out.below
    rw [hW16] at d0_0 d0_1 d0_2 d0_3 d0_4 d0_5 d0_6 dw00 dw01 dw02 dw03 dw04 dw05 dw06
    rw [hby0g16] at d0_0 d0_1 d0_2 d0_3 d0_4 d0_5 d0_6
    go_wp2_with fail
    rw [← hW16, ← hby0g16]
    clear hW16 hby0g16 L19 d0_0 d0_1 d0_2 d0_3 d0_4 d0_5 d0_6 dw00 dw01 dw02 dw03 dw04 dw05 dw06
    refine Calls.mono (eqShelf_same s n1 n2 n3 _ (b := WB.heap.size) ⟨(L20.out.row 0 rfl), (L20.out.row 1 rfl), (L20.out.row 2 rfl)⟩ (HSP.out _ L20.out.below)) ?_
    rintro en w17 ⟨rfl, hb⟩
    have L21 : Hid (LawS WB [(by0g16, Obj.cells #[.slice ya s.man.segs.length yb, .int .i64 s.man.next, .int .i64 s.man.base, .int .i64 s.man.term, .slice yc s.man.conf.length yd, .slice ye s.dir.length yf, .int .i64 s.stamp] 31), (bx0g4, Obj.cells #[.slice xa s.man.segs.length xb, .int .i64 s.man.next, .int .i64 s.man.base, .int .i64 s.man.term, .slice xc s.man.conf.length xd, .slice xe s.dir.length xf, .int .i64 s.stamp] 31), (bx02, Obj.cells #[.slice (some ⟨gX, 0, none⟩) l.length l.length] 37)] [⟨.slice ya s.man.segs.length yb, 3, 1, s.man.segs.length, cellsI s.man.segs⟩, ⟨.slice yc s.man.conf.length yd, 3, 1, s.man.conf.length, cellsI s.man.conf⟩, ⟨.slice ye s.dir.length yf, 135, 4, s.dir.length, cellsSpot s.dir⟩, ⟨.slice yg rs.length yh, 86, 4, rs.length, cellsRaw rs⟩, ⟨.slice (some ⟨gY, 0, none⟩) l.length l.length, 89, 2, l.length, cellsF l⟩, ⟨.slice (some ⟨g7, 0, none⟩) l.length l.length, 89, 2, l.length, cellsF l⟩, ⟨.slice xa s.man.segs.length xb, 3, 1, s.man.segs.length, cellsI (marksI 1 s.man.segs.length)⟩, ⟨.slice xc s.man.conf.length xd, 3, 1, s.man.conf.length, cellsI (marksI (1 + s.man.segs.length) s.man.conf.length)⟩, ⟨.slice xe s.dir.length xf, 135, 4, s.dir.length, cellsSpot (marksSpot (1 + s.man.segs.length + s.man.conf.length) s.dir.length)⟩, ⟨.slice xg rs.length xh, 86, 4, rs.length, cellsRaw (marksRaw K rs.length)⟩, ⟨.slice (some ⟨gX, 0, none⟩) l.length l.length, 89, 2, l.length, cellsF (marksF 1 l.length)⟩] w17) := L20.out.step hb
    clear L20
    clear hb
    go_wp2_with fail
    refine Calls.mono (eqRawS_own rs n4 _ (L21.out.row 3 rfl) (HRP.out _ L21.out.below)) ?_
    rintro en w18 ⟨rfl, hb⟩
    have L22 : Hid (LawS WB [(by0g16, Obj.cells #[.slice ya s.man.segs.length yb, .int .i64 s.man.next, .int .i64 s.man.base, .int .i64 s.man.term, .slice yc s.man.conf.length yd, .slice ye s.dir.length yf, .int .i64 s.stamp] 31), (bx0g4, Obj.cells #[.slice xa s.man.segs.length xb, .int .i64 s.man.next, .int .i64 s.man.base, .int .i64 s.man.term, .slice xc s.man.conf.length xd, .slice xe s.dir.length xf, .int .i64 s.stamp] 31), (bx02, Obj.cells #[.slice (some ⟨gX, 0, none⟩) l.length l.length] 37)] [⟨.slice ya s.man.segs.length yb, 3, 1, s.man.segs.length, cellsI s.man.segs⟩, ⟨.slice yc s.man.conf.length yd, 3, 1, s.man.conf.length, cellsI s.man.conf⟩, ⟨.slice ye s.dir.length yf, 135, 4, s.dir.length, cellsSpot s.dir⟩, ⟨.slice yg rs.length yh, 86, 4, rs.length, cellsRaw rs⟩, ⟨.slice (some ⟨gY, 0, none⟩) l.length l.length, 89, 2, l.length, cellsF l⟩, ⟨.slice (some ⟨g7, 0, none⟩) l.length l.length, 89, 2, l.length, cellsF l⟩, ⟨.slice xa s.man.segs.length xb, 3, 1, s.man.segs.length, cellsI (marksI 1 s.man.segs.length)⟩, ⟨.slice xc s.man.conf.length xd, 3, 1, s.man.conf.length, cellsI (marksI (1 + s.man.segs.length) s.man.conf.length)⟩, ⟨.slice xe s.dir.length xf, 135, 4, s.dir.length, cellsSpot (marksSpot (1 + s.man.segs.length + s.man.conf.length) s.dir.length)⟩, ⟨.slice xg rs.length xh, 86, 4, rs.length, cellsRaw (marksRaw K rs.length)⟩, ⟨.slice (some ⟨gX, 0, none⟩) l.length l.length, 89, 2, l.length, cellsF (marksF 1 l.length)⟩] w18) := L21.out.step hb
    clear L21
    clear hb
    have d1_0 : (w18).cell? ⟨bx0g4, 0, none⟩ = some (.slice xa s.man.segs.length xb) := cell_of_row _ _ 0 _ _ _ (L22.out.has _ (List.Mem.tail _ (List.Mem.head _)))
    have d1_1 : (w18).cell? ⟨bx0g4, 1, none⟩ = some (.int .i64 s.man.next) := cell_of_row _ _ 1 _ _ _ (L22.out.has _ (List.Mem.tail _ (List.Mem.head _)))
    have d1_2 : (w18).cell? ⟨bx0g4, 2, none⟩ = some (.int .i64 s.man.base) := cell_of_row _ _ 2 _ _ _ (L22.out.has _ (List.Mem.tail _ (List.Mem.head _)))
    have d1_3 : (w18).cell? ⟨bx0g4, 3, none⟩ = some (.int .i64 s.man.term) := cell_of_row _ _ 3 _ _ _ (L22.out.has _ (List.Mem.tail _ (List.Mem.head _)))
    have d1_4 : (w18).cell? ⟨bx0g4, 4, none⟩ = some (.slice xc s.man.conf.length xd) := cell_of_row _ _ 4 _ _ _ (L22.out.has _ (List.Mem.tail _ (List.Mem.head _)))
    have d1_5 : (w18).cell? ⟨bx0g4, 5, none⟩ = some (.slice xe s.dir.length xf) := cell_of_row _ _ 5 _ _ _ (L22.out.has _ (List.Mem.tail _ (List.Mem.head _)))
    have d1_6 : (w18).cell? ⟨bx0g4, 6, none⟩ = some (.int .i64 s.stamp) := cell_of_row _ _ 6 _ _ _ (L22.out.has _ (List.Mem.tail _ (List.Mem.head _)))
    go_wp2_with fail
    clear d1_0 d1_1 d1_2 d1_3 d1_4 d1_5 d1_6
    refine Calls.mono (heldShelf_is s.man.segs.length s.man.conf.length s.dir.length n1 n2 n3 _ (L22.out.row 6 rfl) (L22.out.row 7 rfl) (L22.out.row 8 rfl)) ?_
    rintro en w19 ⟨rfl, hb⟩
    have L23 : Hid (LawS WB [(by0g16, Obj.cells #[.slice ya s.man.segs.length yb, .int .i64 s.man.next, .int .i64 s.man.base, .int .i64 s.man.term, .slice yc s.man.conf.length yd, .slice ye s.dir.length yf, .int .i64 s.stamp] 31), (bx0g4, Obj.cells #[.slice xa s.man.segs.length xb, .int .i64 s.man.next, .int .i64 s.man.base, .int .i64 s.man.term, .slice xc s.man.conf.length xd, .slice xe s.dir.length xf, .int .i64 s.stamp] 31), (bx02, Obj.cells #[.slice (some ⟨gX, 0, none⟩) l.length l.length] 37)] [⟨.slice ya s.man.segs.length yb, 3, 1, s.man.segs.length, cellsI s.man.segs⟩, ⟨.slice yc s.man.conf.length yd, 3, 1, s.man.conf.length, cellsI s.man.conf⟩, ⟨.slice ye s.dir.length yf, 135, 4, s.dir.length, cellsSpot s.dir⟩, ⟨.slice yg rs.length yh, 86, 4, rs.length, cellsRaw rs⟩, ⟨.slice (some ⟨gY, 0, none⟩) l.length l.length, 89, 2, l.length, cellsF l⟩, ⟨.slice (some ⟨g7, 0, none⟩) l.length l.length, 89, 2, l.length, cellsF l⟩, ⟨.slice xa s.man.segs.length xb, 3, 1, s.man.segs.length, cellsI (marksI 1 s.man.segs.length)⟩, ⟨.slice xc s.man.conf.length xd, 3, 1, s.man.conf.length, cellsI (marksI (1 + s.man.segs.length) s.man.conf.length)⟩, ⟨.slice xe s.dir.length xf, 135, 4, s.dir.length, cellsSpot (marksSpot (1 + s.man.segs.length + s.man.conf.length) s.dir.length)⟩, ⟨.slice xg rs.length xh, 86, 4, rs.length, cellsRaw (marksRaw K rs.length)⟩, ⟨.slice (some ⟨gX, 0, none⟩) l.length l.length, 89, 2, l.length, cellsF (marksF 1 l.length)⟩] w19) := L22.out.step hb
    clear L22
    clear hb
    rw [← HK.out]
    go_wp2_with fail
    refine Calls.mono (heldRawS_own (n := rs.length) (by omega) K hK0 (by omega) _ (L23.out.row 9 rfl)) ?_
    rintro en w20 ⟨rfl, hb⟩
    have L24 : Hid (LawS WB [(by0g16, Obj.cells #[.slice ya s.man.segs.length yb, .int .i64 s.man.next, .int .i64 s.man.base, .int .i64 s.man.term, .slice yc s.man.conf.length yd, .slice ye s.dir.length yf, .int .i64 s.stamp] 31), (bx0g4, Obj.cells #[.slice xa s.man.segs.length xb, .int .i64 s.man.next, .int .i64 s.man.base, .int .i64 s.man.term, .slice xc s.man.conf.length xd, .slice xe s.dir.length xf, .int .i64 s.stamp] 31), (bx02, Obj.cells #[.slice (some ⟨gX, 0, none⟩) l.length l.length] 37)] [⟨.slice ya s.man.segs.length yb, 3, 1, s.man.segs.length, cellsI s.man.segs⟩, ⟨.slice yc s.man.conf.length yd, 3, 1, s.man.conf.length, cellsI s.man.conf⟩, ⟨.slice ye s.dir.length yf, 135, 4, s.dir.length, cellsSpot s.dir⟩, ⟨.slice yg rs.length yh, 86, 4, rs.length, cellsRaw rs⟩, ⟨.slice (some ⟨gY, 0, none⟩) l.length l.length, 89, 2, l.length, cellsF l⟩, ⟨.slice (some ⟨g7, 0, none⟩) l.length l.length, 89, 2, l.length, cellsF l⟩, ⟨.slice xa s.man.segs.length xb, 3, 1, s.man.segs.length, cellsI (marksI 1 s.man.segs.length)⟩, ⟨.slice xc s.man.conf.length xd, 3, 1, s.man.conf.length, cellsI (marksI (1 + s.man.segs.length) s.man.conf.length)⟩, ⟨.slice xe s.dir.length xf, 135, 4, s.dir.length, cellsSpot (marksSpot (1 + s.man.segs.length + s.man.conf.length) s.dir.length)⟩, ⟨.slice xg rs.length xh, 86, 4, rs.length, cellsRaw (marksRaw K rs.length)⟩, ⟨.slice (some ⟨gX, 0, none⟩) l.length l.length, 89, 2, l.length, cellsF (marksF 1 l.length)⟩] w20) := L23.out.step hb
    clear L23
    clear hb
    rw [← HM.out]
    go_wp2
    go_ret
    exact ⟨rfl, HBB.out.trans (L24.out.below.mono HBB.out.size)⟩
  · subst hx2
    go_wp2
    go_ret
    exact ⟨rfl, hB1⟩
end Go.Proofs.YtjpokcjpogkafaaGreatDoor
