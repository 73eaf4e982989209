/- The exact law of SnapText, walked. Made by program. -/
import Derived.Test.YtbcfiiilikkkeaaGreatDoorImplFirst
import Derived.Test.YtbcfiiilikkkeaaGreatDoorImplSnap
namespace Go.Proofs.YtbcfiiilikkkeaaGreatDoor
open Go.RowKit
set_option linter.unusedVariables false
set_option linter.unusedSimpArgs false

set_option maxHeartbeats 16000000 in
set_option maxRecDepth 100000 in
theorem lawSnap_any {a sa ca da : Option Addr} {g off cap sg so sc cg co cc dg dof dc : Nat} (l : List FileL) (hlen : l.length ≤ maxLen) (hsz : ∀ f ∈ l, f.1.size ≤ maxLen ∧ f.2.size ≤ maxLen) (s : ShelfL) (h1 : s.man.segs.length ≤ maxLen) (h2 : s.man.conf.length ≤ maxLen) (h3 : s.dir.length ≤ maxLen) (h4 : ∀ r ∈ s.dir, smallSpot maxLen r) (w : World) (hf : FilesAt w a g off l) (hA : IntAt w sa sg so s.man.segs) (hB : IntAt w ca cg co s.man.conf) (hD : SpotAt w da dg dof s.dir) (hp : Pow w) :
    Calls Tryz.prog 8 #[.agg #[.slice a l.length cap], .agg #[.slice sa s.man.segs.length sc, .int .i64 s.man.next, .int .i64 s.man.base, .int .i64 s.man.term, .slice ca s.man.conf.length cc, .slice da s.dir.length dc, .int .i64 s.stamp]] w fun e w' => e = .returned (.bool true) ∧ Below w.heap.size w w' := by
  obtain ⟨W, hW⟩ : ∃ W, W = (w.alloc (Obj.cells #[.slice a l.length cap] 24)).alloc (Obj.cells #[.slice sa s.man.segs.length sc, .int .i64 s.man.next, .int .i64 s.man.base, .int .i64 s.man.term, .slice ca s.man.conf.length cc, .slice da s.dir.length dc, .int .i64 s.stamp] 30) := ⟨_, rfl⟩
  have hb : Below w.heap.size w W := by rw [hW]; exact ((Below.refl _ _).alloc (Nat.le_refl _) _).alloc (by simp) _
  have p0 : W.heap[w.heap.size]? = some (.cells #[.slice a l.length cap] 24 (0, 0)) := by rw [hW, Below.heap_alloc _ _ _ (by simp)]; exact heap_alloc_new w _
  have p1 : W.heap[w.heap.size + 1]? = some (.cells #[.slice sa s.man.segs.length sc, .int .i64 s.man.next, .int .i64 s.man.base, .int .i64 s.man.term, .slice ca s.man.conf.length cc, .slice da s.dir.length dc, .int .i64 s.stamp] 30 (0, 0)) := by
    rw [hW]; have := heap_alloc_new (w.alloc (Obj.cells #[.slice a l.length cap] 24)) (Obj.cells #[.slice sa s.man.segs.length sc, .int .i64 s.man.next, .int .i64 s.man.base, .int .i64 s.man.term, .slice ca s.man.conf.length cc, .slice da s.dir.length dc, .int .i64 s.stamp] 30); simpa using this
  have K : ∀ (q : Nat) (ob : Obj), W.heap[q]? = some ob → ∀ W', Below W.heap.size W W' → W'.heap[q]? = some ob := fun q ob h W' hh => (hh.block _ (Array.getElem?_eq_some_iff.1 h).1).trans h
  have HKW : Hid (∀ W', Below W.heap.size W W' → W'.cell? ⟨w.heap.size, 0, none⟩ = some (.slice a l.length cap) ∧ W'.cell? ⟨w.heap.size + 1, 0, none⟩ = some (.slice sa s.man.segs.length sc) ∧ W'.cell? ⟨w.heap.size + 1, 1, none⟩ = some (.int .i64 s.man.next) ∧ W'.cell? ⟨w.heap.size + 1, 2, none⟩ = some (.int .i64 s.man.base) ∧ W'.cell? ⟨w.heap.size + 1, 3, none⟩ = some (.int .i64 s.man.term) ∧ W'.cell? ⟨w.heap.size + 1, 4, none⟩ = some (.slice ca s.man.conf.length cc) ∧ W'.cell? ⟨w.heap.size + 1, 5, none⟩ = some (.slice da s.dir.length dc) ∧ W'.cell? ⟨w.heap.size + 1, 6, none⟩ = some (.int .i64 s.stamp)) := fun W' h => by
    have q0 := K _ _ p0 W' h
    obtain ⟨⟨c0, c1, c2, c3, c4, c5, c6⟩, _⟩ := seven_cells' (K _ _ p1 W' h)
    exact ⟨cell_of_row _ _ 0 _ _ _ q0, c0, c1, c2, c3, c4, c5, c6⟩
  have HBW0 : Hid (Below w.heap.size w W) := hb
  have HFW : Hid (∀ W', Below W.heap.size W W' → FilesAt W' a g off l) := fun W' h => (hf.kept hb).kept h
  have HSW : Hid (∀ W', Below W.heap.size W W' → IntAt W' sa sg so s.man.segs ∧ IntAt W' ca cg co s.man.conf ∧ SpotAt W' da dg dof s.dir) := fun W' h => ⟨(hA.kept hb).kept h, (hB.kept hb).kept h, (hD.kept hb).kept h⟩
  have HPW : Hid (∀ W', Below W.heap.size W W' → Pow W') := fun W' h => (hp.below hb).below h
  have G1 : Hid (Calls Tryz.prog 11 #[.agg #[.slice a l.length cap], .int .i64 ((1048576 : Nat) : Int)] W fun e w' => ∃ x : Int, e = .returned (.int .i64 x) ∧ Left 1048576 (tot l) x ∧ Below W.heap.size W w') := szDisk_any l hlen hsz 1048576 (Nat.le_refl _) W (hf.kept hb)
  have G2 : Hid (∀ (Y : Nat) W', Y ≤ 1048576 → Below W.heap.size W W' → Calls Tryz.prog 12 #[.agg #[.slice sa s.man.segs.length sc, .int .i64 s.man.next, .int .i64 s.man.base, .int .i64 s.man.term, .slice ca s.man.conf.length cc, .slice da s.dir.length dc, .int .i64 s.stamp], .int .i64 (Y : Int)] W' fun e w' => ∃ x : Int, e = .returned (.int .i64 x) ∧ Left Y (s.man.segs.length + s.man.conf.length + totSpot s.dir) x ∧ Below W'.heap.size W' w') := fun Y W' hY h => szShelf_any s h1 h2 h3 h4 Y hY W' ((hD.kept hb).kept h)
  have c0 := cell_of_row _ _ 0 _ _ _ p0
  rw [hW] at c0
  clear hf hA hB hD hp hb p0 p1 K hlen hsz h1 h2 h3 h4
  go_enter Tryz.func8, Tryz.ntmps8
  go_wp2_with fail
  rw [← hW]
  clear hW c0
  refine Calls.mono G1.out ?_
  rintro e w1 ⟨x, rfl, hx, hb1⟩
  have HB1 : Hid (Below W.heap.size W w1) := hb1
  have HBN : Hid (Below w.heap.size w w1) := HBW0.out.trans (hb1.mono HBW0.out.size)
  clear hb1 G1
  rcases hx with ⟨hx1, hx2⟩ | ⟨hx1, hx2⟩
  · obtain ⟨Y, hY⟩ : ∃ Y : Nat, Y = 1048576 - tot l := ⟨_, rfl⟩
    rw [← hY] at hx2
    subst hx2
    have hYl : Y ≤ 1048576 := by omega
    have hY0 : ¬ (Y : Int) < 0 := by omega
    obtain ⟨hl, hs⟩ := sizes_of_tot hx1
    have HSS : Hid (∀ f ∈ l, f.1.size ≤ 1048576 ∧ f.2.size ≤ 1048576) := hs
    clear hs hx1 hY
    obtain ⟨bx0, bx1, bx2, bx3, bx4, bx5, bx6, bx7⟩ := HKW.out _ HB1.out
    go_wp2_with fail
    clear bx0 bx1 bx2 bx3 bx4 bx5 bx6 bx7
    refine Calls.mono (G2.out Y _ hYl HB1.out) ?_
    rintro e w3 ⟨x, rfl, hx, hb2⟩
    have HB3 : Hid (Below W.heap.size W w3) := HB1.out.trans (hb2.mono HB1.out.size)
    have HBN2 : Hid (Below w.heap.size w w3) := HBW0.out.trans (HB3.out.mono HBW0.out.size)
    clear hb2 G2
    rcases hx with ⟨hx1, hx2⟩ | ⟨hx1, hx2⟩
    · obtain ⟨X, hX⟩ : ∃ X : Nat, X = Y - (s.man.segs.length + s.man.conf.length + totSpot s.dir) := ⟨_, rfl⟩
      rw [← hX] at hx2
      subst hx2
      have hX0 : ¬ (X : Int) < 0 := by omega
      have k1 : s.man.segs.length ≤ 1048576 := by omega
      have k2 : s.man.conf.length ≤ 1048576 := by omega
      have k3 : s.dir.length ≤ 1048576 := by have := totSpot_len s.dir; omega
      clear hx1 hX
      obtain ⟨O, hO⟩ := Shelves.snap_ex l s
      obtain ⟨S, R, hSR⟩ := firstTuple_is O
      have HAI : Hid (Shelves.SnapIs l s O) := hO
      have HSR : Hid (firstTuple O = .tuple #[.string S, .bool R]) := hSR
      clear hO hSR
      have H48 : Hid (∀ (W' : World) (gD g1 g2 g3 : Nat), Below w3.heap.size w3 W' → W'.ownsRow w3.heap.size 164 2 (.slice (some ⟨gD, 0, none⟩) l.length l.length) l.length (cellsF l) → ShOwn w3.heap.size s (.slice (some ⟨g1, 0, none⟩) s.man.segs.length s.man.segs.length) (.slice (some ⟨g2, 0, none⟩) s.man.conf.length s.man.conf.length) (.slice (some ⟨g3, 0, none⟩) s.dir.length s.dir.length) W' → Calls Tryz.prog 48 #[.agg #[.slice (some ⟨gD, 0, none⟩) l.length l.length], .agg #[.slice (some ⟨g1, 0, none⟩) s.man.segs.length s.man.segs.length, .int .i64 s.man.next, .int .i64 s.man.base, .int .i64 s.man.term, .slice (some ⟨g2, 0, none⟩) s.man.conf.length s.man.conf.length, .slice (some ⟨g3, 0, none⟩) s.dir.length s.dir.length, .int .i64 s.stamp]] W' fun e w' => e = .returned (.tuple #[.string S, .bool R]) ∧ Below W'.heap.size W' w') := fun W' gD g1 g2 g3 _ h1 h2 => by
        rw [← HSR.out]; exact snap9_any l hl HSS.out s k1 k2 k3 O HAI.out W' (own_files rfl h1) h2
      have HKQ : Hid (∀ W', Below w3.heap.size w3 W' → W'.cell? ⟨w.heap.size, 0, none⟩ = some (.slice a l.length cap) ∧ W'.cell? ⟨w.heap.size + 1, 0, none⟩ = some (.slice sa s.man.segs.length sc) ∧ W'.cell? ⟨w.heap.size + 1, 1, none⟩ = some (.int .i64 s.man.next) ∧ W'.cell? ⟨w.heap.size + 1, 2, none⟩ = some (.int .i64 s.man.base) ∧ W'.cell? ⟨w.heap.size + 1, 3, none⟩ = some (.int .i64 s.man.term) ∧ W'.cell? ⟨w.heap.size + 1, 4, none⟩ = some (.slice ca s.man.conf.length cc) ∧ W'.cell? ⟨w.heap.size + 1, 5, none⟩ = some (.slice da s.dir.length dc) ∧ W'.cell? ⟨w.heap.size + 1, 6, none⟩ = some (.int .i64 s.stamp)) := fun W' h => HKW.out _ (HB3.out.trans (h.mono HB3.out.size))
      have HFQ : Hid (∀ W', Below w3.heap.size w3 W' → FilesAt W' a g off l) := fun W' h => HFW.out _ (HB3.out.trans (h.mono HB3.out.size))
      have HSQ : Hid (∀ W', Below w3.heap.size w3 W' → IntAt W' sa sg so s.man.segs ∧ IntAt W' ca cg co s.man.conf ∧ SpotAt W' da dg dof s.dir) := fun W' h => HSW.out _ (HB3.out.trans (h.mono HB3.out.size))
      have H15 : Hid (∀ W', Below w3.heap.size w3 W' → Calls Tryz.prog 15 #[.agg #[.slice a l.length cap]] W' fun e w' => ∃ g' : Nat, e = .returned (.agg #[.slice (some ⟨g', 0, none⟩) l.length l.length]) ∧ w'.ownsRow W'.heap.size 164 2 (.slice (some ⟨g', 0, none⟩) l.length l.length) l.length (cellsF l) ∧ Below W'.heap.size W' w') := fun W' h => (toDisk_any l hl W' (HFQ.out _ h)).mono fun e w' ⟨g', h1, _, h2, h3⟩ => ⟨g', h1, h2, h3⟩
      have H16 : Hid (∀ W', Below w3.heap.size w3 W' → Calls Tryz.prog 16 #[.agg #[.slice sa s.man.segs.length sc, .int .i64 s.man.next, .int .i64 s.man.base, .int .i64 s.man.term, .slice ca s.man.conf.length cc, .slice da s.dir.length dc, .int .i64 s.stamp]] W' fun e w' => ∃ g1 g2 g3 : Nat, e = .returned (.agg #[.slice (some ⟨g1, 0, none⟩) s.man.segs.length s.man.segs.length, .int .i64 s.man.next, .int .i64 s.man.base, .int .i64 s.man.term, .slice (some ⟨g2, 0, none⟩) s.man.conf.length s.man.conf.length, .slice (some ⟨g3, 0, none⟩) s.dir.length s.dir.length, .int .i64 s.stamp]) ∧ ShOwn W'.heap.size s (.slice (some ⟨g1, 0, none⟩) s.man.segs.length s.man.segs.length) (.slice (some ⟨g2, 0, none⟩) s.man.conf.length s.man.conf.length) (.slice (some ⟨g3, 0, none⟩) s.dir.length s.dir.length) w' ∧ Apart (.slice (some ⟨g1, 0, none⟩) s.man.segs.length s.man.segs.length) (.slice (some ⟨g2, 0, none⟩) s.man.conf.length s.man.conf.length) ∧ Below W'.heap.size W' w') := fun W' h => toShelf_any s k1 k2 k3 W' (HSQ.out _ h).1 (HSQ.out _ h).2.1 (HSQ.out _ h).2.2
      have M0 : Hid (LawS w3 [] [] w3) := LawS.start w3
      obtain ⟨bx0, bx1, bx2, bx3, bx4, bx5, bx6, bx7⟩ := HKW.out _ HB3.out
      go_upto_region 8 with fail
      go_cut [6, 7] (fun s6 s7 wx => s6 = .string S ∧ s7 = .bool R ∧ Below w3.heap.size w3 wx)
      case first =>
        clear HFQ HSQ HKW HFW HSW HPW HBW0 HBN HBN2 HB1 HB3 HSS HAI HSR hl k1 k2 k3 hYl hY0 hX0 bx0 bx1 bx2 bx3 bx4 bx5 bx6 bx7
        go_region_held3 (fun w' => w'.cell? ⟨w.heap.size, 0, none⟩ = some (.slice a l.length cap) ∧ w'.cell? ⟨w.heap.size + 1, 0, none⟩ = some (.slice sa s.man.segs.length sc) ∧ w'.cell? ⟨w.heap.size + 1, 1, none⟩ = some (.int .i64 s.man.next) ∧ w'.cell? ⟨w.heap.size + 1, 2, none⟩ = some (.int .i64 s.man.base) ∧ w'.cell? ⟨w.heap.size + 1, 3, none⟩ = some (.int .i64 s.man.term) ∧ w'.cell? ⟨w.heap.size + 1, 4, none⟩ = some (.slice ca s.man.conf.length cc) ∧ w'.cell? ⟨w.heap.size + 1, 5, none⟩ = some (.slice da s.dir.length dc) ∧ w'.cell? ⟨w.heap.size + 1, 6, none⟩ = some (.int .i64 s.stamp))
          (first | (with_reducible exact HKQ.out _ LP.below) | (with_reducible exact HKQ.out _ LS.below) | (with_reducible exact HKQ.out _ LD.below) | (with_reducible exact HKQ.out _ M0.out.drew.below))
          (first | (go_at_call 15; with_reducible refine Calls.mono (H15.out _ M0.out.drew.below) ?_; rintro e wD ⟨gD, rfl, hownD, hbD⟩; have LD := M0.out.drew.call hbD hownD) | (go_at_call 16; with_reducible refine Calls.mono (H16.out _ LD.below) ?_; rintro e wS ⟨g1, g2, g3, rfl, hshS, hapS, hbS⟩; have LS := LD.shelf3 hbS hshS hapS; have rD := LS.row 3 rfl; have rS1 := LS.row 0 rfl; have rS2 := LS.row 1 rfl; have rS3 := LS.row 2 rfl) | (go_at_call 48; with_reducible refine Calls.mono (H48.out _ gD g1 g2 g3 LS.below rD ⟨rS1, rS2, rS3⟩) ?_; rintro e wP ⟨rfl, hbP⟩; have LP := LS.step hbP))
        all_goals
          have hF := LP.below
          clear H15 H16 H48 HKQ M0
          go_wp2_with fail
          go_meet
          case rel => exact ⟨rfl, rfl, hF⟩
      case rest =>
      obtain ⟨rfl, rfl, hbB⟩ := hcut
      obtain ⟨WB, hWB⟩ : ∃ WB, WB = wc := ⟨_, rfl⟩
      rw [← hWB] at hbB ⊢
      clear hWB
      have HB4 : Hid (Below W.heap.size W WB) := HB3.out.trans (hbB.mono HB3.out.size)
      have HBW : Hid (Below w.heap.size w WB) := HBW0.out.trans (HB4.out.mono HBW0.out.size)
      have HKB : Hid (∀ W', Below WB.heap.size WB W' → W'.cell? ⟨w.heap.size, 0, none⟩ = some (.slice a l.length cap) ∧ W'.cell? ⟨w.heap.size + 1, 0, none⟩ = some (.slice sa s.man.segs.length sc) ∧ W'.cell? ⟨w.heap.size + 1, 1, none⟩ = some (.int .i64 s.man.next) ∧ W'.cell? ⟨w.heap.size + 1, 2, none⟩ = some (.int .i64 s.man.base) ∧ W'.cell? ⟨w.heap.size + 1, 3, none⟩ = some (.int .i64 s.man.term) ∧ W'.cell? ⟨w.heap.size + 1, 4, none⟩ = some (.slice ca s.man.conf.length cc) ∧ W'.cell? ⟨w.heap.size + 1, 5, none⟩ = some (.slice da s.dir.length dc) ∧ W'.cell? ⟨w.heap.size + 1, 6, none⟩ = some (.int .i64 s.stamp)) := fun W' h => HKW.out _ (HB4.out.trans (h.mono HB4.out.size))
      have HBD : Hid (∀ W', Below WB.heap.size WB W' → W'.cell? ⟨w.heap.size, 0, none⟩ = some (.slice a l.length cap)) := fun W' h => (HKB.out _ h).1
      have HBS : Hid (∀ W', Below WB.heap.size WB W' → W'.cell? ⟨w.heap.size + 1, 0, none⟩ = some (.slice sa s.man.segs.length sc) ∧ W'.cell? ⟨w.heap.size + 1, 1, none⟩ = some (.int .i64 s.man.next) ∧ W'.cell? ⟨w.heap.size + 1, 2, none⟩ = some (.int .i64 s.man.base) ∧ W'.cell? ⟨w.heap.size + 1, 3, none⟩ = some (.int .i64 s.man.term) ∧ W'.cell? ⟨w.heap.size + 1, 4, none⟩ = some (.slice ca s.man.conf.length cc) ∧ W'.cell? ⟨w.heap.size + 1, 5, none⟩ = some (.slice da s.dir.length dc) ∧ W'.cell? ⟨w.heap.size + 1, 6, none⟩ = some (.int .i64 s.stamp)) := fun W' h => (HKB.out _ h).2
      have HFB : Hid (∀ W', Below WB.heap.size WB W' → FilesAt W' a g off l) := fun W' h => HFW.out _ (HB4.out.trans (h.mono HB4.out.size))
      have HSB : Hid (∀ W', Below WB.heap.size WB W' → IntAt W' sa sg so s.man.segs ∧ IntAt W' ca cg co s.man.conf ∧ SpotAt W' da dg dof s.dir) := fun W' h => HSW.out _ (HB4.out.trans (h.mono HB4.out.size))
      have H49 : Hid (∀ (W' : World) (gD g1 g2 g3 : Nat), Below WB.heap.size WB W' → W'.ownsRow WB.heap.size 164 2 (.slice (some ⟨gD, 0, none⟩) l.length l.length) l.length (cellsF l) → ShOwn WB.heap.size s (.slice (some ⟨g1, 0, none⟩) s.man.segs.length s.man.segs.length) (.slice (some ⟨g2, 0, none⟩) s.man.conf.length s.man.conf.length) (.slice (some ⟨g3, 0, none⟩) s.dir.length s.dir.length) W' → Calls Tryz.prog 49 #[.agg #[.slice (some ⟨gD, 0, none⟩) l.length l.length], .agg #[.slice (some ⟨g1, 0, none⟩) s.man.segs.length s.man.segs.length, .int .i64 s.man.next, .int .i64 s.man.base, .int .i64 s.man.term, .slice (some ⟨g2, 0, none⟩) s.man.conf.length s.man.conf.length, .slice (some ⟨g3, 0, none⟩) s.dir.length s.dir.length, .int .i64 s.stamp]] W' fun e w' => e = .returned (.tuple #[.string S, .bool R]) ∧ Below W'.heap.size W' w') := fun W' gD g1 g2 g3 h h1 h2 => by
        rw [← HSR.out]; exact implSnap_any l hl HSS.out s k1 k2 k3 O HAI.out W' (HPW.out _ (HB4.out.trans (h.mono HB4.out.size))) (own_files rfl h1) h2
      clear hbB HKQ HFQ HSQ M0 H48 H15 H16 bx0 bx1 bx2 bx3 bx4 bx5 bx6 bx7 HKW HFW HSW HPW HB1 HB3 HB4
      have L1 : Hid (LawS WB [] [] WB) := LawS.start WB
      have dbxD0 := HBD.out _ L1.out.below
      go_wp2_with fail
      clear dbxD0
      refine Calls.mono (toDisk_any l hl _ (HFB.out _ L1.out.below)) ?_
      rintro en w1 ⟨gX, rfl, _, hown, hb⟩
      have L2 : Hid (LawS WB [] [⟨.slice (some ⟨gX, 0, none⟩) l.length l.length, 164, 2, l.length, cellsF l⟩] w1) := L1.out.call hb hown
      clear L1
      clear hb hown
      obtain ⟨W2, hW2⟩ : ∃ W2, W2 = w1.alloc (Obj.cells #[.slice (some ⟨gX, 0, none⟩) l.length l.length] 46) := ⟨_, rfl⟩
      obtain ⟨bx02, hbx02⟩ : ∃ bx02, bx02 = w1.heap.size := ⟨_, rfl⟩
      have L3 : Hid (LawS WB [(bx02, Obj.cells #[.slice (some ⟨gX, 0, none⟩) l.length l.length] 46)] [⟨.slice (some ⟨gX, 0, none⟩) l.length l.length, 164, 2, l.length, cellsF l⟩] W2) := by rw [hW2, hbx02]; exact L2.out.alloc _
      obtain ⟨dbxS0, dbxS1, dbxS2, dbxS3, dbxS4, dbxS5, dbxS6⟩ := HBS.out _ L3.out.below
      rw [hW2] at dbxS0 dbxS1 dbxS2 dbxS3 dbxS4 dbxS5 dbxS6
      go_wp2_with fail
      rw [← hW2]
      try rw [← hbx02]
      clear hW2 hbx02 L2 dbxS0 dbxS1 dbxS2 dbxS3 dbxS4 dbxS5 dbxS6
      refine Calls.mono (toShelf_any s k1 k2 k3 _ (HSB.out _ L3.out.below).1 (HSB.out _ L3.out.below).2.1 (HSB.out _ L3.out.below).2.2) ?_
      rintro en w3 ⟨p1, p2, p3, rfl, hsh, hap, hb⟩
      have L4 : Hid (LawS WB [(bx02, Obj.cells #[.slice (some ⟨gX, 0, none⟩) l.length l.length] 46)] [⟨.slice (some ⟨p1, 0, none⟩) s.man.segs.length s.man.segs.length, 3, 1, s.man.segs.length, cellsI s.man.segs⟩, ⟨.slice (some ⟨p2, 0, none⟩) s.man.conf.length s.man.conf.length, 3, 1, s.man.conf.length, cellsI s.man.conf⟩, ⟨.slice (some ⟨p3, 0, none⟩) s.dir.length s.dir.length, 134, 4, s.dir.length, cellsSpot s.dir⟩, ⟨.slice (some ⟨gX, 0, none⟩) l.length l.length, 164, 2, l.length, cellsF l⟩] w3) := L3.out.shelf3 hb hsh hap
      clear L3
      clear hb hsh hap
      obtain ⟨W4, hW4⟩ : ∃ W4, W4 = w3.alloc (Obj.cells #[.slice (some ⟨p1, 0, none⟩) s.man.segs.length s.man.segs.length, .int .i64 s.man.next, .int .i64 s.man.base, .int .i64 s.man.term, .slice (some ⟨p2, 0, none⟩) s.man.conf.length s.man.conf.length, .slice (some ⟨p3, 0, none⟩) s.dir.length s.dir.length, .int .i64 s.stamp] 40) := ⟨_, rfl⟩
      obtain ⟨bx14, hbx14⟩ : ∃ bx14, bx14 = w3.heap.size := ⟨_, rfl⟩
      have L5 : Hid (LawS WB [(bx14, Obj.cells #[.slice (some ⟨p1, 0, none⟩) s.man.segs.length s.man.segs.length, .int .i64 s.man.next, .int .i64 s.man.base, .int .i64 s.man.term, .slice (some ⟨p2, 0, none⟩) s.man.conf.length s.man.conf.length, .slice (some ⟨p3, 0, none⟩) s.dir.length s.dir.length, .int .i64 s.stamp] 40), (bx02, Obj.cells #[.slice (some ⟨gX, 0, none⟩) l.length l.length] 46)] [⟨.slice (some ⟨p1, 0, none⟩) s.man.segs.length s.man.segs.length, 3, 1, s.man.segs.length, cellsI s.man.segs⟩, ⟨.slice (some ⟨p2, 0, none⟩) s.man.conf.length s.man.conf.length, 3, 1, s.man.conf.length, cellsI s.man.conf⟩, ⟨.slice (some ⟨p3, 0, none⟩) s.dir.length s.dir.length, 134, 4, s.dir.length, cellsSpot s.dir⟩, ⟨.slice (some ⟨gX, 0, none⟩) l.length l.length, 164, 2, l.length, cellsF l⟩] W4) := by rw [hW4, hbx14]; exact L4.out.alloc _
      have d1_0 : (W4).cell? ⟨bx02, 0, none⟩ = some (.slice (some ⟨gX, 0, none⟩) l.length l.length) := cell_of_row _ _ 0 _ _ _ (L5.out.has _ (List.Mem.tail _ (List.Mem.head _)))
      have d0_0 : (W4).cell? ⟨bx14, 0, none⟩ = some (.slice (some ⟨p1, 0, none⟩) s.man.segs.length s.man.segs.length) := cell_of_row _ _ 0 _ _ _ (L5.out.has _ (List.Mem.head _))
      have d0_1 : (W4).cell? ⟨bx14, 1, none⟩ = some (.int .i64 s.man.next) := cell_of_row _ _ 1 _ _ _ (L5.out.has _ (List.Mem.head _))
      have d0_2 : (W4).cell? ⟨bx14, 2, none⟩ = some (.int .i64 s.man.base) := cell_of_row _ _ 2 _ _ _ (L5.out.has _ (List.Mem.head _))
      have d0_3 : (W4).cell? ⟨bx14, 3, none⟩ = some (.int .i64 s.man.term) := cell_of_row _ _ 3 _ _ _ (L5.out.has _ (List.Mem.head _))
      have d0_4 : (W4).cell? ⟨bx14, 4, none⟩ = some (.slice (some ⟨p2, 0, none⟩) s.man.conf.length s.man.conf.length) := cell_of_row _ _ 4 _ _ _ (L5.out.has _ (List.Mem.head _))
      have d0_5 : (W4).cell? ⟨bx14, 5, none⟩ = some (.slice (some ⟨p3, 0, none⟩) s.dir.length s.dir.length) := cell_of_row _ _ 5 _ _ _ (L5.out.has _ (List.Mem.head _))
      have d0_6 : (W4).cell? ⟨bx14, 6, none⟩ = some (.int .i64 s.stamp) := cell_of_row _ _ 6 _ _ _ (L5.out.has _ (List.Mem.head _))
      rw [hW4] at d1_0 d0_0 d0_1 d0_2 d0_3 d0_4 d0_5 d0_6
      rw [hbx14] at d0_0 d0_1 d0_2 d0_3 d0_4 d0_5 d0_6
      go_wp2_with fail
      rw [← hW4, ← hbx14]
      clear hW4 hbx14 L4 d1_0 d0_0 d0_1 d0_2 d0_3 d0_4 d0_5 d0_6
      refine Calls.mono (H49.out _ gX p1 p2 p3 L5.out.below (L5.out.row 3 rfl) ⟨(L5.out.row 0 rfl), (L5.out.row 1 rfl), (L5.out.row 2 rfl)⟩) ?_
      rintro en w5 ⟨rfl, hb⟩
      have L6 : Hid (LawS WB [(bx14, Obj.cells #[.slice (some ⟨p1, 0, none⟩) s.man.segs.length s.man.segs.length, .int .i64 s.man.next, .int .i64 s.man.base, .int .i64 s.man.term, .slice (some ⟨p2, 0, none⟩) s.man.conf.length s.man.conf.length, .slice (some ⟨p3, 0, none⟩) s.dir.length s.dir.length, .int .i64 s.stamp] 40), (bx02, Obj.cells #[.slice (some ⟨gX, 0, none⟩) l.length l.length] 46)] [⟨.slice (some ⟨p1, 0, none⟩) s.man.segs.length s.man.segs.length, 3, 1, s.man.segs.length, cellsI s.man.segs⟩, ⟨.slice (some ⟨p2, 0, none⟩) s.man.conf.length s.man.conf.length, 3, 1, s.man.conf.length, cellsI s.man.conf⟩, ⟨.slice (some ⟨p3, 0, none⟩) s.dir.length s.dir.length, 134, 4, s.dir.length, cellsSpot s.dir⟩, ⟨.slice (some ⟨gX, 0, none⟩) l.length l.length, 164, 2, l.length, cellsF l⟩] w5) := L5.out.step hb
      clear L5
      clear hb
      have hX := own_files rfl (L6.out.row 3 rfl)
      have d1_0 : (w5).cell? ⟨bx02, 0, none⟩ = some (.slice (some ⟨gX, 0, none⟩) l.length l.length) := cell_of_row _ _ 0 _ _ _ (L6.out.has _ (List.Mem.tail _ (List.Mem.head _)))
      have dbxD0 := HBD.out _ L6.out.below
      go_wp2
      have hzx : bx02 < w5.heap.size := World.block_lt_of_cell? _ _ d1_0
      have hzd : w.heap.size < w5.heap.size := World.block_lt_of_cell? _ _ dbxD0
      go_region_held3 (fun w' => w'.cell? ⟨bx02, 0, none⟩ = some (.slice (some ⟨gX, 0, none⟩) l.length l.length) ∧ w'.cell? ⟨w.heap.size, 0, none⟩ = some (.slice a l.length cap)) (first | exact ⟨d1_0, dbxD0⟩ | exact ⟨(hb7.cell (p := ⟨bx02, 0, none⟩) hzx).trans d1_0, (hb7.cell (p := ⟨w.heap.size, 0, none⟩) hzd).trans dbxD0⟩ | exact ⟨(hb8.cell (p := ⟨bx02, 0, none⟩) (Nat.lt_of_lt_of_le hzx hb7.size)).trans ((hb7.cell (p := ⟨bx02, 0, none⟩) hzx).trans d1_0), (hb8.cell (p := ⟨w.heap.size, 0, none⟩) (Nat.lt_of_lt_of_le hzd hb7.size)).trans ((hb7.cell (p := ⟨w.heap.size, 0, none⟩) hzd).trans dbxD0)⟩) (first | (go_at_call 15; refine (toDisk_any l hl _ (HFB.out _ L6.out.below.drew)).mono ?_; rintro e w7 ⟨g7, rfl, hg7, hown7, hb7⟩) | (go_at_call 21; refine (eqDisk_same l hl _ (FilesAt.kept (w := w5.drew) hX hb7) (own_files rfl hown7)).mono ?_; rintro e w8 ⟨rfl, hb8⟩))
      clear d1_0 dbxD0
      have L7 : Hid (LawS WB [(bx14, Obj.cells #[.slice (some ⟨p1, 0, none⟩) s.man.segs.length s.man.segs.length, .int .i64 s.man.next, .int .i64 s.man.base, .int .i64 s.man.term, .slice (some ⟨p2, 0, none⟩) s.man.conf.length s.man.conf.length, .slice (some ⟨p3, 0, none⟩) s.dir.length s.dir.length, .int .i64 s.stamp] 40), (bx02, Obj.cells #[.slice (some ⟨gX, 0, none⟩) l.length l.length] 46)] [⟨.slice (some ⟨g7, 0, none⟩) l.length l.length, 164, 2, l.length, cellsF l⟩, ⟨.slice (some ⟨p1, 0, none⟩) s.man.segs.length s.man.segs.length, 3, 1, s.man.segs.length, cellsI s.man.segs⟩, ⟨.slice (some ⟨p2, 0, none⟩) s.man.conf.length s.man.conf.length, 3, 1, s.man.conf.length, cellsI s.man.conf⟩, ⟨.slice (some ⟨p3, 0, none⟩) s.dir.length s.dir.length, 134, 4, s.dir.length, cellsSpot s.dir⟩, ⟨.slice (some ⟨gX, 0, none⟩) l.length l.length, 164, 2, l.length, cellsF l⟩] w8) := (L6.out.drew.call hb7 hown7).step hb8
      clear L6
      clear hb7 hb8 hzx hzd hown7 hg7 hX
      go_wp2_with fail
      have hX : ShOwn WB.heap.size s (.slice (some ⟨p1, 0, none⟩) s.man.segs.length s.man.segs.length) (.slice (some ⟨p2, 0, none⟩) s.man.conf.length s.man.conf.length) (.slice (some ⟨p3, 0, none⟩) s.dir.length s.dir.length) w8.drew := ShOwn.kept (⟨(L7.out.row 1 rfl), (L7.out.row 2 rfl), (L7.out.row 3 rfl)⟩) (Below.refl _ _).drew
      have d0_0 : (w8).cell? ⟨bx14, 0, none⟩ = some (.slice (some ⟨p1, 0, none⟩) s.man.segs.length s.man.segs.length) := cell_of_row _ _ 0 _ _ _ (L7.out.has _ (List.Mem.head _))
      have d0_1 : (w8).cell? ⟨bx14, 1, none⟩ = some (.int .i64 s.man.next) := cell_of_row _ _ 1 _ _ _ (L7.out.has _ (List.Mem.head _))
      have d0_2 : (w8).cell? ⟨bx14, 2, none⟩ = some (.int .i64 s.man.base) := cell_of_row _ _ 2 _ _ _ (L7.out.has _ (List.Mem.head _))
      have d0_3 : (w8).cell? ⟨bx14, 3, none⟩ = some (.int .i64 s.man.term) := cell_of_row _ _ 3 _ _ _ (L7.out.has _ (List.Mem.head _))
      have d0_4 : (w8).cell? ⟨bx14, 4, none⟩ = some (.slice (some ⟨p2, 0, none⟩) s.man.conf.length s.man.conf.length) := cell_of_row _ _ 4 _ _ _ (L7.out.has _ (List.Mem.head _))
      have d0_5 : (w8).cell? ⟨bx14, 5, none⟩ = some (.slice (some ⟨p3, 0, none⟩) s.dir.length s.dir.length) := cell_of_row _ _ 5 _ _ _ (L7.out.has _ (List.Mem.head _))
      have d0_6 : (w8).cell? ⟨bx14, 6, none⟩ = some (.int .i64 s.stamp) := cell_of_row _ _ 6 _ _ _ (L7.out.has _ (List.Mem.head _))
      obtain ⟨dbxS0, dbxS1, dbxS2, dbxS3, dbxS4, dbxS5, dbxS6⟩ := HBS.out _ L7.out.below
      go_wp2
      have hzx : bx14 < w8.heap.size := World.block_lt_of_cell? _ _ d0_0
      have hzd : w.heap.size + 1 < w8.heap.size := World.block_lt_of_cell? _ _ dbxS0
      go_region_held3 (fun w' => w'.cell? ⟨bx14, 0, none⟩ = some (.slice (some ⟨p1, 0, none⟩) s.man.segs.length s.man.segs.length) ∧ w'.cell? ⟨bx14, 1, none⟩ = some (.int .i64 s.man.next) ∧ w'.cell? ⟨bx14, 2, none⟩ = some (.int .i64 s.man.base) ∧ w'.cell? ⟨bx14, 3, none⟩ = some (.int .i64 s.man.term) ∧ w'.cell? ⟨bx14, 4, none⟩ = some (.slice (some ⟨p2, 0, none⟩) s.man.conf.length s.man.conf.length) ∧ w'.cell? ⟨bx14, 5, none⟩ = some (.slice (some ⟨p3, 0, none⟩) s.dir.length s.dir.length) ∧ w'.cell? ⟨bx14, 6, none⟩ = some (.int .i64 s.stamp) ∧ w'.cell? ⟨w.heap.size + 1, 0, none⟩ = some (.slice sa s.man.segs.length sc) ∧ w'.cell? ⟨w.heap.size + 1, 1, none⟩ = some (.int .i64 s.man.next) ∧ w'.cell? ⟨w.heap.size + 1, 2, none⟩ = some (.int .i64 s.man.base) ∧ w'.cell? ⟨w.heap.size + 1, 3, none⟩ = some (.int .i64 s.man.term) ∧ w'.cell? ⟨w.heap.size + 1, 4, none⟩ = some (.slice ca s.man.conf.length cc) ∧ w'.cell? ⟨w.heap.size + 1, 5, none⟩ = some (.slice da s.dir.length dc) ∧ w'.cell? ⟨w.heap.size + 1, 6, none⟩ = some (.int .i64 s.stamp)) (first | exact ⟨d0_0, d0_1, d0_2, d0_3, d0_4, d0_5, d0_6, dbxS0, dbxS1, dbxS2, dbxS3, dbxS4, dbxS5, dbxS6⟩ | exact ⟨(hb7.cell (p := ⟨bx14, 0, none⟩) hzx).trans d0_0, (hb7.cell (p := ⟨bx14, 1, none⟩) hzx).trans d0_1, (hb7.cell (p := ⟨bx14, 2, none⟩) hzx).trans d0_2, (hb7.cell (p := ⟨bx14, 3, none⟩) hzx).trans d0_3, (hb7.cell (p := ⟨bx14, 4, none⟩) hzx).trans d0_4, (hb7.cell (p := ⟨bx14, 5, none⟩) hzx).trans d0_5, (hb7.cell (p := ⟨bx14, 6, none⟩) hzx).trans d0_6, (hb7.cell (p := ⟨w.heap.size + 1, 0, none⟩) hzd).trans dbxS0, (hb7.cell (p := ⟨w.heap.size + 1, 1, none⟩) hzd).trans dbxS1, (hb7.cell (p := ⟨w.heap.size + 1, 2, none⟩) hzd).trans dbxS2, (hb7.cell (p := ⟨w.heap.size + 1, 3, none⟩) hzd).trans dbxS3, (hb7.cell (p := ⟨w.heap.size + 1, 4, none⟩) hzd).trans dbxS4, (hb7.cell (p := ⟨w.heap.size + 1, 5, none⟩) hzd).trans dbxS5, (hb7.cell (p := ⟨w.heap.size + 1, 6, none⟩) hzd).trans dbxS6⟩ | exact ⟨(hb8.cell (p := ⟨bx14, 0, none⟩) (Nat.lt_of_lt_of_le hzx hb7.size)).trans ((hb7.cell (p := ⟨bx14, 0, none⟩) hzx).trans d0_0), (hb8.cell (p := ⟨bx14, 1, none⟩) (Nat.lt_of_lt_of_le hzx hb7.size)).trans ((hb7.cell (p := ⟨bx14, 1, none⟩) hzx).trans d0_1), (hb8.cell (p := ⟨bx14, 2, none⟩) (Nat.lt_of_lt_of_le hzx hb7.size)).trans ((hb7.cell (p := ⟨bx14, 2, none⟩) hzx).trans d0_2), (hb8.cell (p := ⟨bx14, 3, none⟩) (Nat.lt_of_lt_of_le hzx hb7.size)).trans ((hb7.cell (p := ⟨bx14, 3, none⟩) hzx).trans d0_3), (hb8.cell (p := ⟨bx14, 4, none⟩) (Nat.lt_of_lt_of_le hzx hb7.size)).trans ((hb7.cell (p := ⟨bx14, 4, none⟩) hzx).trans d0_4), (hb8.cell (p := ⟨bx14, 5, none⟩) (Nat.lt_of_lt_of_le hzx hb7.size)).trans ((hb7.cell (p := ⟨bx14, 5, none⟩) hzx).trans d0_5), (hb8.cell (p := ⟨bx14, 6, none⟩) (Nat.lt_of_lt_of_le hzx hb7.size)).trans ((hb7.cell (p := ⟨bx14, 6, none⟩) hzx).trans d0_6), (hb8.cell (p := ⟨w.heap.size + 1, 0, none⟩) (Nat.lt_of_lt_of_le hzd hb7.size)).trans ((hb7.cell (p := ⟨w.heap.size + 1, 0, none⟩) hzd).trans dbxS0), (hb8.cell (p := ⟨w.heap.size + 1, 1, none⟩) (Nat.lt_of_lt_of_le hzd hb7.size)).trans ((hb7.cell (p := ⟨w.heap.size + 1, 1, none⟩) hzd).trans dbxS1), (hb8.cell (p := ⟨w.heap.size + 1, 2, none⟩) (Nat.lt_of_lt_of_le hzd hb7.size)).trans ((hb7.cell (p := ⟨w.heap.size + 1, 2, none⟩) hzd).trans dbxS2), (hb8.cell (p := ⟨w.heap.size + 1, 3, none⟩) (Nat.lt_of_lt_of_le hzd hb7.size)).trans ((hb7.cell (p := ⟨w.heap.size + 1, 3, none⟩) hzd).trans dbxS3), (hb8.cell (p := ⟨w.heap.size + 1, 4, none⟩) (Nat.lt_of_lt_of_le hzd hb7.size)).trans ((hb7.cell (p := ⟨w.heap.size + 1, 4, none⟩) hzd).trans dbxS4), (hb8.cell (p := ⟨w.heap.size + 1, 5, none⟩) (Nat.lt_of_lt_of_le hzd hb7.size)).trans ((hb7.cell (p := ⟨w.heap.size + 1, 5, none⟩) hzd).trans dbxS5), (hb8.cell (p := ⟨w.heap.size + 1, 6, none⟩) (Nat.lt_of_lt_of_le hzd hb7.size)).trans ((hb7.cell (p := ⟨w.heap.size + 1, 6, none⟩) hzd).trans dbxS6)⟩) (first | (go_at_call 16; refine (toShelf_any s k1 k2 k3 _ (HSB.out _ L7.out.below.drew).1 (HSB.out _ L7.out.below.drew).2.1 (HSB.out _ L7.out.below.drew).2.2).mono ?_; rintro e w7b ⟨q1, q2, q3, rfl, hshq, hapq, hb7⟩) | (go_at_call 19; refine (eqShelf_any s k1 k2 k3 _ (hX.kept hb7) hshq).mono ?_; rintro e w8b ⟨rfl, hb8⟩))
      clear d0_0 d0_1 d0_2 d0_3 d0_4 d0_5 d0_6 dbxS0 dbxS1 dbxS2 dbxS3 dbxS4 dbxS5 dbxS6
      have L8 : Hid (LawS WB [(bx14, Obj.cells #[.slice (some ⟨p1, 0, none⟩) s.man.segs.length s.man.segs.length, .int .i64 s.man.next, .int .i64 s.man.base, .int .i64 s.man.term, .slice (some ⟨p2, 0, none⟩) s.man.conf.length s.man.conf.length, .slice (some ⟨p3, 0, none⟩) s.dir.length s.dir.length, .int .i64 s.stamp] 40), (bx02, Obj.cells #[.slice (some ⟨gX, 0, none⟩) l.length l.length] 46)] [⟨.slice (some ⟨q1, 0, none⟩) s.man.segs.length s.man.segs.length, 3, 1, s.man.segs.length, cellsI s.man.segs⟩, ⟨.slice (some ⟨q2, 0, none⟩) s.man.conf.length s.man.conf.length, 3, 1, s.man.conf.length, cellsI s.man.conf⟩, ⟨.slice (some ⟨q3, 0, none⟩) s.dir.length s.dir.length, 134, 4, s.dir.length, cellsSpot s.dir⟩, ⟨.slice (some ⟨g7, 0, none⟩) l.length l.length, 164, 2, l.length, cellsF l⟩, ⟨.slice (some ⟨p1, 0, none⟩) s.man.segs.length s.man.segs.length, 3, 1, s.man.segs.length, cellsI s.man.segs⟩, ⟨.slice (some ⟨p2, 0, none⟩) s.man.conf.length s.man.conf.length, 3, 1, s.man.conf.length, cellsI s.man.conf⟩, ⟨.slice (some ⟨p3, 0, none⟩) s.dir.length s.dir.length, 134, 4, s.dir.length, cellsSpot s.dir⟩, ⟨.slice (some ⟨gX, 0, none⟩) l.length l.length, 164, 2, l.length, cellsF l⟩] w8b) := (L7.out.drew.shelf3 hb7 hshq hapq).step hb8
      clear L7
      clear hb7 hb8 hzx hzd hshq hapq hX
      go_wp2
      go_ret
      exact ⟨rfl, HBW.out.trans (L8.out.below.mono HBW.out.size)⟩
    · subst hx2
      go_wp2
      go_ret
      exact ⟨rfl, HBN2.out⟩
  · subst hx2
    go_wp2
    go_ret
    exact ⟨rfl, HBN.out⟩
end Go.Proofs.YtbcfiiilikkkeaaGreatDoor
