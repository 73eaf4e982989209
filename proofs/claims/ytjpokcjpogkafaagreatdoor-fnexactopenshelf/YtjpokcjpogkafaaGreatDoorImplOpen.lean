/- The call of the program's OpenShelf, walked. -/
import Derived.Test.YtjpokcjpogkafaaGreatDoorImplOn
import Derived.Test.YtjpokcjpogkafaaGreatDoorAsFault
namespace Go.Proofs.YtjpokcjpogkafaaGreatDoor
open Go.RowKit
open Shelves (OpenIs)
set_option linter.unusedVariables false

def OpenPostI (w : World) (s : ShelfL) (rs : List Disks.RawL) (c : Int) (en : Ending) (w' : World) : Prop :=
  ∃ va vc vd rv, en = .returned (.tuple #[shV s va vc vd, rv, .int .i64 c]) ∧ ShOwn w.heap.size s va vc vd w' ∧ Apart va vc ∧ w'.ownsRow w.heap.size 86 4 rv rs.length (cellsRaw rs) ∧ Below w.heap.size w w'
theorem codeOf_any (c : Int) (w : World) (hE : ErrT w) : Calls Tryz.prog 47 #[faultV c] w fun ev w' => ev = .returned (.int .i64 c) ∧ Below w.heap.size w w' := by
  unfold faultV
  by_cases h : c = 0
  · rw [if_pos h, h]; exact codeOf_nil w
  · rw [if_neg h]; exact codeOf_fault c w hE
set_option maxHeartbeats 4000000 in
set_option maxRecDepth 100000 in
theorem implOpen_any {a : Option Addr} {g off cap : Nat} (l : List FileL) (hlen : l.length ≤ 1048576) (hsz : ∀ f ∈ l, f.1.size ≤ 1048576 ∧ f.2.size ≤ 1048576) (s : ShelfL) (rs : List Disks.RawL) (c : Int) (hS : OpenIs l s rs c) (w : World) (hf : FilesAt w a g off l) (hp : Pow w) (hE : ErrT w) :
    Calls Tryz.prog 10 #[.agg #[.slice a l.length cap]] w (OpenPostI w s rs c) := by
  have HS : Hid (OpenIs l s rs c) := hS
  have HSZ : Hid (∀ f ∈ l, f.1.size ≤ 1048576 ∧ f.2.size ≤ 1048576) := hsz
  have HF : Hid (FilesAt w a g off l) := hf
  have HP : Hid (Pow w) := hp
  have HE : Hid (ErrT w) := hE
  clear hS hsz hf hp hE
  obtain ⟨W1, hW1⟩ : ∃ W1, W1 = (w.alloc (Obj.cells #[Value.slice a l.length cap] 37)).alloc (Obj.cells zero7 31) := ⟨_, rfl⟩
  have hb1 : Below w.heap.size w W1 := by rw [hW1]; exact ((Below.refl _ _).alloc (Nat.le_refl _) _).alloc (by simp) _
  have hz1 : W1.heap.size = w.heap.size + 2 := by rw [hW1]; simp
  have q1 : W1.heap[w.heap.size]? = some (.cells #[Value.slice a l.length cap] 37 (0, 0)) := by rw [hW1, Below.heap_alloc _ _ _ (by simp)]; exact heap_alloc_new w _
  have q2 : W1.heap[w.heap.size + 1]? = some (.cells zero7 31 (0, 0)) := by
    have := heap_alloc_new (w.alloc (Obj.cells #[Value.slice a l.length cap] 37)) (Obj.cells zero7 31)
    rw [show (w.alloc (Obj.cells #[Value.slice a l.length cap] 37)).heap.size = w.heap.size + 1 by simp] at this
    rw [hW1]; exact this
  have c1 : W1.cell? ⟨w.heap.size, 0, none⟩ = some (.slice a l.length cap) := cell_of_row _ _ 0 _ _ _ q1
  rw [hW1] at c1
  unfold zero7 at hW1 c1
  go_enter Tryz.func10, Tryz.ntmps10
  go_wp2_with fail
  rw [← hW1]
  clear hW1 c1
  refine Calls.mono (implOn_any l hlen HSZ.out s rs c HS.out W1 (HF.out.kept hb1) (HP.out.below hb1)) ?_
  rintro en w2 ⟨va, vc, vd, rv, rfl, hsh, hap, hrw, hb2⟩
  unfold shV cells7
  obtain ⟨sa, sc, hva⟩ := own_slice hsh.segs
  subst hva
  obtain ⟨ca, cc, hvc⟩ := own_slice hsh.conf
  subst hvc
  obtain ⟨da, dc, hvd⟩ := own_slice hsh.dir
  subst hvd
  obtain ⟨W3, hW3⟩ : ∃ W3, W3 = w2.alloc (Obj.cells #[.slice sa s.man.segs.length sc, .int .i64 s.man.next, .int .i64 s.man.base, .int .i64 s.man.term, .slice ca s.man.conf.length cc, .slice da s.dir.length dc, .int .i64 s.stamp] 31) := ⟨_, rfl⟩
  obtain ⟨b5, hb5⟩ : ∃ b5, b5 = w2.heap.size := ⟨_, rfl⟩
  have hz2 : w.heap.size + 2 ≤ w2.heap.size := by have := hb2.size; omega
  have hb3 : Below w2.heap.size w2 W3 := by rw [hW3]; exact (Below.refl _ _).alloc (Nat.le_refl _) _
  have hk := hb2.trans (hb3.mono hb2.size)
  have HR3 : Hid (W3.heap[w.heap.size + 1]? = some (.cells #[.slice none 0 0, .int .i64 0, .int .i64 0, .int .i64 0, .slice none 0 0, .slice none 0 0, .int .i64 0] 31 (0, 0))) := (hk.block _ (by omega)).trans q2
  have HS3 : Hid (W3.heap[b5]? = some (.cells #[.slice sa s.man.segs.length sc, .int .i64 s.man.next, .int .i64 s.man.base, .int .i64 s.man.term, .slice ca s.man.conf.length cc, .slice da s.dir.length dc, .int .i64 s.stamp] 31 (0, 0))) := by rw [hW3, hb5]; exact heap_alloc_new w2 _
  have HO3 : Hid (ShOwn w.heap.size s (.slice sa s.man.segs.length sc) (.slice ca s.man.conf.length cc) (.slice da s.dir.length dc) W3) := (hsh.mono hb1.size).kept hb3
  have HW3 : Hid (W3.ownsRow w.heap.size 86 4 rv rs.length (cellsRaw rs)) := own_kept (own_mono hrw hb1.size) hb3
  have HAP : Hid (Apart (.slice sa s.man.segs.length sc) (.slice ca s.man.conf.length cc)) := hap
  have HB3 : Hid (Below w.heap.size w W3) := hb1.trans (hk.mono hb1.size)
  have hn2 : b5 ≠ w.heap.size + 1 := by omega
  have hn2' : w.heap.size + 1 ≠ b5 := by omega
  clear hsh hap hrw hb1 hb2 hb3 hk q1 q2 hz1 hz2
  obtain ⟨rw1, rw2, hrv⟩ := own_slice HW3.out
  subst hrv
  obtain ⟨⟨e0, e1, e2, e3, e4, e5, e6⟩, _⟩ := seven_cells HS3.out
  obtain ⟨⟨z0, z1, z2, z3, z4, z5, z6⟩, y0, y1, y2, y3, y4, y5, y6⟩ := seven_cells HR3.out
  obtain ⟨V, hV⟩ : ∃ V, V = faultV c := ⟨_, rfl⟩
  have HC : Hid (∀ W, Below W3.heap.size W3 W → Calls Tryz.prog 47 #[V] W fun ev w' => ev = .returned (.int .i64 c) ∧ Below W.heap.size W w') := fun W hW => by rw [hV]; exact codeOf_any c W ((HE.out.below HB3.out).below hW)
  rw [← hV]
  clear hV
  go_wp2_with fail
  rw [← hW3, ← hb5]
  clear hW3 hb5
  have HK : Hid (∀ w', Below W3.heap.size W3 w' → w'.cell? ⟨b5, 0, none⟩ = some (.slice sa s.man.segs.length sc) ∧ w'.cell? ⟨b5, 1, none⟩ = some (.int .i64 s.man.next) ∧ w'.cell? ⟨b5, 2, none⟩ = some (.int .i64 s.man.base) ∧ w'.cell? ⟨b5, 3, none⟩ = some (.int .i64 s.man.term) ∧ w'.cell? ⟨b5, 4, none⟩ = some (.slice ca s.man.conf.length cc) ∧ w'.cell? ⟨b5, 5, none⟩ = some (.slice da s.dir.length dc) ∧ w'.cell? ⟨b5, 6, none⟩ = some (.int .i64 s.stamp)) := fun w' h => ⟨(h.cell (p := ⟨b5, 0, none⟩) (World.block_lt_of_cell? W3 _ e0)).trans e0, (h.cell (p := ⟨b5, 1, none⟩) (World.block_lt_of_cell? W3 _ e1)).trans e1, (h.cell (p := ⟨b5, 2, none⟩) (World.block_lt_of_cell? W3 _ e2)).trans e2, (h.cell (p := ⟨b5, 3, none⟩) (World.block_lt_of_cell? W3 _ e3)).trans e3, (h.cell (p := ⟨b5, 4, none⟩) (World.block_lt_of_cell? W3 _ e4)).trans e4, (h.cell (p := ⟨b5, 5, none⟩) (World.block_lt_of_cell? W3 _ e5)).trans e5, (h.cell (p := ⟨b5, 6, none⟩) (World.block_lt_of_cell? W3 _ e6)).trans e6⟩
  have HRQ : Hid (∀ wQ, Below W3.heap.size W3 wQ → wQ.heap[w.heap.size + 1]? = some (.cells #[.slice none 0 0, .int .i64 0, .int .i64 0, .int .i64 0, .slice none 0 0, .slice none 0 0, .int .i64 0] 31 (0, 0))) := fun wQ h => (h.block _ (Array.getElem?_eq_some_iff.1 HR3.out).1).trans HR3.out
  go_region_held3 (fun w' => w'.cell? ⟨b5, 0, none⟩ = some (.slice sa s.man.segs.length sc) ∧ w'.cell? ⟨b5, 1, none⟩ = some (.int .i64 s.man.next) ∧ w'.cell? ⟨b5, 2, none⟩ = some (.int .i64 s.man.base) ∧ w'.cell? ⟨b5, 3, none⟩ = some (.int .i64 s.man.term) ∧ w'.cell? ⟨b5, 4, none⟩ = some (.slice ca s.man.conf.length cc) ∧ w'.cell? ⟨b5, 5, none⟩ = some (.slice da s.dir.length dc) ∧ w'.cell? ⟨b5, 6, none⟩ = some (.int .i64 s.stamp))
    (first | go_keep | exact HK.out _ (below_undrew hbP))
    (first | (go_at_call 47; refine Calls.mono (HC.out _ (Below.refl _ _).drew) ?_; rintro en wP ⟨rfl, hbP⟩; have rQ := HRQ.out _ (below_undrew hbP); obtain ⟨⟨z0, z1, z2, z3, z4, z5, z6⟩, y0, y1, y2, y3, y4, y5, y6⟩ := seven_cells rQ; obtain ⟨k0, k1, k2, k3, k4, k5, k6⟩ := HK.out _ (below_undrew hbP)))
  all_goals
    have hB := below_undrew hbP
    have HY := res7 rQ (.slice sa s.man.segs.length sc) (.int .i64 s.man.next) (.int .i64 s.man.base) (.int .i64 s.man.term) (.slice ca s.man.conf.length cc) (.slice da s.dir.length dc) (.int .i64 s.stamp)
    have HFin : Hid (OpenPostI w s rs c (.returned (.tuple #[.agg #[.slice sa s.man.segs.length sc, .int .i64 s.man.next, .int .i64 s.man.base, .int .i64 s.man.term, .slice ca s.man.conf.length cc, .slice da s.dir.length dc, .int .i64 s.stamp], .slice rw1 rs.length rw2, .int .i64 c])) (set7 wP (w.heap.size + 1) (.slice sa s.man.segs.length sc) (.int .i64 s.man.next) (.int .i64 s.man.base) (.int .i64 s.man.term) (.slice ca s.man.conf.length cc) (.slice da s.dir.length dc) (.int .i64 s.stamp))) :=
      ⟨_, _, _, .slice rw1 rs.length rw2, rfl, set7_sh (HO3.out.kept hB) rQ (by decide) (by decide) _ _ _ _ _ _ _, HAP.out, set7_own (own_kept HW3.out hB) rQ (by decide) _ _ _ _ _ _ _, set7_below (HB3.out.trans (hB.mono HB3.out.size)) (by omega) _ _ _ _ _ _ _⟩
    clear rQ hB
    go_wp2
    obtain ⟨y0, y1, y2, y3, y4, y5, y6⟩ := HY
    unfold set7 at y0 y1 y2 y3 y4 y5 y6
    exact bodyPost_ret (v := .tuple #[.agg #[.slice sa s.man.segs.length sc, .int .i64 s.man.next, .int .i64 s.man.base, .int .i64 s.man.term, .slice ca s.man.conf.length cc, .slice da s.dir.length dc, .int .i64 s.stamp], .slice rw1 rs.length rw2, .int .i64 c]) (by simp [results, Tryz.results10, go_sem, y0, y1, y2, y3, y4, y5, y6]) rfl HFin.out
end Go.Proofs.YtjpokcjpogkafaaGreatDoor
