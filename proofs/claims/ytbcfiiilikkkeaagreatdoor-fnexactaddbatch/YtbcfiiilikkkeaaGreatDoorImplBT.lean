/- The program's shelfStands: is this the shelf of a disk that needs no raw writes, walked. The program's shelfBehind: the shelf of the disk behind raw writes, walked. The program's BatchText and Frame, walked (carried from elder seats). -/
import Derived.Test.YtbcfiiilikkkeaaGreatDoorSpecAdd
import Derived.Test.YtbcfiiilikkkeaaGreatDoorImplScans
import Derived.Test.YtbcfiiilikkkeaaGreatDoorImplOn
import Derived.Test.YtbcfiiilikkkeaaGreatDoorSpecAfter
import Derived.Test.YtbcfiiilikkkeaaGreatDoorMathComes2
import Derived.Test.YtbcfiiilikkkeaaGreatDoorSpecRead2
import Derived.Test.YtbcfiiilikkkeaaGreatDoorYield
import Derived.Test.YtbcfiiilikkkeaaGreatDoorTexts
namespace Go.Proofs.YtbcfiiilikkkeaaGreatDoor
open Go.RowKit
open Shelves (OpenIs)
set_option linter.unusedVariables false
set_option linter.unusedSimpArgs false

set_option maxHeartbeats 8000000 in
set_option maxRecDepth 100000 in
theorem implStands_is {a : Option Addr} {g off cap b : Nat} {va vc vd : Value} (l : List FileL) (hlen : l.length ≤ 1048576) (hsz : ∀ f ∈ l, f.1.size ≤ 1048576 ∧ f.2.size ≤ 1048576) (s : ShelfL) (n1 : s.man.segs.length ≤ 1048576) (n2 : s.man.conf.length ≤ 1048576) (n3 : s.dir.length ≤ 1048576) (R : Bool) (hR : R = true ↔ Shelves.Clean l s) (w : World) (hp : Pow w) (hf : FilesAt w a g off l) (hA : ShOwn b s va vc vd w) :
    Calls Tryz.prog 72 #[.agg #[.slice a l.length cap], shV s va vc vd] w fun e w' => e = .returned (.bool R) ∧ Below w.heap.size w w' := by
  obtain ⟨t, rs, c, hO⟩ := Shelves.open_ex l
  obtain ⟨u1, u2, u3, u4⟩ := Shelves.open_small hO
  have HR : Hid (R = true ↔ c = 0 ∧ rs = [] ∧ s = t) := hR.trans (Shelves.open_clean hO)
  obtain ⟨sa, sc, e1⟩ := own_slice hA.segs
  obtain ⟨ca, cc, e2⟩ := own_slice hA.conf
  obtain ⟨da, dc, e3⟩ := own_slice hA.dir
  subst e1 e2 e3
  obtain ⟨W, hW⟩ : ∃ W, W = (w.alloc (Obj.cells #[Value.slice a l.length cap] 46)).alloc (Obj.cells #[.slice sa s.man.segs.length sc, .int .i64 s.man.next, .int .i64 s.man.base, .int .i64 s.man.term, .slice ca s.man.conf.length cc, .slice da s.dir.length dc, .int .i64 s.stamp] 40) := ⟨_, rfl⟩
  have hb : Below w.heap.size w W := by rw [hW]; exact ((Below.refl _ _).alloc (Nat.le_refl _) _).alloc (by simp) _
  have hp0 : W.heap[w.heap.size]? = some (.cells #[Value.slice a l.length cap] 46 (0, 0)) := by rw [hW, Below.heap_alloc _ _ _ (by simp)]; exact heap_alloc_new w _
  have hp1 : W.heap[w.heap.size + 1]? = some (.cells #[.slice sa s.man.segs.length sc, .int .i64 s.man.next, .int .i64 s.man.base, .int .i64 s.man.term, .slice ca s.man.conf.length cc, .slice da s.dir.length dc, .int .i64 s.stamp] 40 (0, 0)) := by
    rw [hW]; have := heap_alloc_new (w.alloc (Obj.cells #[Value.slice a l.length cap] 46)) (Obj.cells #[.slice sa s.man.segs.length sc, .int .i64 s.man.next, .int .i64 s.man.base, .int .i64 s.man.term, .slice ca s.man.conf.length cc, .slice da s.dir.length dc, .int .i64 s.stamp] 40); simpa using this
  have HP1 : Hid (∀ W1, Below W.heap.size W W1 → W1.heap[w.heap.size + 1]? = some (.cells #[.slice sa s.man.segs.length sc, .int .i64 s.man.next, .int .i64 s.man.base, .int .i64 s.man.term, .slice ca s.man.conf.length cc, .slice da s.dir.length dc, .int .i64 s.stamp] 40 (0, 0))) := fun W1 h => (h.block _ (Array.getElem?_eq_some_iff.1 hp1).1).trans hp1
  have HB : Hid (Below w.heap.size w W) := hb
  have HO : Hid (Calls Tryz.prog 98 #[.agg #[.slice a l.length cap]] W (OnPost W t rs c)) := implOn_any l hlen hsz t rs c hO W (hf.kept hb) (hp.below hb)
  have HOK : Hid (c = 0 → rs = [] → Mans.ok t.man) := fun h1 h2 => Shelves.man_ok ((Shelves.open_clean hO).2 ⟨h1, h2, rfl⟩)
  have HA : Hid (∀ W1, Below W.heap.size W W1 → ShOwn b s (.slice sa s.man.segs.length sc) (.slice ca s.man.conf.length cc) (.slice da s.dir.length dc) W1) := fun W1 h => (hA.kept hb).kept h
  have c0 := cell_of_row _ _ 0 _ _ _ hp0
  unfold shV cells7
  clear hR hO hA hf hb hp0 hp1 hsz hp
  rw [hW] at c0
  go_enter Tryz.func72, Tryz.ntmps72
  go_wp2_with fail
  rw [← hW]
  clear hW c0
  refine Calls.mono HO.out ?_
  rintro en w1 ⟨va, vc, vd, rv, rfl, hsh, _, hrw, hb1⟩
  unfold shV cells7 faultV
  obtain ⟨ta, tb, hva⟩ := own_slice hsh.segs
  subst hva
  obtain ⟨tc, td, hvc⟩ := own_slice hsh.conf
  subst hvc
  obtain ⟨te, tf, hvd⟩ := own_slice hsh.dir
  subst hvd
  obtain ⟨tg, th, hrv⟩ := own_slice hrw
  subst hrv
  obtain ⟨W2, hW2⟩ : ∃ W2, W2 = w1.alloc (Obj.cells #[.slice ta t.man.segs.length tb, .int .i64 t.man.next, .int .i64 t.man.base, .int .i64 t.man.term, .slice tc t.man.conf.length td, .slice te t.dir.length tf, .int .i64 t.stamp] 40) := ⟨_, rfl⟩
  have hb2 : Below w1.heap.size w1 W2 := by rw [hW2]; exact (Below.refl _ _).alloc (Nat.le_refl _) _
  have hbb : Below W.heap.size W W2 := hb1.trans (hb2.mono hb1.size)
  have HW2 : Hid (Below w.heap.size w W2) := HB.out.trans (hbb.mono HB.out.size)
  have hq : W2.heap[w1.heap.size]? = some (.cells #[.slice ta t.man.segs.length tb, .int .i64 t.man.next, .int .i64 t.man.base, .int .i64 t.man.term, .slice tc t.man.conf.length td, .slice te t.dir.length tf, .int .i64 t.stamp] 40 (0, 0)) := by rw [hW2]; exact heap_alloc_new w1 _
  obtain ⟨⟨p0, p1, p2, p3, p4, p5, p6⟩, _⟩ := seven_cells (HP1.out _ hbb)
  obtain ⟨⟨q0, q1, q2, q3, q4, q5, q6⟩, _⟩ := seven_cells hq
  have HS : Hid (c = 0 → rs = [] → ∀ R' : Bool, (R' = true ↔ s = t) → Calls Tryz.prog 116 #[shV t (.slice ta t.man.segs.length tb) (.slice tc t.man.conf.length td) (.slice te t.dir.length tf), shV s (.slice sa s.man.segs.length sc) (.slice ca s.man.conf.length cc) (.slice da s.dir.length dc)] W2 fun e w' => e = .returned (.bool R') ∧ Below W2.heap.size W2 w') := fun h1 h2 R' h' => implSame_is t s (HOK.out h1 h2) (by omega) (by omega) (by omega) n1 n2 n3 R' (h'.trans ⟨Eq.symm, Eq.symm⟩) W2 (hsh.kept hb2) (HA.out _ hbb)
  unfold shV cells7 at HS
  clear hsh hrw hb1 hb2 hbb hq
  rw [hW2] at p0 p1 p2 p3 p4 p5 p6 q0 q1 q2 q3 q4 q5 q6
  by_cases hc : c = 0
  · by_cases hr : rs = []
    · have HS2 : Hid _ := HS.out hc hr
      clear HS HOK
      subst hc hr
      rw [if_pos rfl]
      have HR2 : Hid (R = true ↔ s = t) := HR.out.trans ⟨fun h => h.2.2, fun h => ⟨rfl, rfl, h⟩⟩
      go_wp2_with fail
      rw [← hW2]
      refine Calls.mono (HS2.out R HR2.out) ?_
      rintro en w3 ⟨rfl, hb3⟩
      have HW3 : Hid (Below w.heap.size w w3) := HW2.out.trans (hb3.mono HW2.out.size)
      clear hb3 hW2 p0 p1 p2 p3 p4 p5 p6 q0 q1 q2 q3 q4 q5 q6
      go_wp2
      go_ret
      exact ⟨rfl, HW3.out⟩
    · have hRf : R = false := ans_no HR.out fun e => hr e.2.1
      subst hRf
      subst hc
      rw [if_pos rfl]
      have hn : ((rs.length : Int) == 0) = false := by
        rw [beq_eq_false_iff_ne]
        intro e
        exact hr (List.length_eq_zero_iff.1 (by omega))
      clear hr
      go_wp2
      go_ret
      exact ⟨rfl, by rw [← hW2]; exact HW2.out⟩
  · have hRf : R = false := ans_no HR.out fun e => hc e.1
    subst hRf
    rw [if_neg hc]
    clear hc
    go_wp2
    go_ret
    exact ⟨rfl, by rw [← hW2]; exact HW2.out⟩
end Go.Proofs.YtbcfiiilikkkeaaGreatDoor
namespace Go.Proofs.YtbcfiiilikkkeaaGreatDoor
open Go.RowKit
open Shelves (OpenIs)
set_option linter.unusedVariables false
set_option linter.unusedSimpArgs false

theorem cell_drew9 (w : World) (p : Addr) : w.drew.cell? p = w.cell? p := rfl
def BehindPost (w : World) (s : ShelfL) (R : Bool) (en : Ending) (w' : World) : Prop :=
  ∃ va vc vd, en = .returned (.tuple #[shV s va vc vd, .bool R]) ∧ ShOwn w.heap.size s va vc vd w' ∧ Apart va vc ∧ Below w.heap.size w w'
/-- What shelfBehind answers: D and n are what PutRaws leaves. -/
def BehindIs (D : List FileL) (n m : Nat) (s : ShelfL) (R : Bool) : Prop := (n = m ∧ ∃ more c, OpenIs D s more c ∧ (R = true ↔ c = 0)) ∨ (n ≠ m ∧ s = Shelves.zeroS ∧ R = false)
set_option maxHeartbeats 8000000 in
set_option maxRecDepth 100000 in
theorem implBehind_is {a ra : Option Addr} {g off cap rg roff rcap : Nat} (l : List FileL) (rs : List Disks.RawL) (hok : Disks.ok l) (hrs : rs.length ≤ 60) (hr : ∀ r ∈ rs, r.name.size ≤ 1048576 ∧ r.to.size ≤ 1048576 ∧ r.text.size ≤ 1048576) (D : List FileL) (n : Nat) (hrun : Disks.run l rs = (D, n)) (s : ShelfL) (R : Bool) (hI : BehindIs D n rs.length s R) (w : World) (hp : Pow w) (hf : FilesAt w a g off l) (hrf : RawsAt w ra rg roff rs) :
    Calls Tryz.prog 74 #[.agg #[.slice a l.length cap], .slice ra rs.length rcap] w (BehindPost w s R) := by
  have hDok : Disks.ok D := by have := Disks.run_ok rs hok; rw [hrun] at this; exact this
  obtain ⟨W1, hW1⟩ : ∃ W1, W1 = (w.alloc (Obj.cells #[Value.slice a l.length cap] 46)).alloc (Obj.cells zero7 40) := ⟨_, rfl⟩
  have hb1 : Below w.heap.size w W1 := by rw [hW1]; exact ((Below.refl _ _).alloc (Nat.le_refl _) _).alloc (by simp) _
  have hput := implPutRaws_yes (cap := cap) (rcap := rcap) l rs hok hrs hr W1 (hf.kept hb1) (hrf.kept hb1)
  have hle : n ≤ rs.length := by have := Disks.run_le rs l; rw [hrun] at this; exact this
  have HPW : Hid (∀ W', Below w.heap.size w W' → Pow W') := fun W' h => hp.below h
  rw [hrun] at hput
  have HPUT : Hid (Calls Tryz.prog 145 #[.agg #[.slice a l.length cap], .slice ra rs.length rcap] W1 (rawsPost W1 D n)) := hput
  have HB1 : Hid (Below w.heap.size w W1) := hb1
  have q1 : W1.heap[w.heap.size]? = some (.cells #[Value.slice a l.length cap] 46 (0, 0)) := by rw [hW1, Below.heap_alloc _ _ _ (by simp)]; exact heap_alloc_new w _
  have q2 : W1.heap[w.heap.size + 1]? = some (.cells zero7 40 (0, 0)) := by
    have := heap_alloc_new (w.alloc (Obj.cells #[Value.slice a l.length cap] 46)) (Obj.cells zero7 40)
    rw [show (w.alloc (Obj.cells #[Value.slice a l.length cap] 46)).heap.size = w.heap.size + 1 by simp] at this
    rw [hW1]; exact this
  have HRQ : Hid (∀ wQ, Below W1.heap.size W1 wQ → wQ.heap[w.heap.size + 1]? = some (.cells #[.slice none 0 0, .int .i64 0, .int .i64 0, .int .i64 0, .slice none 0 0, .slice none 0 0, .int .i64 0] 40 (0, 0))) := fun wQ h => (h.block _ (Array.getElem?_eq_some_iff.1 q2).1).trans q2
  have HI : Hid (BehindIs D n rs.length s R) := hI
  have HDK : Hid (Disks.ok D) := hDok
  have c1 := cell_of_row _ _ 0 _ _ _ q1
  rw [hW1] at c1
  unfold zero7 at hW1 c1
  clear hf hrf hr hput hb1 hI q1 q2 hok hDok hrun hp
  go_enter Tryz.func74, Tryz.ntmps74
  go_wp2_with fail
  rw [← hW1]
  clear hW1 c1
  refine Calls.mono HPUT.out ?_
  rintro en w2 ⟨v, rfl, hown, hb2⟩
  obtain ⟨na, nc, hv⟩ := own_slice hown
  subst hv
  obtain ⟨W3, hW3⟩ : ∃ W3, W3 = w2.alloc (Obj.cells #[Value.slice na D.length nc] 46) := ⟨_, rfl⟩
  have hb3 : Below w2.heap.size w2 W3 := by rw [hW3]; exact (Below.refl _ _).alloc (Nat.le_refl _) _
  have hb13 : Below W1.heap.size W1 W3 := hb2.trans (hb3.mono hb2.size)
  have q3 : W3.heap[w2.heap.size]? = some (.cells #[Value.slice na D.length nc] 46 (0, 0)) := by rw [hW3]; exact heap_alloc_new w2 _
  have rQ3 := HRQ.out _ hb13
  have HB13 : Hid (Below W1.heap.size W1 W3) := hb13
  have HQ3 : Hid (W3.heap[w.heap.size + 1]? = some (.cells #[.slice none 0 0, .int .i64 0, .int .i64 0, .int .i64 0, .slice none 0 0, .slice none 0 0, .int .i64 0] 40 (0, 0))) := rQ3
  have HB3 : Hid (Below w.heap.size w W3) := HB1.out.trans (hb13.mono HB1.out.size)
  have HO3 : Hid (W3.ownsRow W1.heap.size 164 2 (.slice na D.length nc) D.length (cellsF D)) := own_kept hown hb3
  have c3 := cell_of_row _ _ 0 _ _ _ q3
  by_cases hne : n = rs.length
  · have hcn : ¬ (n : Int) < (rs.length : Int) := by omega
    rcases HI.out with ⟨_, more, c, hO, hR⟩ | ⟨h, _⟩
    · have HR : Hid (R = true ↔ c = 0) := hR
      obtain ⟨d1, d2⟩ := ok_small HDK.out
      obtain ⟨_, fg, _, e1, f1⟩ := files_slice9 HO3.out
      cases e1
      have HOP : Hid (Calls Tryz.prog 98 #[.agg #[.slice na D.length nc]] W3 (OnPost W3 s more c)) := implOn_any D d1 d2 s more c hO W3 f1 (HPW.out _ HB3.out)
      clear hR hO d1 d2 f1 hown hb2 hb3 hb13 q3 rQ3 HPUT hne
      rw [hW3] at c3
      go_wp2_with fail
      rw [← hW3]
      clear hW3 c3
      refine Calls.mono HOP.out ?_
      rintro en w4 ⟨va, vc, vd, rv, rfl, hsh, hap, hrw, hb4⟩
      unfold shV cells7 faultV
      obtain ⟨sa, sc, hva⟩ := own_slice hsh.segs
      subst hva
      obtain ⟨ca, cc, hvc⟩ := own_slice hsh.conf
      subst hvc
      obtain ⟨da, dc, hvd⟩ := own_slice hsh.dir
      subst hvd
      obtain ⟨ta, tc, hrv⟩ := own_slice hrw
      subst hrv
      obtain ⟨W5, hW5⟩ : ∃ W5, W5 = w4.alloc (Obj.cells #[.slice sa s.man.segs.length sc, .int .i64 s.man.next, .int .i64 s.man.base, .int .i64 s.man.term, .slice ca s.man.conf.length cc, .slice da s.dir.length dc, .int .i64 s.stamp] 40) := ⟨_, rfl⟩
      have hb5 : Below w4.heap.size w4 W5 := by rw [hW5]; exact (Below.refl _ _).alloc (Nat.le_refl _) _
      have hb35 : Below W3.heap.size W3 W5 := hb4.trans (hb5.mono hb4.size)
      have hq5 : W5.heap[w4.heap.size]? = some (.cells #[.slice sa s.man.segs.length sc, .int .i64 s.man.next, .int .i64 s.man.base, .int .i64 s.man.term, .slice ca s.man.conf.length cc, .slice da s.dir.length dc, .int .i64 s.stamp] 40 (0, 0)) := by rw [hW5]; exact heap_alloc_new w4 _
      have rQ := HRQ.out _ (HB13.out.trans (hb35.mono HB13.out.size))
      have HQ : Hid (W5.heap[w.heap.size + 1]? = some (.cells #[.slice none 0 0, .int .i64 0, .int .i64 0, .int .i64 0, .slice none 0 0, .slice none 0 0, .int .i64 0] 40 (0, 0))) := rQ
      obtain ⟨⟨e0, e1, e2, e3, e4, e5, e6⟩, _⟩ := seven_cells hq5
      obtain ⟨⟨z0, z1, z2, z3, z4, z5, z6⟩, y0, y1, y2, y3, y4, y5, y6⟩ := seven_cells rQ
      have HB5 : Hid (Below w.heap.size w W5) := HB3.out.trans (hb35.mono HB3.out.size)
      have HSH : Hid (ShOwn w.heap.size s (.slice sa s.man.segs.length sc) (.slice ca s.man.conf.length cc) (.slice da s.dir.length dc) W5) := (hsh.mono HB3.out.size).kept hb5
      have HAP : Hid (Apart (.slice sa s.man.segs.length sc) (.slice ca s.man.conf.length cc)) := hap
      have HL : Hid (w.heap.size + 1 < w4.heap.size) := by
        show _ < _
        have h1 := (Array.getElem?_eq_some_iff.1 HQ3.out).1
        have h2 := hb4.size
        omega
      have hn2 : w4.heap.size ≠ w.heap.size + 1 := by have := HL.out; omega
      have hn2' : w.heap.size + 1 ≠ w4.heap.size := by have := HL.out; omega
      clear hsh hrw hb4 hb5 hb35 hq5 rQ hap
      have hd : (c = 0 ∧ R = true) ∨ (c ≠ 0 ∧ R = false) := by
        by_cases hc : c = 0
        · exact Or.inl ⟨hc, HR.out.2 hc⟩
        · exact Or.inr ⟨hc, ans_no HR.out hc⟩
      have HY := res7 HQ.out (.slice sa s.man.segs.length sc) (.int .i64 s.man.next) (.int .i64 s.man.base) (.int .i64 s.man.term) (.slice ca s.man.conf.length cc) (.slice da s.dir.length dc) (.int .i64 s.stamp)
      rw [hW5] at e0 e1 e2 e3 e4 e5 e6 z0 z1 z2 z3 z4 z5 z6 y0 y1 y2 y3 y4 y5 y6
      have HFin : Hid (∀ R' : Bool, R' = R → BehindPost w s R (.returned (.tuple #[.agg #[.slice sa s.man.segs.length sc, .int .i64 s.man.next, .int .i64 s.man.base, .int .i64 s.man.term, .slice ca s.man.conf.length cc, .slice da s.dir.length dc, .int .i64 s.stamp], .bool R'])) (set7 W5 (w.heap.size + 1) (.slice sa s.man.segs.length sc) (.int .i64 s.man.next) (.int .i64 s.man.base) (.int .i64 s.man.term) (.slice ca s.man.conf.length cc) (.slice da s.dir.length dc) (.int .i64 s.stamp))) := fun R' e => by
        subst e
        exact ⟨_, _, _, rfl, set7_sh HSH.out HQ.out (by decide) (by decide) _ _ _ _ _ _ _, HAP.out, set7_below HB5.out (by omega) _ _ _ _ _ _ _⟩
      clear HI
      rcases hd with ⟨hc, hr⟩ | ⟨hc, hr⟩
      · have HRR : Hid (true = R) := hr.symm
        subst hc
        rw [if_pos rfl]
        clear hr HR
        go_wp2
        rw [← hW5]
        rw [← hW5] at e0 e1 e2 e3 e4 e5 e6 z0 z1 z2 z3 z4 z5 z6 y0 y1 y2 y3 y4 y5 y6
        clear hW5
        obtain ⟨b5, hb5'⟩ : ∃ b5, b5 = w4.heap.size := ⟨_, rfl⟩
        rw [← hb5'] at e0 e1 e2 e3 e4 e5 e6 hn2 hn2' ⊢
        clear hb5'
        go_region_held3 (fun w' => w'.cell? ⟨b5, 0, none⟩ = some (.slice sa s.man.segs.length sc) ∧ w'.cell? ⟨b5, 1, none⟩ = some (.int .i64 s.man.next) ∧ w'.cell? ⟨b5, 2, none⟩ = some (.int .i64 s.man.base) ∧ w'.cell? ⟨b5, 3, none⟩ = some (.int .i64 s.man.term) ∧ w'.cell? ⟨b5, 4, none⟩ = some (.slice ca s.man.conf.length cc) ∧ w'.cell? ⟨b5, 5, none⟩ = some (.slice da s.dir.length dc) ∧ w'.cell? ⟨b5, 6, none⟩ = some (.int .i64 s.stamp)) (go_keep) (fail)
        all_goals
          obtain ⟨X, hX⟩ : ∃ X, X = (set7 W5 (w.heap.size + 1) (.slice sa s.man.segs.length sc) (.int .i64 s.man.next) (.int .i64 s.man.base) (.int .i64 s.man.term) (.slice ca s.man.conf.length cc) (.slice da s.dir.length dc) (.int .i64 s.stamp)).drew := ⟨_, rfl⟩
          have HFX : Hid (BehindPost w s R (.returned (.tuple #[.agg #[.slice sa s.man.segs.length sc, .int .i64 s.man.next, .int .i64 s.man.base, .int .i64 s.man.term, .slice ca s.man.conf.length cc, .slice da s.dir.length dc, .int .i64 s.stamp], .bool true])) X) := by
            obtain ⟨_, _, _, g1, g2, g4, g3⟩ := HFin.out _ HRR.out
            rw [hX]
            exact ⟨_, _, _, g1, g2.kept (Below.refl _ _).drew, g4, g3.drew⟩
          obtain ⟨u0, u1, u2, u3, u4, u5, u6⟩ := HY
          have t0 : X.cell? ⟨w.heap.size + 1, 0, none⟩ = some (.slice sa s.man.segs.length sc) := by rw [hX, cell_drew9]; exact u0
          have t1 : X.cell? ⟨w.heap.size + 1, 1, none⟩ = some (.int .i64 s.man.next) := by rw [hX, cell_drew9]; exact u1
          have t2 : X.cell? ⟨w.heap.size + 1, 2, none⟩ = some (.int .i64 s.man.base) := by rw [hX, cell_drew9]; exact u2
          have t3 : X.cell? ⟨w.heap.size + 1, 3, none⟩ = some (.int .i64 s.man.term) := by rw [hX, cell_drew9]; exact u3
          have t4 : X.cell? ⟨w.heap.size + 1, 4, none⟩ = some (.slice ca s.man.conf.length cc) := by rw [hX, cell_drew9]; exact u4
          have t5 : X.cell? ⟨w.heap.size + 1, 5, none⟩ = some (.slice da s.dir.length dc) := by rw [hX, cell_drew9]; exact u5
          have t6 : X.cell? ⟨w.heap.size + 1, 6, none⟩ = some (.int .i64 s.stamp) := by rw [hX, cell_drew9]; exact u6
          unfold set7 at hX
          rw [← hX]
          clear hX u0 u1 u2 u3 u4 u5 u6 e0 e1 e2 e3 e4 e5 e6 z0 z1 z2 z3 z4 z5 z6 y0 y1 y2 y3 y4 y5 y6 HFin
          go_wp2
          exact bodyPost_ret (v := .tuple #[.agg #[.slice sa s.man.segs.length sc, .int .i64 s.man.next, .int .i64 s.man.base, .int .i64 s.man.term, .slice ca s.man.conf.length cc, .slice da s.dir.length dc, .int .i64 s.stamp], .bool true]) (by simp [results, Tryz.results74, go_sem, t0, t1, t2, t3, t4, t5, t6]) rfl HFX.out
      · have HRR : Hid (false = R) := hr.symm
        rw [if_neg hc]
        clear hr HR hc
        go_wp2
        rw [← hW5]
        rw [← hW5] at e0 e1 e2 e3 e4 e5 e6 z0 z1 z2 z3 z4 z5 z6 y0 y1 y2 y3 y4 y5 y6
        clear hW5
        obtain ⟨b5, hb5'⟩ : ∃ b5, b5 = w4.heap.size := ⟨_, rfl⟩
        rw [← hb5'] at e0 e1 e2 e3 e4 e5 e6 hn2 hn2' ⊢
        clear hb5'
        go_region_held3 (fun w' => w'.cell? ⟨b5, 0, none⟩ = some (.slice sa s.man.segs.length sc) ∧ w'.cell? ⟨b5, 1, none⟩ = some (.int .i64 s.man.next) ∧ w'.cell? ⟨b5, 2, none⟩ = some (.int .i64 s.man.base) ∧ w'.cell? ⟨b5, 3, none⟩ = some (.int .i64 s.man.term) ∧ w'.cell? ⟨b5, 4, none⟩ = some (.slice ca s.man.conf.length cc) ∧ w'.cell? ⟨b5, 5, none⟩ = some (.slice da s.dir.length dc) ∧ w'.cell? ⟨b5, 6, none⟩ = some (.int .i64 s.stamp)) (go_keep) (fail)
        all_goals
          obtain ⟨X, hX⟩ : ∃ X, X = (set7 W5 (w.heap.size + 1) (.slice sa s.man.segs.length sc) (.int .i64 s.man.next) (.int .i64 s.man.base) (.int .i64 s.man.term) (.slice ca s.man.conf.length cc) (.slice da s.dir.length dc) (.int .i64 s.stamp)).drew := ⟨_, rfl⟩
          have HFX : Hid (BehindPost w s R (.returned (.tuple #[.agg #[.slice sa s.man.segs.length sc, .int .i64 s.man.next, .int .i64 s.man.base, .int .i64 s.man.term, .slice ca s.man.conf.length cc, .slice da s.dir.length dc, .int .i64 s.stamp], .bool false])) X) := by
            obtain ⟨_, _, _, g1, g2, g4, g3⟩ := HFin.out _ HRR.out
            rw [hX]
            exact ⟨_, _, _, g1, g2.kept (Below.refl _ _).drew, g4, g3.drew⟩
          obtain ⟨u0, u1, u2, u3, u4, u5, u6⟩ := HY
          have t0 : X.cell? ⟨w.heap.size + 1, 0, none⟩ = some (.slice sa s.man.segs.length sc) := by rw [hX, cell_drew9]; exact u0
          have t1 : X.cell? ⟨w.heap.size + 1, 1, none⟩ = some (.int .i64 s.man.next) := by rw [hX, cell_drew9]; exact u1
          have t2 : X.cell? ⟨w.heap.size + 1, 2, none⟩ = some (.int .i64 s.man.base) := by rw [hX, cell_drew9]; exact u2
          have t3 : X.cell? ⟨w.heap.size + 1, 3, none⟩ = some (.int .i64 s.man.term) := by rw [hX, cell_drew9]; exact u3
          have t4 : X.cell? ⟨w.heap.size + 1, 4, none⟩ = some (.slice ca s.man.conf.length cc) := by rw [hX, cell_drew9]; exact u4
          have t5 : X.cell? ⟨w.heap.size + 1, 5, none⟩ = some (.slice da s.dir.length dc) := by rw [hX, cell_drew9]; exact u5
          have t6 : X.cell? ⟨w.heap.size + 1, 6, none⟩ = some (.int .i64 s.stamp) := by rw [hX, cell_drew9]; exact u6
          unfold set7 at hX
          rw [← hX]
          clear hX u0 u1 u2 u3 u4 u5 u6 e0 e1 e2 e3 e4 e5 e6 z0 z1 z2 z3 z4 z5 z6 y0 y1 y2 y3 y4 y5 y6 HFin
          go_wp2
          exact bodyPost_ret (v := .tuple #[.agg #[.slice sa s.man.segs.length sc, .int .i64 s.man.next, .int .i64 s.man.base, .int .i64 s.man.term, .slice ca s.man.conf.length cc, .slice da s.dir.length dc, .int .i64 s.stamp], .bool false]) (by simp [results, Tryz.results74, go_sem, t0, t1, t2, t3, t4, t5, t6]) rfl HFX.out
    · exact absurd hne h
  · have hcn : (n : Int) < (rs.length : Int) := by omega
    obtain ⟨rfl, rfl⟩ : s = Shelves.zeroS ∧ R = false := by
      rcases HI.out with ⟨h, _⟩ | ⟨_, h⟩
      · exact absurd h hne
      · exact h
    obtain ⟨⟨z0, z1, z2, z3, z4, z5, z6⟩, y0, y1, y2, y3, y4, y5, y6⟩ := seven_cells HQ3.out
    have HY := res7 HQ3.out (.slice none 0 0) (.int .i64 0) (.int .i64 0) (.int .i64 0) (.slice none 0 0) (.slice none 0 0) (.int .i64 0)
    have HFin : Hid (BehindPost w Shelves.zeroS false (.returned (.tuple #[.agg #[.slice none 0 0, .int .i64 0, .int .i64 0, .int .i64 0, .slice none 0 0, .slice none 0 0, .int .i64 0], .bool false])) (set7 W3 (w.heap.size + 1) (.slice none 0 0) (.int .i64 0) (.int .i64 0) (.int .i64 0) (.slice none 0 0) (.slice none 0 0) (.int .i64 0))) := ⟨.slice none 0 0, .slice none 0 0, .slice none 0 0, rfl, ShOwn.zero _ _, apart_nil _, set7_below HB3.out (by omega) _ _ _ _ _ _ _⟩
    clear hne HI hown hb2 hb3 hb13 q3 rQ3 HPUT c3
    rw [hW3] at z0 z1 z2 z3 z4 z5 z6 y0 y1 y2 y3 y4 y5 y6
    go_wp2
    rw [← hW3]
    obtain ⟨u0, u1, u2, u3, u4, u5, u6⟩ := HY
    unfold set7 at u0 u1 u2 u3 u4 u5 u6
    exact bodyPost_ret (v := .tuple #[.agg #[.slice none 0 0, .int .i64 0, .int .i64 0, .int .i64 0, .slice none 0 0, .slice none 0 0, .int .i64 0], .bool false]) (by simp [results, Tryz.results74, go_sem, u0, u1, u2, u3, u4, u5, u6]) rfl HFin.out
end Go.Proofs.YtbcfiiilikkkeaaGreatDoor
namespace Go.Proofs.YtbcfiiilikkkeaaGreatDoor
open Go.RowKit
set_option linter.unusedVariables false

set_option maxHeartbeats 400000 in
theorem implBT_no (st : Int) {a : Option Addr} {g off cap : Nat} (l : List ChangeL) (hlen : l.length ≤ 2097152) (w : World) (hf : ChangeAt w a g off l) (hsz : ∀ c ∈ l, smallChange 2097152 c) (hR : ¬ Batches.ok st l) :
    Calls Tryz.prog 70 #[.agg #[.int .i64 st, .slice a l.length cap]] w fun e w' => e = .returned (.tuple #[.string ⟨#[]⟩, .bool false]) ∧ Below w.heap.size w w' := by
  have HF : Hid (ChangeAt (w.alloc (Obj.cells #[Value.int IntKind.i64 st, Value.slice a l.length cap] 51)) a g off l) := hf.kept ((Below.refl _ _).alloc (Nat.le_refl _) _)
  have HS : Hid (∀ c ∈ l, smallChange 2097152 c) := hsz
  have HR : Hid (¬ Batches.ok st l) := hR
  clear hf hsz hR
  go_enter Tryz.func70, Tryz.ntmps70
  go_wp2_with (go_at_call 137; refine (implOk_any false st l hlen _ HF.out HS.out (by simp [HR.out])).mono ?_; rintro e w1 ⟨rfl, hb1⟩)
  go_ret2
  exact ⟨rfl, ((Below.refl _ _).alloc (Nat.le_refl _) _).trans (hb1.mono (by simp))⟩
set_option maxHeartbeats 1000000 in
set_option maxRecDepth 100000 in
theorem implBT_yes (st : Int) {a : Option Addr} {g off cap : Nat} (l : List ChangeL) (hlen : l.length ≤ 2097152) (w : World) (hf : ChangeAt w a g off l) (hsz : ∀ c ∈ l, smallChange 2097152 c) (hR : Batches.ok st l) :
    Calls Tryz.prog 70 #[.agg #[.int .i64 st, .slice a l.length cap]] w fun e w' => e = .returned (.tuple #[.string ⟨(Batches.text st.toNat l).toArray⟩, .bool true]) ∧ Below w.heap.size w w' := by
  obtain ⟨W, hW⟩ : ∃ W, W = w.alloc (Obj.cells #[Value.int IntKind.i64 st, Value.slice a l.length cap] 51) := ⟨_, rfl⟩
  have hWb : Below w.heap.size w W := by rw [hW]; exact (Below.refl _ _).alloc (Nat.le_refl _) _
  have hc0 : W.cell? ⟨w.heap.size, 0, none⟩ = some (.int .i64 st) := by rw [hW]; exact cell_of_row _ _ 0 _ _ _ (heap_alloc_new w _)
  have hc1 : W.cell? ⟨w.heap.size, 1, none⟩ = some (.slice a l.length cap) := by rw [hW]; exact cell_of_row _ _ 1 _ _ _ (heap_alloc_new w _)
  have hWz : w.heap.size < W.heap.size := World.block_lt_of_cell? W _ hc0
  have HF : Hid (ChangeAt W a g off l) := hf.kept hWb
  have HS : Hid (∀ c ∈ l, smallChange 2097152 c) := hsz
  have HR : Hid (Batches.ok st l) := hR
  have hst := hR.1
  have hl60 := hR.2.1
  clear hf hsz hR
  go_enter Tryz.func70, Tryz.ntmps70
  go_wp2_with fail
  rw [← hW]
  clear hW
  refine (implOk_any true st l hlen _ HF.out HS.out (by simp [HR.out])).mono ?_
  rintro e w1 ⟨rfl, hb1⟩
  have d0 : w1.cell? ⟨w.heap.size, 0, none⟩ = some (.int .i64 st) := (hb1.cell (p := ⟨w.heap.size, 0, none⟩) hWz).trans hc0
  have d1 : w1.cell? ⟨w.heap.size, 1, none⟩ = some (.slice a l.length cap) := (hb1.cell (p := ⟨w.heap.size, 1, none⟩) hWz).trans hc1
  have hB1 : Below w.heap.size w w1 := hWb.trans (hb1.mono hWb.size)
  have HF1 : Hid (ChangeAt w1 a g off l) := HF.out.kept hb1
  have hz1 : w.heap.size < w1.heap.size := Nat.lt_of_lt_of_le hWz hb1.size
  clear hWb hc0 hc1 hWz HF hb1
  go_wp2_with fail
  have z1 := varS_size st 100000 (by omega)
  have z2 := varS_size (l.length : Int) 60 (by omega)
  have z3 : ¬ 9223372036854775807 < (varS st).size + (varS (l.length : Int)).size := by omega
  have NE := Abv.ne w1
  have F0 := fun x : Abv w1 => x.cell d0
  have F1 := fun x : Abv w1 => x.cell d1
  refine wp_region_above (by kernel_rfl) (by kernel_rfl) ?_
  repeat (go_big_quiet_step (first | (go_at_call 138; exact calls_above (varOf_q _ (by omega) (by omega) _))))
  refine wpQuiet_nil ?_
  rintro w2 ⟨⟨_, hb2⟩, rfl⟩
  clear NE F0 F1
  have HI : Hid (Upto st l 0 (varS st ++ varS l.length)) := upto_zero st l
  have z4 : (varS st ++ varS l.length).size ≤ 200000 := by rw [ByteArray.size_append]; omega
  obtain ⟨S, hS⟩ : ∃ S, S = varS st ++ varS l.length := ⟨_, rfl⟩
  rw [← hS] at HI z4 ⊢
  clear hS z1 z2 z3
  have d2 : w2.cell? ⟨w.heap.size, 1, none⟩ = some (.slice a l.length cap) := (hb2.cell (p := ⟨w.heap.size, 1, none⟩) hz1).trans d1
  have hB2 : Below w.heap.size w w2 := hB1.trans (hb2.mono hB1.size)
  have HF2 : Hid (ChangeAt w2 a g off l) := HF1.out.kept hb2
  clear d0 d1 hB1 HF1 hz1 hb2
  go_wp2
  go_loopw [4, 21] (fun x i wr => ∃ (k : Nat) (S : ByteArray), k ≤ l.length ∧ i = .int .i64 (k : Int) ∧ x = .string S ∧ Upto st l k S ∧ S.size ≤ 200000 + 200 * k ∧ Below w2.heap.size w2 wr)
    (fun _ i _ => l.length - (intOf i).toNat)
  case atStart => exact ⟨0, S, Nat.zero_le _, rfl, rfl, HI.out, z4, Below.refl _ _⟩
  case round =>
    obtain ⟨k, S, hk, rfl, rfl, hup, hz, hbel⟩ := hrel
    have HU : Hid (Upto st l k S) := hup
    clear hup
    by_cases hlt : k < l.length
    · obtain ⟨c0, c1, c2⟩ := (HF2.out.kept hbel).2 k hlt
      have ea := HF2.out.1 (by omega)
      subst ea
      obtain ⟨A, hA⟩ : ∃ A, A = l[k].key := ⟨_, rfl⟩
      obtain ⟨V, hV⟩ : ∃ V, V = l[k].value := ⟨_, rfl⟩
      obtain ⟨G, hG⟩ : ∃ G, G = l[k].gone := ⟨_, rfl⟩
      obtain ⟨_, o1, _⟩ := HR.out.2.2 k hlt
      have s0 := o1.2.1
      have s1 := o1.2.2.1
      rw [← hA] at c0 s0
      rw [← hV] at c1 s1
      rw [← hG] at c2
      have HE : Hid (l[k] = ⟨A, V, G⟩) := by show _ = _; rw [hA, hV, hG]
      clear hA hV hG o1
      have hk0 : (0 : Int) ≤ (k : Int) := by omega
      have hk1 : (k : Int) < (l.length : Int) := by omega
      have y0 := shortS_size A 10 s0
      have y1 := shortS_size V 40 s1
      have y2 := flagS_size G
      go_wp2_with fail
      obtain ⟨W1, hW1⟩ : ∃ W1, W1 = wr.alloc (Obj.cells #[Value.string A, Value.string V, Value.bool G] 149) := ⟨_, rfl⟩
      rw [← hW1]
      have hB1 : Below wr.heap.size wr W1 := by rw [hW1]; exact (Below.refl _ _).alloc (Nat.le_refl _) _
      have f0 : W1.cell? ⟨wr.heap.size, 0, none⟩ = some (.string A) := by rw [hW1]; exact cell_of_row _ _ 0 _ _ _ (heap_alloc_new wr _)
      have f1 : W1.cell? ⟨wr.heap.size, 1, none⟩ = some (.string V) := by rw [hW1]; exact cell_of_row _ _ 1 _ _ _ (heap_alloc_new wr _)
      have f2 : W1.cell? ⟨wr.heap.size, 2, none⟩ = some (.bool G) := by rw [hW1]; exact cell_of_row _ _ 2 _ _ _ (heap_alloc_new wr _)
      have hw1 : Below w2.heap.size w2 W1 := hbel.trans (hB1.mono hbel.size)
      clear hW1 c0 c1 c2 hB1
      have x1 : ¬ 9223372036854775807 < (shortS A).size + (flagS G).size := by omega
      have x2 : ¬ 9223372036854775807 < (shortS A ++ flagS G).size + (shortS V).size := by rw [ByteArray.size_append]; omega
      have x3 : ¬ 9223372036854775807 < S.size + (shortS A ++ flagS G ++ shortS V).size := by rw [ByteArray.size_append, ByteArray.size_append]; omega
      have NE := Abv.ne W1
      have F0 := fun x : Abv W1 => x.cell f0
      have F1 := fun x : Abv W1 => x.cell f1
      have F2 := fun x : Abv W1 => x.cell f2
      refine wp_region_above (by kernel_rfl) (by kernel_rfl) ?_
      repeat (go_big_quiet_step (first | (go_at_call 139; exact calls_above (shortOf_q _ (by omega) _)) | (go_at_call 140; exact calls_above (flagOf_q _ _))))
      refine wpQuiet_nil ?_
      rintro w3 ⟨⟨_, hb3⟩, rfl⟩
      clear NE F0 F1 F2 f0 f1 f2 x1 x2 x3
      have HN : Hid (Upto st l (k + 1) (S ++ (shortS A ++ flagS G ++ shortS V))) := upto_step hlt HU.out HE.out (one_is A V G)
      have hz2 : (S ++ (shortS A ++ flagS G ++ shortS V)).size ≤ 200000 + 200 * (k + 1) := by rw [ByteArray.size_append, ByteArray.size_append, ByteArray.size_append]; omega
      obtain ⟨T, hT⟩ : ∃ T, T = S ++ (shortS A ++ flagS G ++ shortS V) := ⟨_, rfl⟩
      rw [← hT] at HN hz2 ⊢
      clear hT
      go_wp2
      go_roundw
      case rel => exact ⟨k + 1, T, by omega, by go_num, rfl, HN.out, hz2, hw1.trans (hb3.mono hw1.size)⟩
      case measure => simp [intOf]; omega
    · have hk1 : ¬ (k : Int) < (l.length : Int) := by omega
      have HE : Hid (S = ⟨(Batches.text st.toNat l).toArray⟩) := upto_all (by omega) HU.out
      go_wp2
      go_ret2
      exact ⟨by rw [← HE.out]; rfl, hB2.trans (hbel.mono hB2.size)⟩
set_option maxHeartbeats 400000 in
theorem implFrame_no (s : ByteArray) (hs : s.size ≤ maxLen) (h : ¬ (1 ≤ s.size ∧ s.size ≤ 9000)) (w : World) :
    Calls Tryz.prog 71 #[.string s] w fun e w' => e = .returned (.tuple #[.string ⟨#[]⟩, .bool false]) ∧ Below w.heap.size w w' := by
  unfold maxLen at hs
  go_enter Tryz.func71, Tryz.ntmps71
  go_wp2_with (go_at_call 141; refine (sizeOk_no _ (by omega) _).mono ?_; rintro e w' ⟨rfl, rfl⟩)
  go_ret2
  exact ⟨rfl, Below.refl _ _⟩

set_option maxHeartbeats 400000 in
theorem implFrame_yes (s : ByteArray) (h1 : 1 ≤ s.size) (h2 : s.size ≤ 9000) (w : World) :
    Calls Tryz.prog 71 #[.string s] w fun e w' => e = .returned (frameTuple s) ∧ Below w.heap.size w w' := by
  have hv := Words.var_len s.size
  have hf := four_size (Sums.sumOf s.data.toList)
  go_enter Tryz.func71, Tryz.ntmps71
  go_wp2_with (first | (go_at_call 141; refine (sizeOk_yes _ (by omega) _).mono ?_; rintro e w' ⟨rfl, rfl⟩) | (go_at_call 142; refine (implVar_yes s.size (by omega) _).mono ?_; rintro e w1 ⟨rfl, hb1⟩) | (go_at_call 143; refine (sealOf_any s (by omega) _).mono ?_; rintro e w2 ⟨rfl, hb2⟩))
  go_ret2
  exact ⟨rfl, hb1.trans (hb2.mono hb1.size)⟩

end Go.Proofs.YtbcfiiilikkkeaaGreatDoor
