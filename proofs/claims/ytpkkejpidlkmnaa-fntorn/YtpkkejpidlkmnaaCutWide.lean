/- The program's CutRaws, walked. -/
import Derived.Test.YtpkkejpidlkmnaaCut
namespace Go.Proofs.Ytpkkejpidlkmnaa.Wide
open Go.RowKit
set_option linter.unusedVariables false

set_option maxHeartbeats 2000000 in
set_option maxRecDepth 100000 in
theorem implCut_bad {a ra : Option Addr} {g off cap rg roff rcap : Nat} (l : List FileL) (rs : List Disks.RawL) (hlen : l.length ≤ 1048576) (hsz : ∀ f ∈ l, f.1.size ≤ 1048576 ∧ f.2.size ≤ 1048576) (hno : ¬ Disks.ok l) (WH PT : Int) (w : World) (hf : FilesAt w a g off l) :
    Calls Try.prog 39 #[.agg #[.slice a l.length cap], .slice ra rs.length rcap, .int .i64 WH, .int .i64 PT] w (putPost w none) := by
  have HF : Hid (FilesAt w a g off l) := hf
  clear hf
  have HS : Hid (∀ f ∈ l, f.1.size ≤ 1048576 ∧ f.2.size ≤ 1048576) := hsz
  have HN : Hid (¬ Disks.ok l) := hno
  clear hsz hno
  go_enter Try.func39, Try.ntmps39
  go_wp2_with fail
  obtain ⟨W1, hW1, hR1, hB1⟩ := res_start w (.slice a l.length cap)
  rw [← hW1]
  clear hW1
  refine (filesOf_no l hlen HS.out HN.out W1 (HF.out.kept hB1)).mono ?_
  rintro e w2 ⟨rfl, hb2⟩
  have hR2 := hR1.kept hb2
  have hB2 : Below w.heap.size w w2 := hB1.trans (hb2.mono hB1.size)
  clear hR1 hB1 hb2
  have hr := hR2.cr
  have hrf := hR2.fr
  have hres := World.cell?_setCell_same w2 _ (.slice none 0 0) hr
  clear hR2
  go_wp2
  exact bodyPost_ret (v := .tuple #[.agg #[.slice none 0 0], .bool false]) (by simp [results, Try.results39, go_sem, hres]) rfl ⟨_, rfl, World.ownsRow_nil _ _ _ _, hB2.setCell (by simp) _⟩

set_option maxHeartbeats 2000000 in
set_option maxRecDepth 100000 in
theorem implCut_big {a ra : Option Addr} {g off cap rg roff rcap : Nat} (l : List FileL) (rs : List Disks.RawL) (hok : Disks.ok l) (hrl : rs.length ≤ 1048576) (h60 : 60 < rs.length) (WH PT : Int) (w : World) (hf : FilesAt w a g off l) :
    Calls Try.prog 39 #[.agg #[.slice a l.length cap], .slice ra rs.length rcap, .int .i64 WH, .int .i64 PT] w (putPost w none) := by
  have HF : Hid (FilesAt w a g off l) := hf
  clear hf
  have HK : Hid (Disks.ok l) := hok
  clear hok
  have h1 : (60 : Int) < (rs.length : Int) := by omega
  go_enter Try.func39, Try.ntmps39
  go_wp2_with fail
  obtain ⟨W1, hW1, hR1, hB1⟩ := res_start w (.slice a l.length cap)
  rw [← hW1]
  clear hW1
  refine (filesOf_yes l HK.out W1 (HF.out.kept hB1)).mono ?_
  rintro e w2 ⟨b, rfl, hb, T2, hb2⟩
  have T2' : Hid (Table w2 b l) := T2
  have hR2 := hR1.kept hb2
  have hB2 : Below w.heap.size w w2 := hB1.trans (hb2.mono hB1.size)
  have hbb : w.heap.size + 1 < b := Nat.lt_of_lt_of_le hR1.lt hb
  clear T2 hR1 hB1 hb2 hb
  clear hbb T2'
  have hr := hR2.cr
  have hrf := hR2.fr
  have hres := World.cell?_setCell_same w2 _ (.slice none 0 0) hr
  clear hR2
  go_wp2
  exact bodyPost_ret (v := .tuple #[.agg #[.slice none 0 0], .bool false]) (by simp [results, Try.results39, go_sem, hres]) rfl ⟨_, rfl, World.ownsRow_nil _ _ _ _, hB2.setCell (by simp) _⟩

set_option maxHeartbeats 2000000 in
set_option maxRecDepth 100000 in
theorem implCut_low {a ra : Option Addr} {g off cap rg roff rcap : Nat} (l : List FileL) (rs : List Disks.RawL) (hok : Disks.ok l) (h60 : rs.length ≤ 60) (WH PT : Int) (hw : WH < 0) (w : World) (hf : FilesAt w a g off l) :
    Calls Try.prog 39 #[.agg #[.slice a l.length cap], .slice ra rs.length rcap, .int .i64 WH, .int .i64 PT] w (putPost w none) := by
  have HF : Hid (FilesAt w a g off l) := hf
  clear hf
  have HK : Hid (Disks.ok l) := hok
  clear hok
  have h1 : ¬ (60 : Int) < (rs.length : Int) := by omega
  go_enter Try.func39, Try.ntmps39
  go_wp2_with fail
  obtain ⟨W1, hW1, hR1, hB1⟩ := res_start w (.slice a l.length cap)
  rw [← hW1]
  clear hW1
  refine (filesOf_yes l HK.out W1 (HF.out.kept hB1)).mono ?_
  rintro e w2 ⟨b, rfl, hb, T2, hb2⟩
  have T2' : Hid (Table w2 b l) := T2
  have hR2 := hR1.kept hb2
  have hB2 : Below w.heap.size w w2 := hB1.trans (hb2.mono hB1.size)
  have hbb : w.heap.size + 1 < b := Nat.lt_of_lt_of_le hR1.lt hb
  clear T2 hR1 hB1 hb2 hb
  clear hbb T2'
  have hr := hR2.cr
  have hrf := hR2.fr
  have hres := World.cell?_setCell_same w2 _ (.slice none 0 0) hr
  clear hR2
  go_wp2
  exact bodyPost_ret (v := .tuple #[.agg #[.slice none 0 0], .bool false]) (by simp [results, Try.results39, go_sem, hres]) rfl ⟨_, rfl, World.ownsRow_nil _ _ _ _, hB2.setCell (by simp) _⟩

set_option maxHeartbeats 2000000 in
set_option maxRecDepth 100000 in
theorem implCut_high {a ra : Option Addr} {g off cap rg roff rcap : Nat} (l : List FileL) (rs : List Disks.RawL) (hok : Disks.ok l) (h60 : rs.length ≤ 60) (WH PT : Int) (hw0 : 0 ≤ WH) (hw : (rs.length : Int) < WH) (w : World) (hf : FilesAt w a g off l) :
    Calls Try.prog 39 #[.agg #[.slice a l.length cap], .slice ra rs.length rcap, .int .i64 WH, .int .i64 PT] w (putPost w none) := by
  have HF : Hid (FilesAt w a g off l) := hf
  clear hf
  have HK : Hid (Disks.ok l) := hok
  clear hok
  have h1 : ¬ (60 : Int) < (rs.length : Int) := by omega
  have h2 : ¬ WH < 0 := by omega
  go_enter Try.func39, Try.ntmps39
  go_wp2_with fail
  obtain ⟨W1, hW1, hR1, hB1⟩ := res_start w (.slice a l.length cap)
  rw [← hW1]
  clear hW1
  refine (filesOf_yes l HK.out W1 (HF.out.kept hB1)).mono ?_
  rintro e w2 ⟨b, rfl, hb, T2, hb2⟩
  have T2' : Hid (Table w2 b l) := T2
  have hR2 := hR1.kept hb2
  have hB2 : Below w.heap.size w w2 := hB1.trans (hb2.mono hB1.size)
  have hbb : w.heap.size + 1 < b := Nat.lt_of_lt_of_le hR1.lt hb
  clear T2 hR1 hB1 hb2 hb
  clear hbb T2'
  have hr := hR2.cr
  have hrf := hR2.fr
  have hres := World.cell?_setCell_same w2 _ (.slice none 0 0) hr
  clear hR2
  go_wp2
  exact bodyPost_ret (v := .tuple #[.agg #[.slice none 0 0], .bool false]) (by simp [results, Try.results39, go_sem, hres]) rfl ⟨_, rfl, World.ownsRow_nil _ _ _ _, hB2.setCell (by simp) _⟩

set_option maxHeartbeats 2000000 in
set_option maxRecDepth 100000 in
theorem implCut_neg {a ra : Option Addr} {g off cap rg roff rcap : Nat} (l : List FileL) (rs : List Disks.RawL) (hok : Disks.ok l) (h60 : rs.length ≤ 60) (wh : Nat) (hw : wh ≤ rs.length) (PT : Int) (hp : PT < 0) (w : World) (hf : FilesAt w a g off l) :
    Calls Try.prog 39 #[.agg #[.slice a l.length cap], .slice ra rs.length rcap, .int .i64 (wh : Int), .int .i64 PT] w (putPost w none) := by
  have HF : Hid (FilesAt w a g off l) := hf
  clear hf
  have HK : Hid (Disks.ok l) := hok
  clear hok
  have h1 : ¬ (60 : Int) < (rs.length : Int) := by omega
  have h2 : ¬ (wh : Int) < 0 := by omega
  have h3 : ¬ (rs.length : Int) < (wh : Int) := by omega
  go_enter Try.func39, Try.ntmps39
  go_wp2_with fail
  obtain ⟨W1, hW1, hR1, hB1⟩ := res_start w (.slice a l.length cap)
  rw [← hW1]
  clear hW1
  refine (filesOf_yes l HK.out W1 (HF.out.kept hB1)).mono ?_
  rintro e w2 ⟨b, rfl, hb, T2, hb2⟩
  have T2' : Hid (Table w2 b l) := T2
  have hR2 := hR1.kept hb2
  have hB2 : Below w.heap.size w w2 := hB1.trans (hb2.mono hB1.size)
  have hbb : w.heap.size + 1 < b := Nat.lt_of_lt_of_le hR1.lt hb
  clear T2 hR1 hB1 hb2 hb
  clear hbb T2'
  have hr := hR2.cr
  have hrf := hR2.fr
  have hres := World.cell?_setCell_same w2 _ (.slice none 0 0) hr
  clear hR2
  go_wp2
  exact bodyPost_ret (v := .tuple #[.agg #[.slice none 0 0], .bool false]) (by simp [results, Try.results39, go_sem, hres]) rfl ⟨_, rfl, World.ownsRow_nil _ _ _ _, hB2.setCell (by simp) _⟩

set_option maxHeartbeats 2000000 in
set_option maxRecDepth 100000 in
theorem implCut_far {a ra : Option Addr} {g off cap rg roff rcap : Nat} (l : List FileL) (rs : List Disks.RawL) (hok : Disks.ok l) (h60 : rs.length ≤ 60) (hrs : ∀ r ∈ rs, smallRaw 1048576 r) (hcap : rs.length ≤ rcap) (hc2 : rcap ≤ 9223372036854775807) (hnil : ra = none → rcap = 0) (wh : Nat) (hw : wh ≤ rs.length) (PT : Int) (hp0 : 0 ≤ PT) (hp : (Disks.room rs wh : Int) < PT) (w : World) (hf : FilesAt w a g off l) (hrf : RawsAt w ra rg roff rs) :
    Calls Try.prog 39 #[.agg #[.slice a l.length cap], .slice ra rs.length rcap, .int .i64 (wh : Int), .int .i64 PT] w (putPost w none) := by
  have HF : Hid (FilesAt w a g off l) := hf
  clear hf
  have HK : Hid (Disks.ok l) := hok
  clear hok
  have HRF : Hid (RawsAt w ra rg roff rs) := hrf
  have HR : Hid (∀ r ∈ rs, smallRaw 1048576 r) := hrs
  have h1 : decide ((60 : Int) < (rs.length : Int)) = false := decide_eq_false (by omega)
  have h2 : decide ((wh : Int) < 0) = false := decide_eq_false (by omega)
  have h3 : decide ((rs.length : Int) < (wh : Int)) = false := decide_eq_false (by omega)
  obtain ⟨SA, hsa, hSA⟩ := from_at (ra := ra) (rg := rg) (roff := roff) (rcap := rcap) rs wh hw hcap hrf.1
  obtain ⟨nd, hnd⟩ : ∃ nd, nd = (rs.drop wh).length := ⟨_, rfl⟩
  rw [← hnd] at hsa
  have HSA : Hid (∀ w, RawsAt w ra rg roff rs → RawsAt w SA rg (roff + wh * 4) (rs.drop wh)) := hSA
  have HRM : Hid (Disks.room (rs.drop wh) 0 = Disks.room rs wh) := by show _ = _; unfold Disks.room; rw [List.getElem?_drop, Nat.add_zero]
  obtain ⟨Z, hZ⟩ : ∃ Z, Z = Disks.room rs wh := ⟨_, rfl⟩
  have HLP : Hid (∀ wx : World, RawsAt wx SA rg (roff + wh * 4) (rs.drop wh) → Calls Try.prog 68 #[.slice SA nd (rcap - wh)] wx fun e w' => e = .returned (.int .i64 (Z : Int)) ∧ wx = w') := fun wx h => by
    rw [hZ, ← HRM.out, hnd]; exact longestPart_is (rs.drop wh) (by rw [List.length_drop]; omega) (fun r hr => (HR.out r (List.mem_of_mem_drop hr)).2.2) wx h
  rw [← hZ] at hp
  have HZ : Hid (Z = Disks.room rs wh) := hZ
  clear hrf hrs hSA hZ HRM hnd
  have h6 : decide (PT < 0) = false := decide_eq_false (by omega)
  go_enter Try.func39, Try.ntmps39
  go_wp2_with fail
  obtain ⟨W1, hW1, hR1, hB1⟩ := res_start w (.slice a l.length cap)
  rw [← hW1]
  clear hW1
  refine (filesOf_yes l HK.out W1 (HF.out.kept hB1)).mono ?_
  rintro e w2 ⟨b, rfl, hb, T2, hb2⟩
  have T2' : Hid (Table w2 b l) := T2
  have hR2 := hR1.kept hb2
  have hB2 : Below w.heap.size w w2 := hB1.trans (hb2.mono hB1.size)
  have hbb : w.heap.size + 1 < b := Nat.lt_of_lt_of_le hR1.lt hb
  clear T2 hR1 hB1 hb2 hb
  go_wp2_with fail
  refine (HLP.out w2 (HSA.out _ (HRF.out.kept hB2))).mono ?_
  rintro e w3 ⟨rfl, rfl⟩
  clear HLP
  have hr := hR2.cr
  have hrf := hR2.fr
  have hres := World.cell?_setCell_same w2 _ (.slice none 0 0) hr
  clear hR2
  go_wp2
  exact bodyPost_ret (v := .tuple #[.agg #[.slice none 0 0], .bool false]) (by simp [results, Try.results39, go_sem, hres]) rfl ⟨_, rfl, World.ownsRow_nil _ _ _ _, hB2.setCell (by simp) _⟩

set_option maxHeartbeats 2000000 in
set_option maxRecDepth 100000 in
theorem implCut_stop {a ra : Option Addr} {g off cap rg roff rcap : Nat} (l : List FileL) (rs : List Disks.RawL) (hok : Disks.ok l) (h60 : rs.length ≤ 60) (hrs : ∀ r ∈ rs, smallRaw 1048576 r) (hcap : rs.length ≤ rcap) (hc2 : rcap ≤ 9223372036854775807) (hnil : ra = none → rcap = 0) (wh : Nat) (hw : wh ≤ rs.length) (pt : Nat) (hp : pt ≤ Disks.room rs wh) (hs : (Disks.run l (rs.take wh)).2 < wh) (w : World) (hf : FilesAt w a g off l) (hrf : RawsAt w ra rg roff rs) :
    Calls Try.prog 39 #[.agg #[.slice a l.length cap], .slice ra rs.length rcap, .int .i64 (wh : Int), .int .i64 (pt : Int)] w (putPost w none) := by
  have HF : Hid (FilesAt w a g off l) := hf
  clear hf
  have HK : Hid (Disks.ok l) := hok
  clear hok
  have HRF : Hid (RawsAt w ra rg roff rs) := hrf
  have HR : Hid (∀ r ∈ rs, smallRaw 1048576 r) := hrs
  have h1 : decide ((60 : Int) < (rs.length : Int)) = false := decide_eq_false (by omega)
  have h2 : decide ((wh : Int) < 0) = false := decide_eq_false (by omega)
  have h3 : decide ((rs.length : Int) < (wh : Int)) = false := decide_eq_false (by omega)
  obtain ⟨SA, hsa, hSA⟩ := from_at (ra := ra) (rg := rg) (roff := roff) (rcap := rcap) rs wh hw hcap hrf.1
  obtain ⟨nd, hnd⟩ : ∃ nd, nd = (rs.drop wh).length := ⟨_, rfl⟩
  rw [← hnd] at hsa
  have HSA : Hid (∀ w, RawsAt w ra rg roff rs → RawsAt w SA rg (roff + wh * 4) (rs.drop wh)) := hSA
  have HRM : Hid (Disks.room (rs.drop wh) 0 = Disks.room rs wh) := by show _ = _; unfold Disks.room; rw [List.getElem?_drop, Nat.add_zero]
  obtain ⟨Z, hZ⟩ : ∃ Z, Z = Disks.room rs wh := ⟨_, rfl⟩
  have HLP : Hid (∀ wx : World, RawsAt wx SA rg (roff + wh * 4) (rs.drop wh) → Calls Try.prog 68 #[.slice SA nd (rcap - wh)] wx fun e w' => e = .returned (.int .i64 (Z : Int)) ∧ wx = w') := fun wx h => by
    rw [hZ, ← HRM.out, hnd]; exact longestPart_is (rs.drop wh) (by rw [List.length_drop]; omega) (fun r hr => (HR.out r (List.mem_of_mem_drop hr)).2.2) wx h
  rw [← hZ] at hp
  have HZ : Hid (Z = Disks.room rs wh) := hZ
  clear hrf hrs hSA hZ HRM hnd
  obtain ⟨SB, hsb, hSBn, hSB⟩ := to_at (ra := ra) (rg := rg) (roff := roff) (rcap := rcap) rs wh hw hcap hnil
  rw [List.length_take, Nat.min_eq_left hw] at hsb
  have HSB : Hid (∀ w, RawsAt w ra rg roff rs → RawsAt w SB rg roff (rs.take wh)) := hSB
  have HTK : Hid (∀ (b : Nat) (wx : World), Table wx b l → RawsAt wx SB rg roff (rs.take wh) → Calls Try.prog 64 #[.map (some b), .slice SB wh rcap] wx fun e w' => e = .returned (.int .i64 ((Disks.run l (rs.take wh)).2 : Int)) ∧ Table w' b (Disks.run l (rs.take wh)).1 ∧ wx.grownBy w' (some b)) := fun b wx h1 h2 => by
    have := tabOrder_is (rcap := rcap) l (rs.take wh) HK.out (by rw [List.length_take]; omega) (fun r hr => HR.out r (List.mem_of_mem_take hr)) b wx h1 h2
    rwa [show (rs.take wh).length = wh by rw [List.length_take, Nat.min_eq_left hw]] at this
  have hLk := Disks.run_ok (rs.take wh) HK.out
  have hLe := Disks.run_le (rs.take wh) l
  rw [List.length_take, Nat.min_eq_left hw] at hLe
  obtain ⟨L, m, hLm⟩ : ∃ L m, Disks.run l (rs.take wh) = (L, m) := ⟨_, _, rfl⟩
  rw [hLm] at HTK hLk hLe hs
  have HLK : Hid (Disks.ok L) := hLk
  simp only at HTK hLe hs
  clear hSB hSBn hLm hLk
  have h6 : decide ((pt : Int) < 0) = false := decide_eq_false (by omega)
  have h7 : decide ((Z : Int) < (pt : Int)) = false := decide_eq_false (by omega)
  have h8 : decide ((m : Int) < (wh : Int)) = true := decide_eq_true (by omega)
  go_enter Try.func39, Try.ntmps39
  go_wp2_with fail
  obtain ⟨W1, hW1, hR1, hB1⟩ := res_start w (.slice a l.length cap)
  rw [← hW1]
  clear hW1
  refine (filesOf_yes l HK.out W1 (HF.out.kept hB1)).mono ?_
  rintro e w2 ⟨b, rfl, hb, T2, hb2⟩
  have T2' : Hid (Table w2 b l) := T2
  have hR2 := hR1.kept hb2
  have hB2 : Below w.heap.size w w2 := hB1.trans (hb2.mono hB1.size)
  have hbb : w.heap.size + 1 < b := Nat.lt_of_lt_of_le hR1.lt hb
  clear T2 hR1 hB1 hb2 hb
  go_wp2_with fail
  refine (HLP.out w2 (HSA.out _ (HRF.out.kept hB2))).mono ?_
  rintro e w3 ⟨rfl, rfl⟩
  go_wp2_with fail
  refine (HTK.out b w2 T2'.out (HSB.out _ (HRF.out.kept hB2))).mono ?_
  rintro e w3 ⟨rfl, T3, g3⟩
  have T3' : Hid (Table w3 b L) := T3
  have hR3 := hR2.grown g3 hbb
  have hB3 : Below w.heap.size w w3 := below_grown hB2 g3 (by omega)
  have HRF3 : Hid (RawsAt w3 _ rg roff rs) := (HRF.out.kept hB2).grown T2'.out g3
  clear HTK T2' T3 hR2 hB2 g3
  clear HLP HRF3 T3' hbb
  have hr := hR3.cr
  have hrf := hR3.fr
  have hres := World.cell?_setCell_same w3 _ (.slice none 0 0) hr
  clear hR3
  go_wp2
  exact bodyPost_ret (v := .tuple #[.agg #[.slice none 0 0], .bool false]) (by simp [results, Try.results39, go_sem, hres]) rfl ⟨_, rfl, World.ownsRow_nil _ _ _ _, hB3.setCell (by simp) _⟩

set_option maxHeartbeats 2000000 in
set_option maxRecDepth 100000 in
theorem implCut_zero {a ra : Option Addr} {g off cap rg roff rcap : Nat} (l : List FileL) (rs : List Disks.RawL) (hok : Disks.ok l) (h60 : rs.length ≤ 60) (hrs : ∀ r ∈ rs, smallRaw 1048576 r) (hcap : rs.length ≤ rcap) (hc2 : rcap ≤ 9223372036854775807) (hnil : ra = none → rcap = 0) (wh : Nat) (hw : wh ≤ rs.length) (hp : 0 ≤ Disks.room rs wh) (hs : (Disks.run l (rs.take wh)).2 = wh) (w : World) (hf : FilesAt w a g off l) (hrf : RawsAt w ra rg roff rs) :
    Calls Try.prog 39 #[.agg #[.slice a l.length cap], .slice ra rs.length rcap, .int .i64 (wh : Int), .int .i64 0] w (putPost w (some (Disks.run l (rs.take wh)).1)) := by
  have HF : Hid (FilesAt w a g off l) := hf
  clear hf
  have HK : Hid (Disks.ok l) := hok
  clear hok
  have HRF : Hid (RawsAt w ra rg roff rs) := hrf
  have HR : Hid (∀ r ∈ rs, smallRaw 1048576 r) := hrs
  have h1 : decide ((60 : Int) < (rs.length : Int)) = false := decide_eq_false (by omega)
  have h2 : decide ((wh : Int) < 0) = false := decide_eq_false (by omega)
  have h3 : decide ((rs.length : Int) < (wh : Int)) = false := decide_eq_false (by omega)
  obtain ⟨SA, hsa, hSA⟩ := from_at (ra := ra) (rg := rg) (roff := roff) (rcap := rcap) rs wh hw hcap hrf.1
  obtain ⟨nd, hnd⟩ : ∃ nd, nd = (rs.drop wh).length := ⟨_, rfl⟩
  rw [← hnd] at hsa
  have HSA : Hid (∀ w, RawsAt w ra rg roff rs → RawsAt w SA rg (roff + wh * 4) (rs.drop wh)) := hSA
  have HRM : Hid (Disks.room (rs.drop wh) 0 = Disks.room rs wh) := by show _ = _; unfold Disks.room; rw [List.getElem?_drop, Nat.add_zero]
  obtain ⟨Z, hZ⟩ : ∃ Z, Z = Disks.room rs wh := ⟨_, rfl⟩
  have HLP : Hid (∀ wx : World, RawsAt wx SA rg (roff + wh * 4) (rs.drop wh) → Calls Try.prog 68 #[.slice SA nd (rcap - wh)] wx fun e w' => e = .returned (.int .i64 (Z : Int)) ∧ wx = w') := fun wx h => by
    rw [hZ, ← HRM.out, hnd]; exact longestPart_is (rs.drop wh) (by rw [List.length_drop]; omega) (fun r hr => (HR.out r (List.mem_of_mem_drop hr)).2.2) wx h
  rw [← hZ] at hp
  have HZ : Hid (Z = Disks.room rs wh) := hZ
  clear hrf hrs hSA hZ HRM hnd
  obtain ⟨SB, hsb, hSBn, hSB⟩ := to_at (ra := ra) (rg := rg) (roff := roff) (rcap := rcap) rs wh hw hcap hnil
  rw [List.length_take, Nat.min_eq_left hw] at hsb
  have HSB : Hid (∀ w, RawsAt w ra rg roff rs → RawsAt w SB rg roff (rs.take wh)) := hSB
  have HTK : Hid (∀ (b : Nat) (wx : World), Table wx b l → RawsAt wx SB rg roff (rs.take wh) → Calls Try.prog 64 #[.map (some b), .slice SB wh rcap] wx fun e w' => e = .returned (.int .i64 ((Disks.run l (rs.take wh)).2 : Int)) ∧ Table w' b (Disks.run l (rs.take wh)).1 ∧ wx.grownBy w' (some b)) := fun b wx h1 h2 => by
    have := tabOrder_is (rcap := rcap) l (rs.take wh) HK.out (by rw [List.length_take]; omega) (fun r hr => HR.out r (List.mem_of_mem_take hr)) b wx h1 h2
    rwa [show (rs.take wh).length = wh by rw [List.length_take, Nat.min_eq_left hw]] at this
  have hLk := Disks.run_ok (rs.take wh) HK.out
  have hLe := Disks.run_le (rs.take wh) l
  rw [List.length_take, Nat.min_eq_left hw] at hLe
  obtain ⟨L, m, hLm⟩ : ∃ L m, Disks.run l (rs.take wh) = (L, m) := ⟨_, _, rfl⟩
  rw [hLm] at HTK hLk hLe hs ⊢
  have HLK : Hid (Disks.ok L) := hLk
  simp only at HTK hLe hs ⊢
  clear hSB hSBn hLm hLk
  have h7 : decide ((Z : Int) < 0) = false := decide_eq_false (by omega)
  have h8 : decide ((m : Int) < (wh : Int)) = false := decide_eq_false (by omega)
  have h8n : decide (m < wh) = false := decide_eq_false (by omega)
  have h8m : ¬ m < wh := by omega
  clear hs
  go_enter Try.func39, Try.ntmps39
  go_wp2_with fail
  obtain ⟨W1, hW1, hR1, hB1⟩ := res_start w (.slice a l.length cap)
  rw [← hW1]
  clear hW1
  refine (filesOf_yes l HK.out W1 (HF.out.kept hB1)).mono ?_
  rintro e w2 ⟨b, rfl, hb, T2, hb2⟩
  have T2' : Hid (Table w2 b l) := T2
  have hR2 := hR1.kept hb2
  have hB2 : Below w.heap.size w w2 := hB1.trans (hb2.mono hB1.size)
  have hbb : w.heap.size + 1 < b := Nat.lt_of_lt_of_le hR1.lt hb
  clear T2 hR1 hB1 hb2 hb
  go_wp2_with fail
  refine (HLP.out w2 (HSA.out _ (HRF.out.kept hB2))).mono ?_
  rintro e w3 ⟨rfl, rfl⟩
  go_wp2_with fail
  refine (HTK.out b w2 T2'.out (HSB.out _ (HRF.out.kept hB2))).mono ?_
  rintro e w3 ⟨rfl, T3, g3⟩
  have T3' : Hid (Table w3 b L) := T3
  have hR3 := hR2.grown g3 hbb
  have hB3 : Below w.heap.size w w3 := below_grown hB2 g3 (by omega)
  have HRF3 : Hid (RawsAt w3 _ rg roff rs) := (HRF.out.kept hB2).grown T2'.out g3
  clear HTK T2' T3 hR2 hB2 g3
  clear HLP HRF3 hbb
  go_wp2_with fail
  refine (told_is L HLK.out b w3 T3'.out).mono ?_
  rintro e w9 ⟨v, rfl, hv, hb9⟩
  have hR9 := hR3.kept hb9
  have hr9 := hR9.cr
  have hrf9 := hR9.fr
  have hz9 := hR3.lt
  have hB9 : Below w.heap.size w w9 := hB3.trans (hb9.mono hB3.size)
  have HV : Hid (w9.ownsRow w3.heap.size 68 2 v L.length (cellsF L)) := hv
  obtain ⟨va, vc, rfl⟩ := own_slice hv
  have hres := World.cell?_setCell_same w9 _ (.slice va L.length vc) hr9
  clear hv T3' hb9 hR9 hR3
  go_wp2
  refine bodyPost_ret (v := .tuple #[.agg #[.slice va L.length vc], .bool true]) (by simp [results, Try.results39, go_sem, hres]) rfl ⟨_, rfl, ?_, hB9.setCell (by simp) _⟩
  exact own_set (own_mono HV.out hB3.size) _ _ _ (fun e => by have := (HV.out.lt _ e).1; omega)

set_option maxHeartbeats 2000000 in
set_option maxRecDepth 100000 in
theorem implCut_part {a ra : Option Addr} {g off cap rg roff rcap : Nat} (l : List FileL) (rs : List Disks.RawL) (hok : Disks.ok l) (h60 : rs.length ≤ 60) (hrs : ∀ r ∈ rs, smallRaw 1048576 r) (hcap : rs.length ≤ rcap) (hc2 : rcap ≤ 9223372036854775807) (hnil : ra = none → rcap = 0) (wh : Nat) (hw : wh ≤ rs.length) (pt : Nat) (hp : pt ≤ Disks.room rs wh) (hpos : 0 < pt) (hs : (Disks.run l (rs.take wh)).2 = wh) (o : Option (List FileL)) (ho : ∀ h : wh < rs.length, Disks.putRaw (Disks.run l (rs.take wh)).1 (Disks.begin rs[wh] pt) = o) (w : World) (hf : FilesAt w a g off l) (hrf : RawsAt w ra rg roff rs) :
    Calls Try.prog 39 #[.agg #[.slice a l.length cap], .slice ra rs.length rcap, .int .i64 (wh : Int), .int .i64 (pt : Int)] w (putPost w o) := by
  have HF : Hid (FilesAt w a g off l) := hf
  clear hf
  have HK : Hid (Disks.ok l) := hok
  clear hok
  have HRF : Hid (RawsAt w ra rg roff rs) := hrf
  have HR : Hid (∀ r ∈ rs, smallRaw 1048576 r) := hrs
  have h1 : decide ((60 : Int) < (rs.length : Int)) = false := decide_eq_false (by omega)
  have h2 : decide ((wh : Int) < 0) = false := decide_eq_false (by omega)
  have h3 : decide ((rs.length : Int) < (wh : Int)) = false := decide_eq_false (by omega)
  obtain ⟨SA, hsa, hSA⟩ := from_at (ra := ra) (rg := rg) (roff := roff) (rcap := rcap) rs wh hw hcap hrf.1
  obtain ⟨nd, hnd⟩ : ∃ nd, nd = (rs.drop wh).length := ⟨_, rfl⟩
  rw [← hnd] at hsa
  have HSA : Hid (∀ w, RawsAt w ra rg roff rs → RawsAt w SA rg (roff + wh * 4) (rs.drop wh)) := hSA
  have HRM : Hid (Disks.room (rs.drop wh) 0 = Disks.room rs wh) := by show _ = _; unfold Disks.room; rw [List.getElem?_drop, Nat.add_zero]
  obtain ⟨Z, hZ⟩ : ∃ Z, Z = Disks.room rs wh := ⟨_, rfl⟩
  have HLP : Hid (∀ wx : World, RawsAt wx SA rg (roff + wh * 4) (rs.drop wh) → Calls Try.prog 68 #[.slice SA nd (rcap - wh)] wx fun e w' => e = .returned (.int .i64 (Z : Int)) ∧ wx = w') := fun wx h => by
    rw [hZ, ← HRM.out, hnd]; exact longestPart_is (rs.drop wh) (by rw [List.length_drop]; omega) (fun r hr => (HR.out r (List.mem_of_mem_drop hr)).2.2) wx h
  rw [← hZ] at hp
  have HZ : Hid (Z = Disks.room rs wh) := hZ
  clear hrf hrs hSA hZ HRM hnd
  obtain ⟨SB, hsb, hSBn, hSB⟩ := to_at (ra := ra) (rg := rg) (roff := roff) (rcap := rcap) rs wh hw hcap hnil
  rw [List.length_take, Nat.min_eq_left hw] at hsb
  have HSB : Hid (∀ w, RawsAt w ra rg roff rs → RawsAt w SB rg roff (rs.take wh)) := hSB
  have HTK : Hid (∀ (b : Nat) (wx : World), Table wx b l → RawsAt wx SB rg roff (rs.take wh) → Calls Try.prog 64 #[.map (some b), .slice SB wh rcap] wx fun e w' => e = .returned (.int .i64 ((Disks.run l (rs.take wh)).2 : Int)) ∧ Table w' b (Disks.run l (rs.take wh)).1 ∧ wx.grownBy w' (some b)) := fun b wx h1 h2 => by
    have := tabOrder_is (rcap := rcap) l (rs.take wh) HK.out (by rw [List.length_take]; omega) (fun r hr => HR.out r (List.mem_of_mem_take hr)) b wx h1 h2
    rwa [show (rs.take wh).length = wh by rw [List.length_take, Nat.min_eq_left hw]] at this
  have hLk := Disks.run_ok (rs.take wh) HK.out
  have hLe := Disks.run_le (rs.take wh) l
  rw [List.length_take, Nat.min_eq_left hw] at hLe
  obtain ⟨L, m, hLm⟩ : ∃ L m, Disks.run l (rs.take wh) = (L, m) := ⟨_, _, rfl⟩
  rw [hLm] at HTK hLk hLe hs ho
  have HLK : Hid (Disks.ok L) := hLk
  simp only at HTK hLe hs ho
  clear hSB hSBn hLm hLk
  have h6 : decide ((pt : Int) < 0) = false := decide_eq_false (by omega)
  have h7 : decide ((Z : Int) < (pt : Int)) = false := decide_eq_false (by omega)
  have h8 : decide ((m : Int) < (wh : Int)) = false := decide_eq_false (by omega)
  have h8n : decide (m < wh) = false := decide_eq_false (by omega)
  have h8m : ¬ m < wh := by omega
  have hpw' : wh < rs.length := by have := HZ.out; exact Disks.room_pos (by omega)
  have ho1 := ho hpw'
  clear ho
  have ho := ho1
  clear hs ho1
  have hpw : wh < rs.length := by have := HZ.out; exact Disks.room_pos (by omega)
  have hkx : (0 : Int) < (pt : Int) := by omega
  have h9 : decide ((0 : Int) < (pt : Int)) = true := decide_eq_true hkx
  have hwi : (wh : Int) < (rs.length : Int) := by omega
  have hw0 : (0 : Int) ≤ (wh : Int) := by omega
  have ea := HRF.out.1 (by omega)
  subst ea
  have hsz := HR.out rs[wh] (List.getElem_mem _)
  have hpx : pt ≤ rs[wh].text.size := by
    have h := HZ.out
    rw [Disks.room_at hpw] at h
    unfold Disks.part at h
    split at h <;> omega
  have HPR : Hid (Disks.putRaw L (Disks.begin rs[wh] pt) = o) := ho
  have HCC : Hid (∀ wx, RawsAt wx (some ⟨rg, roff, none⟩) rg roff rs → _) := fun wx h => h.2 wh hpw
  obtain ⟨r, hr⟩ : ∃ r, r = rs[wh] := ⟨_, rfl⟩
  rw [← hr] at hsz hpx HPR HCC
  clear hr ho
  obtain ⟨K, M, O, X⟩ := r
  simp only at hsz hpx
  have hXs : X.size ≤ 1048576 := hsz.2.2
  have HSZ : Hid (M.size ≤ 1048576 ∧ O.size ≤ 1048576 ∧ (X.extract 0 pt).size ≤ 1048576) := ⟨hsz.1, hsz.2.1, by rw [ByteArray.size_extract]; omega⟩
  clear hsz
  go_enter Try.func39, Try.ntmps39
  go_wp2_with fail
  obtain ⟨W1, hW1, hR1, hB1⟩ := res_start w (.slice a l.length cap)
  rw [← hW1]
  clear hW1
  refine (filesOf_yes l HK.out W1 (HF.out.kept hB1)).mono ?_
  rintro e w2 ⟨b, rfl, hb, T2, hb2⟩
  have T2' : Hid (Table w2 b l) := T2
  have hR2 := hR1.kept hb2
  have hB2 : Below w.heap.size w w2 := hB1.trans (hb2.mono hB1.size)
  have hbb : w.heap.size + 1 < b := Nat.lt_of_lt_of_le hR1.lt hb
  clear T2 hR1 hB1 hb2 hb
  go_wp2_with fail
  refine (HLP.out w2 (HSA.out _ (HRF.out.kept hB2))).mono ?_
  rintro e w3 ⟨rfl, rfl⟩
  go_wp2_with fail
  refine (HTK.out b w2 T2'.out (HSB.out _ (HRF.out.kept hB2))).mono ?_
  rintro e w3 ⟨rfl, T3, g3⟩
  have T3' : Hid (Table w3 b L) := T3
  have hR3 := hR2.grown g3 hbb
  have hB3 : Below w.heap.size w w3 := below_grown hB2 g3 (by omega)
  have HRF3 : Hid (RawsAt w3 _ rg roff rs) := (HRF.out.kept hB2).grown T2'.out g3
  clear HTK T2' T3 hR2 hB2 g3
  obtain ⟨c0, c1, c2, c3⟩ := HCC.out w3 HRF3.out
  go_wp2_with fail
  refine (beginningOf_is K M O X pt hpx hXs w3).mono ?_
  rintro e w4 ⟨rfl, hb4⟩
  have T4' : Hid (Table w4 b L) := T3'.out.below hb4
  have hR4 := hR3.kept hb4
  have hB4 : Below w.heap.size w w4 := hB3.trans (hb4.mono hB3.size)
  clear T3' hR3 hB3 hb4 c0 c1 c2 c3 HCC HRF3
  go_wp2_with fail
  refine (tabDo_is L HLK.out ⟨K, M, O, X.extract 0 pt⟩ HSZ.out b w4 T4'.out).mono ?_
  rintro e w5 ⟨rfl, T5, g5⟩
  rw [show Disks.putRaw L ⟨K, M, O, X.extract 0 pt⟩ = o from HPR.out] at T5 ⊢
  have hR5 := hR4.grown g5 hbb
  have hB5 : Below w.heap.size w w5 := below_grown hB4 g5 (by omega)
  clear T4' hR4 hB4 g5 hbb HLP
  cases o with
  | none =>
    have hr := hR5.cr
    have hrf := hR5.fr
    have hres := World.cell?_setCell_same w5 _ (.slice none 0 0) hr
    clear hR5
    go_wp2
    exact bodyPost_ret (v := .tuple #[.agg #[.slice none 0 0], .bool false]) (by simp [results, Try.results39, go_sem, hres]) rfl ⟨_, rfl, World.ownsRow_nil _ _ _ _, hB5.setCell (by simp) _⟩
  | some L2 =>
    have T5' : Hid (Table w5 b L2) := T5
    have HL2 : Hid (Disks.ok L2) := Disks.put_ok HPR.out
    clear T5 HPR
    go_wp2_with fail
    refine (told_is L2 HL2.out b w5 T5'.out).mono ?_
    rintro e w9 ⟨v, rfl, hv, hb9⟩
    have hR9 := hR5.kept hb9
    have hr9 := hR9.cr
    have hrf9 := hR9.fr
    have hz9 := hR5.lt
    have hB9 : Below w.heap.size w w9 := hB5.trans (hb9.mono hB5.size)
    have HV : Hid (w9.ownsRow w5.heap.size 68 2 v L2.length (cellsF L2)) := hv
    obtain ⟨va, vc, rfl⟩ := own_slice hv
    have hres := World.cell?_setCell_same w9 _ (.slice va L2.length vc) hr9
    clear hv T5' hb9 hR9 hR5
    go_wp2
    refine bodyPost_ret (v := .tuple #[.agg #[.slice va L2.length vc], .bool true]) (by simp [results, Try.results39, go_sem, hres]) rfl ⟨_, rfl, ?_, hB9.setCell (by simp) _⟩
    exact own_set (own_mono HV.out hB5.size) _ _ _ (fun e => by have := (HV.out.lt _ e).1; omega)


theorem implCutRaws_is {a ra : Option Addr} {g off cap rg roff rcap : Nat} (l : List FileL) (rs : List Disks.RawL) (WH PT : Int) (hlen : l.length ≤ 1048576) (hsz : ∀ f ∈ l, f.1.size ≤ 1048576 ∧ f.2.size ≤ 1048576) (hrl : rs.length ≤ 1048576) (hrs : ∀ r ∈ rs, smallRaw 1048576 r) (hcap : rs.length ≤ rcap) (hc2 : rcap ≤ 9223372036854775807) (hnil : ra = none → rcap = 0) (w : World) (hf : FilesAt w a g off l) (hrf : RawsAt w ra rg roff rs) :
    Calls Try.prog 39 #[.agg #[.slice a l.length cap], .slice ra rs.length rcap, .int .i64 WH, .int .i64 PT] w (putPost w (Disks.cutAll l rs WH PT)) := by
  by_cases hok : Disks.ok l
  case neg => rw [Disks.cutAll_out (fun h => hok h.1)]; exact implCut_bad (rg := rg) (roff := roff) l rs hlen hsz hok WH PT w hf
  by_cases h60 : rs.length ≤ 60
  case neg => rw [Disks.cutAll_out (fun h => h60 h.2.1)]; exact implCut_big (rg := rg) (roff := roff) l rs hok hrl (by omega) WH PT w hf
  by_cases hw0 : WH < 0
  · rw [Disks.cutAll_out (fun h => by have := h.2.2.1.1; omega)]; exact implCut_low (rg := rg) (roff := roff) l rs hok h60 WH PT hw0 w hf
  by_cases hw1 : (rs.length : Int) < WH
  · rw [Disks.cutAll_out (fun h => by have := h.2.2.1.2; omega)]; exact implCut_high (rg := rg) (roff := roff) l rs hok h60 WH PT (by omega) hw1 w hf
  obtain ⟨wh, rfl⟩ := Int.eq_ofNat_of_zero_le (show 0 ≤ WH by omega)
  have hw : wh ≤ rs.length := by omega
  by_cases hp0 : PT < 0
  · rw [Disks.cutAll_out (fun h => by have := h.2.2.2.1; omega)]; exact implCut_neg (rg := rg) (roff := roff) l rs hok h60 wh hw PT hp0 w hf
  by_cases hp1 : (Disks.room rs wh : Int) < PT
  · rw [Disks.cutAll_out (fun h => by have := h.2.2.2.2; rw [Int.toNat_natCast] at this; omega)]
    exact implCut_far l rs hok h60 hrs hcap hc2 hnil wh hw PT (by omega) hp1 w hf hrf
  obtain ⟨pt, rfl⟩ := Int.eq_ofNat_of_zero_le (show 0 ≤ PT by omega)
  have hp : pt ≤ Disks.room rs wh := by omega
  rw [Disks.cutAll_in ⟨hok, h60, ⟨by omega, by omega⟩, by omega, by rw [Int.toNat_natCast]; omega⟩, Int.toNat_natCast, Int.toNat_natCast]
  have hle := Disks.run_le (rs.take wh) l
  have htl : (rs.take wh).length = wh := by rw [List.length_take, Nat.min_eq_left hw]
  rw [htl] at hle
  by_cases hs : (Disks.run l (rs.take wh)).2 = wh
  · rcases Nat.eq_zero_or_pos pt with hz | hz
    · subst hz
      rw [Disks.cutDone_zero, Disks.whole, if_pos (by rw [htl]; exact hs)]
      exact implCut_zero l rs hok h60 hrs hcap hc2 hnil wh hw (Nat.zero_le _) hs w hf hrf
    · have hlt := Disks.room_pos (rs := rs) (wh := wh) (by omega)
      refine implCut_part l rs hok h60 hrs hcap hc2 hnil wh hw pt hp hz hs _ (fun h => ?_) w hf hrf
      rw [Disks.cutDone_part hlt hz, Disks.whole_snoc, Disks.whole, if_pos (by rw [htl]; exact hs)]
      rfl
  · have hn : Disks.whole l (Disks.cutDone rs wh pt) = none := by
      have h1 : Disks.whole l (rs.take wh) = none := by rw [Disks.whole, if_neg (by rw [htl]; exact hs)]
      rcases Nat.eq_zero_or_pos pt with hz | hz
      · subst hz; rw [Disks.cutDone_zero]; exact h1
      · rw [Disks.cutDone_part (Disks.room_pos (rs := rs) (wh := wh) (by omega)) hz, Disks.whole_snoc, h1]; rfl
    rw [hn]
    exact implCut_stop l rs hok h60 hrs hcap hc2 hnil wh hw pt hp (by omega) w hf hrf
end Go.Proofs.Ytpkkejpidlkmnaa.Wide
