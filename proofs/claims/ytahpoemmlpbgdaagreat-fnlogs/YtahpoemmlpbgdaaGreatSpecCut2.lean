/- The specification's CutRaws, walked. -/
import Derived.Test.YtahpoemmlpbgdaaGreatSpecCut
namespace Go.Proofs.YtahpoemmlpbgdaaGreat
open Go.RowKit
set_option linter.unusedVariables false

theorem one_raw (w : World) (o : Obj) (K : Int) (M O X : ByteArray) : RawsAt ((w.alloc o).alloc (Obj.cells #[.int .i64 K, .string M, .string O, .string X] 69)) (some ⟨w.heap.size + 1, 0, none⟩) (w.heap.size + 1) 0 [⟨K, M, O, X⟩] := by
  refine ⟨fun _ => rfl, fun j hj => ?_⟩
  obtain rfl : j = 0 := by simpa using hj
  have h := two_1 w o (Obj.cells #[.int .i64 K, .string M, .string O, .string X] 69)
  exact ⟨cell_of_row _ _ 0 _ _ _ h, cell_of_row _ _ 1 _ _ _ h, cell_of_row _ _ 2 _ _ _ h, cell_of_row _ _ 3 _ _ _ h⟩

set_option maxHeartbeats 4000000 in
set_option maxRecDepth 100000 in
theorem specCut_bad {a ra : Option Addr} {g off cap rg roff rcap : Nat} (l : List FileL) (rs : List Disks.RawL) (hlen : l.length ≤ 1048576) (hsz : ∀ f ∈ l, f.1.size ≤ 1048576 ∧ f.2.size ≤ 1048576) (hno : ¬ Disks.ok l) (WH PT : Int) (w : World) (hf : FilesAt w a g off l) :
    Calls Tryz.prog 38 #[.agg #[.slice a l.length cap], .slice ra rs.length rcap, .int .i64 WH, .int .i64 PT] w (putPost w none) := by
  have HF : Hid (FilesAt w a g off l) := hf
  clear hf
  have HS : Hid (∀ f ∈ l, f.1.size ≤ 1048576 ∧ f.2.size ≤ 1048576) := hsz
  have HN : Hid (¬ Disks.ok l) := hno
  clear hsz hno
  go_enter Tryz.func38, Tryz.ntmps38
  go_wp2_with fail
  obtain ⟨W1, hW1, hR1, hB1⟩ := res_start w (.slice a l.length cap)
  rw [← hW1]
  clear hW1
  refine (specDiskOk_any false l hlen W1 (HF.out.kept hB1) HS.out ⟨fun h => absurd h Bool.false_ne_true, fun h => absurd h HN.out⟩).mono ?_
  rintro e w2 ⟨rfl, hb2⟩
  have hR2 := hR1.kept hb2
  have hB2 : Below w.heap.size w w2 := hB1.trans (hb2.mono hB1.size)
  clear hR1 hB1 hb2
  have hr := hR2.cr
  have hrf := hR2.fr
  have hres := World.cell?_setCell_same w2 _ (.slice none 0 0) hr
  clear hR2
  go_wp2
  exact bodyPost_ret (v := .tuple #[.agg #[.slice none 0 0], .bool false]) (by simp [results, Tryz.results38, go_sem, hres]) rfl ⟨_, rfl, World.ownsRow_nil _ _ _ _, hB2.setCell (by simp) _⟩

set_option maxHeartbeats 4000000 in
set_option maxRecDepth 100000 in
theorem specCut_big {a ra : Option Addr} {g off cap rg roff rcap : Nat} (l : List FileL) (rs : List Disks.RawL) (hok : Disks.ok l) (hrl : rs.length ≤ 1048576) (h60 : 60 < rs.length) (WH PT : Int) (w : World) (hf : FilesAt w a g off l) :
    Calls Tryz.prog 38 #[.agg #[.slice a l.length cap], .slice ra rs.length rcap, .int .i64 WH, .int .i64 PT] w (putPost w none) := by
  have HF : Hid (FilesAt w a g off l) := hf
  clear hf
  have HK : Hid (Disks.ok l) := hok
  clear hok
  have h1 : decide ((60 : Int) < (rs.length : Int)) = true := decide_eq_true (by omega)
  go_enter Tryz.func38, Tryz.ntmps38
  go_wp2_with fail
  obtain ⟨W1, hW1, hR1, hB1⟩ := res_start w (.slice a l.length cap)
  rw [← hW1]
  clear hW1
  refine (specDiskOk_any true l (by have := HK.out.1; omega) W1 (HF.out.kept hB1) (fun f h => by have := ok_sizes HK.out f h; omega) ⟨fun _ => HK.out, fun _ => rfl⟩).mono ?_
  rintro e w2 ⟨rfl, hb2⟩
  have hR2 := hR1.kept hb2
  have hB2 : Below w.heap.size w w2 := hB1.trans (hb2.mono hB1.size)
  clear hR1 hB1 hb2
  have hr := hR2.cr
  have hrf := hR2.fr
  have hres := World.cell?_setCell_same w2 _ (.slice none 0 0) hr
  clear hR2
  go_wp2
  exact bodyPost_ret (v := .tuple #[.agg #[.slice none 0 0], .bool false]) (by simp [results, Tryz.results38, go_sem, hres]) rfl ⟨_, rfl, World.ownsRow_nil _ _ _ _, hB2.setCell (by simp) _⟩

set_option maxHeartbeats 4000000 in
set_option maxRecDepth 100000 in
theorem specCut_wh {a ra : Option Addr} {g off cap rg roff rcap : Nat} (l : List FileL) (rs : List Disks.RawL) (hok : Disks.ok l) (h60 : rs.length ≤ 60) (WH PT : Int) (hw : ¬ (0 ≤ WH ∧ WH ≤ (rs.length : Int))) (w : World) (hf : FilesAt w a g off l) :
    Calls Tryz.prog 38 #[.agg #[.slice a l.length cap], .slice ra rs.length rcap, .int .i64 WH, .int .i64 PT] w (putPost w none) := by
  have HF : Hid (FilesAt w a g off l) := hf
  clear hf
  have HK : Hid (Disks.ok l) := hok
  clear hok
  have h1 : decide ((60 : Int) < (rs.length : Int)) = false := decide_eq_false (by omega)
  have HW : Hid (¬ (0 ≤ WH ∧ WH ≤ (rs.length : Int))) := hw
  clear hw
  go_enter Tryz.func38, Tryz.ntmps38
  go_wp2_with fail
  obtain ⟨W1, hW1, hR1, hB1⟩ := res_start w (.slice a l.length cap)
  rw [← hW1]
  clear hW1
  refine (specDiskOk_any true l (by have := HK.out.1; omega) W1 (HF.out.kept hB1) (fun f h => by have := ok_sizes HK.out f h; omega) ⟨fun _ => HK.out, fun _ => rfl⟩).mono ?_
  rintro e w2 ⟨rfl, hb2⟩
  have hR2 := hR1.kept hb2
  have hB2 : Below w.heap.size w w2 := hB1.trans (hb2.mono hB1.size)
  clear hR1 hB1 hb2
  have hr := hR2.cr
  have hrf := hR2.fr
  have hres := World.cell?_setCell_same w2 _ (.slice none 0 0) hr
  clear hR2
  go_wp2_with fail
  refine (in_no_pk WH 0 (rs.length : Int) HW.out w2).mono ?_
  rintro e w3 ⟨rfl, rfl⟩
  go_wp2
  exact bodyPost_ret (v := .tuple #[.agg #[.slice none 0 0], .bool false]) (by simp [results, Tryz.results38, go_sem, hres]) rfl ⟨_, rfl, World.ownsRow_nil _ _ _ _, hB2.setCell (by simp) _⟩

set_option maxHeartbeats 4000000 in
set_option maxRecDepth 100000 in
theorem specCut_pt {a ra : Option Addr} {g off cap rg roff rcap : Nat} (l : List FileL) (rs : List Disks.RawL) (hok : Disks.ok l) (h60 : rs.length ≤ 60) (hrs : ∀ r ∈ rs, smallRaw 1048576 r) (wh : Nat) (hw : wh ≤ rs.length) (PT : Int) (hp : ¬ (0 ≤ PT ∧ PT ≤ (Disks.room rs wh : Int))) (w : World) (hf : FilesAt w a g off l) (hrf : RawsAt w ra rg roff rs) :
    Calls Tryz.prog 38 #[.agg #[.slice a l.length cap], .slice ra rs.length rcap, .int .i64 (wh : Int), .int .i64 PT] w (putPost w none) := by
  have HF : Hid (FilesAt w a g off l) := hf
  clear hf
  have HK : Hid (Disks.ok l) := hok
  clear hok
  have h1 : decide ((60 : Int) < (rs.length : Int)) = false := decide_eq_false (by omega)
  have HRF : Hid (RawsAt w ra rg roff rs) := hrf
  have HR : Hid (∀ r ∈ rs, smallRaw 1048576 r) := hrs
  obtain ⟨Z, hZ⟩ : ∃ Z, Z = Disks.room rs wh := ⟨_, rfl⟩
  have HRM : Hid (∀ wx : World, RawsAt wx ra rg roff rs → Calls Tryz.prog 74 #[.slice ra rs.length rcap, .int .i64 (wh : Int)] wx fun e w' => e = .returned (.int .i64 (Z : Int)) ∧ wx = w') := fun wx h => by
    rw [hZ]; exact l03Room_is rs (by omega) HR.out wh hw wx h
  rw [← hZ] at hp
  have HZ : Hid (Z = Disks.room rs wh) := hZ
  clear hrf hrs hZ
  have HP : Hid (¬ (0 ≤ PT ∧ PT ≤ (Z : Int))) := hp
  clear hp
  go_enter Tryz.func38, Tryz.ntmps38
  go_wp2_with fail
  obtain ⟨W1, hW1, hR1, hB1⟩ := res_start w (.slice a l.length cap)
  rw [← hW1]
  clear hW1
  refine (specDiskOk_any true l (by have := HK.out.1; omega) W1 (HF.out.kept hB1) (fun f h => by have := ok_sizes HK.out f h; omega) ⟨fun _ => HK.out, fun _ => rfl⟩).mono ?_
  rintro e w2 ⟨rfl, hb2⟩
  have hR2 := hR1.kept hb2
  have hB2 : Below w.heap.size w w2 := hB1.trans (hb2.mono hB1.size)
  clear hR1 hB1 hb2
  go_wp2_with fail
  refine (in_yes_pk (wh : Int) 0 (rs.length : Int) ⟨by omega, by omega⟩ w2).mono ?_
  rintro e w3 ⟨rfl, rfl⟩
  go_wp2_with fail
  refine (HRM.out w2 (HRF.out.kept hB2)).mono ?_
  rintro e w3 ⟨rfl, rfl⟩
  go_wp2_with fail
  refine (in_no_pk PT 0 (Z : Int) HP.out w2).mono ?_
  rintro e w3 ⟨rfl, rfl⟩
  have hr := hR2.cr
  have hrf := hR2.fr
  have hres := World.cell?_setCell_same w2 _ (.slice none 0 0) hr
  clear hR2
  go_wp2
  exact bodyPost_ret (v := .tuple #[.agg #[.slice none 0 0], .bool false]) (by simp [results, Tryz.results38, go_sem, hres]) rfl ⟨_, rfl, World.ownsRow_nil _ _ _ _, hB2.setCell (by simp) _⟩

set_option maxHeartbeats 4000000 in
set_option maxRecDepth 100000 in
theorem specCut_zero_y {a ra : Option Addr} {g off cap rg roff rcap : Nat} (l : List FileL) (rs : List Disks.RawL) (hok : Disks.ok l) (h60 : rs.length ≤ 60) (hrs : ∀ r ∈ rs, smallRaw 1048576 r) (wh : Nat) (hw : wh ≤ rs.length) (hcap : rs.length ≤ rcap) (hc2 : rcap ≤ 9223372036854775807) (hnil : ra = none → rcap = 0) (hdn : a = none → cap = 0) (hp : 0 ≤ Disks.room rs wh) (hn : (Disks.run l (rs.take wh)).2 = (rs.take wh).length) (w : World) (hf : FilesAt w a g off l) (hrf : RawsAt w ra rg roff rs) :
    Calls Tryz.prog 38 #[.agg #[.slice a l.length cap], .slice ra rs.length rcap, .int .i64 (wh : Int), .int .i64 0] w (putPost w (some (Disks.run l (rs.take wh)).1)) := by
  have HF : Hid (FilesAt w a g off l) := hf
  clear hf
  have HK : Hid (Disks.ok l) := hok
  clear hok
  have h1 : decide ((60 : Int) < (rs.length : Int)) = false := decide_eq_false (by omega)
  have HRF : Hid (RawsAt w ra rg roff rs) := hrf
  have HR : Hid (∀ r ∈ rs, smallRaw 1048576 r) := hrs
  obtain ⟨Z, hZ⟩ : ∃ Z, Z = Disks.room rs wh := ⟨_, rfl⟩
  have HRM : Hid (∀ wx : World, RawsAt wx ra rg roff rs → Calls Tryz.prog 74 #[.slice ra rs.length rcap, .int .i64 (wh : Int)] wx fun e w' => e = .returned (.int .i64 (Z : Int)) ∧ wx = w') := fun wx h => by
    rw [hZ]; exact l03Room_is rs (by omega) HR.out wh hw wx h
  rw [← hZ] at hp
  have HZ : Hid (Z = Disks.room rs wh) := hZ
  clear hrf hrs hZ
  obtain ⟨SB, hsb, hSBn, hSB⟩ := to_at (ra := ra) (rg := rg) (roff := roff) (rcap := rcap) rs wh hw hcap hnil
  rw [List.length_take, Nat.min_eq_left hw] at hsb
  have htl : (rs.take wh).length = wh := by rw [List.length_take, Nat.min_eq_left hw]
  have hdr : ∀ r ∈ rs.take wh, smallRaw 1048576 r := fun r hr => HR.out r (List.mem_of_mem_take hr)
  obtain ⟨D, hD⟩ : ∃ D, D = rs.take wh := ⟨_, rfl⟩
  rw [← hD] at hSB htl hdr hn ⊢
  have HSB : Hid (∀ w, RawsAt w ra rg roff rs → RawsAt w SB rg roff D) := hSB
  have HSN : Hid (SB = none → rcap = 0) := hSBn
  have HTL : Hid (D.length = wh) := htl
  have HDR : Hid (∀ r ∈ D, smallRaw 1048576 r) := hdr
  have HDN : Hid (a = none → cap = 0) := hdn
  clear hSB hSBn htl hdr hD hdn
  have HPR : Hid (∀ (wx : World) (va : Option Addr) (dg vc : Nat), FilesAt wx a g off l → RawsAt wx va dg 0 D → Calls Tryz.prog 11 #[.agg #[.slice a l.length cap], .slice va D.length vc] wx (rawsPost wx (Disks.run l D).1 (Disks.run l D).2)) := fun wx va dg vc h1 h2 => specPutRaws_yes l D HK.out (by have := HTL.out; omega) HDN.out HDR.out wx h1 h2
  obtain ⟨R, n, hRn⟩ : ∃ R n, Disks.run l D = (R, n) := ⟨_, _, rfl⟩
  rw [hRn] at HPR hn ⊢
  simp only at HPR hn ⊢
  clear hRn
  have h9 : ((n : Int) != (D.length : Int)) = false := by rw [hn]; simp
  have h9n : (n != D.length) = false := by rw [hn]; simp
  clear hn
  go_enter Tryz.func38, Tryz.ntmps38
  go_wp2_with fail
  obtain ⟨W1, hW1, hR1, hB1⟩ := res_start w (.slice a l.length cap)
  rw [← hW1]
  clear hW1
  refine (specDiskOk_any true l (by have := HK.out.1; omega) W1 (HF.out.kept hB1) (fun f h => by have := ok_sizes HK.out f h; omega) ⟨fun _ => HK.out, fun _ => rfl⟩).mono ?_
  rintro e w2 ⟨rfl, hb2⟩
  have hR2 := hR1.kept hb2
  have hB2 : Below w.heap.size w w2 := hB1.trans (hb2.mono hB1.size)
  clear hR1 hB1 hb2
  go_wp2_with fail
  refine (in_yes_pk (wh : Int) 0 (rs.length : Int) ⟨by omega, by omega⟩ w2).mono ?_
  rintro e w3 ⟨rfl, rfl⟩
  go_wp2_with fail
  refine (HRM.out w2 (HRF.out.kept hB2)).mono ?_
  rintro e w3 ⟨rfl, rfl⟩
  go_wp2_with fail
  refine (in_yes_pk 0 0 (Z : Int) ⟨by omega, by omega⟩ w2).mono ?_
  rintro e w3 ⟨rfl, rfl⟩
  go_wp2_with (first | (at_builtin; refine wpList_appendRaw rfl _ _ rfl w2.heap.size (.slice (some ⟨w2.heap.size, 0, none⟩) 0 0) 0 [] rfl (World.ownsRow_made w2 #[] 0 (Nat.le_refl _) (by unfold maxLen; omega) rfl) SB rg roff rcap D (by rw [HTL.out]; rfl) ((HSB.out _ (HRF.out.kept hB2)).kept ((Below.refl _ _).alloc (Nat.le_refl _) _)) HSN.out (by rw [HTL.out]; omega) (by simp) ?_; intro v3 w3 hown3 hg3; rw [Nat.zero_add, List.nil_append] at hown3; obtain ⟨v3a, v3c, rfl⟩ := own_slice hown3; (have hb3 : Below w2.heap.size w2 w3 := ((Below.refl _ _).alloc (Nat.le_refl _) _).grown hg3 (by simp) (fun j hj => by cases hj; exact Nat.le_refl _)); (have hR3 := hR2.kept hb3); (have hd3 := hR3.cd); (have hB3 : Below w.heap.size w w3 := hB2.trans (hb3.mono hB2.size)); (have HO3 : Hid (w3.ownsRow w2.heap.size 69 4 (.slice v3a D.length v3c) D.length (cellsRaw D)) := hown3); clear hg3 hown3; go_frame) | fail)
  obtain ⟨dg, hda⟩ : ∃ g, RawsAt w3 v3a g 0 D := by
    obtain ⟨x, y, z, e, h⟩ := cellsRaw_slice HO3.out
    cases e; exact ⟨y, h⟩
  refine (HPR.out w3 v3a dg v3c (HF.out.kept hB3) hda).mono ?_
  rintro e w6 ⟨v, rfl, hown6, hb6⟩
  have hR6 := hR3.kept hb6
  have hB6 : Below w.heap.size w w6 := hB3.trans (hb6.mono hB3.size)
  obtain ⟨va6, vc6, rfl⟩ := own_slice hown6
  have HO6 : Hid (w6.ownsRow w3.heap.size 38 2 (.slice va6 R.length vc6) R.length (cellsF R)) := hown6
  have hz6 := hR3.lt
  have hR7 : ResAt w.heap.size (.slice a l.length cap) (w6.alloc (Obj.cells #[Value.slice va6 R.length vc6] 41)) := hR6.kept ((Below.refl _ _).alloc (Nat.le_refl _) _)
  have hB7 : Below w.heap.size w (w6.alloc (Obj.cells #[Value.slice va6 R.length vc6] 41)) := hB6.alloc hB6.size _
  have hr7 := hR7.cr
  have hrf7 := hR7.fr
  have hv7 : (w6.alloc (Obj.cells #[Value.slice va6 R.length vc6] 41)).cell? ⟨w6.heap.size, 0, none⟩ = some (.slice va6 R.length vc6) := cell_of_row _ _ 0 _ _ _ (heap_alloc_new w6 _)
  have HO7 : Hid ((w6.alloc (Obj.cells #[Value.slice va6 R.length vc6] 41)).ownsRow w.heap.size 38 2 (.slice va6 R.length vc6) R.length (cellsF R)) := own_mono (HO6.out.alloc _) hB3.size
  have hne7 : Hid ((Value.slice va6 R.length vc6).ownBlock ≠ some (w.heap.size + 1)) := fun e => by have := (HO6.out.lt _ e).1; omega
  clear hown6 hb6 hda HPR HO6 hR6 hR7 hB6
  have hres := World.cell?_setCell_same (w6.alloc (Obj.cells #[Value.slice va6 R.length vc6] 41)) _ (.slice va6 R.length vc6) hr7
  go_wp2
  exact bodyPost_ret (v := .tuple #[.agg #[.slice va6 R.length vc6], .bool true]) (by simp [results, Tryz.results38, go_sem, hres]) rfl ⟨_, rfl, own_set HO7.out _ _ _ hne7.out, hB7.setCell (by simp) _⟩

set_option maxHeartbeats 4000000 in
set_option maxRecDepth 100000 in
theorem specCut_zero_n {a ra : Option Addr} {g off cap rg roff rcap : Nat} (l : List FileL) (rs : List Disks.RawL) (hok : Disks.ok l) (h60 : rs.length ≤ 60) (hrs : ∀ r ∈ rs, smallRaw 1048576 r) (wh : Nat) (hw : wh ≤ rs.length) (hcap : rs.length ≤ rcap) (hc2 : rcap ≤ 9223372036854775807) (hnil : ra = none → rcap = 0) (hdn : a = none → cap = 0) (hp : 0 ≤ Disks.room rs wh) (hn : ¬ (Disks.run l (rs.take wh)).2 = (rs.take wh).length) (w : World) (hf : FilesAt w a g off l) (hrf : RawsAt w ra rg roff rs) :
    Calls Tryz.prog 38 #[.agg #[.slice a l.length cap], .slice ra rs.length rcap, .int .i64 (wh : Int), .int .i64 0] w (putPost w none) := by
  have HF : Hid (FilesAt w a g off l) := hf
  clear hf
  have HK : Hid (Disks.ok l) := hok
  clear hok
  have h1 : decide ((60 : Int) < (rs.length : Int)) = false := decide_eq_false (by omega)
  have HRF : Hid (RawsAt w ra rg roff rs) := hrf
  have HR : Hid (∀ r ∈ rs, smallRaw 1048576 r) := hrs
  obtain ⟨Z, hZ⟩ : ∃ Z, Z = Disks.room rs wh := ⟨_, rfl⟩
  have HRM : Hid (∀ wx : World, RawsAt wx ra rg roff rs → Calls Tryz.prog 74 #[.slice ra rs.length rcap, .int .i64 (wh : Int)] wx fun e w' => e = .returned (.int .i64 (Z : Int)) ∧ wx = w') := fun wx h => by
    rw [hZ]; exact l03Room_is rs (by omega) HR.out wh hw wx h
  rw [← hZ] at hp
  have HZ : Hid (Z = Disks.room rs wh) := hZ
  clear hrf hrs hZ
  obtain ⟨SB, hsb, hSBn, hSB⟩ := to_at (ra := ra) (rg := rg) (roff := roff) (rcap := rcap) rs wh hw hcap hnil
  rw [List.length_take, Nat.min_eq_left hw] at hsb
  have htl : (rs.take wh).length = wh := by rw [List.length_take, Nat.min_eq_left hw]
  have hdr : ∀ r ∈ rs.take wh, smallRaw 1048576 r := fun r hr => HR.out r (List.mem_of_mem_take hr)
  obtain ⟨D, hD⟩ : ∃ D, D = rs.take wh := ⟨_, rfl⟩
  rw [← hD] at hSB htl hdr hn
  have HSB : Hid (∀ w, RawsAt w ra rg roff rs → RawsAt w SB rg roff D) := hSB
  have HSN : Hid (SB = none → rcap = 0) := hSBn
  have HTL : Hid (D.length = wh) := htl
  have HDR : Hid (∀ r ∈ D, smallRaw 1048576 r) := hdr
  have HDN : Hid (a = none → cap = 0) := hdn
  clear hSB hSBn htl hdr hD hdn
  have HPR : Hid (∀ (wx : World) (va : Option Addr) (dg vc : Nat), FilesAt wx a g off l → RawsAt wx va dg 0 D → Calls Tryz.prog 11 #[.agg #[.slice a l.length cap], .slice va D.length vc] wx (rawsPost wx (Disks.run l D).1 (Disks.run l D).2)) := fun wx va dg vc h1 h2 => specPutRaws_yes l D HK.out (by have := HTL.out; omega) HDN.out HDR.out wx h1 h2
  obtain ⟨R, n, hRn⟩ : ∃ R n, Disks.run l D = (R, n) := ⟨_, _, rfl⟩
  rw [hRn] at HPR hn
  simp only at HPR hn
  clear hRn
  have h9 : ((n : Int) != (D.length : Int)) = true := by rw [bne_iff_ne]; omega
  have h9n : (n != D.length) = true := by rw [bne_iff_ne]; exact hn
  clear hn
  go_enter Tryz.func38, Tryz.ntmps38
  go_wp2_with fail
  obtain ⟨W1, hW1, hR1, hB1⟩ := res_start w (.slice a l.length cap)
  rw [← hW1]
  clear hW1
  refine (specDiskOk_any true l (by have := HK.out.1; omega) W1 (HF.out.kept hB1) (fun f h => by have := ok_sizes HK.out f h; omega) ⟨fun _ => HK.out, fun _ => rfl⟩).mono ?_
  rintro e w2 ⟨rfl, hb2⟩
  have hR2 := hR1.kept hb2
  have hB2 : Below w.heap.size w w2 := hB1.trans (hb2.mono hB1.size)
  clear hR1 hB1 hb2
  go_wp2_with fail
  refine (in_yes_pk (wh : Int) 0 (rs.length : Int) ⟨by omega, by omega⟩ w2).mono ?_
  rintro e w3 ⟨rfl, rfl⟩
  go_wp2_with fail
  refine (HRM.out w2 (HRF.out.kept hB2)).mono ?_
  rintro e w3 ⟨rfl, rfl⟩
  go_wp2_with fail
  refine (in_yes_pk 0 0 (Z : Int) ⟨by omega, by omega⟩ w2).mono ?_
  rintro e w3 ⟨rfl, rfl⟩
  go_wp2_with (first | (at_builtin; refine wpList_appendRaw rfl _ _ rfl w2.heap.size (.slice (some ⟨w2.heap.size, 0, none⟩) 0 0) 0 [] rfl (World.ownsRow_made w2 #[] 0 (Nat.le_refl _) (by unfold maxLen; omega) rfl) SB rg roff rcap D (by rw [HTL.out]; rfl) ((HSB.out _ (HRF.out.kept hB2)).kept ((Below.refl _ _).alloc (Nat.le_refl _) _)) HSN.out (by rw [HTL.out]; omega) (by simp) ?_; intro v3 w3 hown3 hg3; rw [Nat.zero_add, List.nil_append] at hown3; obtain ⟨v3a, v3c, rfl⟩ := own_slice hown3; (have hb3 : Below w2.heap.size w2 w3 := ((Below.refl _ _).alloc (Nat.le_refl _) _).grown hg3 (by simp) (fun j hj => by cases hj; exact Nat.le_refl _)); (have hR3 := hR2.kept hb3); (have hd3 := hR3.cd); (have hB3 : Below w.heap.size w w3 := hB2.trans (hb3.mono hB2.size)); (have HO3 : Hid (w3.ownsRow w2.heap.size 69 4 (.slice v3a D.length v3c) D.length (cellsRaw D)) := hown3); clear hg3 hown3; go_frame) | fail)
  obtain ⟨dg, hda⟩ : ∃ g, RawsAt w3 v3a g 0 D := by
    obtain ⟨x, y, z, e, h⟩ := cellsRaw_slice HO3.out
    cases e; exact ⟨y, h⟩
  refine (HPR.out w3 v3a dg v3c (HF.out.kept hB3) hda).mono ?_
  rintro e w6 ⟨v, rfl, hown6, hb6⟩
  have hR6 := hR3.kept hb6
  have hB6 : Below w.heap.size w w6 := hB3.trans (hb6.mono hB3.size)
  obtain ⟨va6, vc6, rfl⟩ := own_slice hown6
  have HO6 : Hid (w6.ownsRow w3.heap.size 38 2 (.slice va6 R.length vc6) R.length (cellsF R)) := hown6
  have hz6 := hR3.lt
  have hR7 : ResAt w.heap.size (.slice a l.length cap) (w6.alloc (Obj.cells #[Value.slice va6 R.length vc6] 41)) := hR6.kept ((Below.refl _ _).alloc (Nat.le_refl _) _)
  have hB7 : Below w.heap.size w (w6.alloc (Obj.cells #[Value.slice va6 R.length vc6] 41)) := hB6.alloc hB6.size _
  have hr7 := hR7.cr
  have hrf7 := hR7.fr
  have hv7 : (w6.alloc (Obj.cells #[Value.slice va6 R.length vc6] 41)).cell? ⟨w6.heap.size, 0, none⟩ = some (.slice va6 R.length vc6) := cell_of_row _ _ 0 _ _ _ (heap_alloc_new w6 _)
  have HO7 : Hid ((w6.alloc (Obj.cells #[Value.slice va6 R.length vc6] 41)).ownsRow w.heap.size 38 2 (.slice va6 R.length vc6) R.length (cellsF R)) := own_mono (HO6.out.alloc _) hB3.size
  have hne7 : Hid ((Value.slice va6 R.length vc6).ownBlock ≠ some (w.heap.size + 1)) := fun e => by have := (HO6.out.lt _ e).1; omega
  clear hown6 hb6 hda HPR HO6 hR6 hR7 hB6
  have hres := World.cell?_setCell_same (w6.alloc (Obj.cells #[Value.slice va6 R.length vc6] 41)) _ (.slice none 0 0) hr7
  go_wp2
  exact bodyPost_ret (v := .tuple #[.agg #[.slice none 0 0], .bool false]) (by simp [results, Tryz.results38, go_sem, hres]) rfl ⟨_, rfl, World.ownsRow_nil _ _ _ _, hB7.setCell (by simp) _⟩

set_option maxHeartbeats 4000000 in
set_option maxRecDepth 100000 in
theorem specCut_part_y {a ra : Option Addr} {g off cap rg roff rcap : Nat} (l : List FileL) (rs : List Disks.RawL) (hok : Disks.ok l) (h60 : rs.length ≤ 60) (hrs : ∀ r ∈ rs, smallRaw 1048576 r) (wh : Nat) (hw : wh ≤ rs.length) (hcap : rs.length ≤ rcap) (hc2 : rcap ≤ 9223372036854775807) (hnil : ra = none → rcap = 0) (hdn : a = none → cap = 0) (pt : Nat) (hp : pt ≤ Disks.room rs wh) (hpos : 0 < pt) (hn : (Disks.run l (Disks.cutDone rs wh pt)).2 = (Disks.cutDone rs wh pt).length) (w : World) (hf : FilesAt w a g off l) (hrf : RawsAt w ra rg roff rs) :
    Calls Tryz.prog 38 #[.agg #[.slice a l.length cap], .slice ra rs.length rcap, .int .i64 (wh : Int), .int .i64 (pt : Int)] w (putPost w (some (Disks.run l (Disks.cutDone rs wh pt)).1)) := by
  have HF : Hid (FilesAt w a g off l) := hf
  clear hf
  have HK : Hid (Disks.ok l) := hok
  clear hok
  have h1 : decide ((60 : Int) < (rs.length : Int)) = false := decide_eq_false (by omega)
  have HRF : Hid (RawsAt w ra rg roff rs) := hrf
  have HR : Hid (∀ r ∈ rs, smallRaw 1048576 r) := hrs
  obtain ⟨Z, hZ⟩ : ∃ Z, Z = Disks.room rs wh := ⟨_, rfl⟩
  have HRM : Hid (∀ wx : World, RawsAt wx ra rg roff rs → Calls Tryz.prog 74 #[.slice ra rs.length rcap, .int .i64 (wh : Int)] wx fun e w' => e = .returned (.int .i64 (Z : Int)) ∧ wx = w') := fun wx h => by
    rw [hZ]; exact l03Room_is rs (by omega) HR.out wh hw wx h
  rw [← hZ] at hp
  have HZ : Hid (Z = Disks.room rs wh) := hZ
  clear hrf hrs hZ
  obtain ⟨SB, hsb, hSBn, hSB⟩ := to_at (ra := ra) (rg := rg) (roff := roff) (rcap := rcap) rs wh hw hcap hnil
  rw [List.length_take, Nat.min_eq_left hw] at hsb
  have htl : (rs.take wh).length = wh := by rw [List.length_take, Nat.min_eq_left hw]
  have hdr : ∀ r ∈ rs.take wh, smallRaw 1048576 r := fun r hr => HR.out r (List.mem_of_mem_take hr)
  obtain ⟨D, hD⟩ : ∃ D, D = rs.take wh := ⟨_, rfl⟩
  rw [← hD] at hSB htl hdr
  have HSB : Hid (∀ w, RawsAt w ra rg roff rs → RawsAt w SB rg roff D) := hSB
  have HSN : Hid (SB = none → rcap = 0) := hSBn
  have HTL : Hid (D.length = wh) := htl
  have HDR : Hid (∀ r ∈ D, smallRaw 1048576 r) := hdr
  have HDN : Hid (a = none → cap = 0) := hdn
  clear hSB hSBn htl hdr hdn
  have hpw : wh < rs.length := Disks.room_pos (by have := HZ.out; omega)
  have hkx : (0 : Int) < (pt : Int) := by omega
  have hwi : (wh : Int) < (rs.length : Int) := by omega
  have hw0 : (0 : Int) ≤ (wh : Int) := by omega
  have ea := HRF.out.1 (by omega)
  subst ea
  have hsz := HR.out rs[wh] (List.getElem_mem _)
  have hpx : pt ≤ rs[wh].text.size := by
    have h := HZ.out
    rw [Disks.room_at hpw] at h
    unfold Disks.part at h
    split at h <;> omega
  have HCC : Hid (∀ wx, RawsAt wx (some ⟨rg, roff, none⟩) rg roff rs → _) := fun wx h => h.2 wh hpw
  obtain ⟨r, hr⟩ : ∃ r, r = rs[wh] := ⟨_, rfl⟩
  rw [← hr] at hsz hpx HCC
  rw [Disks.cutDone_part hpw (by omega), ← hr, ← hD] at hn ⊢
  clear hr hD
  obtain ⟨K, M, O, X⟩ := r
  simp only at hsz hpx
  have hXs : X.size ≤ 1048576 := hsz.2.2
  have HSZ : Hid (smallRaw 1048576 ⟨K, M, O, X.extract 0 pt⟩) := ⟨hsz.1, hsz.2.1, by show (X.extract 0 pt).size ≤ _; rw [ByteArray.size_extract]; omega⟩
  have hsx : ∀ wx, (Instr.slice 9 (.string X) none (some (.int .i64 (pt : Int))) none).run Tryz.prog wx = .ok (.string (X.extract 0 pt)) wx := fun wx => by
    rw [run_slice_string_h wx 9 X Tryz.underlying9 .i64 _ (by omega) (by omega)]; simp
  obtain ⟨XP, hXP⟩ : ∃ XP, XP = X.extract 0 pt := ⟨_, rfl⟩
  have hbg : Disks.begin ⟨K, M, O, X⟩ pt = ⟨K, M, O, XP⟩ := by rw [hXP]; rfl
  rw [hbg] at hn ⊢
  rw [← hXP] at HSZ hsx
  obtain ⟨D2, hD2⟩ : ∃ D2, D2 = D ++ [(⟨K, M, O, XP⟩ : Disks.RawL)] := ⟨_, rfl⟩
  rw [← hD2] at hn ⊢
  have HD2 : Hid (D2 = D ++ [(⟨K, M, O, XP⟩ : Disks.RawL)]) := hD2
  have HDR2 : Hid (∀ r ∈ D2, smallRaw 1048576 r) := fun r hr => by
    rw [hD2] at hr
    rcases List.mem_append.1 hr with q | q
    · exact HDR.out r q
    · rw [List.mem_singleton] at q; rw [q]; exact HSZ.out
  have HL2 : Hid (D2.length = wh + 1) := by show _ = _; rw [hD2, List.length_append, HTL.out]; rfl
  clear hsz hXP hD2 hbg
  have HPR : Hid (∀ (wx : World) (va : Option Addr) (dg vc : Nat), FilesAt wx a g off l → RawsAt wx va dg 0 D2 → Calls Tryz.prog 11 #[.agg #[.slice a l.length cap], .slice va D2.length vc] wx (rawsPost wx (Disks.run l D2).1 (Disks.run l D2).2)) := fun wx va dg vc h1 h2 => specPutRaws_yes l D2 HK.out (by have := HTL.out; have := HL2.out; omega) HDN.out HDR2.out wx h1 h2
  obtain ⟨R, n, hRn⟩ : ∃ R n, Disks.run l D2 = (R, n) := ⟨_, _, rfl⟩
  rw [hRn] at HPR hn ⊢
  simp only at HPR hn ⊢
  clear hRn
  have h9 : ((n : Int) != (D2.length : Int)) = false := by rw [hn]; simp
  have h9n : (n != D2.length) = false := by rw [hn]; simp
  clear hn
  go_enter Tryz.func38, Tryz.ntmps38
  go_wp2_with fail
  obtain ⟨W1, hW1, hR1, hB1⟩ := res_start w (.slice a l.length cap)
  rw [← hW1]
  clear hW1
  refine (specDiskOk_any true l (by have := HK.out.1; omega) W1 (HF.out.kept hB1) (fun f h => by have := ok_sizes HK.out f h; omega) ⟨fun _ => HK.out, fun _ => rfl⟩).mono ?_
  rintro e w2 ⟨rfl, hb2⟩
  have hR2 := hR1.kept hb2
  have hB2 : Below w.heap.size w w2 := hB1.trans (hb2.mono hB1.size)
  clear hR1 hB1 hb2
  go_wp2_with fail
  refine (in_yes_pk (wh : Int) 0 (rs.length : Int) ⟨by omega, by omega⟩ w2).mono ?_
  rintro e w3 ⟨rfl, rfl⟩
  go_wp2_with fail
  refine (HRM.out w2 (HRF.out.kept hB2)).mono ?_
  rintro e w3 ⟨rfl, rfl⟩
  go_wp2_with fail
  refine (in_yes_pk (pt : Int) 0 (Z : Int) ⟨by omega, by omega⟩ w2).mono ?_
  rintro e w3 ⟨rfl, rfl⟩
  go_wp2_with (first | (at_builtin; refine wpList_appendRaw rfl _ _ rfl w2.heap.size (.slice (some ⟨w2.heap.size, 0, none⟩) 0 0) 0 [] rfl (World.ownsRow_made w2 #[] 0 (Nat.le_refl _) (by unfold maxLen; omega) rfl) SB rg roff rcap D (by rw [HTL.out]; rfl) ((HSB.out _ (HRF.out.kept hB2)).kept ((Below.refl _ _).alloc (Nat.le_refl _) _)) HSN.out (by rw [HTL.out]; omega) (by simp) ?_; intro v3 w3 hown3 hg3; rw [Nat.zero_add, List.nil_append] at hown3; obtain ⟨v3a, v3c, rfl⟩ := own_slice hown3; (have hb3 : Below w2.heap.size w2 w3 := ((Below.refl _ _).alloc (Nat.le_refl _) _).grown hg3 (by simp) (fun j hj => by cases hj; exact Nat.le_refl _)); (have hR3 := hR2.kept hb3); (have hd3 := hR3.cd); (have hB3 : Below w.heap.size w w3 := hB2.trans (hb3.mono hB2.size)); (have HO3 : Hid (w3.ownsRow w2.heap.size 69 4 (.slice v3a D.length v3c) D.length (cellsRaw D)) := hown3); (have hcc := HCC.out w3 (HRF.out.kept hB3)); obtain ⟨c0, c1, c2, c3⟩ := hcc; clear hg3 hown3; go_frame) | (at_builtin; refine wpList_appendRaw rfl _ _ rfl w2.heap.size (.slice v3a D.length v3c) D.length (cellsRaw D) rfl ((HO3.out.alloc _).alloc _) (some ⟨w3.heap.size + 1, 0, none⟩) (w3.heap.size + 1) 0 1 [⟨K, M, O, XP⟩] rfl (one_raw w3 _ K M O XP) (fun h => by cases h) (by rw [HTL.out]; simp; omega) (by have := hb3.size; simp; omega) ?_; intro v5 w5 hown5 hg5; rw [← cellsRaw_app, ← HD2.out, show D.length + [(⟨K, M, O, XP⟩ : Disks.RawL)].length = D2.length by rw [HL2.out, HTL.out]; rfl] at hown5; obtain ⟨v5a, v5c, rfl⟩ := own_slice hown5; (have hb5 : Below w2.heap.size w2 w5 := ((hb3.alloc hb3.size _).alloc (by have := hb3.size; simp; omega) _).grown hg5 (by have := hb3.size; simp; omega) (fun j hj => (HO3.out.lt j hj).1)); (have hR5 := hR2.kept hb5); (have hd5 := hR5.cd); (have hB5 : Below w.heap.size w w5 := hB2.trans (hb5.mono hB2.size)); (have HO5 : Hid (w5.ownsRow w2.heap.size 69 4 (.slice v5a D2.length v5c) D2.length (cellsRaw D2)) := hown5); clear hg5 hown5; go_frame) | fail)
  obtain ⟨dg, hda⟩ : ∃ g, RawsAt w5 v5a g 0 D2 := by
    obtain ⟨x, y, z, e, h⟩ := cellsRaw_slice HO5.out
    cases e; exact ⟨y, h⟩
  refine (HPR.out w5 v5a dg v5c (HF.out.kept hB5) hda).mono ?_
  rintro e w6 ⟨v, rfl, hown6, hb6⟩
  have hR6 := hR5.kept hb6
  have hB6 : Below w.heap.size w w6 := hB5.trans (hb6.mono hB5.size)
  obtain ⟨va6, vc6, rfl⟩ := own_slice hown6
  have HO6 : Hid (w6.ownsRow w5.heap.size 38 2 (.slice va6 R.length vc6) R.length (cellsF R)) := hown6
  have hz6 := hR5.lt
  have hR7 : ResAt w.heap.size (.slice a l.length cap) (w6.alloc (Obj.cells #[Value.slice va6 R.length vc6] 41)) := hR6.kept ((Below.refl _ _).alloc (Nat.le_refl _) _)
  have hB7 : Below w.heap.size w (w6.alloc (Obj.cells #[Value.slice va6 R.length vc6] 41)) := hB6.alloc hB6.size _
  have hr7 := hR7.cr
  have hrf7 := hR7.fr
  have hv7 : (w6.alloc (Obj.cells #[Value.slice va6 R.length vc6] 41)).cell? ⟨w6.heap.size, 0, none⟩ = some (.slice va6 R.length vc6) := cell_of_row _ _ 0 _ _ _ (heap_alloc_new w6 _)
  have HO7 : Hid ((w6.alloc (Obj.cells #[Value.slice va6 R.length vc6] 41)).ownsRow w.heap.size 38 2 (.slice va6 R.length vc6) R.length (cellsF R)) := own_mono (HO6.out.alloc _) hB5.size
  have hne7 : Hid ((Value.slice va6 R.length vc6).ownBlock ≠ some (w.heap.size + 1)) := fun e => by have := (HO6.out.lt _ e).1; omega
  clear hown6 hb6 hda HPR HO6 hR6 hR7 hB6
  have hres := World.cell?_setCell_same (w6.alloc (Obj.cells #[Value.slice va6 R.length vc6] 41)) _ (.slice va6 R.length vc6) hr7
  go_wp2
  exact bodyPost_ret (v := .tuple #[.agg #[.slice va6 R.length vc6], .bool true]) (by simp [results, Tryz.results38, go_sem, hres]) rfl ⟨_, rfl, own_set HO7.out _ _ _ hne7.out, hB7.setCell (by simp) _⟩

set_option maxHeartbeats 4000000 in
set_option maxRecDepth 100000 in
theorem specCut_part_n {a ra : Option Addr} {g off cap rg roff rcap : Nat} (l : List FileL) (rs : List Disks.RawL) (hok : Disks.ok l) (h60 : rs.length ≤ 60) (hrs : ∀ r ∈ rs, smallRaw 1048576 r) (wh : Nat) (hw : wh ≤ rs.length) (hcap : rs.length ≤ rcap) (hc2 : rcap ≤ 9223372036854775807) (hnil : ra = none → rcap = 0) (hdn : a = none → cap = 0) (pt : Nat) (hp : pt ≤ Disks.room rs wh) (hpos : 0 < pt) (hn : ¬ (Disks.run l (Disks.cutDone rs wh pt)).2 = (Disks.cutDone rs wh pt).length) (w : World) (hf : FilesAt w a g off l) (hrf : RawsAt w ra rg roff rs) :
    Calls Tryz.prog 38 #[.agg #[.slice a l.length cap], .slice ra rs.length rcap, .int .i64 (wh : Int), .int .i64 (pt : Int)] w (putPost w none) := by
  have HF : Hid (FilesAt w a g off l) := hf
  clear hf
  have HK : Hid (Disks.ok l) := hok
  clear hok
  have h1 : decide ((60 : Int) < (rs.length : Int)) = false := decide_eq_false (by omega)
  have HRF : Hid (RawsAt w ra rg roff rs) := hrf
  have HR : Hid (∀ r ∈ rs, smallRaw 1048576 r) := hrs
  obtain ⟨Z, hZ⟩ : ∃ Z, Z = Disks.room rs wh := ⟨_, rfl⟩
  have HRM : Hid (∀ wx : World, RawsAt wx ra rg roff rs → Calls Tryz.prog 74 #[.slice ra rs.length rcap, .int .i64 (wh : Int)] wx fun e w' => e = .returned (.int .i64 (Z : Int)) ∧ wx = w') := fun wx h => by
    rw [hZ]; exact l03Room_is rs (by omega) HR.out wh hw wx h
  rw [← hZ] at hp
  have HZ : Hid (Z = Disks.room rs wh) := hZ
  clear hrf hrs hZ
  obtain ⟨SB, hsb, hSBn, hSB⟩ := to_at (ra := ra) (rg := rg) (roff := roff) (rcap := rcap) rs wh hw hcap hnil
  rw [List.length_take, Nat.min_eq_left hw] at hsb
  have htl : (rs.take wh).length = wh := by rw [List.length_take, Nat.min_eq_left hw]
  have hdr : ∀ r ∈ rs.take wh, smallRaw 1048576 r := fun r hr => HR.out r (List.mem_of_mem_take hr)
  obtain ⟨D, hD⟩ : ∃ D, D = rs.take wh := ⟨_, rfl⟩
  rw [← hD] at hSB htl hdr
  have HSB : Hid (∀ w, RawsAt w ra rg roff rs → RawsAt w SB rg roff D) := hSB
  have HSN : Hid (SB = none → rcap = 0) := hSBn
  have HTL : Hid (D.length = wh) := htl
  have HDR : Hid (∀ r ∈ D, smallRaw 1048576 r) := hdr
  have HDN : Hid (a = none → cap = 0) := hdn
  clear hSB hSBn htl hdr hdn
  have hpw : wh < rs.length := Disks.room_pos (by have := HZ.out; omega)
  have hkx : (0 : Int) < (pt : Int) := by omega
  have hwi : (wh : Int) < (rs.length : Int) := by omega
  have hw0 : (0 : Int) ≤ (wh : Int) := by omega
  have ea := HRF.out.1 (by omega)
  subst ea
  have hsz := HR.out rs[wh] (List.getElem_mem _)
  have hpx : pt ≤ rs[wh].text.size := by
    have h := HZ.out
    rw [Disks.room_at hpw] at h
    unfold Disks.part at h
    split at h <;> omega
  have HCC : Hid (∀ wx, RawsAt wx (some ⟨rg, roff, none⟩) rg roff rs → _) := fun wx h => h.2 wh hpw
  obtain ⟨r, hr⟩ : ∃ r, r = rs[wh] := ⟨_, rfl⟩
  rw [← hr] at hsz hpx HCC
  rw [Disks.cutDone_part hpw (by omega), ← hr, ← hD] at hn
  clear hr hD
  obtain ⟨K, M, O, X⟩ := r
  simp only at hsz hpx
  have hXs : X.size ≤ 1048576 := hsz.2.2
  have HSZ : Hid (smallRaw 1048576 ⟨K, M, O, X.extract 0 pt⟩) := ⟨hsz.1, hsz.2.1, by show (X.extract 0 pt).size ≤ _; rw [ByteArray.size_extract]; omega⟩
  have hsx : ∀ wx, (Instr.slice 9 (.string X) none (some (.int .i64 (pt : Int))) none).run Tryz.prog wx = .ok (.string (X.extract 0 pt)) wx := fun wx => by
    rw [run_slice_string_h wx 9 X Tryz.underlying9 .i64 _ (by omega) (by omega)]; simp
  obtain ⟨XP, hXP⟩ : ∃ XP, XP = X.extract 0 pt := ⟨_, rfl⟩
  have hbg : Disks.begin ⟨K, M, O, X⟩ pt = ⟨K, M, O, XP⟩ := by rw [hXP]; rfl
  rw [hbg] at hn
  rw [← hXP] at HSZ hsx
  obtain ⟨D2, hD2⟩ : ∃ D2, D2 = D ++ [(⟨K, M, O, XP⟩ : Disks.RawL)] := ⟨_, rfl⟩
  rw [← hD2] at hn
  have HD2 : Hid (D2 = D ++ [(⟨K, M, O, XP⟩ : Disks.RawL)]) := hD2
  have HDR2 : Hid (∀ r ∈ D2, smallRaw 1048576 r) := fun r hr => by
    rw [hD2] at hr
    rcases List.mem_append.1 hr with q | q
    · exact HDR.out r q
    · rw [List.mem_singleton] at q; rw [q]; exact HSZ.out
  have HL2 : Hid (D2.length = wh + 1) := by show _ = _; rw [hD2, List.length_append, HTL.out]; rfl
  clear hsz hXP hD2 hbg
  have HPR : Hid (∀ (wx : World) (va : Option Addr) (dg vc : Nat), FilesAt wx a g off l → RawsAt wx va dg 0 D2 → Calls Tryz.prog 11 #[.agg #[.slice a l.length cap], .slice va D2.length vc] wx (rawsPost wx (Disks.run l D2).1 (Disks.run l D2).2)) := fun wx va dg vc h1 h2 => specPutRaws_yes l D2 HK.out (by have := HTL.out; have := HL2.out; omega) HDN.out HDR2.out wx h1 h2
  obtain ⟨R, n, hRn⟩ : ∃ R n, Disks.run l D2 = (R, n) := ⟨_, _, rfl⟩
  rw [hRn] at HPR hn
  simp only at HPR hn
  clear hRn
  have h9 : ((n : Int) != (D2.length : Int)) = true := by rw [bne_iff_ne]; omega
  have h9n : (n != D2.length) = true := by rw [bne_iff_ne]; exact hn
  clear hn
  go_enter Tryz.func38, Tryz.ntmps38
  go_wp2_with fail
  obtain ⟨W1, hW1, hR1, hB1⟩ := res_start w (.slice a l.length cap)
  rw [← hW1]
  clear hW1
  refine (specDiskOk_any true l (by have := HK.out.1; omega) W1 (HF.out.kept hB1) (fun f h => by have := ok_sizes HK.out f h; omega) ⟨fun _ => HK.out, fun _ => rfl⟩).mono ?_
  rintro e w2 ⟨rfl, hb2⟩
  have hR2 := hR1.kept hb2
  have hB2 : Below w.heap.size w w2 := hB1.trans (hb2.mono hB1.size)
  clear hR1 hB1 hb2
  go_wp2_with fail
  refine (in_yes_pk (wh : Int) 0 (rs.length : Int) ⟨by omega, by omega⟩ w2).mono ?_
  rintro e w3 ⟨rfl, rfl⟩
  go_wp2_with fail
  refine (HRM.out w2 (HRF.out.kept hB2)).mono ?_
  rintro e w3 ⟨rfl, rfl⟩
  go_wp2_with fail
  refine (in_yes_pk (pt : Int) 0 (Z : Int) ⟨by omega, by omega⟩ w2).mono ?_
  rintro e w3 ⟨rfl, rfl⟩
  go_wp2_with (first | (at_builtin; refine wpList_appendRaw rfl _ _ rfl w2.heap.size (.slice (some ⟨w2.heap.size, 0, none⟩) 0 0) 0 [] rfl (World.ownsRow_made w2 #[] 0 (Nat.le_refl _) (by unfold maxLen; omega) rfl) SB rg roff rcap D (by rw [HTL.out]; rfl) ((HSB.out _ (HRF.out.kept hB2)).kept ((Below.refl _ _).alloc (Nat.le_refl _) _)) HSN.out (by rw [HTL.out]; omega) (by simp) ?_; intro v3 w3 hown3 hg3; rw [Nat.zero_add, List.nil_append] at hown3; obtain ⟨v3a, v3c, rfl⟩ := own_slice hown3; (have hb3 : Below w2.heap.size w2 w3 := ((Below.refl _ _).alloc (Nat.le_refl _) _).grown hg3 (by simp) (fun j hj => by cases hj; exact Nat.le_refl _)); (have hR3 := hR2.kept hb3); (have hd3 := hR3.cd); (have hB3 : Below w.heap.size w w3 := hB2.trans (hb3.mono hB2.size)); (have HO3 : Hid (w3.ownsRow w2.heap.size 69 4 (.slice v3a D.length v3c) D.length (cellsRaw D)) := hown3); (have hcc := HCC.out w3 (HRF.out.kept hB3)); obtain ⟨c0, c1, c2, c3⟩ := hcc; clear hg3 hown3; go_frame) | (at_builtin; refine wpList_appendRaw rfl _ _ rfl w2.heap.size (.slice v3a D.length v3c) D.length (cellsRaw D) rfl ((HO3.out.alloc _).alloc _) (some ⟨w3.heap.size + 1, 0, none⟩) (w3.heap.size + 1) 0 1 [⟨K, M, O, XP⟩] rfl (one_raw w3 _ K M O XP) (fun h => by cases h) (by rw [HTL.out]; simp; omega) (by have := hb3.size; simp; omega) ?_; intro v5 w5 hown5 hg5; rw [← cellsRaw_app, ← HD2.out, show D.length + [(⟨K, M, O, XP⟩ : Disks.RawL)].length = D2.length by rw [HL2.out, HTL.out]; rfl] at hown5; obtain ⟨v5a, v5c, rfl⟩ := own_slice hown5; (have hb5 : Below w2.heap.size w2 w5 := ((hb3.alloc hb3.size _).alloc (by have := hb3.size; simp; omega) _).grown hg5 (by have := hb3.size; simp; omega) (fun j hj => (HO3.out.lt j hj).1)); (have hR5 := hR2.kept hb5); (have hd5 := hR5.cd); (have hB5 : Below w.heap.size w w5 := hB2.trans (hb5.mono hB2.size)); (have HO5 : Hid (w5.ownsRow w2.heap.size 69 4 (.slice v5a D2.length v5c) D2.length (cellsRaw D2)) := hown5); clear hg5 hown5; go_frame) | fail)
  obtain ⟨dg, hda⟩ : ∃ g, RawsAt w5 v5a g 0 D2 := by
    obtain ⟨x, y, z, e, h⟩ := cellsRaw_slice HO5.out
    cases e; exact ⟨y, h⟩
  refine (HPR.out w5 v5a dg v5c (HF.out.kept hB5) hda).mono ?_
  rintro e w6 ⟨v, rfl, hown6, hb6⟩
  have hR6 := hR5.kept hb6
  have hB6 : Below w.heap.size w w6 := hB5.trans (hb6.mono hB5.size)
  obtain ⟨va6, vc6, rfl⟩ := own_slice hown6
  have HO6 : Hid (w6.ownsRow w5.heap.size 38 2 (.slice va6 R.length vc6) R.length (cellsF R)) := hown6
  have hz6 := hR5.lt
  have hR7 : ResAt w.heap.size (.slice a l.length cap) (w6.alloc (Obj.cells #[Value.slice va6 R.length vc6] 41)) := hR6.kept ((Below.refl _ _).alloc (Nat.le_refl _) _)
  have hB7 : Below w.heap.size w (w6.alloc (Obj.cells #[Value.slice va6 R.length vc6] 41)) := hB6.alloc hB6.size _
  have hr7 := hR7.cr
  have hrf7 := hR7.fr
  have hv7 : (w6.alloc (Obj.cells #[Value.slice va6 R.length vc6] 41)).cell? ⟨w6.heap.size, 0, none⟩ = some (.slice va6 R.length vc6) := cell_of_row _ _ 0 _ _ _ (heap_alloc_new w6 _)
  have HO7 : Hid ((w6.alloc (Obj.cells #[Value.slice va6 R.length vc6] 41)).ownsRow w.heap.size 38 2 (.slice va6 R.length vc6) R.length (cellsF R)) := own_mono (HO6.out.alloc _) hB5.size
  have hne7 : Hid ((Value.slice va6 R.length vc6).ownBlock ≠ some (w.heap.size + 1)) := fun e => by have := (HO6.out.lt _ e).1; omega
  clear hown6 hb6 hda HPR HO6 hR6 hR7 hB6
  have hres := World.cell?_setCell_same (w6.alloc (Obj.cells #[Value.slice va6 R.length vc6] 41)) _ (.slice none 0 0) hr7
  go_wp2
  exact bodyPost_ret (v := .tuple #[.agg #[.slice none 0 0], .bool false]) (by simp [results, Tryz.results38, go_sem, hres]) rfl ⟨_, rfl, World.ownsRow_nil _ _ _ _, hB7.setCell (by simp) _⟩

theorem specCutRaws_is {a ra : Option Addr} {g off cap rg roff rcap : Nat} (l : List FileL) (rs : List Disks.RawL) (WH PT : Int) (hlen : l.length ≤ 1048576) (hsz : ∀ f ∈ l, f.1.size ≤ 1048576 ∧ f.2.size ≤ 1048576) (hdn : a = none → cap = 0) (hrl : rs.length ≤ 1048576) (hrs : ∀ r ∈ rs, smallRaw 1048576 r) (hcap : rs.length ≤ rcap) (hc2 : rcap ≤ 9223372036854775807) (hnil : ra = none → rcap = 0) (w : World) (hf : FilesAt w a g off l) (hrf : RawsAt w ra rg roff rs) :
    Calls Tryz.prog 38 #[.agg #[.slice a l.length cap], .slice ra rs.length rcap, .int .i64 WH, .int .i64 PT] w (putPost w (Disks.cutAll l rs WH PT)) := by
  by_cases hok : Disks.ok l
  case neg => rw [Disks.cutAll_out (fun h => hok h.1)]; exact specCut_bad (rg := rg) (roff := roff) l rs hlen hsz hok WH PT w hf
  by_cases h60 : rs.length ≤ 60
  case neg => rw [Disks.cutAll_out (fun h => h60 h.2.1)]; exact specCut_big (rg := rg) (roff := roff) l rs hok hrl (by omega) WH PT w hf
  by_cases hwr : 0 ≤ WH ∧ WH ≤ (rs.length : Int)
  case neg => rw [Disks.cutAll_out (fun h => hwr h.2.2.1)]; exact specCut_wh (rg := rg) (roff := roff) l rs hok h60 WH PT hwr w hf
  obtain ⟨wh, rfl⟩ := Int.eq_ofNat_of_zero_le hwr.1
  have hw : wh ≤ rs.length := by omega
  by_cases hpr : 0 ≤ PT ∧ PT ≤ (Disks.room rs wh : Int)
  case neg => rw [Disks.cutAll_out (fun h => hpr h.2.2.2)]; exact specCut_pt l rs hok h60 hrs wh hw PT hpr w hf hrf
  obtain ⟨pt, rfl⟩ := Int.eq_ofNat_of_zero_le hpr.1
  have hp : pt ≤ Disks.room rs wh := by omega
  rw [Disks.cutAll_in ⟨hok, h60, hwr, by rw [Int.toNat_natCast]; exact hpr⟩, Int.toNat_natCast, Int.toNat_natCast, Disks.whole]
  rcases Nat.eq_zero_or_pos pt with hz | hz
  · subst hz
    rw [Disks.cutDone_zero]
    by_cases hn : (Disks.run l (rs.take wh)).2 = (rs.take wh).length
    · rw [if_pos hn]; exact specCut_zero_y l rs hok h60 hrs wh hw hcap hc2 hnil hdn (Nat.zero_le _) hn w hf hrf
    · rw [if_neg hn]; exact specCut_zero_n l rs hok h60 hrs wh hw hcap hc2 hnil hdn (Nat.zero_le _) hn w hf hrf
  · by_cases hn : (Disks.run l (Disks.cutDone rs wh pt)).2 = (Disks.cutDone rs wh pt).length
    · rw [if_pos hn]; exact specCut_part_y l rs hok h60 hrs wh hw hcap hc2 hnil hdn pt hp hz hn w hf hrf
    · rw [if_neg hn]; exact specCut_part_n l rs hok h60 hrs wh hw hcap hc2 hnil hdn pt hp hz hn w hf hrf

end Go.Proofs.YtahpoemmlpbgdaaGreat
