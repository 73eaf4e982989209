/- The exact law of PutRaw, walked, out of the contract of the program's PutRaw. -/
import Derived.Test.YtpkkejpidlkmnaaKeep
import Derived.Test.YtpkkejpidlkmnaaDiskOkLaw
import Derived.Deep.DeepCutAuto
namespace Go.Proofs.Ytpkkejpidlkmnaa
open Go.RowKit

/-- What the program's PutRaw is to answer. -/
def ImplPutRaw : Prop := ∀ (a : Option Addr) (g off cap : Nat) (l : List FileL) (r : Disks.RawL) (w : World), l.length ≤ 1048576 → (∀ f ∈ l, f.1.size ≤ 1048576 ∧ f.2.size ≤ 1048576) → (a = none → cap = 0) →
    (r.name.size ≤ 1048576 ∧ r.to.size ≤ 1048576 ∧ r.text.size ≤ 1048576) → FilesAt w a g off l → Calls Try.prog 29 #[.agg #[.slice a l.length cap], rawV r] w (putPost w (Disks.putRaw l r))

set_option maxHeartbeats 8000000 in
set_option maxRecDepth 100000 in
theorem lawPutRaw_any (hi : ImplPutRaw) {a : Option Addr} {g off cap : Nat} (l : List FileL) (hlen : l.length ≤ maxLen) (hsz : ∀ f ∈ l, f.1.size ≤ maxLen ∧ f.2.size ≤ maxLen) (r : Disks.RawL) (hr : r.name.size ≤ maxLen ∧ r.to.size ≤ maxLen ∧ r.text.size ≤ maxLen) (w : World) (hf : FilesAt w a g off l) :
    Calls Try.prog 8 #[.agg #[.slice a l.length cap], rawV r] w fun e w' => e = .returned (.bool true) ∧ Below w.heap.size w w' := by
  have HI : Hid ImplPutRaw := hi
  have HF : Hid (FilesAt w a g off l) := hf
  have HS : Hid (∀ f ∈ l, f.1.size ≤ maxLen ∧ f.2.size ≤ maxLen) := hsz
  have HL : Hid (l.length ≤ maxLen) := hlen
  obtain ⟨K, N, O, X⟩ := r
  have HR : Hid (N.size ≤ maxLen ∧ O.size ≤ maxLen ∧ X.size ≤ maxLen) := hr
  clear hi hf hsz hlen hr
  have hst0 := LawSt.start w (.cells #[.slice a l.length cap] 29) (.cells #[.int .i64 K, .string N, .string O, .string X] 41)
  have HST0 : Hid (LawSt w [(w.heap.size + 1, .cells #[.int .i64 K, .string N, .string O, .string X] 41), (w.heap.size, .cells #[.slice a l.length cap] 29)] [] ((w.alloc (.cells #[.slice a l.length cap] 29)).alloc (.cells #[.int .i64 K, .string N, .string O, .string X] 41))) := hst0
  clear hst0
  unfold rawV
  go_enter Try.func8, Try.ntmps8
  go_wp2_with fail
  refine (szDisk_any l HL.out HS.out 1048576 (Nat.le_refl _) _ (HF.out.kept HST0.out.below)).mono ?_
  rintro e w1 ⟨x, rfl, hx, hb1⟩
  have hst1 := HST0.out.step hb1
  clear hb1 HST0
  rcases hx with ⟨hx1, hx2⟩ | ⟨hx1, hx2⟩
  case inr =>
    subst hx2
    have hB1 := hst1.below
    clear hst1
    go_wp2
    go_ret
    exact ⟨rfl, hB1⟩
  obtain ⟨Y, hY⟩ : ∃ Y : Nat, Y = 1048576 - tot l := ⟨_, rfl⟩
  rw [← hY] at hx2
  subst hx2
  have hYl : Y ≤ 1048576 := by omega
  clear hY
  obtain ⟨hl, hs⟩ := sizes_of_tot hx1
  have HSS : Hid (∀ f ∈ l, f.1.size ≤ 1048576 ∧ f.2.size ≤ 1048576) := hs
  have HST1 : Hid (LawSt w _ _ w1) := hst1
  have q := hst1.raw (b := w.heap.size + 1) (K := K) (N := N) (O := O) (X := X) (t := 41) (by simp)
  obtain ⟨q0, q1, q2, q3⟩ := q
  clear hs hx1 hst1
  go_wp2_with fail
  refine (szRaw_is ⟨K, N, O, X⟩ HR.out Y hYl w1).mono ?_
  rintro e w2 ⟨x, rfl, hx, hb2⟩
  have hst2 := HST1.out.step hb2
  clear hb2 HST1 q0 q1 q2 q3
  rcases hx with ⟨hx1, hx2⟩ | ⟨hx1, hx2⟩
  case inr =>
    subst hx2
    have hB2 := hst2.below
    clear hst2
    go_wp2
    go_ret
    exact ⟨rfl, hB2⟩
  have HRR : Hid (N.size ≤ 1048576 ∧ O.size ≤ 1048576 ∧ X.size ≤ 1048576) := by
    unfold totR at hx1
    simp only at hx1
    exact ⟨by omega, by omega, by omega⟩
  obtain ⟨Z, hZ⟩ : ∃ Z : Nat, Z = Y - totR ⟨K, N, O, X⟩ := ⟨_, rfl⟩
  rw [← hZ] at hx2
  subst hx2
  clear hZ hx1 HR HS HL
  obtain ⟨o, ho⟩ : ∃ o, o = Disks.putRaw l ⟨K, N, O, X⟩ := ⟨_, rfl⟩
  obtain ⟨b, hb⟩ : ∃ b, b = o.isSome := ⟨_, rfl⟩
  obtain ⟨L, hL⟩ : ∃ L, L = o.getD [] := ⟨_, rfl⟩
  have HLl : Hid (L.length ≤ 30) := by rw [hL, ho]; exact put_ok_len l ⟨K, N, O, X⟩
  have HSPEC : Hid (∀ (wx : World) (a' : Addr) (g' o' c' : Nat), FilesAt wx (some a') g' o' l → Calls Try.prog 27 #[.agg #[.slice (some a') l.length c'], .agg #[.int .i64 K, .string N, .string O, .string X]] wx fun e w' => ∃ v : Value, e = .returned (.tuple #[.agg #[v], .bool b]) ∧ w'.ownsRow wx.heap.size 68 2 v L.length (cellsF L) ∧ Below wx.heap.size wx w') := fun wx a' g' o' c' h => by
    rw [hb, hL, ho]; exact specPutRaw_is l hl HSS.out ⟨K, N, O, X⟩ (fun e => by cases e) HRR.out wx h
  have HIMPL : Hid (∀ (wx : World) (a' : Addr) (g' o' c' : Nat), FilesAt wx (some a') g' o' l → Calls Try.prog 29 #[.agg #[.slice (some a') l.length c'], .agg #[.int .i64 K, .string N, .string O, .string X]] wx fun e w' => ∃ v : Value, e = .returned (.tuple #[.agg #[v], .bool b]) ∧ w'.ownsRow wx.heap.size 68 2 v L.length (cellsF L) ∧ Below wx.heap.size wx w') := fun wx a' g' o' c' h => by
    rw [hb, hL, ho]; exact HI.out (some a') g' o' c' l ⟨K, N, O, X⟩ wx hl HSS.out (fun e => by cases e) HRR.out h
  have HRAW : Hid (∀ wx : World, Calls Try.prog 28 #[.agg #[.int .i64 K, .string N, .string O, .string X]] wx fun e w' => e = .returned (.agg #[.int .i64 K, .string N, .string O, .string X]) ∧ Below wx.heap.size wx w') := fun wx => toRaw_is ⟨K, N, O, X⟩ wx
  clear hb hL ho
  have HST2 : Hid (LawSt w _ _ w2) := hst2
  have hd2 := hst2.cell (b := w.heap.size) (x := .slice a l.length cap) (t := 29) (by simp)
  obtain ⟨q0, q1, q2, q3⟩ := hst2.raw (b := w.heap.size + 1) (K := K) (N := N) (O := O) (X := X) (t := 41) (by simp)
  clear hst2
  go_upto_region 8 with fail
  go_cut [6, 7] (fun sa sb wx => ∃ (b6 : Nat) (a6 : Option Addr) (c6 : Nat), sa = .pointer (some ⟨b6, 0, none⟩) ∧ sb = .bool b ∧ LawSt w [(b6, .cells #[.slice a6 L.length c6] 34), (w.heap.size + 1, .cells #[.int .i64 K, .string N, .string O, .string X] 41), (w.heap.size, .cells #[.slice a l.length cap] 29)] [(.slice a6 L.length c6, L)] wx)
  case first =>
    go_region_held3 (fun w' => w'.cell? ⟨w.heap.size, 0, none⟩ = some (.slice a l.length cap) ∧ w'.cell? ⟨w.heap.size + 1, 0, none⟩ = some (.int .i64 K) ∧ w'.cell? ⟨w.heap.size + 1, 1, none⟩ = some (.string N) ∧ w'.cell? ⟨w.heap.size + 1, 2, none⟩ = some (.string O) ∧ w'.cell? ⟨w.heap.size + 1, 3, none⟩ = some (.string X)) (first | go_keep | exact ⟨hstP.cell (b := w.heap.size) (x := .slice a l.length cap) (t := 29) (by simp), hstP.raw (b := w.heap.size + 1) (K := K) (N := N) (O := O) (X := X) (t := 41) (by simp)⟩ | exact ⟨(hstP.alloc _).cell (b := w.heap.size) (x := .slice a l.length cap) (t := 29) (by simp), (hstP.alloc _).raw (b := w.heap.size + 1) (K := K) (N := N) (O := O) (X := X) (t := 41) (by simp)⟩ | exact ⟨hstR.cell (b := w.heap.size) (x := .slice a l.length cap) (t := 29) (by simp), hstR.raw (b := w.heap.size + 1) (K := K) (N := N) (O := O) (X := X) (t := 41) (by simp)⟩ | exact ⟨(hstR.alloc _).cell (b := w.heap.size) (x := .slice a l.length cap) (t := 29) (by simp), (hstR.alloc _).raw (b := w.heap.size + 1) (K := K) (N := N) (O := O) (X := X) (t := 41) (by simp)⟩ | exact ⟨hstD.cell (b := w.heap.size) (x := .slice a l.length cap) (t := 29) (by simp), hstD.raw (b := w.heap.size + 1) (K := K) (N := N) (O := O) (X := X) (t := 41) (by simp)⟩ | exact ⟨(hstD.alloc _).cell (b := w.heap.size) (x := .slice a l.length cap) (t := 29) (by simp), (hstD.alloc _).raw (b := w.heap.size + 1) (K := K) (N := N) (O := O) (X := X) (t := 41) (by simp)⟩ | exact ⟨(hstP.set _).cell (b := w.heap.size) (x := .slice a l.length cap) (t := 29) (by simp), (hstP.set _).raw (b := w.heap.size + 1) (K := K) (N := N) (O := O) (X := X) (t := 41) (by simp)⟩ | exact ⟨(HST2.out.drew.alloc _).cell (b := w.heap.size) (x := .slice a l.length cap) (t := 29) (by simp), (HST2.out.drew.alloc _).raw (b := w.heap.size + 1) (K := K) (N := N) (O := O) (X := X) (t := 41) (by simp)⟩) (first | (go_at_call 21; refine (toDisk_any l hl _ (HF.out.kept hstR.below)).mono ?_; rintro e wD ⟨gD, rfl, hgD, hownD, hbD⟩; have hstD := hstR.call hbD hownD) | (go_at_call 21; refine (toDisk_any l hl _ (HF.out.kept (hstR.alloc _).below)).mono ?_; rintro e wD ⟨gD, rfl, hgD, hownD, hbD⟩; have hstD := (hstR.alloc _).call hbD hownD) | (go_at_call 21; refine (toDisk_any l hl _ (HF.out.kept HST2.out.drew.below)).mono ?_; rintro e wD ⟨gD, rfl, hgD, hownD, hbD⟩; have hstD := HST2.out.drew.call hbD hownD) | (go_at_call 21; refine (toDisk_any l hl _ (HF.out.kept (HST2.out.drew.alloc _).below)).mono ?_; rintro e wD ⟨gD, rfl, hgD, hownD, hbD⟩; have hstD := (HST2.out.drew.alloc _).call hbD hownD) | (go_at_call 28; refine (HRAW.out _).mono ?_; rintro e wR ⟨rfl, hbR⟩; have hstR := hstD.step hbR) | (go_at_call 28; refine (HRAW.out _).mono ?_; rintro e wR ⟨rfl, hbR⟩; have hstR := (hstD.alloc _).step hbR) | (go_at_call 28; refine (HRAW.out _).mono ?_; rintro e wR ⟨rfl, hbR⟩; have hstR := HST2.out.drew.step hbR) | (go_at_call 28; refine (HRAW.out _).mono ?_; rintro e wR ⟨rfl, hbR⟩; have hstR := (HST2.out.drew.alloc _).step hbR) | (go_at_call 27; obtain ⟨gF, hfF⟩ := LawSt.files (a := some ⟨gD, 0, none⟩) (n := l.length) (c := l.length) (l := l) hstR rfl (by simp); refine (HSPEC.out _ _ _ _ _ hfF).mono ?_; rintro e wP ⟨v6, rfl, hown6, hbP⟩; obtain ⟨av, cv, rfl⟩ := own_slice hown6; have hstP := hstR.call hbP hown6; first | (have hc6 := hstP.cell (b := w2.heap.size) (x := .slice none 0 0) (t := 34) (List.Mem.head _); have hz6 := hstP.frozen (b := w2.heap.size) (x := .slice none 0 0) (t := 34) (List.Mem.head _)) | (have hc6 := hstP.cell (b := wR.heap.size) (x := .slice none 0 0) (t := 34) (List.Mem.head _); have hz6 := hstP.frozen (b := wR.heap.size) (x := .slice none 0 0) (t := 34) (List.Mem.head _)) | (have hc6 := hstP.cell (b := wD.heap.size) (x := .slice none 0 0) (t := 34) (List.Mem.head _); have hz6 := hstP.frozen (b := wD.heap.size) (x := .slice none 0 0) (t := 34) (List.Mem.head _)) | skip) | (go_at_call 27; obtain ⟨gF, hfF⟩ := LawSt.files (a := some ⟨gD, 0, none⟩) (n := l.length) (c := l.length) (l := l) (hstR.alloc _) rfl (by simp); refine (HSPEC.out _ _ _ _ _ hfF).mono ?_; rintro e wP ⟨v6, rfl, hown6, hbP⟩; obtain ⟨av, cv, rfl⟩ := own_slice hown6; have hstP := (hstR.alloc _).call hbP hown6; first | (have hc6 := hstP.cell (b := w2.heap.size) (x := .slice none 0 0) (t := 34) (List.Mem.head _); have hz6 := hstP.frozen (b := w2.heap.size) (x := .slice none 0 0) (t := 34) (List.Mem.head _)) | (have hc6 := hstP.cell (b := wR.heap.size) (x := .slice none 0 0) (t := 34) (List.Mem.head _); have hz6 := hstP.frozen (b := wR.heap.size) (x := .slice none 0 0) (t := 34) (List.Mem.head _)) | (have hc6 := hstP.cell (b := wD.heap.size) (x := .slice none 0 0) (t := 34) (List.Mem.head _); have hz6 := hstP.frozen (b := wD.heap.size) (x := .slice none 0 0) (t := 34) (List.Mem.head _)) | skip) | (go_at_call 27; obtain ⟨gF, hfF⟩ := LawSt.files (a := some ⟨gD, 0, none⟩) (n := l.length) (c := l.length) (l := l) hstD rfl (by simp); refine (HSPEC.out _ _ _ _ _ hfF).mono ?_; rintro e wP ⟨v6, rfl, hown6, hbP⟩; obtain ⟨av, cv, rfl⟩ := own_slice hown6; have hstP := hstD.call hbP hown6; first | (have hc6 := hstP.cell (b := w2.heap.size) (x := .slice none 0 0) (t := 34) (List.Mem.head _); have hz6 := hstP.frozen (b := w2.heap.size) (x := .slice none 0 0) (t := 34) (List.Mem.head _)) | (have hc6 := hstP.cell (b := wR.heap.size) (x := .slice none 0 0) (t := 34) (List.Mem.head _); have hz6 := hstP.frozen (b := wR.heap.size) (x := .slice none 0 0) (t := 34) (List.Mem.head _)) | (have hc6 := hstP.cell (b := wD.heap.size) (x := .slice none 0 0) (t := 34) (List.Mem.head _); have hz6 := hstP.frozen (b := wD.heap.size) (x := .slice none 0 0) (t := 34) (List.Mem.head _)) | skip) | (go_at_call 27; obtain ⟨gF, hfF⟩ := LawSt.files (a := some ⟨gD, 0, none⟩) (n := l.length) (c := l.length) (l := l) (hstD.alloc _) rfl (by simp); refine (HSPEC.out _ _ _ _ _ hfF).mono ?_; rintro e wP ⟨v6, rfl, hown6, hbP⟩; obtain ⟨av, cv, rfl⟩ := own_slice hown6; have hstP := (hstD.alloc _).call hbP hown6; first | (have hc6 := hstP.cell (b := w2.heap.size) (x := .slice none 0 0) (t := 34) (List.Mem.head _); have hz6 := hstP.frozen (b := w2.heap.size) (x := .slice none 0 0) (t := 34) (List.Mem.head _)) | (have hc6 := hstP.cell (b := wR.heap.size) (x := .slice none 0 0) (t := 34) (List.Mem.head _); have hz6 := hstP.frozen (b := wR.heap.size) (x := .slice none 0 0) (t := 34) (List.Mem.head _)) | (have hc6 := hstP.cell (b := wD.heap.size) (x := .slice none 0 0) (t := 34) (List.Mem.head _); have hz6 := hstP.frozen (b := wD.heap.size) (x := .slice none 0 0) (t := 34) (List.Mem.head _)) | skip))
    all_goals
      go_wp2_with fail
      go_meet
      case rel => first | exact ⟨_, av, cv, rfl, rfl, (hstP.alloc _).second⟩ | exact ⟨_, av, cv, rfl, rfl, (hstP.set _).second⟩
  case rest =>
    obtain ⟨b6, a6, c6, rfl, rfl, hst⟩ := hcut
    have HST6 : Hid (LawSt w _ _ wc) := hst
    have hd6 := hst.cell (b := w.heap.size) (x := .slice a l.length cap) (t := 29) (by simp)
    clear hst HST2 hd2 q0 q1 q2 q3
    go_wp2_with fail
    refine (toDisk_any l hl wc (HF.out.kept HST6.out.below)).mono ?_
    rintro e w8 ⟨g8, rfl, hg8, hown8, hb8⟩
    have hst := (HST6.out.call hb8 hown8).alloc (.cells #[.slice (some ⟨g8, 0, none⟩) l.length l.length] 34)
    have HST8 : Hid (LawSt w _ _ _) := hst
    have hx8 := hst.cell (b := w8.heap.size) (x := .slice (some ⟨g8, 0, none⟩) l.length l.length) (t := 34) (by simp)
    obtain ⟨q0, q1, q2, q3⟩ := hst.raw (b := w.heap.size + 1) (K := K) (N := N) (O := O) (X := X) (t := 41) (by simp)
    have HSZ8 : Hid ((w8.alloc (.cells #[.slice (some ⟨g8, 0, none⟩) l.length l.length] 34)).drew.heap.size = w8.heap.size + 1) := by show _ = _; simp
    have hne8 : w8.heap.size ≠ w.heap.size := by have := HST8.out.bsz (w.heap.size + 1, .cells #[.int .i64 K, .string N, .string O, .string X] 41) (by simp); simp at this; omega
    have hne8' : w.heap.size ≠ w8.heap.size := fun e => hne8 e.symm
    clear hst HST6 hd6 hown8 hb8
    go_upto_region 10 with fail
    go_cut [9, 10] (fun sa sb wx => ∃ (b9 : Nat) (a9 : Option Addr) (c9 : Nat), sa = .pointer (some ⟨b9, 0, none⟩) ∧ sb = .bool b ∧ LawSt w [(b9, .cells #[.slice a9 L.length c9] 34), (w8.heap.size, .cells #[.slice (some ⟨g8, 0, none⟩) l.length l.length] 34), (b6, .cells #[.slice a6 L.length c6] 34), (w.heap.size + 1, .cells #[.int .i64 K, .string N, .string O, .string X] 41), (w.heap.size, .cells #[.slice a l.length cap] 29)] [(.slice a9 L.length c9, L), (.slice (some ⟨g8, 0, none⟩) l.length l.length, l), (.slice a6 L.length c6, L)] wx)
    case first =>
      go_region_held3 (fun w' => w'.cell? ⟨w8.heap.size, 0, none⟩ = some (.slice (some ⟨g8, 0, none⟩) l.length l.length) ∧ w'.cell? ⟨w.heap.size + 1, 0, none⟩ = some (.int .i64 K) ∧ w'.cell? ⟨w.heap.size + 1, 1, none⟩ = some (.string N) ∧ w'.cell? ⟨w.heap.size + 1, 2, none⟩ = some (.string O) ∧ w'.cell? ⟨w.heap.size + 1, 3, none⟩ = some (.string X)) (first | go_keep | exact ⟨hstP.cell (b := w8.heap.size) (x := .slice (some ⟨g8, 0, none⟩) l.length l.length) (t := 34) (by simp), hstP.raw (b := w.heap.size + 1) (K := K) (N := N) (O := O) (X := X) (t := 41) (by simp)⟩ | exact ⟨(hstP.alloc _).cell (b := w8.heap.size) (x := .slice (some ⟨g8, 0, none⟩) l.length l.length) (t := 34) (by simp), (hstP.alloc _).raw (b := w.heap.size + 1) (K := K) (N := N) (O := O) (X := X) (t := 41) (by simp)⟩ | exact ⟨hstR.cell (b := w8.heap.size) (x := .slice (some ⟨g8, 0, none⟩) l.length l.length) (t := 34) (by simp), hstR.raw (b := w.heap.size + 1) (K := K) (N := N) (O := O) (X := X) (t := 41) (by simp)⟩ | exact ⟨(hstR.alloc _).cell (b := w8.heap.size) (x := .slice (some ⟨g8, 0, none⟩) l.length l.length) (t := 34) (by simp), (hstR.alloc _).raw (b := w.heap.size + 1) (K := K) (N := N) (O := O) (X := X) (t := 41) (by simp)⟩ | exact ⟨(hstP.set _).cell (b := w8.heap.size) (x := .slice (some ⟨g8, 0, none⟩) l.length l.length) (t := 34) (by simp), (hstP.set _).raw (b := w.heap.size + 1) (K := K) (N := N) (O := O) (X := X) (t := 41) (by simp)⟩ | exact ⟨(HST8.out.drew.alloc _).cell (b := w8.heap.size) (x := .slice (some ⟨g8, 0, none⟩) l.length l.length) (t := 34) (by simp), (HST8.out.drew.alloc _).raw (b := w.heap.size + 1) (K := K) (N := N) (O := O) (X := X) (t := 41) (by simp)⟩ | (have hS := hstP.set (.slice av L.length cv); rw [HSZ8.out] at hS; exact ⟨hS.cell (b := w8.heap.size) (x := .slice (some ⟨g8, 0, none⟩) l.length l.length) (t := 34) (by simp), hS.raw (b := w.heap.size + 1) (K := K) (N := N) (O := O) (X := X) (t := 41) (by simp)⟩) | (dsimp only; repeat' apply And.intro; all_goals go_keep)) (first | (go_at_call 28; refine (HRAW.out _).mono ?_; rintro e wR ⟨rfl, hbR⟩; have hstR := HST8.out.drew.step hbR) | (go_at_call 28; refine (HRAW.out _).mono ?_; rintro e wR ⟨rfl, hbR⟩; have hstR := (HST8.out.drew.alloc _).step hbR) | (go_at_call 29; obtain ⟨gF, hfF⟩ := LawSt.files (a := some ⟨g8, 0, none⟩) (n := l.length) (c := l.length) (l := l) hstR rfl (by simp); refine (HIMPL.out _ _ _ _ _ hfF).mono ?_; rintro e wP ⟨v6, rfl, hown6, hbP⟩; obtain ⟨av, cv, rfl⟩ := own_slice hown6; have hstP := hstR.call hbP hown6; obtain ⟨p0, p1, p2, p3⟩ := hstP.raw (b := w.heap.size + 1) (K := K) (N := N) (O := O) (X := X) (t := 41) (by simp); have px := hstP.cell (b := w8.heap.size) (x := .slice (some ⟨g8, 0, none⟩) l.length l.length) (t := 34) (by simp); first | (have hc6 := hstP.cell (b := wR.heap.size) (x := .slice none 0 0) (t := 34) (List.Mem.head _); have hz6 := hstP.frozen (b := wR.heap.size) (x := .slice none 0 0) (t := 34) (List.Mem.head _)) | (have hc6 := hstP.cell (b := (w8.alloc (.cells #[.slice (some ⟨g8, 0, none⟩) l.length l.length] 34)).drew.heap.size) (x := .slice none 0 0) (t := 34) (List.Mem.head _); have hz6 := hstP.frozen (b := (w8.alloc (.cells #[.slice (some ⟨g8, 0, none⟩) l.length l.length] 34)).drew.heap.size) (x := .slice none 0 0) (t := 34) (List.Mem.head _); rw [HSZ8.out] at hc6 hz6) | skip) | (go_at_call 29; obtain ⟨gF, hfF⟩ := LawSt.files (a := some ⟨g8, 0, none⟩) (n := l.length) (c := l.length) (l := l) (hstR.alloc _) rfl (by simp); refine (HIMPL.out _ _ _ _ _ hfF).mono ?_; rintro e wP ⟨v6, rfl, hown6, hbP⟩; obtain ⟨av, cv, rfl⟩ := own_slice hown6; have hstP := (hstR.alloc _).call hbP hown6; obtain ⟨p0, p1, p2, p3⟩ := hstP.raw (b := w.heap.size + 1) (K := K) (N := N) (O := O) (X := X) (t := 41) (by simp); have px := hstP.cell (b := w8.heap.size) (x := .slice (some ⟨g8, 0, none⟩) l.length l.length) (t := 34) (by simp); first | (have hc6 := hstP.cell (b := wR.heap.size) (x := .slice none 0 0) (t := 34) (List.Mem.head _); have hz6 := hstP.frozen (b := wR.heap.size) (x := .slice none 0 0) (t := 34) (List.Mem.head _)) | (have hc6 := hstP.cell (b := (w8.alloc (.cells #[.slice (some ⟨g8, 0, none⟩) l.length l.length] 34)).drew.heap.size) (x := .slice none 0 0) (t := 34) (List.Mem.head _); have hz6 := hstP.frozen (b := (w8.alloc (.cells #[.slice (some ⟨g8, 0, none⟩) l.length l.length] 34)).drew.heap.size) (x := .slice none 0 0) (t := 34) (List.Mem.head _); rw [HSZ8.out] at hc6 hz6) | skip))
      all_goals
        go_wp2_with fail
        go_meet
        case rel => first | exact ⟨_, av, cv, rfl, rfl, hstP.alloc _⟩ | exact ⟨_, av, cv, rfl, rfl, hstP.set _⟩ | (have hS := hstP.set (.slice av L.length cv); rw [HSZ8.out] at hS; exact ⟨_, av, cv, rfl, rfl, hS⟩)
    case rest =>
      obtain ⟨b9, a9, c9, rfl, rfl, hst⟩ := hcut
      have hLl := HLl.out
      have hbb : (b != b) = false := by cases b <;> rfl
      clear HST8 hx8 q0 q1 q2 q3
      have HST10 : Hid (LawSt w _ _ _) := hst
      have x6 := hst.cell (b := b6) (x := .slice a6 L.length c6) (t := 34) (by simp)
      have x8 := hst.cell (b := w8.heap.size) (x := .slice (some ⟨g8, 0, none⟩) l.length l.length) (t := 34) (by simp)
      have x9 := hst.cell (b := b9) (x := .slice a9 L.length c9) (t := 34) (by simp)
      have hd := hst.cell (b := w.heap.size) (x := .slice a l.length cap) (t := 29) (by simp)
      obtain ⟨q0, q1, q2, q3⟩ := hst.raw (b := w.heap.size + 1) (K := K) (N := N) (O := O) (X := X) (t := 41) (by simp)
      obtain ⟨f9g, f9⟩ := LawSt.files (a := a9) (n := L.length) (c := c9) (l := L) hst rfl (by simp)
      obtain ⟨f6g, f6⟩ := LawSt.files (a := a6) (n := L.length) (c := c6) (l := L) hst rfl (by simp)
      clear hst
      go_wp2_with fail
      refine (eqDisk_same L (by omega) _ f9 f6).mono ?_
      rintro e w11 ⟨rfl, hb11⟩
      have hst := HST10.out.step hb11
      clear x6 x8 x9 hd q0 q1 q2 q3
      have HST11 : Hid (LawSt w _ _ _) := hst
      have x6 := hst.cell (b := b6) (x := .slice a6 L.length c6) (t := 34) (by simp)
      have x8 := hst.cell (b := w8.heap.size) (x := .slice (some ⟨g8, 0, none⟩) l.length l.length) (t := 34) (by simp)
      have x9 := hst.cell (b := b9) (x := .slice a9 L.length c9) (t := 34) (by simp)
      have hd := hst.cell (b := w.heap.size) (x := .slice a l.length cap) (t := 29) (by simp)
      obtain ⟨q0, q1, q2, q3⟩ := hst.raw (b := w.heap.size + 1) (K := K) (N := N) (O := O) (X := X) (t := 41) (by simp)
      clear hst hb11 f9 f6 HST10
      go_wp2
      go_region_held3 (fun w' => w'.cell? ⟨w8.heap.size, 0, none⟩ = some (.slice (some ⟨g8, 0, none⟩) l.length l.length) ∧ w'.cell? ⟨w.heap.size, 0, none⟩ = some (.slice a l.length cap)) (first | go_keep | exact ⟨hstE.cell (b := w8.heap.size) (x := .slice (some ⟨g8, 0, none⟩) l.length l.length) (t := 34) (by simp), hstE.cell (b := w.heap.size) (x := .slice a l.length cap) (t := 29) (by simp)⟩ | exact ⟨hstD.cell (b := w8.heap.size) (x := .slice (some ⟨g8, 0, none⟩) l.length l.length) (t := 34) (by simp), hstD.cell (b := w.heap.size) (x := .slice a l.length cap) (t := 29) (by simp)⟩) (first | (go_at_call 21; refine (toDisk_any l hl _ (HF.out.kept HST11.out.drew.below)).mono ?_; rintro e wD ⟨gD, rfl, hgD, hownD, hbD⟩; have hstD := HST11.out.drew.call hbD hownD) | (go_at_call 23; obtain ⟨gx, hfx⟩ := LawSt.files (a := some ⟨g8, 0, none⟩) (n := l.length) (c := l.length) (l := l) hstD rfl (by simp); obtain ⟨gy, hfy⟩ := LawSt.files (a := some ⟨gD, 0, none⟩) (n := l.length) (c := l.length) (l := l) hstD rfl (by simp); refine (eqDisk_same l hl _ hfx hfy).mono ?_; rintro e wE ⟨rfl, hbE⟩; have hstE := hstD.step hbE))
      have hst := hstE.tail
      clear x6 x8 x9 hd q0 q1 q2 q3
      have HST13 : Hid (LawSt w _ _ _) := hst
      have x6 := hst.cell (b := b6) (x := .slice a6 L.length c6) (t := 34) (by simp)
      have x8 := hst.cell (b := w8.heap.size) (x := .slice (some ⟨g8, 0, none⟩) l.length l.length) (t := 34) (by simp)
      have x9 := hst.cell (b := b9) (x := .slice a9 L.length c9) (t := 34) (by simp)
      have hd := hst.cell (b := w.heap.size) (x := .slice a l.length cap) (t := 29) (by simp)
      obtain ⟨q0, q1, q2, q3⟩ := hst.raw (b := w.heap.size + 1) (K := K) (N := N) (O := O) (X := X) (t := 41) (by simp)
      have hap := hst.apart
      have HV8 : Hid (wE.ownsRow w.heap.size 68 2 (.slice (some ⟨g8, 0, none⟩) l.length l.length) l.length (cellsF l)) := hst.own (.slice (some ⟨g8, 0, none⟩) l.length l.length, l) (by simp)
      clear hst hstE hstD hbE hbD hownD hfx hfy HST11
      go_wp2_with fail
      refine (markDisk_own l hl wE HV8.out).mono ?_
      rintro e w16 ⟨rfl, hown16, hg16⟩
      have hst := HST13.out.markMid (l' := marksF 1 l.length) (by simp [Value.ownBlock]) hg16 (by rw [marksF_len]; exact hown16)
      have HUX : Hid ((Value.slice a9 L.length c9).ownBlock = none ∨ (Value.slice a9 L.length c9).ownBlock ≠ (Value.slice a6 L.length c6).ownBlock) := by
        have hp := hap
        simp only [List.pairwise_cons, List.mem_cons, List.not_mem_nil, or_false, forall_eq_or_imp, forall_eq] at hp
        exact hp.1.2
      clear x6 x8 x9 hd q0 q1 q2 q3
      have HST16 : Hid (LawSt w _ _ _) := hst
      have x6 := hst.cell (b := b6) (x := .slice a6 L.length c6) (t := 34) (by simp)
      have x8 := hst.cell (b := w8.heap.size) (x := .slice (some ⟨g8, 0, none⟩) l.length l.length) (t := 34) (by simp)
      have x9 := hst.cell (b := b9) (x := .slice a9 L.length c9) (t := 34) (by simp)
      have hd := hst.cell (b := w.heap.size) (x := .slice a l.length cap) (t := 29) (by simp)
      obtain ⟨q0, q1, q2, q3⟩ := hst.raw (b := w.heap.size + 1) (K := K) (N := N) (O := O) (X := X) (t := 41) (by simp)
      obtain ⟨f9g, f9⟩ := LawSt.files (a := a9) (n := L.length) (c := c9) (l := L) hst rfl (by simp)
      obtain ⟨f6g, f6⟩ := LawSt.files (a := a6) (n := L.length) (c := c6) (l := L) hst rfl (by simp)
      clear hst hown16 hg16 hap HST13 HV8
      go_wp2_with fail
      refine (eqDisk_same L (by omega) _ f9 f6).mono ?_
      rintro e w17 ⟨rfl, hb17⟩
      have hst := HST16.out.step hb17
      clear x6 x8 x9 hd q0 q1 q2 q3
      have HST17 : Hid (LawSt w _ _ _) := hst
      have x6 := hst.cell (b := b6) (x := .slice a6 L.length c6) (t := 34) (by simp)
      have x8 := hst.cell (b := w8.heap.size) (x := .slice (some ⟨g8, 0, none⟩) l.length l.length) (t := 34) (by simp)
      have x9 := hst.cell (b := b9) (x := .slice a9 L.length c9) (t := 34) (by simp)
      have hd := hst.cell (b := w.heap.size) (x := .slice a l.length cap) (t := 29) (by simp)
      obtain ⟨q0, q1, q2, q3⟩ := hst.raw (b := w.heap.size + 1) (K := K) (N := N) (O := O) (X := X) (t := 41) (by simp)
      have HV9 : Hid (w17.ownsRow w.heap.size 68 2 (.slice a9 L.length c9) L.length (cellsF L)) := hst.own (.slice a9 L.length c9, L) (by simp)
      clear hst hb17 f9 f6 HST16
      go_wp2_with fail
      refine (markDisk_own L (by omega) w17 HV9.out).mono ?_
      rintro e w20 ⟨rfl, hown20, hg20⟩
      have hst := HST17.out.markSnd (l' := marksF 1 L.length) hg20 (by rw [marksF_len]; exact hown20) HUX.out
      clear x6 x8 x9 hd q0 q1 q2 q3
      have HST20 : Hid (LawSt w _ _ _) := hst
      have x6 := hst.cell (b := b6) (x := .slice a6 L.length c6) (t := 34) (by simp)
      have x8 := hst.cell (b := w8.heap.size) (x := .slice (some ⟨g8, 0, none⟩) l.length l.length) (t := 34) (by simp)
      have x9 := hst.cell (b := b9) (x := .slice a9 L.length c9) (t := 34) (by simp)
      have hd := hst.cell (b := w.heap.size) (x := .slice a l.length cap) (t := 29) (by simp)
      obtain ⟨q0, q1, q2, q3⟩ := hst.raw (b := w.heap.size + 1) (K := K) (N := N) (O := O) (X := X) (t := 41) (by simp)
      obtain ⟨f9g, f9⟩ := LawSt.files (a := a9) (n := L.length) (c := c9) (l := (marksF 1 L.length)) hst (marksF_len 1 L.length) (by simp)
      clear hst hown20 hg20 HST17 HV9 HUX
      go_wp2_with fail
      refine (heldDisk_is L.length (by omega) _ f9).mono ?_
      rintro e w22 ⟨rfl, hb22⟩
      have hst := HST20.out.step hb22
      clear x6 x8 x9 hd q0 q1 q2 q3
      have HST22 : Hid (LawSt w _ _ _) := hst
      have x6 := hst.cell (b := b6) (x := .slice a6 L.length c6) (t := 34) (by simp)
      have x8 := hst.cell (b := w8.heap.size) (x := .slice (some ⟨g8, 0, none⟩) l.length l.length) (t := 34) (by simp)
      have x9 := hst.cell (b := b9) (x := .slice a9 L.length c9) (t := 34) (by simp)
      have hd := hst.cell (b := w.heap.size) (x := .slice a l.length cap) (t := 29) (by simp)
      obtain ⟨q0, q1, q2, q3⟩ := hst.raw (b := w.heap.size + 1) (K := K) (N := N) (O := O) (X := X) (t := 41) (by simp)
      clear hst hb22 f9 HST20
      go_upto_region 27 with fail
      go_cut [14, 15] (fun sa sb wx => ∃ (b14 : Nat) (a14 : Option Addr) (c14 : Nat), sa = .pointer (some ⟨b14, 0, none⟩) ∧ sb = .bool b ∧ LawSt w [(b14, .cells #[.slice a14 L.length c14] 34), (b9, .cells #[.slice a9 L.length c9] 34), (w8.heap.size, .cells #[.slice (some ⟨g8, 0, none⟩) l.length l.length] 34), (b6, .cells #[.slice a6 L.length c6] 34), (w.heap.size + 1, .cells #[.int .i64 K, .string N, .string O, .string X] 41), (w.heap.size, .cells #[.slice a l.length cap] 29)] [(.slice a14 L.length c14, L), (.slice a9 L.length c9, marksF 1 L.length), (.slice a6 L.length c6, L)] wx)
      case first =>
        go_region_held3 (fun w' => w'.cell? ⟨w.heap.size, 0, none⟩ = some (.slice a l.length cap) ∧ w'.cell? ⟨w.heap.size + 1, 0, none⟩ = some (.int .i64 K) ∧ w'.cell? ⟨w.heap.size + 1, 1, none⟩ = some (.string N) ∧ w'.cell? ⟨w.heap.size + 1, 2, none⟩ = some (.string O) ∧ w'.cell? ⟨w.heap.size + 1, 3, none⟩ = some (.string X)) (first | go_keep | exact ⟨hstP.cell (b := w.heap.size) (x := .slice a l.length cap) (t := 29) (by simp), hstP.raw (b := w.heap.size + 1) (K := K) (N := N) (O := O) (X := X) (t := 41) (by simp)⟩ | exact ⟨(hstP.alloc _).cell (b := w.heap.size) (x := .slice a l.length cap) (t := 29) (by simp), (hstP.alloc _).raw (b := w.heap.size + 1) (K := K) (N := N) (O := O) (X := X) (t := 41) (by simp)⟩ | exact ⟨hstR.cell (b := w.heap.size) (x := .slice a l.length cap) (t := 29) (by simp), hstR.raw (b := w.heap.size + 1) (K := K) (N := N) (O := O) (X := X) (t := 41) (by simp)⟩ | exact ⟨(hstR.alloc _).cell (b := w.heap.size) (x := .slice a l.length cap) (t := 29) (by simp), (hstR.alloc _).raw (b := w.heap.size + 1) (K := K) (N := N) (O := O) (X := X) (t := 41) (by simp)⟩ | exact ⟨hstD.cell (b := w.heap.size) (x := .slice a l.length cap) (t := 29) (by simp), hstD.raw (b := w.heap.size + 1) (K := K) (N := N) (O := O) (X := X) (t := 41) (by simp)⟩ | exact ⟨(hstD.alloc _).cell (b := w.heap.size) (x := .slice a l.length cap) (t := 29) (by simp), (hstD.alloc _).raw (b := w.heap.size + 1) (K := K) (N := N) (O := O) (X := X) (t := 41) (by simp)⟩ | exact ⟨(hstP.set _).cell (b := w.heap.size) (x := .slice a l.length cap) (t := 29) (by simp), (hstP.set _).raw (b := w.heap.size + 1) (K := K) (N := N) (O := O) (X := X) (t := 41) (by simp)⟩ | exact ⟨(HST22.out.drew.alloc _).cell (b := w.heap.size) (x := .slice a l.length cap) (t := 29) (by simp), (HST22.out.drew.alloc _).raw (b := w.heap.size + 1) (K := K) (N := N) (O := O) (X := X) (t := 41) (by simp)⟩) (first | (go_at_call 21; refine (toDisk_any l hl _ (HF.out.kept hstR.below)).mono ?_; rintro e wD ⟨gD, rfl, hgD, hownD, hbD⟩; have hstD := hstR.call hbD hownD) | (go_at_call 21; refine (toDisk_any l hl _ (HF.out.kept (hstR.alloc _).below)).mono ?_; rintro e wD ⟨gD, rfl, hgD, hownD, hbD⟩; have hstD := (hstR.alloc _).call hbD hownD) | (go_at_call 21; refine (toDisk_any l hl _ (HF.out.kept HST22.out.drew.below)).mono ?_; rintro e wD ⟨gD, rfl, hgD, hownD, hbD⟩; have hstD := HST22.out.drew.call hbD hownD) | (go_at_call 21; refine (toDisk_any l hl _ (HF.out.kept (HST22.out.drew.alloc _).below)).mono ?_; rintro e wD ⟨gD, rfl, hgD, hownD, hbD⟩; have hstD := (HST22.out.drew.alloc _).call hbD hownD) | (go_at_call 28; refine (HRAW.out _).mono ?_; rintro e wR ⟨rfl, hbR⟩; have hstR := hstD.step hbR) | (go_at_call 28; refine (HRAW.out _).mono ?_; rintro e wR ⟨rfl, hbR⟩; have hstR := (hstD.alloc _).step hbR) | (go_at_call 28; refine (HRAW.out _).mono ?_; rintro e wR ⟨rfl, hbR⟩; have hstR := HST22.out.drew.step hbR) | (go_at_call 28; refine (HRAW.out _).mono ?_; rintro e wR ⟨rfl, hbR⟩; have hstR := (HST22.out.drew.alloc _).step hbR) | (go_at_call 29; obtain ⟨gF, hfF⟩ := LawSt.files (a := some ⟨gD, 0, none⟩) (n := l.length) (c := l.length) (l := l) hstR rfl (by simp); refine (HIMPL.out _ _ _ _ _ hfF).mono ?_; rintro e wP ⟨v6, rfl, hown6, hbP⟩; obtain ⟨av, cv, rfl⟩ := own_slice hown6; have hstP := hstR.call hbP hown6; first | (have hc6 := hstP.cell (b := w22.heap.size) (x := .slice none 0 0) (t := 34) (List.Mem.head _); have hz6 := hstP.frozen (b := w22.heap.size) (x := .slice none 0 0) (t := 34) (List.Mem.head _)) | (have hc6 := hstP.cell (b := wR.heap.size) (x := .slice none 0 0) (t := 34) (List.Mem.head _); have hz6 := hstP.frozen (b := wR.heap.size) (x := .slice none 0 0) (t := 34) (List.Mem.head _)) | (have hc6 := hstP.cell (b := wD.heap.size) (x := .slice none 0 0) (t := 34) (List.Mem.head _); have hz6 := hstP.frozen (b := wD.heap.size) (x := .slice none 0 0) (t := 34) (List.Mem.head _)) | skip) | (go_at_call 29; obtain ⟨gF, hfF⟩ := LawSt.files (a := some ⟨gD, 0, none⟩) (n := l.length) (c := l.length) (l := l) (hstR.alloc _) rfl (by simp); refine (HIMPL.out _ _ _ _ _ hfF).mono ?_; rintro e wP ⟨v6, rfl, hown6, hbP⟩; obtain ⟨av, cv, rfl⟩ := own_slice hown6; have hstP := (hstR.alloc _).call hbP hown6; first | (have hc6 := hstP.cell (b := w22.heap.size) (x := .slice none 0 0) (t := 34) (List.Mem.head _); have hz6 := hstP.frozen (b := w22.heap.size) (x := .slice none 0 0) (t := 34) (List.Mem.head _)) | (have hc6 := hstP.cell (b := wR.heap.size) (x := .slice none 0 0) (t := 34) (List.Mem.head _); have hz6 := hstP.frozen (b := wR.heap.size) (x := .slice none 0 0) (t := 34) (List.Mem.head _)) | (have hc6 := hstP.cell (b := wD.heap.size) (x := .slice none 0 0) (t := 34) (List.Mem.head _); have hz6 := hstP.frozen (b := wD.heap.size) (x := .slice none 0 0) (t := 34) (List.Mem.head _)) | skip) | (go_at_call 29; obtain ⟨gF, hfF⟩ := LawSt.files (a := some ⟨gD, 0, none⟩) (n := l.length) (c := l.length) (l := l) hstD rfl (by simp); refine (HIMPL.out _ _ _ _ _ hfF).mono ?_; rintro e wP ⟨v6, rfl, hown6, hbP⟩; obtain ⟨av, cv, rfl⟩ := own_slice hown6; have hstP := hstD.call hbP hown6; first | (have hc6 := hstP.cell (b := w22.heap.size) (x := .slice none 0 0) (t := 34) (List.Mem.head _); have hz6 := hstP.frozen (b := w22.heap.size) (x := .slice none 0 0) (t := 34) (List.Mem.head _)) | (have hc6 := hstP.cell (b := wR.heap.size) (x := .slice none 0 0) (t := 34) (List.Mem.head _); have hz6 := hstP.frozen (b := wR.heap.size) (x := .slice none 0 0) (t := 34) (List.Mem.head _)) | (have hc6 := hstP.cell (b := wD.heap.size) (x := .slice none 0 0) (t := 34) (List.Mem.head _); have hz6 := hstP.frozen (b := wD.heap.size) (x := .slice none 0 0) (t := 34) (List.Mem.head _)) | skip) | (go_at_call 29; obtain ⟨gF, hfF⟩ := LawSt.files (a := some ⟨gD, 0, none⟩) (n := l.length) (c := l.length) (l := l) (hstD.alloc _) rfl (by simp); refine (HIMPL.out _ _ _ _ _ hfF).mono ?_; rintro e wP ⟨v6, rfl, hown6, hbP⟩; obtain ⟨av, cv, rfl⟩ := own_slice hown6; have hstP := (hstD.alloc _).call hbP hown6; first | (have hc6 := hstP.cell (b := w22.heap.size) (x := .slice none 0 0) (t := 34) (List.Mem.head _); have hz6 := hstP.frozen (b := w22.heap.size) (x := .slice none 0 0) (t := 34) (List.Mem.head _)) | (have hc6 := hstP.cell (b := wR.heap.size) (x := .slice none 0 0) (t := 34) (List.Mem.head _); have hz6 := hstP.frozen (b := wR.heap.size) (x := .slice none 0 0) (t := 34) (List.Mem.head _)) | (have hc6 := hstP.cell (b := wD.heap.size) (x := .slice none 0 0) (t := 34) (List.Mem.head _); have hz6 := hstP.frozen (b := wD.heap.size) (x := .slice none 0 0) (t := 34) (List.Mem.head _)) | skip))
        all_goals
          go_wp2_with fail
          go_meet
          case rel => first | exact ⟨_, av, cv, rfl, rfl, (hstP.alloc _).second⟩ | exact ⟨_, av, cv, rfl, rfl, (hstP.set _).second⟩
      case rest =>
        obtain ⟨b14, a14, c14, rfl, rfl, hst⟩ := hcut
        clear x6 x8 x9 hd q0 q1 q2 q3
        have HST27 : Hid (LawSt w _ _ _) := hst
        have x6 := hst.cell (b := b6) (x := .slice a6 L.length c6) (t := 34) (by simp)
        have x8 := hst.cell (b := w8.heap.size) (x := .slice (some ⟨g8, 0, none⟩) l.length l.length) (t := 34) (by simp)
        have x9 := hst.cell (b := b9) (x := .slice a9 L.length c9) (t := 34) (by simp)
        have hd := hst.cell (b := w.heap.size) (x := .slice a l.length cap) (t := 29) (by simp)
        obtain ⟨q0, q1, q2, q3⟩ := hst.raw (b := w.heap.size + 1) (K := K) (N := N) (O := O) (X := X) (t := 41) (by simp)
        have x14 := hst.cell (b := b14) (x := .slice a14 L.length c14) (t := 34) (by simp)
        obtain ⟨f14g, f14⟩ := LawSt.files (a := a14) (n := L.length) (c := c14) (l := L) hst rfl (by simp)
        obtain ⟨f6g, f6⟩ := LawSt.files (a := a6) (n := L.length) (c := c6) (l := L) hst rfl (by simp)
        clear hst HST22
        go_wp2_with fail
        refine (eqDisk_same L (by omega) _ f14 f6).mono ?_
        rintro e w28 ⟨rfl, hb28⟩
        have hst := HST27.out.step hb28
        clear x6 x8 x9 hd q0 q1 q2 q3
        clear x14
        have HST28 : Hid (LawSt w _ _ _) := hst
        have x6 := hst.cell (b := b6) (x := .slice a6 L.length c6) (t := 34) (by simp)
        have x8 := hst.cell (b := w8.heap.size) (x := .slice (some ⟨g8, 0, none⟩) l.length l.length) (t := 34) (by simp)
        have x9 := hst.cell (b := b9) (x := .slice a9 L.length c9) (t := 34) (by simp)
        have hd := hst.cell (b := w.heap.size) (x := .slice a l.length cap) (t := 29) (by simp)
        obtain ⟨q0, q1, q2, q3⟩ := hst.raw (b := w.heap.size + 1) (K := K) (N := N) (O := O) (X := X) (t := 41) (by simp)
        obtain ⟨f9g, f9⟩ := LawSt.files (a := a9) (n := L.length) (c := c9) (l := (marksF 1 L.length)) hst (marksF_len 1 L.length) (by simp)
        clear hst hb28 f14 f6 HST27
        go_wp2_with fail
        refine (heldDisk_is L.length (by omega) _ f9).mono ?_
        rintro e w31 ⟨rfl, hb31⟩
        have hB := (HST28.out.step hb31).below
        clear hb31 HST28
        go_wp2
        go_ret
        exact ⟨rfl, hB⟩
end Go.Proofs.Ytpkkejpidlkmnaa
