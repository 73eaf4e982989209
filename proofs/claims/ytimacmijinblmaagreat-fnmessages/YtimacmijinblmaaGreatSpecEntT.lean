/- The specification's EntryText, walked. -/
import Derived.Test.YtimacmijinblmaaGreatImplConf
import Derived.Test.YtimacmijinblmaaGreatSTxt
import Derived.Deep.RegionHeld
namespace Go.Proofs.YtimacmijinblmaaGreat
open Go.RowKit
open Ents (okB kindB text textS right)
set_option linter.unusedVariables false
set_option linter.unusedSimpArgs false

/-- What EntryText answers. -/
def entTuple (i : Int) (e : EntL) : Value := if okB e = true ∧ 1 ≤ i ∧ i ≤ 100000 then .tuple #[.string (textS i.toNat e), .bool true] else .tuple #[.string ⟨#[]⟩, .bool false]
/-- A row of one byte that lies at g. -/
def RowAt (W : World) (g : Nat) (b : UInt8) : Prop := W.ownsRow 0 5 1 (.slice (some ⟨g, 0, none⟩) 1 1) 1 (cellsB [b])
theorem RowAt.new (W : World) (b : UInt8) : RowAt (W.alloc (Obj.cells #[.int .u8 (b.toNat : Int)] 5)) W.heap.size b := by
  have := World.ownsRow_lit (base := 0) (e := 5) (size := 1) W #[.int .u8 (b.toNat : Int)] 1 (Nat.zero_le _) (by unfold maxLen; omega) rfl
  exact this
theorem RowAt.kept {W W' : World} {g : Nat} {b : UInt8} (h : RowAt W g b) (hb : Below W.heap.size W W') : RowAt W' g b := own_kept h hb
theorem RowAt.cv {W : World} {g : Nat} {b : UInt8} (h : RowAt W g b) : (convert 31 9 (.slice (some ⟨g, 0, none⟩) 1 1)).run Tryz.prog W = .ok (.string ⟨#[b]⟩) W := string_own (l := [b]) h
/-- The cells of an entry that lies at g. -/
def EntAt (W : World) (g : Nat) (e : EntL) : Prop := W.cell? ⟨g, 0, none⟩ = some (.int .i64 e.term) ∧ W.cell? ⟨g, 1, none⟩ = some (.int .i64 e.kind) ∧ W.cell? ⟨g, 2, none⟩ = some (.string e.data)
theorem EntAt.new (w : World) (e : EntL) : EntAt (w.alloc (Obj.cells #[.int .i64 e.term, .int .i64 e.kind, .string e.data] 44)) w.heap.size e := by
  have p0 := heap_alloc_new w (Obj.cells #[.int .i64 e.term, .int .i64 e.kind, .string e.data] 44)
  exact ⟨cell_of_row _ _ 0 _ _ _ p0, cell_of_row _ _ 1 _ _ _ p0, cell_of_row _ _ 2 _ _ _ p0⟩
theorem EntAt.kept {W W' : World} {g : Nat} {e : EntL} (h : EntAt W g e) (hb : Below W.heap.size W W') : EntAt W' g e := by
  have hl := World.block_lt_of_cell? W _ h.1
  exact ⟨(hb.cell (p := ⟨g, 0, none⟩) hl).trans h.1, (hb.cell (p := ⟨g, 1, none⟩) hl).trans h.2.1, (hb.cell (p := ⟨g, 2, none⟩) hl).trans h.2.2⟩
theorem textS_is (n : Nat) (e : EntL) (T : ByteArray) (b : UInt8) (hb : b = UInt8.ofNat e.kind.toNat) : (⟨#[69]⟩ : ByteArray) ++ varS (n : Int) ++ varS e.term ++ ⟨#[b]⟩ ++ e.data = textS n e := by
  have h : Is ((⟨#[69]⟩ : ByteArray) ++ varS (n : Int) ++ varS e.term ++ ⟨#[b]⟩ ++ e.data) (text n e) := by
    have h1 : Is (⟨#[69]⟩ : ByteArray) [69] := rfl
    have h4 : Is (⟨#[b]⟩ : ByteArray) [b] := rfl
    have := (((h1.app (varS_is (n : Int))).app (varS_is e.term)).app h4).app (T := e.data) (m := Batches.by_ e.data) rfl
    unfold text
    rw [← hb]
    simpa using this
  exact h.eq
theorem wrap_kind (k : Int) (h0 : 1 ≤ k) (h1 : k ≤ 3) : IntKind.u8.wrap k = ((UInt8.ofNat k.toNat).toNat : Int) := by
  have : k = 1 ∨ k = 2 ∨ k = 3 := by omega
  rcases this with rfl | rfl | rfl <;> decide
set_option maxHeartbeats 4000000 in
set_option maxRecDepth 100000 in
theorem specEntText_yes (n : Nat) (e : EntL) (h : right (n : Int) e) (w : World) : Calls Tryz.prog 42 #[.int .i64 (n : Int), entV e] w fun en w' => en = .returned (.tuple #[.string (textS n e), .bool true]) ∧ Below w.heap.size w w' := by
  obtain ⟨h1, h2, h3⟩ := h
  obtain ⟨⟨t0, t1⟩, hk⟩ := Ents.okB_iff.1 h1
  obtain ⟨⟨k0, k1⟩, hd⟩ := Ents.kind_in hk
  have hq := specEntOk_is e (by omega)
  rw [h1] at hq
  unfold entV at hq ⊢
  have HQ : Hid (∀ W, Calls Tryz.prog 37 #[.agg #[.int .i64 e.term, .int .i64 e.kind, .string e.data]] W fun en w' => en = .returned (.bool true) ∧ Below W.heap.size W w') := hq
  obtain ⟨W, hW⟩ : ∃ W, W = w.alloc (Obj.cells #[.int .i64 e.term, .int .i64 e.kind, .string e.data] 44) := ⟨_, rfl⟩
  have HE : Hid (EntAt W w.heap.size e) := by rw [hW]; exact EntAt.new w e
  have HB : Hid (Below w.heap.size w W) := by show Below _ _ _; rw [hW]; exact (Below.refl _ _).alloc (Nat.le_refl _) _
  obtain ⟨b, hb⟩ : ∃ b, b = UInt8.ofNat e.kind.toNat := ⟨_, rfl⟩
  have HWK : Hid (IntKind.u8.wrap e.kind = (b.toNat : Int)) := by show _ = _; rw [hb]; exact wrap_kind _ k0 k1
  have HT : Hid ((⟨#[69]⟩ : ByteArray) ++ varS (n : Int) ++ varS e.term ++ ⟨#[b]⟩ ++ e.data = textS n e) := textS_is n e ⟨#[]⟩ b hb
  obtain ⟨g, hg⟩ : ∃ g, g = w.heap.size := ⟨_, rfl⟩
  have hc := EntAt.new w e
  rw [← hW, ← hg] at hc
  rw [← hg] at HE
  have HC : Hid (∀ W', Below W.heap.size W W' → EntAt W' g e) := fun W' h => HE.out.kept h
  clear hc HE hq hk hb h1
  have x1 : ((1 : Int) ≤ (n : Int) ∧ (n : Int) ≤ 100000) := ⟨h2, h3⟩
  have n0 : (0 : Int) ≤ (n : Int) := by omega
  have n1 : (n : Int) ≤ 1000000000 := by omega
  have m1 : e.term ≤ 1000000000 := by omega
  have sz1 := varS_size (n : Int) 100000 (by omega)
  have sz2 := varS_size e.term 100000 (by omega)
  obtain ⟨T1, hT1⟩ : ∃ T, T = varS (n : Int) := ⟨_, rfl⟩
  obtain ⟨T2, hT2⟩ : ∃ T, T = varS e.term := ⟨_, rfl⟩
  have HV : Hid (∀ (x : Int) (W : World), 0 ≤ x → x ≤ 1000000000 → Calls Tryz.prog 43 #[.int .i64 x] W fun en w' => en = .returned (.string (varS x)) ∧ Below W.heap.size W w') := fun x W a b => l01Var_q x a b W
  have HV1 : Hid (∀ (W : World), Calls Tryz.prog 43 #[.int .i64 (n : Int)] W fun en w' => en = .returned (.string T1) ∧ Below W.heap.size W w') := fun W => by rw [hT1]; exact l01Var_q _ n0 n1 W
  have HV2 : Hid (∀ (W : World), Calls Tryz.prog 43 #[.int .i64 e.term] W fun en w' => en = .returned (.string T2) ∧ Below W.heap.size W w') := fun W => by rw [hT2]; exact l01Var_q _ t0 m1 W
  rw [← hT1] at sz1 HT
  rw [← hT2] at sz2 HT
  clear HV hT1 hT2
  have z1 : ¬ 9223372036854775807 < 1 + T1.size := by omega
  have z2 : ¬ 9223372036854775807 < 1 + T1.size + T2.size := by omega
  have z3 : ¬ 9223372036854775807 < 1 + T1.size + T2.size + 1 := by omega
  have z4 : ¬ 9223372036854775807 < 1 + T1.size + T2.size + 1 + e.data.size := by omega
  go_enter Tryz.func42, Tryz.ntmps42
  go_wp2_with fail
  rw [← hW, ← hg]
  clear hW hg
  refine Calls.mono (HQ.out _) ?_
  rintro en w1 ⟨rfl, hb1⟩
  have HB1 : Hid (Below w.heap.size w w1) := HB.out.trans (hb1.mono HB.out.size)
  have HE1 : Hid (EntAt w1 g e) := HC.out _ hb1
  clear hb1 HB HC
  go_wp2_with (go_at_call 36; refine (in_yes _ _ _ x1 _).mono ?_; rintro en w2 ⟨rfl, hw2⟩; have hw3 := hw2.symm; clear hw2; subst hw3)
  have hw := HWK.out
  have HK : Hid (∀ W W' : World, Below w1.heap.size w1 W → Below W.heap.size W W' → Below w1.heap.size w1 W') := fun W W' a b => a.trans (b.mono a.size)
  have HEE : Hid (∀ W, Below w1.heap.size w1 W → EntAt W g e) := fun W a => HE1.out.kept a
  have HEC : Hid (∀ W, Below w1.heap.size w1 W → W.cell? ⟨g, 0, none⟩ = some (.int .i64 e.term) ∧ W.cell? ⟨g, 1, none⟩ = some (.int .i64 e.kind) ∧ W.cell? ⟨g, 2, none⟩ = some (.string e.data)) := fun W a => HE1.out.kept a
  have HR1 : Hid (∀ X W' : World, Below (X.alloc (Obj.cells #[.int .u8 (b.toNat : Int)] 5)).heap.size (X.alloc (Obj.cells #[.int .u8 (b.toNat : Int)] 5)) W' → RowAt W' X.heap.size b) := fun X W' a => (RowAt.new X b).kept a
  have HR0 : Hid (∀ W' : World, Below (w1.drew.alloc (Obj.cells #[.int .u8 (b.toNat : Int)] 5)).heap.size (w1.drew.alloc (Obj.cells #[.int .u8 (b.toNat : Int)] 5)) W' → RowAt W' w1.heap.size b) := fun W' a => (RowAt.new w1.drew b).kept a
  have HR2 : Hid (∀ (X W' : World) (q : Nat), RowAt X q b → Below X.heap.size X W' → RowAt W' q b) := fun X W' q a c => RowAt.kept a c
  have cv0 : ∀ X : World, (convert 31 9 (.slice (some ⟨X.heap.size, 0, none⟩) 1 1)).run Tryz.prog (X.alloc (Obj.cells #[.int .u8 (b.toNat : Int)] 5)) = .ok (.string ⟨#[b]⟩) (X.alloc (Obj.cells #[.int .u8 (b.toNat : Int)] 5)) := fun X => (RowAt.new X b).cv
  have cv00 : (convert 31 9 (.slice (some ⟨w1.heap.size, 0, none⟩) 1 1)).run Tryz.prog (w1.alloc (Obj.cells #[.int .u8 (b.toNat : Int)] 5)).drew = .ok (.string ⟨#[b]⟩) (w1.alloc (Obj.cells #[.int .u8 (b.toNat : Int)] 5)).drew := (RowAt.new w1.drew b).cv
  have HEND : Hid (∀ W, Below w1.heap.size w1 W → Below w.heap.size w W) := fun W a => HB1.out.trans (a.mono HB1.out.size)
  have BD : Below w1.heap.size w1 w1.drew := (Below.refl _ _).drew
  go_region_held (fun w' => (w'.cell? ⟨g, 0, none⟩ = some (.int .i64 e.term) ∧ w'.cell? ⟨g, 1, none⟩ = some (.int .i64 e.kind) ∧ w'.cell? ⟨g, 2, none⟩ = some (.string e.data)) ∧ Below w1.heap.size w1 w')
    (first | assumption | exact ⟨HEC.out _ (by assumption), by assumption⟩ | exact ⟨HEC.out _ (Below.alloc (And.right (by assumption)) (Below.size (And.right (by assumption))) _), Below.alloc (And.right (by assumption)) (Below.size (And.right (by assumption))) _⟩ | fail)
    (first | (go_at_call 43; (first | (with_reducible refine Calls.mono (HV1.out _) ?_) | (with_reducible refine Calls.mono (HV2.out _) ?_) | fail); rintro en w5 ⟨rfl, hb5⟩; have hq5 := HK.out _ _ (And.right (by assumption)) hb5; (first | (have r5 := HR2.out _ _ _ (by assumption) hb5; have cv5 := r5.cv; clear hb5) | (have r5 := HR0.out _ hb5; have cv5 := r5.cv; clear hb5) | (have r5 := HR1.out _ _ hb5; have cv5 := r5.cv; clear hb5) | (clear hb5))) | fail)
  all_goals (
    go_wp2
    go_ret2
    exact ⟨by rw [← HT.out]; rfl, HEND.out _ (And.right (by assumption))⟩)
set_option maxHeartbeats 400000 in
theorem specEntText_no (i : Int) (e : EntL) (hs : e.data.size ≤ 1048576) (h : ¬ (okB e = true ∧ 1 ≤ i ∧ i ≤ 100000)) (w : World) : Calls Tryz.prog 42 #[.int .i64 i, entV e] w fun en w' => en = .returned (.tuple #[.string ⟨#[]⟩, .bool false]) ∧ Below w.heap.size w w' := by
  obtain ⟨R, hR⟩ : ∃ R, R = okB e := ⟨_, rfl⟩
  have hq := specEntOk_is e hs
  rw [← hR] at hq h
  unfold entV at hq ⊢
  have HQ : Hid (∀ W, Calls Tryz.prog 37 #[.agg #[.int .i64 e.term, .int .i64 e.kind, .string e.data]] W fun en w' => en = .returned (.bool R) ∧ Below W.heap.size W w') := hq
  obtain ⟨W, hW⟩ : ∃ W, W = w.alloc (Obj.cells #[.int .i64 e.term, .int .i64 e.kind, .string e.data] 44) := ⟨_, rfl⟩
  have HB : Hid (Below w.heap.size w W) := by show Below _ _ _; rw [hW]; exact (Below.refl _ _).alloc (Nat.le_refl _) _
  clear hq hR
  cases R with
  | false =>
    go_enter Tryz.func42, Tryz.ntmps42
    go_wp2_with fail
    rw [← hW]
    clear hW
    refine Calls.mono (HQ.out _) ?_
    rintro en w1 ⟨rfl, hb1⟩
    have HB1 : Hid (Below w.heap.size w w1) := HB.out.trans (hb1.mono HB.out.size)
    clear hb1
    go_wp2
    go_ret2
    exact ⟨rfl, HB1.out⟩
  | true =>
    have hi : ¬ (1 ≤ i ∧ i ≤ 100000) := fun x => h ⟨rfl, x⟩
    clear h
    go_enter Tryz.func42, Tryz.ntmps42
    go_wp2_with fail
    rw [← hW]
    clear hW
    refine Calls.mono (HQ.out _) ?_
    rintro en w1 ⟨rfl, hb1⟩
    have HB1 : Hid (Below w.heap.size w w1) := HB.out.trans (hb1.mono HB.out.size)
    clear hb1
    go_wp2_with (go_at_call 36; refine (in_no _ _ _ hi _).mono ?_; rintro en w2 ⟨rfl, hw2⟩; have hw3 := hw2.symm; clear hw2; subst hw3)
    go_ret2
    exact ⟨rfl, HB1.out⟩
theorem specEntText_is (i : Int) (e : EntL) (hs : e.data.size ≤ 1048576) (w : World) : Calls Tryz.prog 42 #[.int .i64 i, entV e] w fun en w' => en = .returned (entTuple i e) ∧ Below w.heap.size w w' := by
  unfold entTuple
  split
  · rename_i h
    obtain ⟨n, rfl⟩ := Int.eq_ofNat_of_zero_le (show 0 ≤ i by omega)
    exact specEntText_yes n e ⟨h.1, h.2⟩ w
  · rename_i h
    exact specEntText_no i e hs h w
end Go.Proofs.YtimacmijinblmaaGreat
