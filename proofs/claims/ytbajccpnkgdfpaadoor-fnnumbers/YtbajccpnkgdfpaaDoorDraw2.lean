/- The calls by which a number and a text are drawn, walked. -/
import Derived.Test.YtbajccpnkgdfpaaDoorDraw
import Derived.Maps.Range
namespace Go.Proofs.YtbajccpnkgdfpaaDoor
open Go.RowKit

/-- The bytes that came in. -/
def Code (B : Nat) (w : World) (a : Option Addr) (len b off : Nat) (z : Nat → Int) : Prop :=
  (0 < len → b < B) ∧ len ≤ 1048576 ∧ ∀ j, j < len → a = some ⟨b, off, none⟩ ∧ w.cell? ⟨b, off + j, none⟩ = some (.int .u8 (z j)) ∧ 0 ≤ z j ∧ z j ≤ 255
theorem Code.below {B : Nat} {w w' : World} {a : Option Addr} {len b off : Nat} {z : Nat → Int} (h : Code B w a len b off z) (hb : Below B w w') : Code B w' a len b off z := by
  obtain ⟨h1, h2, h3⟩ := h
  refine ⟨h1, h2, fun j hj => ?_⟩
  obtain ⟨e1, e2, e3⟩ := h3 j hj
  exact ⟨e1, by rw [hb.cell (p := ⟨b, off + j, none⟩) (h1 (by omega))]; exact e2, e3⟩

theorem new_cur {B cap len b off : Nat} {a : Option Addr} {z : Nat → Int} {w : World} (hc : Code B w a len b off z) (hB : B ≤ w.heap.size) (h : Int) :
    Cur B (w.alloc (.cells #[.slice a len cap, .int .i64 0, .int .i64 h] 50)) w.heap.size a len cap b off z :=
  Cur.step (i := 0) hB hc.1 hc.2.1 hc.2.2 (World.grownBy_alloc w _ _) (Nat.zero_le _) (heap_alloc_new w _)

set_option maxHeartbeats 1000000 in
set_option maxRecDepth 100000 in
theorem new_any {B cap len b off : Nat} {a : Option Addr} {z : Nat → Int} (w : World) (hB : B ≤ w.heap.size) (hc : Code B w a len b off z) :
    Calls Tryd.prog 18 #[.slice a len cap] w fun e w' => e = .returned (.pointer (some ⟨w.heap.size, 0, none⟩)) ∧ Cur B w' w.heap.size a len cap b off z ∧ Below w.heap.size w w' := by
  have HC : Hid (Code B w a len b off z) := hc
  have hlen := hc.2.1
  clear hc
  go_enter Tryd.func18, Tryd.ntmps18
  go_wp2
  go_loop [3, 4] (fun x i => ∃ (k : Nat) (h : Int), k ≤ len ∧ i = .int .i64 (k : Int) ∧ x = .int .i64 h ∧ 0 ≤ h ∧ h ≤ 1073741824) (fun _ i => len - (intOf i).toNat)
  case atStart => exact ⟨0, _, by omega, rfl, rfl, by omega, by omega⟩
  case round =>
    obtain ⟨k, h, hk, rfl, rfl, hh0, hh1⟩ := hrel
    by_cases hlt : k < len ∧ k < 4000
    · obtain ⟨hl1, hl2⟩ := hlt
      obtain ⟨ea, hcell, hz0, hz1⟩ := HC.out.2.2 k hl1
      subst ea
      have hk0 : (0 : Int) ≤ (k : Int) := by omega
      have hk1 : (k : Int) < (len : Int) := by omega
      have hk2 : (k : Int) < 4000 := by omega
      go_wp2
      go_round
      case rel => exact ⟨k + 1, _, by omega, by go_num, rfl, by rw [and30]; omega, by rw [and30]; omega⟩
      case measure => simp [intOf]; omega
    · by_cases hl1 : k < len
      · have hk1 : (k : Int) < (len : Int) := by omega
        have hk2 : ¬ (k : Int) < 4000 := by omega
        go_wp2
        go_ret
        exact ⟨rfl, new_cur HC.out hB h, (Below.refl _ _).alloc (Nat.le_refl _) _⟩
      · have hk1 : ¬ (k : Int) < (len : Int) := by omega
        go_wp2
        go_ret
        exact ⟨rfl, new_cur HC.out hB h, (Below.refl _ _).alloc (Nat.le_refl _) _⟩

set_option maxHeartbeats 400000 in
theorem once_any {B g len cap b off : Nat} {a : Option Addr} {z : Nat → Int} (n : Int) (hn : n ≤ 9223372036854775807) (w : World) (hc : Cur B w g a len cap b off z) :
    Calls Tryd.prog 20 #[.pointer (some ⟨g, 0, none⟩), .int .i64 n] w fun e w' => ∃ x : Int, e = .returned (.bool (x == 0)) ∧ Cur B w' g a len cap b off z ∧ w.grownBy w' (some g) := by
  have HC : Hid (Cur B w g a len cap b off z) := hc
  have HN : Hid (n ≤ 9223372036854775807) := hn
  clear hc hn
  go_enter Tryd.func20, Tryd.ntmps20
  go_wp2_with (go_at_call 22; refine (below_any n HN.out _ HC.out).mono ?_; rintro e w1 ⟨x, rfl, hx, hc1, hg1⟩)
  go_ret
  exact ⟨x, rfl, hc1, hg1⟩

set_option maxHeartbeats 400000 in
theorem pick_any {B g len cap b off r n : Nat} {a : Option Addr} {z : Nat → Int} (w : World) (hc : Cur B w g a len cap b off z) (hn0 : 0 < n) (hn : n ≤ 1000) (hr : r ≠ g)
    (hcell : ∀ j, j < n → ∃ v : Int, w.cell? ⟨r, j, none⟩ = some (.int .i64 v) ∧ -9223372036854775808 ≤ v ∧ v ≤ 9223372036854775807) :
    Calls Tryd.prog 27 #[.pointer (some ⟨g, 0, none⟩), .slice (some ⟨r, 0, none⟩) n n] w fun e w' => ∃ x : Int, e = .returned (.int .i64 x) ∧ -9223372036854775808 ≤ x ∧ x ≤ 9223372036854775807 ∧ Cur B w' g a len cap b off z ∧ w.grownBy w' (some g) := by
  have HC : Hid (Cur B w g a len cap b off z) := hc
  have HR : Hid (∀ j, j < n → ∃ v : Int, w.cell? ⟨r, j, none⟩ = some (.int .i64 v) ∧ -9223372036854775808 ≤ v ∧ v ≤ 9223372036854775807) := hcell
  clear hc hcell
  go_enter Tryd.func27, Tryd.ntmps27
  go_wp2_with fail
  refine (below_any (n : Int) (by omega) _ HC.out).mono ?_
  rintro e w1 ⟨x, rfl, hx, hc1, hg1⟩
  obtain ⟨hx0, _, hx2⟩ := hx
  have hx3 := hx2 (by omega)
  obtain ⟨m, rfl⟩ := Int.eq_ofNat_of_zero_le hx0
  obtain ⟨v, hv, hv0, hv1⟩ := HR.out m (by omega)
  have hv' : w1.cell? ⟨r, m, none⟩ = some (.int .i64 v) := hg1.cell hv (by intro e; exact hr (Option.some.inj e))
  have HV0 : Hid (_ ≤ _) := hv0
  have HV1 : Hid (_ ≤ _) := hv1
  clear hx2 hv0 hv1
  go_wp2
  go_ret
  exact ⟨v, rfl, HV0.out, HV1.out, hc1, hg1⟩

theorem pick_ten {B g len cap b off : Nat} {a : Option Addr} {z : Nat → Int} (w1 : World) (hc : Cur B w1 g a len cap b off z) (hg : g < w1.heap.size) (cs : Array Value) (n : Nat) (hn0 : 0 < n) (hn : n ≤ 1000)
    (hcs : ∀ j, j < n → ∃ v : Int, cs[j]? = some (.int .i64 v) ∧ -9223372036854775808 ≤ v ∧ v ≤ 9223372036854775807) :
    Calls Tryd.prog 27 #[.pointer (some ⟨g, 0, none⟩), .slice (some ⟨w1.heap.size, 0, none⟩) n n] (w1.alloc (.cells cs 3)) fun e w' => ∃ x : Int, e = .returned (.int .i64 x) ∧ -9223372036854775808 ≤ x ∧ x ≤ 9223372036854775807 ∧ Cur B w' g a len cap b off z ∧ w1.grownBy w' (some g) := by
  have hg1 := World.grownBy_alloc w1 (.cells cs 3) (some g)
  have hc1 : Cur B (w1.alloc (.cells cs 3)) g a len cap b off z := by
    obtain ⟨hB, hb, hlen, hcode, i, h, hi, hblk⟩ := hc
    exact Cur.step hB hb hlen hcode hg1 hi (by rw [Below.heap_alloc _ _ _ hg]; exact hblk)
  refine (pick_any _ hc1 hn0 hn (by omega) ?_).mono ?_
  · intro j hj
    obtain ⟨v, h1, h2⟩ := hcs j hj
    refine ⟨v, ?_, h2⟩
    rw [cell_of_row _ _ _ cs 3 (0, 0) (heap_alloc_new w1 _)]
    exact h1
  · rintro e w' ⟨x, h1, h2, h3, h4, h5⟩
    exact ⟨x, h1, h2, h3, h4, hg1.trans h5⟩
theorem Cur.lt {B g len cap b off : Nat} {a : Option Addr} {z : Nat → Int} {w : World} (h : Cur B w g a len cap b off z) : g < w.heap.size := by
  obtain ⟨_, _, _, _, _, _, _, hblk⟩ := h
  exact (Array.getElem?_eq_some_iff.1 hblk).1

def tens : Array Value := #[.int .i64 (-1), .int .i64 0, .int .i64 127, .int .i64 128, .int .i64 16383, .int .i64 16384, .int .i64 1000000000, .int .i64 1000000001, .int .i64 9223372036854775807, .int .i64 (-9223372036854775808)]
theorem tens_ok : ∀ j, j < 10 → ∃ v : Int, tens[j]? = some (.int .i64 v) ∧ -9223372036854775808 ≤ v ∧ v ≤ 9223372036854775807 := by
  intro j hj
  have hc : j = 0 ∨ j = 1 ∨ j = 2 ∨ j = 3 ∨ j = 4 ∨ j = 5 ∨ j = 6 ∨ j = 7 ∨ j = 8 ∨ j = 9 := by omega
  rcases hc with rfl | rfl | rfl | rfl | rfl | rfl | rfl | rfl | rfl | rfl <;> exact ⟨_, rfl, by omega, by omega⟩

set_option maxHeartbeats 1000000 in
set_option maxRecDepth 100000 in
theorem number_any {B g len cap b off : Nat} {a : Option Addr} {z : Nat → Int} (w : World) (hc : Cur B w g a len cap b off z) :
    Calls Tryd.prog 17 #[.pointer (some ⟨g, 0, none⟩)] w fun e w' => ∃ x : Int, e = .returned (.int .i64 x) ∧ -9223372036854775808 ≤ x ∧ x ≤ 9223372036854775807 ∧ w.grownBy w' (some g) := by
  have HC : Hid (Cur B w g a len cap b off z) := hc
  clear hc
  go_enter Tryd.func17, Tryd.ntmps17
  go_wp2_with fail
  refine (below_any 4 (by omega) _ HC.out).mono ?_
  rintro e w1 ⟨x, rfl, hx, hc1, hg1⟩
  have HC1 : Hid (Cur B w1 g a len cap b off z) := hc1
  have HG1 : Hid (w.grownBy w1 (some g)) := hg1
  clear hx hc1 hg1
  by_cases h0 : x = 0
  · have hx0 : (x == 0) = true := by simp [h0]
    clear h0
    go_wp2_with fail
    refine (pick_ten w1 HC1.out HC1.out.lt tens 10 (by omega) (by omega) tens_ok).mono ?_
    rintro e w2 ⟨y, rfl, hy0, hy1, hc2, hg2⟩
    have HY0 : Hid (_ ≤ _) := hy0
    have HY1 : Hid (_ ≤ _) := hy1
    clear hy0 hy1
    go_wp2
    go_ret
    exact ⟨y, rfl, HY0.out, HY1.out, HG1.out.trans hg2⟩
  · have hx0 : (x == 0) = false := by simp [h0]
    by_cases h1 : x = 1
    · have hx1 : (x == 1) = true := by simp [h1]
      clear h0 h1
      go_wp2_with fail
      refine (below_any 1000000000 (by omega) _ HC1.out).mono ?_
      rintro e w2 ⟨y, rfl, ⟨hy0, _, hy2⟩, hc2, hg2⟩
      have := hy2 (by omega)
      go_wp2
      go_ret
      exact ⟨y, rfl, by omega, by omega, HG1.out.trans hg2⟩
    · have hx1 : (x == 1) = false := by simp [h1]
      clear h0 h1
      go_wp2_with fail
      refine (below_any 400 (by omega) _ HC1.out).mono ?_
      rintro e w2 ⟨y, rfl, ⟨hy0, _, hy2⟩, hc2, hg2⟩
      have := hy2 (by omega)
      go_wp2
      go_ret
      exact ⟨y, rfl, by omega, by omega, HG1.out.trans hg2⟩

set_option maxHeartbeats 400000 in
theorem drawVar_any {B cap len b off : Nat} {a : Option Addr} {z : Nat → Int} (w : World) (hB : B ≤ w.heap.size) (hc : Code B w a len b off z) :
    Calls Tryd.prog 6 #[.slice a len cap] w fun e w' => ∃ x : Int, e = .returned (.int .i64 x) ∧ -9223372036854775808 ≤ x ∧ x ≤ 9223372036854775807 ∧ Below w.heap.size w w' := by
  have HC : Hid (Code B w a len b off z) := hc
  clear hc
  go_enter Tryd.func6, Tryd.ntmps6
  go_wp2_with fail
  refine (new_any w hB HC.out).mono ?_
  rintro e w1 ⟨rfl, hc1, hb1⟩
  go_wp2_with fail
  refine (number_any w1 hc1).mono ?_
  rintro e w2 ⟨x, rfl, hx0, hx1, hg2⟩
  have HX0 : Hid (_ ≤ _) := hx0
  have HX1 : Hid (_ ≤ _) := hx1
  clear hx0 hx1
  go_wp2
  go_ret
  exact ⟨x, rfl, HX0.out, HX1.out, hb1.grown hg2 hb1.size (fun k hk => by cases hk; exact Nat.le_refl _)⟩

/-- The cursor stays while other blocks of the call's own are written. -/
theorem Cur.kept {B g len cap b off : Nat} {a : Option Addr} {z : Nat → Int} {w w' : World} {row : Option Nat} (h : Cur B w g a len cap b off z) (hg : w.grownBy w' row) (hr : ∀ r, row = some r → B ≤ r ∨ r = g) (hb : w'.heap[g]? = w.heap[g]?) : Cur B w' g a len cap b off z := by
  obtain ⟨hB, hbb, hlen, hcode, i, x, hi, hblk⟩ := h
  refine ⟨hB, hbb, hlen, fun j hj => ?_, i, x, hi, hb.trans hblk⟩
  obtain ⟨h1, h2, h3⟩ := hcode j hj
  refine ⟨h1, hg.cell h2 (fun e => ?_), h3⟩
  have := hbb (by omega)
  have := hr b e.symm
  omega

set_option maxHeartbeats 1000000 in
set_option maxRecDepth 100000 in
theorem text_any {B g len cap b off : Nat} {a : Option Addr} {z : Nat → Int} (n : Nat) (hn : n ≤ 5000) (w : World) (hc : Cur B w g a len cap b off z) :
    Calls Tryd.prog 23 #[.pointer (some ⟨g, 0, none⟩), .int .i64 (n : Int)] w fun e w' => ∃ S : ByteArray, e = .returned (.string S) ∧ S.size = n ∧ w.grownBy w' (some g) := by
  obtain ⟨i0, hi, hz0, hz1, hz2⟩ := info_parts Tryd.info5
  have HC : Hid (Cur B w g a len cap b off z) := hc
  have hgB := hc.1
  have hgz := hc.lt
  clear hc
  go_enter Tryd.func23, Tryd.ntmps23
  go_wp2
  go_loopw [5, 6] (fun v i wr => ∃ (k : Nat) (pre : List UInt8), k ≤ n ∧ i = .int .i64 (k : Int) ∧ pre.length = k ∧ wr.ownsRow w.heap.size 5 1 v pre.length (cellsB pre) ∧ Cur B wr g a len cap b off z ∧ w.grownBy wr (some g))
    (fun _ i _ => n - (intOf i).toNat)
  case atStart =>
    have hg0 := World.grownBy_alloc w (.cells #[] 5) (some g)
    refine ⟨0, [], by omega, rfl, rfl, World.ownsRow_made w #[] 0 (Nat.le_refl _) (by unfold maxLen; omega) rfl, ?_, hg0⟩
    obtain ⟨hB, hb, hlen, hcode, i, h, hi2, hblk⟩ := HC.out
    exact Cur.step hB hb hlen hcode hg0 hi2 (by rw [Below.heap_alloc _ _ _ hgz]; exact hblk)
  case round =>
    obtain ⟨k, pre, hk, rfl, hlen, hown, hcur, hgr⟩ := hrel
    have HL : Hid (_ = _) := hlen
    have hpl : pre.length ≤ 5000 := by omega
    clear hlen
    by_cases hlt : k < n
    · have hki : (k : Int) < (n : Int) := by omega
      go_wp2_with fail
      refine (byte_any wr hcur).mono ?_
      rintro e w1 ⟨x, rfl, hx0, hx1, hc1, hg1⟩
      have hne : ∀ r, u5.ownBlock = some r → r ≠ g := fun r hr e => by have := (hown.lt r hr).1; omega
      have hown1 := hown.kept hg1 (by
        cases e : u5.ownBlock with
        | none => exact Or.inl rfl
        | some r => exact Or.inr (fun e2 => hne r e (Option.some.inj e2)))
      have hgr1 := hgr.trans hg1
      have hbz := hgr1.size
      obtain ⟨c, hcx⟩ := byte_of x hx0 (by omega)
      have HC1 : Hid (Cur B w1 g a len cap b off z) := hc1
      have HNE : Hid (∀ r, u5.ownBlock = some r → r ≠ g) := hne
      have HB0 : Hid (B ≤ g) := hgB
      have hgz1 := hc1.lt
      clear hc1 hne hown hg1 hgr hcur
      go_wp2_with (at_builtin; refine wpList_append_own _ rfl _ _ 22 rfl w.heap.size 5 i0 (.int .u8 0) 1 1 Tryd.underlying22 hi hz0 hz1 hz2 rfl (by decide) _ _ _ rfl (hown1.alloc _) ⟨w1.heap.size, 0, none⟩ 1 1 [.int .u8 (c.toNat : Int)] rfl rfl ?c1 ?c2 ?c3 ?c4 ?c5 ?_)
      case c1 =>
        intro j u hj
        match j, hj with
        | 0, hj => simp at hj; subst hj; simp [Addr.add, hcx.out]
      case c2 => intro u hu; simp at hu; subst hu; rfl
      case c3 => unfold maxLen; omega
      case c4 => omega
      case c5 => simp; omega
      intro v' w2 hown2 hgrow _
      go_wp2
      go_roundw
      case rel =>
        have hga := World.grownBy_alloc w1 (.cells #[.int .u8 x] 5) (some g)
        have hrow : ∀ r, u5.ownBlock = some r → w.heap.size ≤ r := fun r hr => (hown1.lt r hr).1
        refine ⟨k + 1, pre ++ [c], by omega, by go_num, by rw [List.length_append, HL.out]; rfl, own_snoc hown2, ?_, (hgr1.trans hga).andThen hgrow (fun j hj => Or.inl (hrow j hj))⟩
        have hcA : Cur B (w1.alloc (.cells #[.int .u8 x] 5)) g a len cap b off z := HC1.out.kept hga (fun r e => by cases e; exact Or.inr rfl) (by rw [Below.heap_alloc _ _ _ hgz1])
        refine hcA.kept hgrow (fun r hr => Or.inl (by have := hrow r hr; omega)) (hgrow.block g (by simp; omega) (fun e => HNE.out g e.symm rfl))
      case measure => simp [intOf]; omega
    · have hki : ¬ (k : Int) < (n : Int) := by omega
      have hcv := string_own hown
      go_wp2
      go_ret
      exact ⟨_, rfl, by rw [show (⟨pre.toArray⟩ : ByteArray).size = pre.length from by simp [ByteArray.size], HL.out]; omega, hgr⟩

theorem made_bytes (n : Nat) : (madeCells #[Value.int .u8 0] n).toList = cellsB (List.replicate n 0) := by
  rw [toList_madeCells_one]
  simp [cellsB]
theorem set_bytes (pre : List UInt8) (j : Nat) (c : UInt8) : (cellsB pre).set j (.int .u8 (c.toNat : Int)) = cellsB (pre.set j c) := by
  simp [cellsB, List.map_set]

set_option maxHeartbeats 1000000 in
set_option maxRecDepth 100000 in
theorem long_any (n : Nat) (hn : n ≤ 30000) (w : World) :
    Calls Tryd.prog 21 #[.int .i64 (n : Int), .int .u8 200] w fun e w' => ∃ S : ByteArray, e = .returned (.string S) ∧ S.size = n ∧ Below w.heap.size w w' := by
  obtain ⟨i0, hi, hz0, hz1, hz2⟩ := info_parts Tryd.info5
  go_enter Tryd.func21, Tryd.ntmps21
  go_wp2_with (at_make; refine wpList_make_full _ rfl _ _ 22 rfl w.heap.size 5 i0 (.int .u8 0) 1 Tryd.underlying22 hi hz0 hz1 _ _ _ _ n rfl rfl (by omega) (by omega) ?b2 ?b3 (Nat.le_refl _) ?_)
  case b2 => rw [hz2]; omega
  case b3 => unfold maxLen; omega
  intro w0 hown0 hgrow0
  have hbel0 : Below w.heap.size w w0 := (Below.refl _ _).grown hgrow0 (Nat.le_refl _) (by simp)
  rw [made_bytes] at hown0
  clear hgrow0
  go_wp2
  go_loopw [6] (fun i wr => ∃ (k : Nat) (pre : List UInt8), k ≤ n ∧ i = .int .i64 (k : Int) ∧ pre.length = n ∧ wr.ownsRow w.heap.size 5 1 (.slice (some ⟨w.heap.size, 0, none⟩) n n) n (cellsB pre) ∧ Below w.heap.size w wr)
    (fun i _ => n - (intOf i).toNat)
  case atStart => exact ⟨0, _, by omega, rfl, by simp, hown0, hbel0⟩
  case round =>
    obtain ⟨k, pre, hk, rfl, hlen, hown, hbel⟩ := hrel
    have HL : Hid (pre.length = n) := hlen
    clear hlen hown0 hbel0
    by_cases hlt : k < n
    · have hk0 : (0 : Int) ≤ (k : Int) := by omega
      have hk1 : (k : Int) < (n : Int) := by omega
      have hfz := hown.frozenAt k
      obtain ⟨u0, hcl⟩ : ∃ u0, wr.cell? ⟨w.heap.size, k, none⟩ = some u0 := by
        rw [hown.cellAt k (by omega)]
        exact ⟨_, List.getElem?_eq_getElem (by have := hown.1; omega)⟩
      have hst := hown.stored k (.int .u8 ((200 : UInt8).toNat : Int))
      rw [set_bytes] at hst
      have HS : Hid (_ ∧ _) := hst
      clear hst
      go_wp2
      go_roundw
      case rel => exact ⟨k + 1, pre.set k 200, by omega, by go_num, by rw [List.length_set]; exact HL.out, HS.out.1, hbel.setCell (Nat.le_refl _) _⟩
      case measure => simp [intOf]; omega
    · have hk1 : ¬ (k : Int) < (n : Int) := by omega
      have hcv := string_own (base := w.heap.size) (v := .slice (some ⟨w.heap.size, 0, none⟩) n n) (l := pre) (by rw [HL.out]; exact hown)
      go_wp2
      go_ret
      exact ⟨_, rfl, by rw [show (⟨pre.toArray⟩ : ByteArray).size = pre.length from by simp [ByteArray.size], HL.out], hbel⟩

theorem long_int (x : Int) (h0 : 0 ≤ x) (h1 : x ≤ 30000) (w : World) :
    Calls Tryd.prog 21 #[.int .i64 x, .int .u8 200] w fun e w' => ∃ S : ByteArray, e = .returned (.string S) ∧ S.size ≤ 30000 ∧ Below w.heap.size w w' := by
  have h := long_any x.toNat (by omega) w
  rw [Int.toNat_of_nonneg h0] at h
  exact h.mono fun e w' ⟨S, h1, h2, h3⟩ => ⟨S, h1, by omega, h3⟩

set_option maxHeartbeats 1000000 in
set_option maxRecDepth 100000 in
theorem drawHex_any {B cap len b off : Nat} {a : Option Addr} {z : Nat → Int} (w : World) (hB : B ≤ w.heap.size) (hc : Code B w a len b off z) :
    Calls Tryd.prog 11 #[.slice a len cap] w fun e w' => ∃ S : ByteArray, e = .returned (.string S) ∧ S.size ≤ 30000 ∧ Below w.heap.size w w' := by
  have HC : Hid (Code B w a len b off z) := hc
  clear hc
  go_enter Tryd.func11, Tryd.ntmps11
  go_wp2_with fail
  refine (new_any w hB HC.out).mono ?_
  rintro e w1 ⟨rfl, hc1, hb1⟩
  go_wp2_with fail
  refine (once_any 60 (by omega) w1 hc1).mono ?_
  rintro e w2 ⟨x, rfl, hc2, hg2⟩
  have hb2 : Below w.heap.size w w2 := hb1.grown hg2 hb1.size (fun k hk => by cases hk; exact Nat.le_refl _)
  clear hc1 hb1 hg2
  by_cases hx : x = 0
  · have hx0 : (x == 0) = true := by simp [hx]
    clear hx
    go_wp2_with fail
    refine (below_any 2 (by omega) w2 hc2).mono ?_
    rintro e w3 ⟨y, rfl, ⟨hy0, _, hy2⟩, hc3, hg3⟩
    have hy3 := hy2 (by omega)
    have hb3 : Below w.heap.size w w3 := hb2.grown hg3 hb2.size (fun k hk => by cases hk; exact Nat.le_refl _)
    obtain ⟨m, rfl⟩ := Int.eq_ofNat_of_zero_le hy0
    clear hc2 hb2 hg3 hy2
    go_wp2_with fail
    refine (long_int (20000 + (m : Int)) (by omega) (by omega) w3).mono ?_
    rintro e w4 ⟨S, rfl, hS, hb4⟩
    have HS : Hid (S.size ≤ 30000) := hS
    clear hS
    go_wp2
    go_ret
    exact ⟨S, rfl, HS.out, hb3.trans (hb4.mono hb3.size)⟩
  · have hx0 : (x == 0) = false := by simp [hx]
    clear hx
    go_wp2_with fail
    refine (below_any 30 (by omega) w2 hc2).mono ?_
    rintro e w3 ⟨y, rfl, ⟨hy0, _, hy2⟩, hc3, hg3⟩
    have hy3 := hy2 (by omega)
    have hb3 : Below w.heap.size w w3 := hb2.grown hg3 hb2.size (fun k hk => by cases hk; exact Nat.le_refl _)
    obtain ⟨m, rfl⟩ := Int.eq_ofNat_of_zero_le hy0
    clear hc2 hb2 hg3 hy2
    go_wp2_with fail
    refine (text_any m (by omega) w3 hc3).mono ?_
    rintro e w4 ⟨S, rfl, hS, hg4⟩
    have HS : Hid (S.size ≤ 30000) := by show _ ≤ _; omega
    have hb4 : Below w.heap.size w w4 := hb3.grown hg4 hb3.size (fun k hk => by cases hk; exact Nat.le_refl _)
    clear hS
    go_wp2
    go_ret
    exact ⟨S, rfl, HS.out, hb4⟩
end Go.Proofs.YtbajccpnkgdfpaaDoor
