/- l03Raw, walked. -/
import Derived.Test.YtpkkejpidlkmnaaDraw2
import Derived.Test.YtpkkejpidlkmnaaLRaw
namespace Go.Proofs.Ytpkkejpidlkmnaa
open Go.RowKit
theorem four_set {W : World} {Z : Nat} {a0 a1 a2 a3 : Value} {t : TypeId} (h : W.heap[Z]? = some (.cells #[a0, a1, a2, a3] t (0, 0))) (v0 v1 v2 v3 : Value) :
    ((((W.setCell ⟨Z, 0, none⟩ v0).setCell ⟨Z, 1, none⟩ v1).setCell ⟨Z, 2, none⟩ v2).setCell ⟨Z, 3, none⟩ v3).heap[Z]? = some (.cells #[v0, v1, v2, v3] t (0, 0)) := by
  have h1 := heap_setCell_same W Z 0 _ t v0 h
  have h2 := heap_setCell_same _ Z 1 _ t v1 h1
  have h3 := heap_setCell_same _ Z 2 _ t v2 h2
  have h4 := heap_setCell_same _ Z 3 _ t v3 h3
  simpa using h4
theorem four_cell {W : World} {Z : Nat} {a0 a1 a2 a3 : Value} {t : TypeId} (h : W.heap[Z]? = some (.cells #[a0, a1, a2, a3] t (0, 0))) (v0 v1 v2 v3 : Value) :
    let L := ((((W.setCell ⟨Z, 0, none⟩ v0).setCell ⟨Z, 1, none⟩ v1).setCell ⟨Z, 2, none⟩ v2).setCell ⟨Z, 3, none⟩ v3)
    L.cell? ⟨Z, 0, none⟩ = some v0 ∧ L.cell? ⟨Z, 1, none⟩ = some v1 ∧ L.cell? ⟨Z, 2, none⟩ = some v2 ∧ L.cell? ⟨Z, 3, none⟩ = some v3 :=
  have h4 := four_set h v0 v1 v2 v3
  ⟨cell_of_row _ _ 0 _ _ _ h4, cell_of_row _ _ 1 _ _ _ h4, cell_of_row _ _ 2 _ _ _ h4, cell_of_row _ _ 3 _ _ _ h4⟩
theorem set_far {W : World} {R Z : Nat} {o : Obj} (h : W.heap[Z]? = some o) (hne : Z ≠ R) (j : Nat) (v : Value) : (W.setCell ⟨R, j, none⟩ v).heap[Z]? = some o := (Below.heap_setCell W ⟨R, j, none⟩ v Z (by simpa using hne)).trans h
theorem grown_new {w W : World} {g k : Nat} (h : w.grownBy W (some g)) (hk : w.heap.size ≤ k) (j : Nat) (v : Value) : w.grownBy (W.setCell ⟨k, j, none⟩ v) (some g) := h.andThen (grown_set W k j v) (fun r e => Or.inl (by cases e; exact hk))
theorem Cur.setNew {B g len cap b off : Nat} {a : Option Addr} {z : Nat → Int} {W : World} (hc : Cur B W g a len cap b off z) {k : Nat} (hk : g < k) (j : Nat) (v : Value) : Cur B (W.setCell ⟨k, j, none⟩ v) g a len cap b off z :=
  hc.kept (grown_set W k j v) (fun r e => Or.inl (by cases e; have := hc.1; omega)) (Below.heap_setCell W ⟨k, j, none⟩ v g (by simp; omega))

set_option maxHeartbeats 1000000 in
set_option maxRecDepth 100000 in
theorem raw_any {B g len cap b off : Nat} {a : Option Addr} {z : Nat → Int} (w : World) (hc : Cur B w g a len cap b off z) :
    Calls Try.prog 74 #[.pointer (some ⟨g, 0, none⟩)] w fun e w' => ∃ r : Disks.RawL, e = .returned (rawV r) ∧ smallRaw 13 r ∧ Cur B w' g a len cap b off z ∧ w.grownBy w' (some g) := by
  have HC : Hid (Cur B w g a len cap b off z) := hc
  clear hc
  go_enter Try.func74, Try.ntmps74
  go_wp2_with fail
  refine (below_any 4 (by omega) _ (HC.out.alloc _)).mono ?_
  rintro e w1 ⟨x, rfl, ⟨hx0, _, hx2⟩, hc1, hg1⟩
  have hx3 := hx2 (by omega)
  have HC1 : Hid (Cur B w1 g a len cap b off z) := hc1
  have HG1 : Hid (w.grownBy w1 (some g)) := (World.grownBy_alloc w _ (some g)).trans hg1
  have HZ1 : Hid (w1.heap[w.heap.size]? = some (.cells #[.int .i64 0, .string ⟨#[]⟩, .string ⟨#[]⟩, .string ⟨#[]⟩] 45 (0, 0))) := (hg1.block _ (by simp) (by intro e; have := Option.some.inj e; have := HC.out.lt; omega)).trans (heap_alloc_new w _)
  have hs1 : w.heap.size < w1.heap.size := by have := hg1.size; simp at this; omega
  have hgne : g < w.heap.size := HC.out.lt
  clear hx2 hc1 hg1
  go_wp2_with fail
  refine (name_any _ HC1.out).mono ?_
  rintro e w2 ⟨N, rfl, hN, hc2, hg2⟩
  have HN : Hid (0 < N.size ∧ N.size ≤ 4) := hN
  have HC2 : Hid (Cur B w2 g a len cap b off z) := hc2
  have HG2 : Hid (w.grownBy w2 (some g)) := HG1.out.trans hg2
  go_wp2_with fail
  refine (name_any _ HC2.out).mono ?_
  rintro e w3 ⟨O, rfl, hO, hc3, hg3⟩
  have HO : Hid (0 < O.size ∧ O.size ≤ 4) := hO
  have HC3 : Hid (Cur B w3 g a len cap b off z) := hc3
  have HG3 : Hid (w.grownBy w3 (some g)) := HG2.out.trans hg3
  go_wp2_with fail
  refine (below_any 9 (by omega) _ HC3.out).mono ?_
  rintro e w4 ⟨y, rfl, ⟨hy0, _, hy2⟩, hc4, hg4⟩
  have hy3 := hy2 (by omega)
  obtain ⟨m, rfl⟩ := Int.eq_ofNat_of_zero_le hy0
  have HC4 : Hid (Cur B w4 g a len cap b off z) := hc4
  have HG4 : Hid (w.grownBy w4 (some g)) := HG3.out.trans hg4
  clear hy2 hc4 
  go_wp2_with fail
  refine (text_any m (by omega) _ HC4.out).mono ?_
  rintro e w5 ⟨X, rfl, hX, hc5, hg5⟩
  have HX : Hid (X.size = m) := hX
  have HC5 : Hid (Cur B w5 g a len cap b off z) := hc5
  have HG5 : Hid (w.grownBy w5 (some g)) := HG4.out.trans hg5
  clear hX hc5 hN hO hc2 hc3
  go_wp2_with fail
  have hl5 : w.heap.size < w5.heap.size := by have := hg2.size; have := hg3.size; have := hg4.size; have := hg5.size; omega
  have HZ5 : Hid (w5.heap[w.heap.size]? = some (.cells #[.int .i64 0, .string ⟨#[]⟩, .string ⟨#[]⟩, .string ⟨#[]⟩] 45 (0, 0))) := by
    have b2 := hg2.size; have b3 := hg3.size; have b4 := hg4.size
    exact ((((hg5.block _ (by omega) (by intro e; have := Option.some.inj e; omega)).trans (hg4.block _ (by omega) (by intro e; have := Option.some.inj e; omega))).trans (hg3.block _ (by omega) (by intro e; have := Option.some.inj e; omega))).trans (hg2.block _ (by omega) (by intro e; have := Option.some.inj e; omega))).trans HZ1.out
  clear hg2 hg3 hg4 hg5 hs1
  refine (below_any 40 (by omega) _ (HC5.out.alloc _)).mono ?_
  rintro e w6 ⟨s, rfl, _, hc6, hg6⟩
  have HC6 : Hid (Cur B w6 g a len cap b off z) := hc6
  have hr6 : w6.heap[w5.heap.size]? = some (.cells #[.int .i64 (1 + x), .string N, .string O, .string X] 45 (0, 0)) := (hg6.block _ (by simp) (by intro e; have := Option.some.inj e; omega)).trans (heap_alloc_new w5 _)
  have hl6 : w5.heap.size < w6.heap.size := by have := hg6.size; simp at this; omega
  have HG6 : Hid (w.grownBy w6 (some g)) := (HG5.out.trans (World.grownBy_alloc w5 _ (some g))).trans hg6
  have hz6 : w6.heap[w.heap.size]? = some (.cells #[.int .i64 0, .string ⟨#[]⟩, .string ⟨#[]⟩, .string ⟨#[]⟩] 45 (0, 0)) := ((hg6.block _ (by simp; omega) (by intro e; have := Option.some.inj e; omega)).trans (Below.heap_alloc _ _ _ hl5)).trans HZ5.out
  have hne : w5.heap.size ≠ w.heap.size := by omega
  have hne' : w.heap.size ≠ w5.heap.size := by omega
  have HR6 : Hid (w6.heap[w5.heap.size]? = _) := hr6
  have HZ6 : Hid (w6.heap[w.heap.size]? = _) := hz6
  clear hc6 hg6 hr6 hz6 HZ5 HZ1 HG1 HG2 HG3 HG4 HG5 HC HC1 HC2 HC3 HC4 HC5
  by_cases s0 : s = 0
  · have e0 : (s == 0) = true := by simp [s0]
    clear s0
    go_wp2_with fail
    refine (pickInt_new w6 HC6.out #[.int .i64 0, .int .i64 5] 2 (by omega) (by omega) (fun j hj => by
      have hj2 : j = 0 ∨ j = 1 := by omega
      rcases hj2 with rfl | rfl <;> exact ⟨_, rfl, by omega, by omega⟩)).mono ?_
    rintro e w7 ⟨y, rfl, _, _, hc7, hg7⟩
    have HR7 := (hg7.block _ hl6 (by intro e; have := Option.some.inj e; omega)).trans HR6.out
    have HZ7 := (hg7.block _ (by omega) (by intro e; have := Option.some.inj e; omega)).trans HZ6.out
    have c0 : w7.cell? ⟨w5.heap.size, 0, none⟩ = some (.int .i64 (1 + x)) := cell_of_row _ _ 0 _ _ _ HR7
    have z0 : w7.cell? ⟨w.heap.size, 0, none⟩ = some (.int .i64 0) := cell_of_row _ _ 0 _ _ _ HZ7
    have zf0 : w7.frozen? ⟨w.heap.size, 0, none⟩ = false := frozen_of_row _ _ _ _ _ HZ7
    have cf0 : w7.frozen? ⟨w5.heap.size, 0, none⟩ = false := frozen_of_row _ _ _ _ _ HR7
    have c1 : w7.cell? ⟨w5.heap.size, 1, none⟩ = some (.string N) := cell_of_row _ _ 1 _ _ _ HR7
    have z1 : w7.cell? ⟨w.heap.size, 1, none⟩ = some (.string ⟨#[]⟩) := cell_of_row _ _ 1 _ _ _ HZ7
    have zf1 : w7.frozen? ⟨w.heap.size, 1, none⟩ = false := frozen_of_row _ _ _ _ _ HZ7
    have cf1 : w7.frozen? ⟨w5.heap.size, 1, none⟩ = false := frozen_of_row _ _ _ _ _ HR7
    have c2 : w7.cell? ⟨w5.heap.size, 2, none⟩ = some (.string O) := cell_of_row _ _ 2 _ _ _ HR7
    have z2 : w7.cell? ⟨w.heap.size, 2, none⟩ = some (.string ⟨#[]⟩) := cell_of_row _ _ 2 _ _ _ HZ7
    have zf2 : w7.frozen? ⟨w.heap.size, 2, none⟩ = false := frozen_of_row _ _ _ _ _ HZ7
    have cf2 : w7.frozen? ⟨w5.heap.size, 2, none⟩ = false := frozen_of_row _ _ _ _ _ HR7
    have c3 : w7.cell? ⟨w5.heap.size, 3, none⟩ = some (.string X) := cell_of_row _ _ 3 _ _ _ HR7
    have z3 : w7.cell? ⟨w.heap.size, 3, none⟩ = some (.string ⟨#[]⟩) := cell_of_row _ _ 3 _ _ _ HZ7
    have zf3 : w7.frozen? ⟨w.heap.size, 3, none⟩ = false := frozen_of_row _ _ _ _ _ HZ7
    have HC7 : Hid (Cur B w7 g a len cap b off z) := hc7
    have HG7 : Hid (w.grownBy w7 (some g)) := HG6.out.trans hg7
    have HZH : Hid (_ = _) := HZ7
    clear HR7 HZ7 hc7 hg7
    go_wp2
    obtain ⟨l0, l1, l2, l3⟩ := four_cell (set_far HZH.out hne' 0 (.int .i64 y)) (.int .i64 y) (.string N) (.string O) (.string X)
    exact bodyPost_ret (v := rawV ⟨y, N, O, X⟩) (by simp [results, Try.results74, go_sem, rawV, l0, l1, l2, l3]) rfl ⟨⟨y, N, O, X⟩, rfl, ⟨by have := HN.out; simp only; omega, by have := HO.out; simp only; omega, by have := HX.out; simp only; omega⟩, (((((HC7.out.setNew (k := w5.heap.size) (by omega) 0 _).setNew (k := w.heap.size) (by omega) 0 _).setNew (k := w.heap.size) (by omega) 1 _).setNew (k := w.heap.size) (by omega) 2 _).setNew (k := w.heap.size) (by omega) 3 _), (grown_new (grown_new (grown_new (grown_new (grown_new HG7.out (k := w5.heap.size) (by omega) 0 _) (k := w.heap.size) (by omega) 0 _) (k := w.heap.size) (by omega) 1 _) (k := w.heap.size) (by omega) 2 _) (k := w.heap.size) (by omega) 3 _)⟩
  have e0 : (s == 0) = false := by simp [s0]
  by_cases s1 : s = 1
  · have e1 : (s == 1) = true := by simp [s1]
    clear s0 s1
    go_wp2_with fail
    refine (long_any 13 (by omega) w6).mono ?_
    rintro e w7 ⟨L, rfl, hL, hb7⟩
    have HL : Hid (L.size = 13) := hL
    have hc7 : Cur B w7 g a len cap b off z := by
      obtain ⟨hB, hb, hlen, hcode, i, h, hi, hblk⟩ := HC6.out
      have hgl : g < w6.heap.size := by omega
      exact ⟨hB, hb, hlen, fun j hj => ⟨(hcode j hj).1, (hb7.cell (p := ⟨b, off + j, none⟩) (by have := hb (by omega); simp only; omega)).trans (hcode j hj).2.1, (hcode j hj).2.2⟩, i, h, hi, (hb7.block _ hgl).trans hblk⟩
    have hg67 : w6.grownBy w7 (some g) := ⟨hb7.os, hb7.tape, hb7.output, hb7.size, fun k hk _ => hb7.block k hk⟩
    have HC7 : Hid (Cur B w7 g a len cap b off z) := hc7
    have HG7 : Hid (w6.grownBy w7 (some g)) := hg67
    clear hL hb7 hc7 hg67
    go_wp2_with fail
    refine (pick_new (fun S => S.size ≤ 13) w7 HC7.out #[.string ⟨#[]⟩, .string L] 2 (by omega) (by omega) (fun j hj => by
      have hj2 : j = 0 ∨ j = 1 := by omega
      rcases hj2 with rfl | rfl
      · exact ⟨_, rfl, by simp [ByteArray.size]⟩
      · exact ⟨_, rfl, by have := HL.out; omega⟩)).mono ?_
    rintro e w8 ⟨S, rfl, hS, hc8, hg78⟩
    have hg8 := HG7.out.trans hg78
    have HR7 := (hg8.block _ hl6 (by intro e; have := Option.some.inj e; omega)).trans HR6.out
    have HZ7 := (hg8.block _ (by omega) (by intro e; have := Option.some.inj e; omega)).trans HZ6.out
    have c0 : w8.cell? ⟨w5.heap.size, 0, none⟩ = some (.int .i64 (1 + x)) := cell_of_row _ _ 0 _ _ _ HR7
    have z0 : w8.cell? ⟨w.heap.size, 0, none⟩ = some (.int .i64 0) := cell_of_row _ _ 0 _ _ _ HZ7
    have zf0 : w8.frozen? ⟨w.heap.size, 0, none⟩ = false := frozen_of_row _ _ _ _ _ HZ7
    have cf0 : w8.frozen? ⟨w5.heap.size, 0, none⟩ = false := frozen_of_row _ _ _ _ _ HR7
    have c1 : w8.cell? ⟨w5.heap.size, 1, none⟩ = some (.string N) := cell_of_row _ _ 1 _ _ _ HR7
    have z1 : w8.cell? ⟨w.heap.size, 1, none⟩ = some (.string ⟨#[]⟩) := cell_of_row _ _ 1 _ _ _ HZ7
    have zf1 : w8.frozen? ⟨w.heap.size, 1, none⟩ = false := frozen_of_row _ _ _ _ _ HZ7
    have cf1 : w8.frozen? ⟨w5.heap.size, 1, none⟩ = false := frozen_of_row _ _ _ _ _ HR7
    have c2 : w8.cell? ⟨w5.heap.size, 2, none⟩ = some (.string O) := cell_of_row _ _ 2 _ _ _ HR7
    have z2 : w8.cell? ⟨w.heap.size, 2, none⟩ = some (.string ⟨#[]⟩) := cell_of_row _ _ 2 _ _ _ HZ7
    have zf2 : w8.frozen? ⟨w.heap.size, 2, none⟩ = false := frozen_of_row _ _ _ _ _ HZ7
    have cf2 : w8.frozen? ⟨w5.heap.size, 2, none⟩ = false := frozen_of_row _ _ _ _ _ HR7
    have c3 : w8.cell? ⟨w5.heap.size, 3, none⟩ = some (.string X) := cell_of_row _ _ 3 _ _ _ HR7
    have z3 : w8.cell? ⟨w.heap.size, 3, none⟩ = some (.string ⟨#[]⟩) := cell_of_row _ _ 3 _ _ _ HZ7
    have zf3 : w8.frozen? ⟨w.heap.size, 3, none⟩ = false := frozen_of_row _ _ _ _ _ HZ7
    have HC8 : Hid (Cur B w8 g a len cap b off z) := hc8
    have HG8 : Hid (w.grownBy w8 (some g)) := HG6.out.trans hg8
    have HS : Hid (S.size ≤ 13) := hS
    have HZH : Hid (_ = _) := HZ7
    clear HR7 HZ7 hc8 hg8 hS hg78 HG7
    go_wp2
    obtain ⟨l0, l1, l2, l3⟩ := four_cell (set_far HZH.out hne' 1 (.string S)) (.int .i64 (1 + x)) (.string S) (.string O) (.string X)
    exact bodyPost_ret (v := rawV ⟨1 + x, S, O, X⟩) (by simp [results, Try.results74, go_sem, rawV, l0, l1, l2, l3]) rfl ⟨⟨1 + x, S, O, X⟩, rfl, ⟨by have := HS.out; simp only; omega, by have := HO.out; simp only; omega, by have := HX.out; simp only; omega⟩, (((((HC8.out.setNew (k := w5.heap.size) (by omega) 1 _).setNew (k := w.heap.size) (by omega) 0 _).setNew (k := w.heap.size) (by omega) 1 _).setNew (k := w.heap.size) (by omega) 2 _).setNew (k := w.heap.size) (by omega) 3 _), (grown_new (grown_new (grown_new (grown_new (grown_new HG8.out (k := w5.heap.size) (by omega) 1 _) (k := w.heap.size) (by omega) 0 _) (k := w.heap.size) (by omega) 1 _) (k := w.heap.size) (by omega) 2 _) (k := w.heap.size) (by omega) 3 _)⟩
  have e1 : (s == 1) = false := by simp [s1]
  have c0 : w6.cell? ⟨w5.heap.size, 0, none⟩ = some (.int .i64 (1 + x)) := cell_of_row _ _ 0 _ _ _ HR6.out
  have z0 : w6.cell? ⟨w.heap.size, 0, none⟩ = some (.int .i64 0) := cell_of_row _ _ 0 _ _ _ HZ6.out
  have zf0 : w6.frozen? ⟨w.heap.size, 0, none⟩ = false := frozen_of_row _ _ _ _ _ HZ6.out
  have cf0 : w6.frozen? ⟨w5.heap.size, 0, none⟩ = false := frozen_of_row _ _ _ _ _ HR6.out
  have c1 : w6.cell? ⟨w5.heap.size, 1, none⟩ = some (.string N) := cell_of_row _ _ 1 _ _ _ HR6.out
  have z1 : w6.cell? ⟨w.heap.size, 1, none⟩ = some (.string ⟨#[]⟩) := cell_of_row _ _ 1 _ _ _ HZ6.out
  have zf1 : w6.frozen? ⟨w.heap.size, 1, none⟩ = false := frozen_of_row _ _ _ _ _ HZ6.out
  have cf1 : w6.frozen? ⟨w5.heap.size, 1, none⟩ = false := frozen_of_row _ _ _ _ _ HR6.out
  have c2 : w6.cell? ⟨w5.heap.size, 2, none⟩ = some (.string O) := cell_of_row _ _ 2 _ _ _ HR6.out
  have z2 : w6.cell? ⟨w.heap.size, 2, none⟩ = some (.string ⟨#[]⟩) := cell_of_row _ _ 2 _ _ _ HZ6.out
  have zf2 : w6.frozen? ⟨w.heap.size, 2, none⟩ = false := frozen_of_row _ _ _ _ _ HZ6.out
  have cf2 : w6.frozen? ⟨w5.heap.size, 2, none⟩ = false := frozen_of_row _ _ _ _ _ HR6.out
  have c3 : w6.cell? ⟨w5.heap.size, 3, none⟩ = some (.string X) := cell_of_row _ _ 3 _ _ _ HR6.out
  have z3 : w6.cell? ⟨w.heap.size, 3, none⟩ = some (.string ⟨#[]⟩) := cell_of_row _ _ 3 _ _ _ HZ6.out
  have zf3 : w6.frozen? ⟨w.heap.size, 3, none⟩ = false := frozen_of_row _ _ _ _ _ HZ6.out
  by_cases s2 : s = 2
  · have e2 : (s == 2) = true := by simp [s2]
    clear s0 s1 s2
    go_wp2
    obtain ⟨l0, l1, l2, l3⟩ := four_cell (set_far HZ6.out hne' 2 (.string ⟨#[]⟩)) (.int .i64 (1 + x)) (.string N) (.string ⟨#[]⟩) (.string X)
    exact bodyPost_ret (v := rawV ⟨1 + x, N, ⟨#[]⟩, X⟩) (by simp [results, Try.results74, go_sem, rawV, l0, l1, l2, l3]) rfl ⟨⟨1 + x, N, ⟨#[]⟩, X⟩, rfl, ⟨by have := HN.out; simp only; omega, by simp [ByteArray.size], by have := HX.out; simp only; omega⟩, (((((HC6.out.setNew (k := w5.heap.size) (by omega) 2 _).setNew (k := w.heap.size) (by omega) 0 _).setNew (k := w.heap.size) (by omega) 1 _).setNew (k := w.heap.size) (by omega) 2 _).setNew (k := w.heap.size) (by omega) 3 _), (grown_new (grown_new (grown_new (grown_new (grown_new HG6.out (k := w5.heap.size) (by omega) 2 _) (k := w.heap.size) (by omega) 0 _) (k := w.heap.size) (by omega) 1 _) (k := w.heap.size) (by omega) 2 _) (k := w.heap.size) (by omega) 3 _)⟩
  have e2 : (s == 2) = false := by simp [s2]
  clear s0 s1 s2
  go_wp2
  obtain ⟨l0, l1, l2, l3⟩ := four_cell HZ6.out (.int .i64 (1 + x)) (.string N) (.string O) (.string X)
  exact bodyPost_ret (v := rawV ⟨1 + x, N, O, X⟩) (by simp [results, Try.results74, go_sem, rawV, l0, l1, l2, l3]) rfl ⟨⟨1 + x, N, O, X⟩, rfl, ⟨by have := HN.out; simp only; omega, by have := HO.out; simp only; omega, by have := HX.out; simp only; omega⟩, ((((HC6.out.setNew (k := w.heap.size) (by omega) 0 _).setNew (k := w.heap.size) (by omega) 1 _).setNew (k := w.heap.size) (by omega) 2 _).setNew (k := w.heap.size) (by omega) 3 _), (grown_new (grown_new (grown_new (grown_new HG6.out (k := w.heap.size) (by omega) 0 _) (k := w.heap.size) (by omega) 1 _) (k := w.heap.size) (by omega) 2 _) (k := w.heap.size) (by omega) 3 _)⟩
end Go.Proofs.Ytpkkejpidlkmnaa
