/- NodeOk of both sides, of a node as NodeNew makes it, walked. Made by program. -/
import Derived.Test.YtiifjhalkihlbaaNodeA
import Derived.Test.YtiifjhalkihlbaaImplTerm
namespace Go.Proofs.Ytiifjhalkihlbaa
open Go.RowKit
open Logs (okL inB)
set_option linter.unusedVariables false
set_option linter.unusedSimpArgs false
def newN (id : Int) (conf : List Int) (L : Int) : NodeL := ⟨id, 0, 0, 0, 0, conf, ⟨0, 0, []⟩, 0, 0, L, [], []⟩
def newOk (id : Int) (conf : List Int) : Bool := inB 1 4 id && Mans.confOk conf
def newC (id : Int) (conf : List Int) (ca : Option Addr) (cc : Nat) : Array Value := #[.int .i64 id, .int .i64 0, .int .i64 0, .int .i64 0, .int .i64 0, .slice ca conf.length cc, .int .i64 0, .int .i64 0, .slice none 0 0, .int .i64 0, .int .i64 0, .int .i64 20, .slice none 0 0, .slice none 0 0]
/-- The cells of a new node that lies at g. -/
structure NewAt (W : World) (g : Nat) (id : Int) (conf : List Int) (ca : Option Addr) (cc : Nat) : Prop where
  c0 : W.cell? ⟨g, 0, none⟩ = some (.int .i64 id)
  c1 : W.cell? ⟨g, 1, none⟩ = some (.int .i64 0)
  c2 : W.cell? ⟨g, 2, none⟩ = some (.int .i64 0)
  c3 : W.cell? ⟨g, 3, none⟩ = some (.int .i64 0)
  c4 : W.cell? ⟨g, 4, none⟩ = some (.int .i64 0)
  c5 : W.cell? ⟨g, 5, none⟩ = some (.slice ca conf.length cc)
  c6 : W.cell? ⟨g, 6, none⟩ = some (.int .i64 0)
  c7 : W.cell? ⟨g, 7, none⟩ = some (.int .i64 0)
  c8 : W.cell? ⟨g, 8, none⟩ = some (.slice none 0 0)
  c9 : W.cell? ⟨g, 9, none⟩ = some (.int .i64 0)
  c10 : W.cell? ⟨g, 10, none⟩ = some (.int .i64 0)
  c11 : W.cell? ⟨g, 11, none⟩ = some (.int .i64 20)
  c12 : W.cell? ⟨g, 12, none⟩ = some (.slice none 0 0)
  c13 : W.cell? ⟨g, 13, none⟩ = some (.slice none 0 0)
theorem NewAt.new (w : World) (id : Int) (conf : List Int) (ca : Option Addr) (cc : Nat) : NewAt (w.alloc (Obj.cells #[.int .i64 id, .int .i64 0, .int .i64 0, .int .i64 0, .int .i64 0, .slice ca conf.length cc, .int .i64 0, .int .i64 0, .slice none 0 0, .int .i64 0, .int .i64 0, .int .i64 20, .slice none 0 0, .slice none 0 0] 36)) w.heap.size id conf ca cc := by
  have p0 := heap_alloc_new w (Obj.cells #[.int .i64 id, .int .i64 0, .int .i64 0, .int .i64 0, .int .i64 0, .slice ca conf.length cc, .int .i64 0, .int .i64 0, .slice none 0 0, .int .i64 0, .int .i64 0, .int .i64 20, .slice none 0 0, .slice none 0 0] 36)
  exact ⟨cell_of_row _ _ 0 _ _ _ p0, cell_of_row _ _ 1 _ _ _ p0, cell_of_row _ _ 2 _ _ _ p0, cell_of_row _ _ 3 _ _ _ p0, cell_of_row _ _ 4 _ _ _ p0, cell_of_row _ _ 5 _ _ _ p0, cell_of_row _ _ 6 _ _ _ p0, cell_of_row _ _ 7 _ _ _ p0, cell_of_row _ _ 8 _ _ _ p0, cell_of_row _ _ 9 _ _ _ p0, cell_of_row _ _ 10 _ _ _ p0, cell_of_row _ _ 11 _ _ _ p0, cell_of_row _ _ 12 _ _ _ p0, cell_of_row _ _ 13 _ _ _ p0⟩
theorem NewAt.lt {W : World} {g : Nat} {id : Int} {conf : List Int} {ca : Option Addr} {cc : Nat} (h : NewAt W g id conf ca cc) : g < W.heap.size := World.block_lt_of_cell? W _ h.c0
theorem NewAt.kept {W W' : World} {g : Nat} {id : Int} {conf : List Int} {ca : Option Addr} {cc : Nat} (h : NewAt W g id conf ca cc) (hb : Below W.heap.size W W') : NewAt W' g id conf ca cc :=
  ⟨(hb.cell (p := ⟨g, 0, none⟩) h.lt).trans h.c0, (hb.cell (p := ⟨g, 1, none⟩) h.lt).trans h.c1, (hb.cell (p := ⟨g, 2, none⟩) h.lt).trans h.c2, (hb.cell (p := ⟨g, 3, none⟩) h.lt).trans h.c3, (hb.cell (p := ⟨g, 4, none⟩) h.lt).trans h.c4, (hb.cell (p := ⟨g, 5, none⟩) h.lt).trans h.c5, (hb.cell (p := ⟨g, 6, none⟩) h.lt).trans h.c6, (hb.cell (p := ⟨g, 7, none⟩) h.lt).trans h.c7, (hb.cell (p := ⟨g, 8, none⟩) h.lt).trans h.c8, (hb.cell (p := ⟨g, 9, none⟩) h.lt).trans h.c9, (hb.cell (p := ⟨g, 10, none⟩) h.lt).trans h.c10, (hb.cell (p := ⟨g, 11, none⟩) h.lt).trans h.c11, (hb.cell (p := ⟨g, 12, none⟩) h.lt).trans h.c12, (hb.cell (p := ⟨g, 13, none⟩) h.lt).trans h.c13⟩
theorem specLog0 (X : World) : Calls Try.prog 25 #[.agg #[.int .i64 0, .int .i64 0, .slice none 0 0]] X fun en w' => en = .returned (.bool true) ∧ Below X.heap.size X w' := specLogOk_is (a := none) (g := 0) (off := 0) (cap := 0) ⟨0, 0, []⟩ (by simp) (fun e he => by simp at he) X ⟨fun q => by simp at q, fun j hj => by simp at hj⟩
theorem specLast0 (X : World) : Calls Try.prog 26 #[.agg #[.int .i64 0, .int .i64 0, .slice none 0 0]] X fun en w' => en = .returned (.tuple #[.int .i64 0, .int .i64 0]) ∧ Below X.heap.size X w' := specLast_is (a := none) (g := 0) (off := 0) (cap := 0) ⟨0, 0, []⟩ (by simp) X ⟨fun q => by simp at q, fun j hj => by simp at hj⟩
theorem implLog0 (X : World) : Calls Try.prog 34 #[.agg #[.int .i64 0, .int .i64 0, .slice none 0 0]] X fun en w' => en = .returned (.bool true) ∧ Below X.heap.size X w' := implLogOk_is (a := none) (g := 0) (off := 0) (cap := 0) ⟨0, 0, []⟩ (by simp) (fun e he => by simp at he) X ⟨fun q => by simp at q, fun j hj => by simp at hj⟩
theorem implLast0 (X : World) : Calls Try.prog 60 #[.agg #[.int .i64 0, .int .i64 0, .slice none 0 0]] X fun en w' => en = .returned (.tuple #[.int .i64 0, .int .i64 0]) ∧ Below X.heap.size X w' := implLast_is (a := none) (g := 0) (off := 0) (cap := 0) ⟨0, 0, []⟩ (by simp) X ⟨fun q => by simp at q, fun j hj => by simp at hj⟩
theorem rise0 (X : World) : Calls Try.prog 27 #[.slice none 0 0, .int .i64 1, .int .i64 4] X fun en w' => en = .returned (.bool true) ∧ Below X.heap.size X w' := rise_is (a := none) (g := 0) (off := 0) (cap := 0) [] (by simp) 1 4 true rfl X (IntAt.nil X)
theorem none0 (X : World) : Calls Try.prog 61 #[.int .i64 0] X fun en w' => en = .returned (.bool true) ∧ Below X.heap.size X w' := by
  go_enter Try.func61, Try.ntmps61
  go_wp2
  go_ret
  exact ⟨rfl, Below.refl _ _⟩
theorem limit20 (X : World) : Calls Try.prog 62 #[.int .i64 20] X fun en w' => en = .returned (.bool true) ∧ Below X.heap.size X w' := by
  go_enter Try.func62, Try.ntmps62
  go_wp2
  go_ret
  exact ⟨rfl, Below.refl _ _⟩
theorem idOk_yes (x : Int) (h1 : 1 ≤ x) (h2 : x ≤ 4) (X : World) : Calls Try.prog 32 #[.int .i64 x] X fun en w' => en = .returned (.bool true) ∧ w' = X := by
  go_enter Try.func32, Try.ntmps32
  go_wp2
  go_ret
  exact ⟨rfl, rfl⟩
theorem idOk_no (x : Int) (h1 : ¬ (1 ≤ x ∧ x ≤ 4)) (X : World) : Calls Try.prog 32 #[.int .i64 x] X fun en w' => en = .returned (.bool false) ∧ w' = X := by
  by_cases h : 1 ≤ x
  · have h2 : ¬ x ≤ 4 := fun k => h1 ⟨h, k⟩
    clear h1
    go_enter Try.func32, Try.ntmps32
    go_wp2
    go_ret
    exact ⟨rfl, rfl⟩
  · clear h1
    go_enter Try.func32, Try.ntmps32
    go_wp2
    go_ret
    exact ⟨rfl, rfl⟩
theorem idOk_q (x : Int) (h1 : 1 ≤ x) (h2 : x ≤ 4) (X : World) : Calls Try.prog 32 #[.int .i64 x] X fun en w' => en = .returned (.bool true) ∧ Below X.heap.size X w' := (idOk_yes x h1 h2 X).mono (by rintro e w' ⟨rfl, rfl⟩; exact ⟨rfl, Below.refl _ _⟩)
theorem in_q (n lo hi : Int) (h1 : lo ≤ n) (h2 : n ≤ hi) (X : World) : Calls Try.prog 23 #[.int .i64 n, .int .i64 lo, .int .i64 hi] X fun e w' => e = .returned (.bool true) ∧ Below X.heap.size X w' := (in_is n lo hi true ⟨fun _ => ⟨h1, h2⟩, fun _ => rfl⟩ X).mono (by rintro e w' ⟨rfl, rfl⟩; exact ⟨rfl, Below.refl _ _⟩)

theorem specConf_q {a : Option Addr} {g off cap : Nat} (l : List Int) (hlen : l.length ≤ 1048576) (hk : Mans.confOk l = true) (w : World) (hf : IntAt w a g off l) : Calls Try.prog 24 #[.slice a l.length cap] w fun e w' => e = .returned (.bool true) ∧ Below w.heap.size w w' := specConf_is l hlen _ hk w hf
theorem implConf_q {a : Option Addr} {g off cap : Nat} (l : List Int) (hlen : l.length ≤ 1048576) (R : Bool) (hk : Mans.confOk l = R) (w : World) (hf : IntAt w a g off l) : Calls Try.prog 33 #[.slice a l.length cap] w fun e w' => e = .returned (.bool R) ∧ Below w.heap.size w w' := (implConf_is l hlen R hk w hf).mono (by rintro e w' ⟨rfl, rfl⟩; exact ⟨rfl, Below.refl _ _⟩)
theorem specConf_n {a : Option Addr} {g off cap : Nat} (l : List Int) (hlen : l.length ≤ 1048576) (hk : Mans.confOk l = false) (w : World) (hf : IntAt w a g off l) : Calls Try.prog 24 #[.slice a l.length cap] w fun e w' => e = .returned (.bool false) ∧ Below w.heap.size w w' := specConf_is l hlen _ hk w hf

set_option maxHeartbeats 4000000 in
set_option maxRecDepth 100000 in
theorem specNew_yes {ca : Option Addr} {cc gc oc : Nat} (id : Int) (conf : List Int) (h1 : 1 ≤ id) (h2 : id ≤ 4) (hk : Mans.confOk conf = true) (hlen : conf.length ≤ 1048576) (w : World) (hf : IntAt w ca gc oc conf) :
    Calls Try.prog 7 #[.agg #[.int .i64 id, .int .i64 0, .int .i64 0, .int .i64 0, .int .i64 0, .slice ca conf.length cc, .int .i64 0, .int .i64 0, .slice none 0 0, .int .i64 0, .int .i64 0, .int .i64 20, .slice none 0 0, .slice none 0 0]] w fun e w' => e = .returned (.bool (true)) ∧ Below w.heap.size w w' := by
  obtain ⟨W, hW⟩ : ∃ W, W = w.alloc (.cells #[.int .i64 id, .int .i64 0, .int .i64 0, .int .i64 0, .int .i64 0, .slice ca conf.length cc, .int .i64 0, .int .i64 0, .slice none 0 0, .int .i64 0, .int .i64 0, .int .i64 20, .slice none 0 0, .slice none 0 0] 36) := ⟨_, rfl⟩
  have hb : Below w.heap.size w W := by rw [hW]; exact (Below.refl _ _).alloc (Nat.le_refl _) _
  have hn0 : NewAt W w.heap.size id conf ca cc := by rw [hW]; exact NewAt.new w id conf ca cc
  have HX : Hid (∀ w', Below W.heap.size W w' → NewAt w' w.heap.size id conf ca cc) := fun w' h => hn0.kept h
  have HC : Hid (IntAt W ca gc oc conf) := hf.kept hb
  have HB : Hid (Below w.heap.size w W) := hb
  obtain ⟨p0, p1, p2, p3, p4, p5, p6, p7, p8, p9, p10, p11, p12, p13⟩ := hn0
  rw [hW] at p0 p1 p2 p3 p4 p5 p6 p7 p8 p9 p10 p11 p12 p13
  clear hf hb
  have HI : Hid (1 ≤ id ∧ id ≤ 4) := ⟨h1, h2⟩
  have HK : Hid (Mans.confOk conf = true) := hk
  clear h1 h2 hk
  go_enter Try.func7, Try.ntmps7
  go_wp2_with fail
  rw [← hW]
  clear hW
  refine Calls.mono (in_q id 1 4 HI.out.1 HI.out.2 W) ?_
  clear p0 p1 p2 p3 p4 p5 p6 p7 p8 p9 p10 p11 p12 p13
  rintro e w1 ⟨rfl, hb1⟩
  have H1 : Hid (Below W.heap.size W w1) := hb1
  clear hb1
  obtain ⟨p0, p1, p2, p3, p4, p5, p6, p7, p8, p9, p10, p11, p12, p13⟩ := HX.out w1 H1.out
  go_wp2_with fail
  refine Calls.mono (specConf_q conf hlen HK.out w1 (HC.out.kept H1.out)) ?_
  clear p0 p1 p2 p3 p4 p5 p6 p7 p8 p9 p10 p11 p12 p13
  rintro e w2 ⟨rfl, hb2⟩
  have H2 : Hid (Below W.heap.size W w2) := H1.out.trans (hb2.mono H1.out.size)
  clear hb2
  obtain ⟨p0, p1, p2, p3, p4, p5, p6, p7, p8, p9, p10, p11, p12, p13⟩ := HX.out w2 H2.out
  go_wp2_with fail
  refine Calls.mono (specLog0 w2) ?_
  clear p0 p1 p2 p3 p4 p5 p6 p7 p8 p9 p10 p11 p12 p13
  rintro e w3 ⟨rfl, hb3⟩
  have H3 : Hid (Below W.heap.size W w3) := H2.out.trans (hb3.mono H2.out.size)
  clear hb3
  obtain ⟨p0, p1, p2, p3, p4, p5, p6, p7, p8, p9, p10, p11, p12, p13⟩ := HX.out w3 H3.out
  go_wp2_with fail
  refine Calls.mono (in_q 0 0 100000 (by decide) (by decide) w3) ?_
  clear p0 p1 p2 p3 p4 p5 p6 p7 p8 p9 p10 p11 p12 p13
  rintro e w4 ⟨rfl, hb4⟩
  have H4 : Hid (Below W.heap.size W w4) := H3.out.trans (hb4.mono H3.out.size)
  clear hb4
  obtain ⟨p0, p1, p2, p3, p4, p5, p6, p7, p8, p9, p10, p11, p12, p13⟩ := HX.out w4 H4.out
  go_wp2_with fail
  refine Calls.mono (in_q 0 0 4 (by decide) (by decide) w4) ?_
  clear p0 p1 p2 p3 p4 p5 p6 p7 p8 p9 p10 p11 p12 p13
  rintro e w5 ⟨rfl, hb5⟩
  have H5 : Hid (Below W.heap.size W w5) := H4.out.trans (hb5.mono H4.out.size)
  clear hb5
  obtain ⟨p0, p1, p2, p3, p4, p5, p6, p7, p8, p9, p10, p11, p12, p13⟩ := HX.out w5 H5.out
  go_wp2_with fail
  refine Calls.mono (in_q 0 0 4 (by decide) (by decide) w5) ?_
  clear p0 p1 p2 p3 p4 p5 p6 p7 p8 p9 p10 p11 p12 p13
  rintro e w6 ⟨rfl, hb6⟩
  have H6 : Hid (Below W.heap.size W w6) := H5.out.trans (hb6.mono H5.out.size)
  clear hb6
  obtain ⟨p0, p1, p2, p3, p4, p5, p6, p7, p8, p9, p10, p11, p12, p13⟩ := HX.out w6 H6.out
  go_wp2_with fail
  refine Calls.mono (in_q 0 0 2 (by decide) (by decide) w6) ?_
  clear p0 p1 p2 p3 p4 p5 p6 p7 p8 p9 p10 p11 p12 p13
  rintro e w7 ⟨rfl, hb7⟩
  have H7 : Hid (Below W.heap.size W w7) := H6.out.trans (hb7.mono H6.out.size)
  clear hb7
  obtain ⟨p0, p1, p2, p3, p4, p5, p6, p7, p8, p9, p10, p11, p12, p13⟩ := HX.out w7 H7.out
  go_wp2_with fail
  refine Calls.mono (specLast0 w7) ?_
  clear p0 p1 p2 p3 p4 p5 p6 p7 p8 p9 p10 p11 p12 p13
  rintro e w8 ⟨rfl, hb8⟩
  have H8 : Hid (Below W.heap.size W w8) := H7.out.trans (hb8.mono H7.out.size)
  clear hb8
  obtain ⟨p0, p1, p2, p3, p4, p5, p6, p7, p8, p9, p10, p11, p12, p13⟩ := HX.out w8 H8.out
  go_wp2_with fail
  refine Calls.mono (in_q 0 0 0 (by decide) (by decide) w8) ?_
  clear p0 p1 p2 p3 p4 p5 p6 p7 p8 p9 p10 p11 p12 p13
  rintro e w9 ⟨rfl, hb9⟩
  have H9 : Hid (Below W.heap.size W w9) := H8.out.trans (hb9.mono H8.out.size)
  clear hb9
  obtain ⟨p0, p1, p2, p3, p4, p5, p6, p7, p8, p9, p10, p11, p12, p13⟩ := HX.out w9 H9.out
  go_wp2_with fail
  refine Calls.mono (in_q 0 0 20 (by decide) (by decide) w9) ?_
  clear p0 p1 p2 p3 p4 p5 p6 p7 p8 p9 p10 p11 p12 p13
  rintro e w10 ⟨rfl, hb10⟩
  have H10 : Hid (Below W.heap.size W w10) := H9.out.trans (hb10.mono H9.out.size)
  clear hb10
  obtain ⟨p0, p1, p2, p3, p4, p5, p6, p7, p8, p9, p10, p11, p12, p13⟩ := HX.out w10 H10.out
  go_wp2_with fail
  refine Calls.mono (in_q 20 1 20 (by decide) (by decide) w10) ?_
  clear p0 p1 p2 p3 p4 p5 p6 p7 p8 p9 p10 p11 p12 p13
  rintro e w11 ⟨rfl, hb11⟩
  have H11 : Hid (Below W.heap.size W w11) := H10.out.trans (hb11.mono H10.out.size)
  clear hb11
  obtain ⟨p0, p1, p2, p3, p4, p5, p6, p7, p8, p9, p10, p11, p12, p13⟩ := HX.out w11 H11.out
  go_wp2_with fail
  refine Calls.mono (rise0 w11) ?_
  clear p0 p1 p2 p3 p4 p5 p6 p7 p8 p9 p10 p11 p12 p13
  rintro e w12 ⟨rfl, hb12⟩
  have H12 : Hid (Below W.heap.size W w12) := H11.out.trans (hb12.mono H11.out.size)
  clear hb12
  obtain ⟨p0, p1, p2, p3, p4, p5, p6, p7, p8, p9, p10, p11, p12, p13⟩ := HX.out w12 H12.out
  obtain ⟨q0, q1, q2, q3, q4, q5, q6, q7, q8, q9, q10, q11, q12, q13⟩ := HX.out (w12.alloc (.cells #[] 3)) (H12.out.alloc (by have := H12.out.size; omega) _)
  go_wp2
  refine wp_loop_rounds 1 ?_
  rw [rounds_succ]
  go_wp2
  go_ret
  exact ⟨rfl, (HB.out.trans (H12.out.mono HB.out.size)).alloc (by have := HB.out.size; have := H12.out.size; omega) _⟩

set_option maxHeartbeats 4000000 in
set_option maxRecDepth 100000 in
theorem specNew_id {ca : Option Addr} {cc gc oc : Nat} (id : Int) (conf : List Int) (h1 : ¬ (1 ≤ id ∧ id ≤ 4)) (hlen : conf.length ≤ 1048576) (w : World) (hf : IntAt w ca gc oc conf) :
    Calls Try.prog 7 #[.agg #[.int .i64 id, .int .i64 0, .int .i64 0, .int .i64 0, .int .i64 0, .slice ca conf.length cc, .int .i64 0, .int .i64 0, .slice none 0 0, .int .i64 0, .int .i64 0, .int .i64 20, .slice none 0 0, .slice none 0 0]] w fun e w' => e = .returned (.bool (false)) ∧ Below w.heap.size w w' := by
  obtain ⟨W, hW⟩ : ∃ W, W = w.alloc (.cells #[.int .i64 id, .int .i64 0, .int .i64 0, .int .i64 0, .int .i64 0, .slice ca conf.length cc, .int .i64 0, .int .i64 0, .slice none 0 0, .int .i64 0, .int .i64 0, .int .i64 20, .slice none 0 0, .slice none 0 0] 36) := ⟨_, rfl⟩
  have hb : Below w.heap.size w W := by rw [hW]; exact (Below.refl _ _).alloc (Nat.le_refl _) _
  have hn0 : NewAt W w.heap.size id conf ca cc := by rw [hW]; exact NewAt.new w id conf ca cc
  have HX : Hid (∀ w', Below W.heap.size W w' → NewAt w' w.heap.size id conf ca cc) := fun w' h => hn0.kept h
  have HC : Hid (IntAt W ca gc oc conf) := hf.kept hb
  have HB : Hid (Below w.heap.size w W) := hb
  obtain ⟨p0, p1, p2, p3, p4, p5, p6, p7, p8, p9, p10, p11, p12, p13⟩ := hn0
  rw [hW] at p0 p1 p2 p3 p4 p5 p6 p7 p8 p9 p10 p11 p12 p13
  clear hf hb
  have HI : Hid (¬ (1 ≤ id ∧ id ≤ 4)) := h1
  clear h1
  go_enter Try.func7, Try.ntmps7
  go_wp2_with fail
  rw [← hW]
  clear hW
  refine Calls.mono (in_is id 1 4 false ⟨(fun h => by cases h), (fun h => (HI.out h).elim)⟩ W) ?_
  rintro e w1 ⟨rfl, hw⟩
  subst hw
  clear p0 p1 p2 p3 p4 p5 p6 p7 p8 p9 p10 p11 p12 p13 HX
  go_wp2
  go_ret
  exact ⟨rfl, HB.out⟩

set_option maxHeartbeats 4000000 in
set_option maxRecDepth 100000 in
theorem specNew_conf {ca : Option Addr} {cc gc oc : Nat} (id : Int) (conf : List Int) (h1 : 1 ≤ id) (h2 : id ≤ 4) (hk : Mans.confOk conf = false) (hlen : conf.length ≤ 1048576) (w : World) (hf : IntAt w ca gc oc conf) :
    Calls Try.prog 7 #[.agg #[.int .i64 id, .int .i64 0, .int .i64 0, .int .i64 0, .int .i64 0, .slice ca conf.length cc, .int .i64 0, .int .i64 0, .slice none 0 0, .int .i64 0, .int .i64 0, .int .i64 20, .slice none 0 0, .slice none 0 0]] w fun e w' => e = .returned (.bool (false)) ∧ Below w.heap.size w w' := by
  obtain ⟨W, hW⟩ : ∃ W, W = w.alloc (.cells #[.int .i64 id, .int .i64 0, .int .i64 0, .int .i64 0, .int .i64 0, .slice ca conf.length cc, .int .i64 0, .int .i64 0, .slice none 0 0, .int .i64 0, .int .i64 0, .int .i64 20, .slice none 0 0, .slice none 0 0] 36) := ⟨_, rfl⟩
  have hb : Below w.heap.size w W := by rw [hW]; exact (Below.refl _ _).alloc (Nat.le_refl _) _
  have hn0 : NewAt W w.heap.size id conf ca cc := by rw [hW]; exact NewAt.new w id conf ca cc
  have HX : Hid (∀ w', Below W.heap.size W w' → NewAt w' w.heap.size id conf ca cc) := fun w' h => hn0.kept h
  have HC : Hid (IntAt W ca gc oc conf) := hf.kept hb
  have HB : Hid (Below w.heap.size w W) := hb
  obtain ⟨p0, p1, p2, p3, p4, p5, p6, p7, p8, p9, p10, p11, p12, p13⟩ := hn0
  rw [hW] at p0 p1 p2 p3 p4 p5 p6 p7 p8 p9 p10 p11 p12 p13
  clear hf hb
  have HI : Hid (1 ≤ id ∧ id ≤ 4) := ⟨h1, h2⟩
  have HK : Hid (Mans.confOk conf = false) := hk
  clear h1 h2 hk
  go_enter Try.func7, Try.ntmps7
  go_wp2_with fail
  rw [← hW]
  clear hW
  refine Calls.mono (in_q id 1 4 HI.out.1 HI.out.2 W) ?_
  clear p0 p1 p2 p3 p4 p5 p6 p7 p8 p9 p10 p11 p12 p13
  rintro e w1 ⟨rfl, hb1⟩
  have H1 : Hid (Below W.heap.size W w1) := hb1
  clear hb1
  obtain ⟨p0, p1, p2, p3, p4, p5, p6, p7, p8, p9, p10, p11, p12, p13⟩ := HX.out w1 H1.out
  go_wp2_with fail
  refine Calls.mono (specConf_n conf hlen HK.out w1 (HC.out.kept H1.out)) ?_
  clear p0 p1 p2 p3 p4 p5 p6 p7 p8 p9 p10 p11 p12 p13
  rintro e w2 ⟨rfl, hb2⟩
  have H2 : Hid (Below W.heap.size W w2) := H1.out.trans (hb2.mono H1.out.size)
  clear hb2
  obtain ⟨p0, p1, p2, p3, p4, p5, p6, p7, p8, p9, p10, p11, p12, p13⟩ := HX.out w2 H2.out
  clear p0 p1 p2 p3 p4 p5 p6 p7 p8 p9 p10 p11 p12 p13 HX
  go_wp2
  go_ret
  exact ⟨rfl, HB.out.trans (H2.out.mono HB.out.size)⟩

set_option maxHeartbeats 4000000 in
set_option maxRecDepth 100000 in
theorem implStand {ca : Option Addr} {cc : Nat} (id : Int) (conf : List Int) (w : World) :
    Calls Try.prog 35 #[.agg #[.int .i64 id, .int .i64 0, .int .i64 0, .int .i64 0, .int .i64 0, .slice ca conf.length cc, .int .i64 0, .int .i64 0, .slice none 0 0, .int .i64 0, .int .i64 0, .int .i64 20, .slice none 0 0, .slice none 0 0]] w fun e w' => e = .returned (.bool (true)) ∧ Below w.heap.size w w' := by
  obtain ⟨W, hW⟩ : ∃ W, W = w.alloc (.cells #[.int .i64 id, .int .i64 0, .int .i64 0, .int .i64 0, .int .i64 0, .slice ca conf.length cc, .int .i64 0, .int .i64 0, .slice none 0 0, .int .i64 0, .int .i64 0, .int .i64 20, .slice none 0 0, .slice none 0 0] 36) := ⟨_, rfl⟩
  have hb : Below w.heap.size w W := by rw [hW]; exact (Below.refl _ _).alloc (Nat.le_refl _) _
  have hn0 : NewAt W w.heap.size id conf ca cc := by rw [hW]; exact NewAt.new w id conf ca cc
  have HX : Hid (∀ w', Below W.heap.size W w' → NewAt w' w.heap.size id conf ca cc) := fun w' h => hn0.kept h
  have HB : Hid (Below w.heap.size w W) := hb
  obtain ⟨p0, p1, p2, p3, p4, p5, p6, p7, p8, p9, p10, p11, p12, p13⟩ := hn0
  rw [hW] at p0 p1 p2 p3 p4 p5 p6 p7 p8 p9 p10 p11 p12 p13
  clear hb
  go_enter Try.func35, Try.ntmps35
  go_wp2_with fail
  rw [← hW]
  clear hW
  refine Calls.mono (implLast0 W) ?_
  clear p0 p1 p2 p3 p4 p5 p6 p7 p8 p9 p10 p11 p12 p13
  rintro e w1 ⟨rfl, hb1⟩
  have H1 : Hid (Below W.heap.size W w1) := hb1
  clear hb1
  obtain ⟨p0, p1, p2, p3, p4, p5, p6, p7, p8, p9, p10, p11, p12, p13⟩ := HX.out w1 H1.out
  go_wp2_with fail
  refine Calls.mono (none0 w1) ?_
  clear p0 p1 p2 p3 p4 p5 p6 p7 p8 p9 p10 p11 p12 p13
  rintro e w2 ⟨rfl, hb2⟩
  have H2 : Hid (Below W.heap.size W w2) := H1.out.trans (hb2.mono H1.out.size)
  clear hb2
  obtain ⟨p0, p1, p2, p3, p4, p5, p6, p7, p8, p9, p10, p11, p12, p13⟩ := HX.out w2 H2.out
  go_wp2_with fail
  refine Calls.mono (none0 w2) ?_
  clear p0 p1 p2 p3 p4 p5 p6 p7 p8 p9 p10 p11 p12 p13
  rintro e w3 ⟨rfl, hb3⟩
  have H3 : Hid (Below W.heap.size W w3) := H2.out.trans (hb3.mono H2.out.size)
  clear hb3
  obtain ⟨p0, p1, p2, p3, p4, p5, p6, p7, p8, p9, p10, p11, p12, p13⟩ := HX.out w3 H3.out
  go_wp2_with fail
  refine Calls.mono (limit20 w3) ?_
  clear p0 p1 p2 p3 p4 p5 p6 p7 p8 p9 p10 p11 p12 p13
  rintro e w4 ⟨rfl, hb4⟩
  have H4 : Hid (Below W.heap.size W w4) := H3.out.trans (hb4.mono H3.out.size)
  clear hb4
  obtain ⟨p0, p1, p2, p3, p4, p5, p6, p7, p8, p9, p10, p11, p12, p13⟩ := HX.out w4 H4.out
  clear p0 p1 p2 p3 p4 p5 p6 p7 p8 p9 p10 p11 p12 p13 HX
  go_wp2
  go_ret
  exact ⟨rfl, HB.out.trans (H4.out.mono HB.out.size)⟩

set_option maxHeartbeats 4000000 in
set_option maxRecDepth 100000 in
theorem implRole {ca : Option Addr} {cc : Nat} (id : Int) (conf : List Int) (w : World) :
    Calls Try.prog 36 #[.agg #[.int .i64 id, .int .i64 0, .int .i64 0, .int .i64 0, .int .i64 0, .slice ca conf.length cc, .int .i64 0, .int .i64 0, .slice none 0 0, .int .i64 0, .int .i64 0, .int .i64 20, .slice none 0 0, .slice none 0 0]] w fun e w' => e = .returned (.bool (true)) ∧ Below w.heap.size w w' := by
  obtain ⟨W, hW⟩ : ∃ W, W = w.alloc (.cells #[.int .i64 id, .int .i64 0, .int .i64 0, .int .i64 0, .int .i64 0, .slice ca conf.length cc, .int .i64 0, .int .i64 0, .slice none 0 0, .int .i64 0, .int .i64 0, .int .i64 20, .slice none 0 0, .slice none 0 0] 36) := ⟨_, rfl⟩
  have hb : Below w.heap.size w W := by rw [hW]; exact (Below.refl _ _).alloc (Nat.le_refl _) _
  have hn0 : NewAt W w.heap.size id conf ca cc := by rw [hW]; exact NewAt.new w id conf ca cc
  have HX : Hid (∀ w', Below W.heap.size W w' → NewAt w' w.heap.size id conf ca cc) := fun w' h => hn0.kept h
  have HB : Hid (Below w.heap.size w W) := hb
  obtain ⟨p0, p1, p2, p3, p4, p5, p6, p7, p8, p9, p10, p11, p12, p13⟩ := hn0
  rw [hW] at p0 p1 p2 p3 p4 p5 p6 p7 p8 p9 p10 p11 p12 p13
  clear hb
  clear HX hW
  go_enter Try.func36, Try.ntmps36
  go_wp2
  go_ret
  exact ⟨rfl, (Below.refl _ _).alloc (Nat.le_refl _) _⟩

set_option maxHeartbeats 4000000 in
set_option maxRecDepth 100000 in
theorem implNew_yes {ca : Option Addr} {cc gc oc : Nat} (id : Int) (conf : List Int) (h1 : 1 ≤ id) (h2 : id ≤ 4) (hk : Mans.confOk conf = true) (hlen : conf.length ≤ 1048576) (w : World) (hf : IntAt w ca gc oc conf) :
    Calls Try.prog 9 #[.agg #[.int .i64 id, .int .i64 0, .int .i64 0, .int .i64 0, .int .i64 0, .slice ca conf.length cc, .int .i64 0, .int .i64 0, .slice none 0 0, .int .i64 0, .int .i64 0, .int .i64 20, .slice none 0 0, .slice none 0 0]] w fun e w' => e = .returned (.bool (true)) ∧ Below w.heap.size w w' := by
  obtain ⟨W, hW⟩ : ∃ W, W = w.alloc (.cells #[.int .i64 id, .int .i64 0, .int .i64 0, .int .i64 0, .int .i64 0, .slice ca conf.length cc, .int .i64 0, .int .i64 0, .slice none 0 0, .int .i64 0, .int .i64 0, .int .i64 20, .slice none 0 0, .slice none 0 0] 36) := ⟨_, rfl⟩
  have hb : Below w.heap.size w W := by rw [hW]; exact (Below.refl _ _).alloc (Nat.le_refl _) _
  have hn0 : NewAt W w.heap.size id conf ca cc := by rw [hW]; exact NewAt.new w id conf ca cc
  have HX : Hid (∀ w', Below W.heap.size W w' → NewAt w' w.heap.size id conf ca cc) := fun w' h => hn0.kept h
  have HC : Hid (IntAt W ca gc oc conf) := hf.kept hb
  have HB : Hid (Below w.heap.size w W) := hb
  obtain ⟨p0, p1, p2, p3, p4, p5, p6, p7, p8, p9, p10, p11, p12, p13⟩ := hn0
  rw [hW] at p0 p1 p2 p3 p4 p5 p6 p7 p8 p9 p10 p11 p12 p13
  clear hf hb
  have HI : Hid (1 ≤ id ∧ id ≤ 4) := ⟨h1, h2⟩
  have HK : Hid (Mans.confOk conf = true) := hk
  clear h1 h2 hk
  go_enter Try.func9, Try.ntmps9
  go_wp2_with fail
  rw [← hW]
  clear hW
  refine Calls.mono (idOk_q id HI.out.1 HI.out.2 W) ?_
  clear p0 p1 p2 p3 p4 p5 p6 p7 p8 p9 p10 p11 p12 p13
  rintro e w1 ⟨rfl, hb1⟩
  have H1 : Hid (Below W.heap.size W w1) := hb1
  clear hb1
  obtain ⟨p0, p1, p2, p3, p4, p5, p6, p7, p8, p9, p10, p11, p12, p13⟩ := HX.out w1 H1.out
  go_wp2_with fail
  refine Calls.mono (implConf_q conf hlen true HK.out w1 (HC.out.kept H1.out)) ?_
  clear p0 p1 p2 p3 p4 p5 p6 p7 p8 p9 p10 p11 p12 p13
  rintro e w2 ⟨rfl, hb2⟩
  have H2 : Hid (Below W.heap.size W w2) := H1.out.trans (hb2.mono H1.out.size)
  clear hb2
  obtain ⟨p0, p1, p2, p3, p4, p5, p6, p7, p8, p9, p10, p11, p12, p13⟩ := HX.out w2 H2.out
  go_wp2_with fail
  refine Calls.mono (implLog0 w2) ?_
  clear p0 p1 p2 p3 p4 p5 p6 p7 p8 p9 p10 p11 p12 p13
  rintro e w3 ⟨rfl, hb3⟩
  have H3 : Hid (Below W.heap.size W w3) := H2.out.trans (hb3.mono H2.out.size)
  clear hb3
  obtain ⟨p0, p1, p2, p3, p4, p5, p6, p7, p8, p9, p10, p11, p12, p13⟩ := HX.out w3 H3.out
  go_wp2_with fail
  refine Calls.mono (implStand id conf w3) ?_
  clear p0 p1 p2 p3 p4 p5 p6 p7 p8 p9 p10 p11 p12 p13
  rintro e w4 ⟨rfl, hb4⟩
  have H4 : Hid (Below W.heap.size W w4) := H3.out.trans (hb4.mono H3.out.size)
  clear hb4
  obtain ⟨p0, p1, p2, p3, p4, p5, p6, p7, p8, p9, p10, p11, p12, p13⟩ := HX.out w4 H4.out
  go_wp2_with fail
  refine Calls.mono (implRole id conf w4) ?_
  clear p0 p1 p2 p3 p4 p5 p6 p7 p8 p9 p10 p11 p12 p13
  rintro e w5 ⟨rfl, hb5⟩
  have H5 : Hid (Below W.heap.size W w5) := H4.out.trans (hb5.mono H4.out.size)
  clear hb5
  obtain ⟨p0, p1, p2, p3, p4, p5, p6, p7, p8, p9, p10, p11, p12, p13⟩ := HX.out w5 H5.out
  clear p0 p1 p2 p3 p4 p5 p6 p7 p8 p9 p10 p11 p12 p13 HX
  go_wp2
  go_ret
  exact ⟨rfl, HB.out.trans (H5.out.mono HB.out.size)⟩

set_option maxHeartbeats 4000000 in
set_option maxRecDepth 100000 in
theorem implNew_conf {ca : Option Addr} {cc gc oc : Nat} (id : Int) (conf : List Int) (h1 : 1 ≤ id) (h2 : id ≤ 4) (hk : Mans.confOk conf = false) (hlen : conf.length ≤ 1048576) (w : World) (hf : IntAt w ca gc oc conf) :
    Calls Try.prog 9 #[.agg #[.int .i64 id, .int .i64 0, .int .i64 0, .int .i64 0, .int .i64 0, .slice ca conf.length cc, .int .i64 0, .int .i64 0, .slice none 0 0, .int .i64 0, .int .i64 0, .int .i64 20, .slice none 0 0, .slice none 0 0]] w fun e w' => e = .returned (.bool (false)) ∧ Below w.heap.size w w' := by
  obtain ⟨W, hW⟩ : ∃ W, W = w.alloc (.cells #[.int .i64 id, .int .i64 0, .int .i64 0, .int .i64 0, .int .i64 0, .slice ca conf.length cc, .int .i64 0, .int .i64 0, .slice none 0 0, .int .i64 0, .int .i64 0, .int .i64 20, .slice none 0 0, .slice none 0 0] 36) := ⟨_, rfl⟩
  have hb : Below w.heap.size w W := by rw [hW]; exact (Below.refl _ _).alloc (Nat.le_refl _) _
  have hn0 : NewAt W w.heap.size id conf ca cc := by rw [hW]; exact NewAt.new w id conf ca cc
  have HX : Hid (∀ w', Below W.heap.size W w' → NewAt w' w.heap.size id conf ca cc) := fun w' h => hn0.kept h
  have HC : Hid (IntAt W ca gc oc conf) := hf.kept hb
  have HB : Hid (Below w.heap.size w W) := hb
  obtain ⟨p0, p1, p2, p3, p4, p5, p6, p7, p8, p9, p10, p11, p12, p13⟩ := hn0
  rw [hW] at p0 p1 p2 p3 p4 p5 p6 p7 p8 p9 p10 p11 p12 p13
  clear hf hb
  have HI : Hid (1 ≤ id ∧ id ≤ 4) := ⟨h1, h2⟩
  have HK : Hid (Mans.confOk conf = false) := hk
  clear h1 h2 hk
  go_enter Try.func9, Try.ntmps9
  go_wp2_with fail
  rw [← hW]
  clear hW
  refine Calls.mono (idOk_q id HI.out.1 HI.out.2 W) ?_
  clear p0 p1 p2 p3 p4 p5 p6 p7 p8 p9 p10 p11 p12 p13
  rintro e w1 ⟨rfl, hb1⟩
  have H1 : Hid (Below W.heap.size W w1) := hb1
  clear hb1
  obtain ⟨p0, p1, p2, p3, p4, p5, p6, p7, p8, p9, p10, p11, p12, p13⟩ := HX.out w1 H1.out
  go_wp2_with fail
  refine Calls.mono (implConf_q conf hlen false HK.out w1 (HC.out.kept H1.out)) ?_
  clear p0 p1 p2 p3 p4 p5 p6 p7 p8 p9 p10 p11 p12 p13
  rintro e w2 ⟨rfl, hb2⟩
  have H2 : Hid (Below W.heap.size W w2) := H1.out.trans (hb2.mono H1.out.size)
  clear hb2
  obtain ⟨p0, p1, p2, p3, p4, p5, p6, p7, p8, p9, p10, p11, p12, p13⟩ := HX.out w2 H2.out
  clear p0 p1 p2 p3 p4 p5 p6 p7 p8 p9 p10 p11 p12 p13 HX
  go_wp2
  go_ret
  exact ⟨rfl, HB.out.trans (H2.out.mono HB.out.size)⟩

set_option maxHeartbeats 4000000 in
set_option maxRecDepth 100000 in
theorem implNew_id {ca : Option Addr} {cc gc oc : Nat} (id : Int) (conf : List Int) (h1 : ¬ (1 ≤ id ∧ id ≤ 4)) (hlen : conf.length ≤ 1048576) (w : World) (hf : IntAt w ca gc oc conf) :
    Calls Try.prog 9 #[.agg #[.int .i64 id, .int .i64 0, .int .i64 0, .int .i64 0, .int .i64 0, .slice ca conf.length cc, .int .i64 0, .int .i64 0, .slice none 0 0, .int .i64 0, .int .i64 0, .int .i64 20, .slice none 0 0, .slice none 0 0]] w fun e w' => e = .returned (.bool (false)) ∧ Below w.heap.size w w' := by
  obtain ⟨W, hW⟩ : ∃ W, W = w.alloc (.cells #[.int .i64 id, .int .i64 0, .int .i64 0, .int .i64 0, .int .i64 0, .slice ca conf.length cc, .int .i64 0, .int .i64 0, .slice none 0 0, .int .i64 0, .int .i64 0, .int .i64 20, .slice none 0 0, .slice none 0 0] 36) := ⟨_, rfl⟩
  have hb : Below w.heap.size w W := by rw [hW]; exact (Below.refl _ _).alloc (Nat.le_refl _) _
  have hn0 : NewAt W w.heap.size id conf ca cc := by rw [hW]; exact NewAt.new w id conf ca cc
  have HX : Hid (∀ w', Below W.heap.size W w' → NewAt w' w.heap.size id conf ca cc) := fun w' h => hn0.kept h
  have HC : Hid (IntAt W ca gc oc conf) := hf.kept hb
  have HB : Hid (Below w.heap.size w W) := hb
  obtain ⟨p0, p1, p2, p3, p4, p5, p6, p7, p8, p9, p10, p11, p12, p13⟩ := hn0
  rw [hW] at p0 p1 p2 p3 p4 p5 p6 p7 p8 p9 p10 p11 p12 p13
  clear hf hb
  have HI : Hid (¬ (1 ≤ id ∧ id ≤ 4)) := h1
  clear h1
  go_enter Try.func9, Try.ntmps9
  go_wp2_with fail
  rw [← hW]
  clear hW
  refine Calls.mono (idOk_no id HI.out W) ?_
  rintro e w1 ⟨rfl, hw⟩
  subst hw
  clear p0 p1 p2 p3 p4 p5 p6 p7 p8 p9 p10 p11 p12 p13 HX
  go_wp2
  go_ret
  exact ⟨rfl, HB.out⟩

theorem newOk_cases (id : Int) (conf : List Int) : (newOk id conf = true ∧ 1 ≤ id ∧ id ≤ 4 ∧ Mans.confOk conf = true) ∨ (newOk id conf = false ∧ ¬ (1 ≤ id ∧ id ≤ 4)) ∨ (newOk id conf = false ∧ 1 ≤ id ∧ id ≤ 4 ∧ Mans.confOk conf = false) := by
  unfold newOk
  by_cases h : 1 ≤ id ∧ id ≤ 4
  · have hi : inB 1 4 id = true := by unfold inB; rw [decide_eq_true h.1, decide_eq_true h.2]; rfl
    rw [hi]
    cases hc : Mans.confOk conf
    · exact Or.inr (Or.inr ⟨rfl, h.1, h.2, rfl⟩)
    · exact Or.inl ⟨rfl, h.1, h.2, rfl⟩
  · refine Or.inr (Or.inl ⟨?_, h⟩)
    have hi : inB 1 4 id = false := by
      unfold inB
      by_cases h1 : 1 ≤ id
      · rw [decide_eq_false (fun q => h ⟨h1, q⟩)]; simp
      · rw [decide_eq_false h1]; rfl
    rw [hi]; rfl
theorem specNew_is {ca : Option Addr} {cc gc oc : Nat} (id : Int) (conf : List Int) (hlen : conf.length ≤ 1048576) (w : World) (hf : IntAt w ca gc oc conf) :
    Calls Try.prog 7 #[.agg #[.int .i64 id, .int .i64 0, .int .i64 0, .int .i64 0, .int .i64 0, .slice ca conf.length cc, .int .i64 0, .int .i64 0, .slice none 0 0, .int .i64 0, .int .i64 0, .int .i64 20, .slice none 0 0, .slice none 0 0]] w fun e w' => e = .returned (.bool (newOk id conf)) ∧ Below w.heap.size w w' := by
  rcases newOk_cases id conf with ⟨h, h1, h2, h3⟩ | ⟨h, h1⟩ | ⟨h, h1, h2, h3⟩ <;> rw [h]
  · exact specNew_yes id conf h1 h2 h3 hlen w hf
  · exact specNew_id id conf h1 hlen w hf
  · exact specNew_conf id conf h1 h2 h3 hlen w hf
theorem implNew_is {ca : Option Addr} {cc gc oc : Nat} (id : Int) (conf : List Int) (hlen : conf.length ≤ 1048576) (w : World) (hf : IntAt w ca gc oc conf) :
    Calls Try.prog 9 #[.agg #[.int .i64 id, .int .i64 0, .int .i64 0, .int .i64 0, .int .i64 0, .slice ca conf.length cc, .int .i64 0, .int .i64 0, .slice none 0 0, .int .i64 0, .int .i64 0, .int .i64 20, .slice none 0 0, .slice none 0 0]] w fun e w' => e = .returned (.bool (newOk id conf)) ∧ Below w.heap.size w w' := by
  rcases newOk_cases id conf with ⟨h, h1, h2, h3⟩ | ⟨h, h1⟩ | ⟨h, h1, h2, h3⟩ <;> rw [h]
  · exact implNew_yes id conf h1 h2 h3 hlen w hf
  · exact implNew_id id conf h1 hlen w hf
  · exact implNew_conf id conf h1 h2 h3 hlen w hf
end Go.Proofs.Ytiifjhalkihlbaa
