/- markNode and heldNode of a node whose Log, Votes and Peers are empty, walked. Made by program. -/
import Derived.Test.YtiifjhalkihlbaaNodeW
import Derived.Test.YtiifjhalkihlbaaHeldEn
namespace Go.Proofs.Ytiifjhalkihlbaa
open Go.RowKit
set_option linter.unusedVariables false
set_option linter.unusedSimpArgs false
theorem markEn0 (a : Option Addr) (c k : Nat) (w : World) : Calls Try.prog 69 #[.slice a 0 c, .int .i64 (k : Int)] w fun e w' => e = .returned (.int .i64 (k : Int)) ∧ w = w' := by
  go_enter Try.func69, Try.ntmps69
  go_wp2
  refine wp_loop_rounds 1 ?_
  rw [rounds_succ]
  go_wp2
  go_ret
  exact ⟨rfl, rfl⟩
theorem heldPe0 (a : Option Addr) (c k : Nat) (w : World) : Calls Try.prog 44 #[.slice a 0 c, .int .i64 (k : Int)] w fun e w' => e = .returned (.int .i64 (k : Int)) ∧ Below w.heap.size w w' := by
  go_enter Try.func44, Try.ntmps44
  go_wp2
  refine wp_loop_rounds 1 ?_
  rw [rounds_succ]
  go_wp2
  go_ret
  exact ⟨rfl, Below.refl _ _⟩
set_option maxRecDepth 100000 in
theorem markLog0 (a : Option Addr) (c k : Nat) (w : World) : Calls Try.prog 40 #[.agg #[.int .i64 0, .int .i64 0, .slice a 0 c], .int .i64 (k : Int)] w fun e w' => e = .returned (.int .i64 (k : Int)) ∧ Below w.heap.size w w' := by
  obtain ⟨W, hW⟩ : ∃ W, W = w.alloc (.cells #[.int .i64 0, .int .i64 0, .slice a 0 c] 33) := ⟨_, rfl⟩
  have HB : Hid (Below w.heap.size w W) := by show Below _ _ _; rw [hW]; exact (Below.refl _ _).alloc (Nat.le_refl _) _
  have c2 : W.cell? ⟨w.heap.size, 2, none⟩ = some (.slice a 0 c) := by rw [hW]; exact cell_of_row _ _ 2 _ _ _ (heap_alloc_new w _)
  rw [hW] at c2
  go_enter Try.func40, Try.ntmps40
  go_wp2_with fail
  rw [← hW]
  clear hW c2
  refine Calls.mono (markEn0 a c k W) ?_
  rintro e w1 ⟨rfl, hw⟩
  subst hw
  go_wp2
  go_ret
  exact ⟨rfl, HB.out⟩
theorem markI0 (k : Nat) (w : World) : Calls Try.prog 15 #[.slice none 0 0, .int .i64 (k : Int)] w fun e w' => e = .returned (.int .i64 (k : Int)) ∧ Below w.heap.size w w' := (markIntS_nil k w).mono (by rintro e w' ⟨rfl, rfl⟩; exact ⟨rfl, Below.refl _ _⟩)
theorem markPe0 (k : Nat) (w : World) : Calls Try.prog 41 #[.slice none 0 0, .int .i64 (k : Int)] w fun e w' => e = .returned (.int .i64 (k : Int)) ∧ Below w.heap.size w w' := (markPeS_nil k w).mono (by rintro e w' ⟨rfl, rfl⟩; exact ⟨rfl, Below.refl _ _⟩)
theorem heldI0 (k : Nat) (hk : k ≤ 100000000) (w : World) : Calls Try.prog 42 #[.slice none 0 0, .int .i64 (k : Int)] w fun e w' => e = .returned (.int .i64 (k : Int)) ∧ Below w.heap.size w w' := (heldIntS_is (a := none) (g := 0) (cap := 0) (n := 0) (by omega) k hk w ⟨fun h => by simp [marksI] at h, fun j hj => by simp [marksI] at hj⟩).mono (by rintro e w' ⟨rfl, rfl⟩; exact ⟨rfl, Below.refl _ _⟩)
theorem heldLog0 (a : Option Addr) (c k : Nat) (h0 : 0 < k) (hk : k ≤ 100000000) (w : World) : Calls Try.prog 43 #[.agg #[.int .i64 0, .int .i64 0, .slice a 0 c], .int .i64 (k : Int)] w fun e w' => e = .returned (.int .i64 (k : Int)) ∧ Below w.heap.size w w' := heldLog_is (g := 0) (off := 0) 0 0 0 (by omega) k h0 hk w ⟨fun h => by simp [marksEn] at h, fun j hj => by simp [marksEn] at hj⟩
set_option maxHeartbeats 4000000 in
set_option maxRecDepth 100000 in
theorem markNew_own {B : Nat} {ca ea : Option Addr} {cc ec n : Nat} (id L : Int) (l : List Int) (hn : l.length = n) (hlen : n ≤ 1048576) (w : World) (hA : w.ownsRow B 3 1 (.slice ca n cc) n (cellsI l)) :
    Calls Try.prog 16 #[.agg #[.int .i64 id, .int .i64 0, .int .i64 0, .int .i64 0, .int .i64 0, .slice ca n cc, .int .i64 0, .int .i64 0, .slice ea 0 ec, .int .i64 0, .int .i64 0, .int .i64 L, .slice none 0 0, .slice none 0 0], .int .i64 ((1 : Nat) : Int)] w fun e w' => e = .returned (.int .i64 ((1 + n : Nat) : Int)) ∧ w'.ownsRow B 3 1 (.slice ca n cc) n (cellsI (marksI 1 n)) ∧ w.grownBy w' (Value.slice ca n cc).ownBlock := by
  obtain ⟨W, hW⟩ : ∃ W, W = w.alloc (.cells #[.int .i64 id, .int .i64 0, .int .i64 0, .int .i64 0, .int .i64 0, .slice ca n cc, .int .i64 0, .int .i64 0, .slice ea 0 ec, .int .i64 0, .int .i64 0, .int .i64 L, .slice none 0 0, .slice none 0 0] 36) := ⟨_, rfl⟩
  obtain ⟨q, hq⟩ : ∃ q, q = w.heap.size := ⟨_, rfl⟩
  have HQ : Hid (q = w.heap.size) := hq
  have hb : Below w.heap.size w W := by rw [hW]; exact (Below.refl _ _).alloc (Nat.le_refl _) _
  have HB : Hid (Below w.heap.size w W) := hb
  have N0 : Hid (W.heap[q]? = some (.cells #[.int .i64 id, .int .i64 0, .int .i64 0, .int .i64 0, .int .i64 0, .slice ca n cc, .int .i64 0, .int .i64 0, .slice ea 0 ec, .int .i64 0, .int .i64 0, .int .i64 L, .slice none 0 0, .slice none 0 0] 36 (0, 0))) := by show _ = _; rw [hW, hq]; exact heap_alloc_new w _
  have p5 := cell_of_row _ _ 5 _ _ _ N0.out
  simp at p5
  rw [hW, hq] at p5
  have hA2 : W.ownsRow B 3 1 (.slice ca n cc) n (cellsI l) := by rw [hW]; exact hA.alloc _
  have HG : Hid (w.grownBy W (Value.slice ca n cc).ownBlock) := ⟨hb.os, hb.tape, hb.output, hb.size, fun k hk _ => hb.block k hk⟩
  have NB : Hid ((Value.slice ca n cc).ownBlock ≠ some q) := own_not hA2 N0.out (by decide)
  have HM : Hid (Calls Try.prog 15 #[.slice ca n cc, .int .i64 ((1 : Nat) : Int)] W fun e w' => e = .returned (.int .i64 ((1 + n : Nat) : Int)) ∧ w'.ownsRow B 3 1 (.slice ca n cc) n (cellsI (marksI 1 n)) ∧ W.grownBy w' (Value.slice ca n cc).ownBlock) := by subst hn; exact markIntS_own l hlen 1 (by omega) W hA2
  clear hb hA hA2
  obtain ⟨M, hM⟩ : ∃ M : Nat, M = 1 + n := ⟨_, rfl⟩
  have HMM : Hid (M = 1 + n) := hM
  rw [← hM] at HM ⊢
  clear hM
  go_enter Try.func16, Try.ntmps16
  go_wp2_with fail
  rw [← hW, ← hq]
  clear hW hq p5
  refine Calls.mono HM.out ?_
  rintro e w1 ⟨rfl, ho, hg⟩
  have N1 : Hid (w1.heap[q]? = some (.cells #[.int .i64 id, .int .i64 0, .int .i64 0, .int .i64 0, .int .i64 0, .slice ca n cc, .int .i64 0, .int .i64 0, .slice ea 0 ec, .int .i64 0, .int .i64 0, .int .i64 L, .slice none 0 0, .slice none 0 0] 36 (0, 0))) := (hg.block _ (Array.getElem?_eq_some_iff.1 N0.out).1 (fun h => NB.out h.symm)).trans N0.out
  have O1 : Hid (w1.ownsRow B 3 1 (.slice ca n cc) n (cellsI (marksI 1 n))) := ho
  have G1 : Hid (w.grownBy w1 (Value.slice ca n cc).ownBlock) := HG.out.trans hg
  clear ho hg HM N0 HG HB
  have p6 := cell_of_row _ _ 6 _ _ _ N1.out
  have p7 := cell_of_row _ _ 7 _ _ _ N1.out
  have p8 := cell_of_row _ _ 8 _ _ _ N1.out
  simp at p6 p7 p8
  go_wp2_with fail
  clear p6 p7 p8
  refine Calls.mono (markLog0 ea ec M w1) ?_
  rintro e w2 ⟨rfl, hb2⟩
  have N2 : Hid (w2.heap[q]? = some (.cells #[.int .i64 id, .int .i64 0, .int .i64 0, .int .i64 0, .int .i64 0, .slice ca n cc, .int .i64 0, .int .i64 0, .slice ea 0 ec, .int .i64 0, .int .i64 0, .int .i64 L, .slice none 0 0, .slice none 0 0] 36 (0, 0))) := (hb2.block _ (Array.getElem?_eq_some_iff.1 N1.out).1).trans N1.out
  have H2 : Hid (Below w1.heap.size w1 w2) := hb2
  clear hb2 N1
  have p12 := cell_of_row _ _ 12 _ _ _ N2.out
  simp at p12
  go_wp2_with fail
  clear p12
  refine Calls.mono (markI0 M w2) ?_
  rintro e w3 ⟨rfl, hb3⟩
  have N3 : Hid (w3.heap[q]? = some (.cells #[.int .i64 id, .int .i64 0, .int .i64 0, .int .i64 0, .int .i64 0, .slice ca n cc, .int .i64 0, .int .i64 0, .slice ea 0 ec, .int .i64 0, .int .i64 0, .int .i64 L, .slice none 0 0, .slice none 0 0] 36 (0, 0))) := (hb3.block _ (Array.getElem?_eq_some_iff.1 N2.out).1).trans N2.out
  have H3 : Hid (Below w1.heap.size w1 w3) := H2.out.trans (hb3.mono H2.out.size)
  clear hb3 N2 H2
  have p13 := cell_of_row _ _ 13 _ _ _ N3.out
  simp at p13
  go_wp2_with fail
  clear p13
  refine Calls.mono (markPe0 M w3) ?_
  rintro e w4 ⟨rfl, hb4⟩
  have N4 : Hid (w4.heap[q]? = some (.cells #[.int .i64 id, .int .i64 0, .int .i64 0, .int .i64 0, .int .i64 0, .slice ca n cc, .int .i64 0, .int .i64 0, .slice ea 0 ec, .int .i64 0, .int .i64 0, .int .i64 L, .slice none 0 0, .slice none 0 0] 36 (0, 0))) := (hb4.block _ (Array.getElem?_eq_some_iff.1 N3.out).1).trans N3.out
  have H4 : Hid (Below w1.heap.size w1 w4) := H3.out.trans (hb4.mono H3.out.size)
  clear hb4 N3 H3
  go_wp2
  go_ret
  exact ⟨rfl, own_kept O1.out H4.out, G1.out.trans (grown_of H4.out _)⟩
set_option maxHeartbeats 4000000 in
set_option maxRecDepth 100000 in
theorem heldNew_is {ca ea : Option Addr} {cc ec n : Nat} (id L : Int) {gc : Nat} (hlen : n ≤ 1048576) (w : World) (hA : IntAt w ca gc 0 (marksI 1 n)) :
    Calls Try.prog 17 #[.agg #[.int .i64 id, .int .i64 0, .int .i64 0, .int .i64 0, .int .i64 0, .slice ca n cc, .int .i64 0, .int .i64 0, .slice ea 0 ec, .int .i64 0, .int .i64 0, .int .i64 L, .slice none 0 0, .slice none 0 0], .int .i64 ((1 : Nat) : Int)] w fun e w' => e = .returned (.int .i64 ((1 + n : Nat) : Int)) ∧ Below w.heap.size w w' := by
  obtain ⟨W, hW⟩ : ∃ W, W = w.alloc (.cells #[.int .i64 id, .int .i64 0, .int .i64 0, .int .i64 0, .int .i64 0, .slice ca n cc, .int .i64 0, .int .i64 0, .slice ea 0 ec, .int .i64 0, .int .i64 0, .int .i64 L, .slice none 0 0, .slice none 0 0] 36) := ⟨_, rfl⟩
  obtain ⟨q, hq⟩ : ∃ q, q = w.heap.size := ⟨_, rfl⟩
  have HQ : Hid (q = w.heap.size) := hq
  have hb : Below w.heap.size w W := by rw [hW]; exact (Below.refl _ _).alloc (Nat.le_refl _) _
  have HB : Hid (Below w.heap.size w W) := hb
  have N0 : Hid (W.heap[q]? = some (.cells #[.int .i64 id, .int .i64 0, .int .i64 0, .int .i64 0, .int .i64 0, .slice ca n cc, .int .i64 0, .int .i64 0, .slice ea 0 ec, .int .i64 0, .int .i64 0, .int .i64 L, .slice none 0 0, .slice none 0 0] 36 (0, 0))) := by show _ = _; rw [hW, hq]; exact heap_alloc_new w _
  have p5 := cell_of_row _ _ 5 _ _ _ N0.out
  simp at p5
  rw [hW, hq] at p5
  have HM : Hid (Calls Try.prog 42 #[.slice ca n cc, .int .i64 ((1 : Nat) : Int)] W fun e w' => e = .returned (.int .i64 ((1 + n : Nat) : Int)) ∧ W = w') := heldIntS_is hlen 1 (by omega) W (hA.kept hb)
  clear hb hA
  obtain ⟨M, hM⟩ : ∃ M : Nat, M = 1 + n := ⟨_, rfl⟩
  have hM0 : ¬ (M : Int) < 0 := by omega
  have HMK : Hid (0 < M ∧ M ≤ 100000000) := ⟨by omega, by omega⟩
  have HMM : Hid (M = 1 + n) := hM
  rw [← hM] at HM ⊢
  clear hM
  go_enter Try.func17, Try.ntmps17
  go_wp2_with fail
  rw [← hW, ← hq]
  clear hW hq p5
  refine Calls.mono HM.out ?_
  rintro e w0 ⟨rfl, hw⟩
  subst hw
  have N1 := N0
  clear HM N0
  have p6 := cell_of_row _ _ 6 _ _ _ N1.out
  have p7 := cell_of_row _ _ 7 _ _ _ N1.out
  have p8 := cell_of_row _ _ 8 _ _ _ N1.out
  simp at p6 p7 p8
  go_wp2_with fail
  clear p6 p7 p8
  refine Calls.mono (heldLog0 ea ec M HMK.out.1 HMK.out.2 W) ?_
  rintro e w2 ⟨rfl, hb2⟩
  have N2 : Hid (w2.heap[q]? = some (.cells #[.int .i64 id, .int .i64 0, .int .i64 0, .int .i64 0, .int .i64 0, .slice ca n cc, .int .i64 0, .int .i64 0, .slice ea 0 ec, .int .i64 0, .int .i64 0, .int .i64 L, .slice none 0 0, .slice none 0 0] 36 (0, 0))) := (hb2.block _ (Array.getElem?_eq_some_iff.1 N1.out).1).trans N1.out
  have H2 : Hid (Below W.heap.size W w2) := hb2
  clear hb2 N1
  have p12 := cell_of_row _ _ 12 _ _ _ N2.out
  simp at p12
  go_wp2_with fail
  clear p12
  refine Calls.mono (heldI0 M HMK.out.2 w2) ?_
  rintro e w3 ⟨rfl, hb3⟩
  have N3 : Hid (w3.heap[q]? = some (.cells #[.int .i64 id, .int .i64 0, .int .i64 0, .int .i64 0, .int .i64 0, .slice ca n cc, .int .i64 0, .int .i64 0, .slice ea 0 ec, .int .i64 0, .int .i64 0, .int .i64 L, .slice none 0 0, .slice none 0 0] 36 (0, 0))) := (hb3.block _ (Array.getElem?_eq_some_iff.1 N2.out).1).trans N2.out
  have H3 : Hid (Below W.heap.size W w3) := H2.out.trans (hb3.mono H2.out.size)
  clear hb3 N2 H2
  have p13 := cell_of_row _ _ 13 _ _ _ N3.out
  simp at p13
  go_wp2_with fail
  clear p13
  refine Calls.mono (heldPe0 none 0 M w3) ?_
  rintro e w4 ⟨rfl, hb4⟩
  have N4 : Hid (w4.heap[q]? = some (.cells #[.int .i64 id, .int .i64 0, .int .i64 0, .int .i64 0, .int .i64 0, .slice ca n cc, .int .i64 0, .int .i64 0, .slice ea 0 ec, .int .i64 0, .int .i64 0, .int .i64 L, .slice none 0 0, .slice none 0 0] 36 (0, 0))) := (hb4.block _ (Array.getElem?_eq_some_iff.1 N3.out).1).trans N3.out
  have H4 : Hid (Below W.heap.size W w4) := H3.out.trans (hb4.mono H3.out.size)
  clear hb4 N3 H3
  go_wp2
  go_ret
  exact ⟨rfl, HB.out.trans (H4.out.mono HB.out.size)⟩
end Go.Proofs.Ytiifjhalkihlbaa
