/- A log as an argument and as an answer: szLog, toLog, eqLog, markLog, heldLog, walked. -/
import Derived.Test.YtddmogggdckneaaSpecBehind
import Derived.Deep.RegionHeld3
namespace Go.Proofs.Ytddmogggdckneaa
open Go.RowKit
set_option linter.unusedVariables false
set_option linter.unusedSimpArgs false

set_option maxHeartbeats 2000000 in
set_option maxRecDepth 100000 in
theorem szLog_any {a : Option Addr} {g off cap : Nat} (l : LogL) (hlen : l.ents.length ≤ maxLen) (hsz : ∀ r ∈ l.ents, smallEn maxLen r) (left : Nat) (hl : left ≤ 1048576) (w : World) (hf : EnAt w a g off l.ents) :
    Calls Try.prog 8 #[logV l a cap, .int .i64 (left : Int)] w fun e w' => ∃ x : Int, e = .returned (.int .i64 x) ∧ Left left (totEn l.ents) x ∧ Below w.heap.size w w' := by
  unfold logV
  obtain ⟨W, hW⟩ : ∃ W, W = w.alloc (Obj.cells #[.int .i64 l.start, .int .i64 l.sterm, .slice a l.ents.length cap] 24) := ⟨_, rfl⟩
  have hb : Below w.heap.size w W := by rw [hW]; exact (Below.refl _ _).alloc (Nat.le_refl _) _
  have HB : Hid (Below w.heap.size w W) := hb
  have hla : LogAt W w.heap.size l a cap := by rw [hW]; exact LogAt.new w l a cap 24
  obtain ⟨c0, c1, c2⟩ := hla
  rw [hW] at c0 c1 c2
  have HM : Hid (Calls Try.prog 33 #[.slice a l.ents.length cap, .int .i64 (left : Int)] W fun e w' => ∃ x : Int, e = .returned (.int .i64 x) ∧ Left left (totEn l.ents) x ∧ Below W.heap.size W w') := szEnS_is l.ents hlen hsz left hl W (hf.kept hb)
  clear hb hf hsz c0 c1
  go_enter Try.func8, Try.ntmps8
  go_wp2_with fail
  rw [← hW]
  clear hW c2
  refine Calls.mono HM.out ?_
  rintro e w1 ⟨x, rfl, hx, hb1⟩
  have HB1 : Hid (Below w.heap.size w w1) := HB.out.trans (hb1.mono HB.out.size)
  clear hb1 HM
  have HX : Hid (Left left (totEn l.ents) x) := hx
  rcases hx with ⟨hx1, hx2⟩ | ⟨hx1, hx2⟩
  · have hn : ¬ x < 0 := by omega
    clear hx1 hx2
    go_wp2
    go_ret
    exact ⟨x, rfl, HX.out, HB1.out⟩
  · have hn : x < 0 := by omega
    have HE : Hid (x = -1) := hx2
    clear hx1 hx2
    go_wp2
    go_ret
    exact ⟨-1, rfl, by rw [← HE.out]; exact HX.out, HB1.out⟩
theorem result14 {w : World} {g : Nat} {A C : Array Value} (hg : w.heap[g]? = some (.cells C 32 (0, 0))) (hs : A.size = 3) {tmps : Array Value} (ht : tmps.getD 2 undef = .pointer (some ⟨g, 0, none⟩)) : (results Try.f10 tmps).run Try.prog (w.setRow g A) = .ok (.agg A) (w.setRow g A) := by
  have h := run_loadVar_agg (P := Try.prog) Try.isAgg32 Try.sizeOf32 (row_size (A := A) hg) hs
  have ht' : tmps[2]?.getD undef = .pointer (some ⟨g, 0, none⟩) := by simpa using ht
  simp [results, Try.results10, ht', asAddr, h]
set_option maxHeartbeats 4000000 in
set_option maxRecDepth 100000 in
theorem toLog_any {a : Option Addr} {g off cap : Nat} (l : LogL) (hlen : l.ents.length ≤ 1048576) (w : World) (hf : EnAt w a g off l.ents) :
    Calls Try.prog 10 #[logV l a cap] w fun e w' => ∃ g1 : Nat, e = .returned (logV l (some ⟨g1, 0, none⟩) l.ents.length) ∧ w'.ownsRow w.heap.size 27 3 (.slice (some ⟨g1, 0, none⟩) l.ents.length l.ents.length) l.ents.length (cellsEn l.ents) ∧ Below w.heap.size w w' := by
  unfold logV
  obtain ⟨W2, hW2⟩ : ∃ W2, W2 = ((w.alloc (.cells #[.int .i64 l.start, .int .i64 l.sterm, .slice a l.ents.length cap] 24)).alloc (.cells #[.int .i64 0, .int .i64 0, .slice none 0 0] 32)).alloc (.cells #[.int .i64 l.start, .int .i64 l.sterm, .slice none 0 0] 32) := ⟨_, rfl⟩
  obtain ⟨q, hq⟩ : ∃ q, q = w.heap.size := ⟨_, rfl⟩
  have hB2 : Below w.heap.size w W2 := by rw [hW2]; exact (((Below.refl _ _).alloc (Nat.le_refl _) _).alloc (by simp) _).alloc (by simp; omega) _
  have HZ2 : Hid (W2.heap[q + 1]? = some (.cells #[.int .i64 0, .int .i64 0, .slice none 0 0] 32 (0, 0))) := by
    show _ = _
    rw [hW2, hq, Below.heap_alloc _ _ _ (by simp)]
    have := heap_alloc_new (w.alloc (.cells #[.int .i64 l.start, .int .i64 l.sterm, .slice a l.ents.length cap] 24)) (.cells #[.int .i64 0, .int .i64 0, .slice none 0 0] 32)
    simpa using this
  have HE2 : Hid (W2.heap[q + 1 + 1]? = some (.cells #[.int .i64 l.start, .int .i64 l.sterm, .slice none 0 0] 32 (0, 0))) := by
    show _ = _
    rw [hW2, hq]
    have := heap_alloc_new ((w.alloc (.cells #[.int .i64 l.start, .int .i64 l.sterm, .slice a l.ents.length cap] 24)).alloc (.cells #[.int .i64 0, .int .i64 0, .slice none 0 0] 32)) (.cells #[.int .i64 l.start, .int .i64 l.sterm, .slice none 0 0] 32)
    simpa using this
  have HQ : Hid (q = w.heap.size) := hq
  have HB2 : Hid (Below w.heap.size w W2) := hB2
  have HM : Hid (Calls Try.prog 36 #[.slice a l.ents.length cap] W2 fun e w' => e = .returned (.slice (some ⟨W2.heap.size, 0, none⟩) l.ents.length l.ents.length) ∧ w'.ownsRow W2.heap.size 27 3 (.slice (some ⟨W2.heap.size, 0, none⟩) l.ents.length l.ents.length) l.ents.length (cellsEn l.ents) ∧ Below W2.heap.size W2 w') := toEnS_is l.ents hlen W2 (hf.kept hB2)
  clear hB2 hf
  go_enter Try.func10, Try.ntmps10
  go_wp2_with fail
  rw [← hW2, ← hq]
  clear hW2 hq
  refine Calls.mono HM.out ?_
  rintro e w3 ⟨rfl, hown, hb3⟩
  have hE3 := (hb3.block _ (Array.getElem?_eq_some_iff.1 HE2.out).1).trans HE2.out
  have HE3 : Hid (w3.heap[q + 1 + 1]? = some (.cells #[.int .i64 l.start, .int .i64 l.sterm, .slice none 0 0] 32 (0, 0))) := hE3
  have HZ3 : Hid (w3.heap[q + 1]? = some (.cells #[.int .i64 0, .int .i64 0, .slice none 0 0] 32 (0, 0))) := (hb3.block _ (Array.getElem?_eq_some_iff.1 HZ2.out).1).trans HZ2.out
  have HB3 : Hid (Below w.heap.size w w3) := HB2.out.trans (hb3.mono HB2.out.size)
  obtain ⟨g1, hg1⟩ : ∃ g1, g1 = W2.heap.size := ⟨_, rfl⟩
  rw [← hg1] at hown ⊢
  have HO : Hid (w3.ownsRow w.heap.size 27 3 (.slice (some ⟨g1, 0, none⟩) l.ents.length l.ents.length) l.ents.length (cellsEn l.ents)) := own_mono hown (by rw [hg1]; exact HB2.out.size)
  have o2 := cell_of_row _ _ 2 _ _ _ hE3
  have of2 := frozen_of_row _ _ 2 _ _ hE3
  simp at o2
  have HE4 : Hid ((w3.setCell ⟨q + 1 + 1, 2, none⟩ (.slice (some ⟨g1, 0, none⟩) l.ents.length l.ents.length)).heap[q + 1 + 1]? = some (.cells #[.int .i64 l.start, .int .i64 l.sterm, .slice (some ⟨g1, 0, none⟩) l.ents.length l.ents.length] 32 (0, 0))) := by
    show _ = _
    have := heap_setCell_same w3 (q + 1 + 1) 2 _ 32 (.slice (some ⟨g1, 0, none⟩) l.ents.length l.ents.length) HE3.out
    simpa using this
  have HZ4 : Hid ((w3.setCell ⟨q + 1 + 1, 2, none⟩ (.slice (some ⟨g1, 0, none⟩) l.ents.length l.ents.length)).heap[q + 1]? = some (.cells #[.int .i64 0, .int .i64 0, .slice none 0 0] 32 (0, 0))) := set_far HZ3.out (by omega) _ _
  clear hown hb3 hE3 hg1 HM
  go_wp2_with (first | (refine wpList_loadA Try.isAgg32 Try.sizeOf32 rfl _ rfl (q + 1 + 1) #[.int .i64 l.start, .int .i64 l.sterm, .slice (some ⟨g1, 0, none⟩) l.ents.length l.ents.length] 32 rfl HE4.out rfl ?_) | (refine wpList_storeA Try.sizeOf32 rfl _ _ rfl (q + 1) #[.int .i64 l.start, .int .i64 l.sterm, .slice (some ⟨g1, 0, none⟩) l.ents.length l.ents.length] #[.int .i64 0, .int .i64 0, .slice none 0 0] 32 rfl rfl HZ4.out rfl rfl (log_one _ _ _ _ _) ?_) | fail)
  have hq2 := HQ.out
  refine bodyPost_ret (result14 HZ4.out rfl rfl) rfl ⟨g1, rfl, ?_, below_setRow (HB3.out.setCell (by show w.heap.size ≤ q + 1 + 1; omega) _) (by omega) _⟩
  have n1 := own_not HO.out HE3.out (by decide)
  have n2 := own_not HO.out HZ3.out (by decide)
  exact own_row (own_set HO.out _ _ _ n1) _ _ n2
set_option maxHeartbeats 2000000 in
set_option maxRecDepth 100000 in
theorem eqLog_same {a a' : Option Addr} {g g' off off' cap cap' : Nat} (l : LogL) (hlen : l.ents.length ≤ 1048576) (w : World) (hA : EnAt w a g off l.ents) (hB : EnAt w a' g' off' l.ents) :
    Calls Try.prog 13 #[logV l a cap, logV l a' cap'] w fun e w' => e = .returned (.bool true) ∧ Below w.heap.size w w' := by
  unfold logV
  obtain ⟨W, hW⟩ : ∃ W, W = (w.alloc (.cells #[.int .i64 l.start, .int .i64 l.sterm, .slice a l.ents.length cap] 32)).alloc (.cells #[.int .i64 l.start, .int .i64 l.sterm, .slice a' l.ents.length cap'] 32) := ⟨_, rfl⟩
  have hb : Below w.heap.size w W := by rw [hW]; exact ((Below.refl _ _).alloc (Nat.le_refl _) _).alloc (by simp) _
  have hp0 : W.heap[w.heap.size]? = some (.cells #[.int .i64 l.start, .int .i64 l.sterm, .slice a l.ents.length cap] 32 (0, 0)) := by
    rw [hW, Below.heap_alloc _ _ _ (by simp)]; exact heap_alloc_new w _
  have hp1 : W.heap[w.heap.size + 1]? = some (.cells #[.int .i64 l.start, .int .i64 l.sterm, .slice a' l.ents.length cap'] 32 (0, 0)) := by
    rw [hW]; have := heap_alloc_new (w.alloc (.cells #[.int .i64 l.start, .int .i64 l.sterm, .slice a l.ents.length cap] 32)) (.cells #[.int .i64 l.start, .int .i64 l.sterm, .slice a' l.ents.length cap'] 32); simpa using this
  have HB : Hid (Below w.heap.size w W) := hb
  have HM : Hid (Calls Try.prog 40 #[.slice a l.ents.length cap, .slice a' l.ents.length cap'] W fun e w' => e = .returned (.bool true) ∧ Below W.heap.size W w') := eqEnS_same l.ents hlen W (hA.kept hb) (hB.kept hb)
  have p0 := cell_of_row _ _ 0 _ _ _ hp0
  have p1 := cell_of_row _ _ 1 _ _ _ hp0
  have p2 := cell_of_row _ _ 2 _ _ _ hp0
  have q0 := cell_of_row _ _ 0 _ _ _ hp1
  have q1 := cell_of_row _ _ 1 _ _ _ hp1
  have q2 := cell_of_row _ _ 2 _ _ _ hp1
  simp at p0 p1 p2 q0 q1 q2
  rw [hW] at p0 p1 p2 q0 q1 q2
  clear hA hB hb hp0 hp1
  go_enter Try.func13, Try.ntmps13
  go_wp2_with fail
  rw [← hW]
  clear hW p0 p1 p2 q0 q1 q2
  refine Calls.mono HM.out ?_
  rintro e w1 ⟨rfl, hb1⟩
  have HB1 : Hid (Below w.heap.size w w1) := HB.out.trans (hb1.mono HB.out.size)
  clear hb1
  go_wp2
  go_ret
  exact ⟨rfl, HB1.out⟩
end Go.Proofs.Ytddmogggdckneaa
