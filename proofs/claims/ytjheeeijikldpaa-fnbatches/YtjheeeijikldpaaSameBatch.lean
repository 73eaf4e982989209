/- DrawBatchText and the laws' sameBatch, walked. -/
import Derived.Test.YtjheeeijikldpaaDrawAny
namespace Go.Proofs.Ytjheeeijikldpaa
open Go.RowKit
set_option linter.unusedVariables false

set_option maxHeartbeats 1000000 in
set_option maxRecDepth 100000 in
theorem drawBatch_any {B cap len b off : Nat} {a : Option Addr} {z : Nat → Int} (w : World) (hB : B ≤ w.heap.size) (hc : Code B w a len b off z) :
    Calls Try.prog 8 #[.slice a len cap] w fun e w' => ∃ (st : Int) (v : Value) (l : List ChangeL), e = .returned (.agg #[.int .i64 st, v]) ∧ w'.ownsRow w.heap.size 47 3 v l.length (cellsChange l) ∧ l.length ≤ 100 ∧ (∀ c ∈ l, smallChange 2097152 c) ∧ Below w.heap.size w w' := by
  obtain ⟨W, hW⟩ : ∃ W, W = w.alloc (Obj.cells #[Value.int IntKind.i64 0, Value.slice none 0 0] 26) := ⟨_, rfl⟩
  have hWb : Below w.heap.size w W := by rw [hW]; exact (Below.refl _ _).alloc (Nat.le_refl _) _
  have HZ : Hid (W.heap[w.heap.size]? = some (.cells #[.int .i64 0, .slice none 0 0] 26 (0, 0))) := by rw [hW]; exact heap_alloc_new w _
  have hWs : W.heap.size = w.heap.size + 1 := by rw [hW]; simp
  have HC : Hid (Code B W a len b off z) := hc.below (hWb.mono hB)
  have HWs : Hid (W.heap.size = w.heap.size + 1) := hWs
  have hBW : B ≤ W.heap.size := by omega
  clear hc hWs
  go_enter Try.func8, Try.ntmps8
  go_wp2_with fail
  rw [← hW]
  clear hW
  refine (new_any W hBW HC.out).mono ?_
  rintro e w1 ⟨rfl, hc1, hb1⟩
  have hWs := HWs.out
  have HC1 : Hid (Cur B w1 W.heap.size a len cap b off z) := hc1
  have HB1 : Hid (Below w.heap.size w w1) := hWb.trans (hb1.mono (by omega))
  have HZ1 : Hid (w1.heap[w.heap.size]? = some (.cells #[.int .i64 0, .slice none 0 0] 26 (0, 0))) := (hb1.block _ (by omega)).trans HZ.out
  have hs1 := hb1.size
  have HS1 : Hid (w.heap.size + 1 ≤ w1.heap.size) := by show _ ≤ _; omega
  clear hc1 hb1 HC HZ hWb hWs hs1
  go_wp2_with fail
  refine (any_any w1 HC1.out).mono ?_
  rintro e w2 ⟨st, v, l, rfl, hown, hl, hlite, hg⟩
  obtain ⟨va, vc, rfl⟩ := own_slice hown
  have hWs := HWs.out
  have hs1 := HS1.out
  have HO : Hid (w2.ownsRow w.heap.size 47 3 (.slice va l.length vc) l.length (cellsChange l)) := own_mono hown (by omega)
  have HL : Hid (∀ c ∈ l, smallChange 2097152 c) := hlite
  have hz2 := grown_keep HZ1.out hg (by omega)
  have HZ2 : Hid (w2.heap[w.heap.size]? = some (.cells #[.int .i64 0, .slice none 0 0] 26 (0, 0))) := hz2
  have HB2 : Hid (Below w.heap.size w w2) := HB1.out.grown hg (by omega) (fun k e => by cases e; omega)
  have r0 := cell_of_row _ _ 0 _ _ _ hz2
  have r1 := cell_of_row _ _ 1 _ _ _ hz2
  have rf0 := frozen_of_row _ _ 0 _ _ hz2
  have rf1 := frozen_of_row _ _ 1 _ _ hz2
  simp at r0 r1
  clear hown hlite hg hz2 HZ1 HB1 HC1 hWs hs1
  go_wp2
  obtain ⟨l0, l1⟩ := two_cell HZ2.out (.int .i64 st) (.slice va l.length vc)
  exact bodyPost_ret (v := .agg #[.int .i64 st, .slice va l.length vc]) (by simp [results, Try.results8, go_sem, l0, l1]) rfl ⟨st, .slice va l.length vc, l, rfl, own_set (own_set HO.out _ _ _ (own_not HO.out HZ2.out (by decide))) _ _ _ (own_not HO.out HZ2.out (by decide)), hl, HL.out, (HB2.out.setCell (by simp) _).setCell (by simp) _⟩

set_option maxHeartbeats 1000000 in
set_option maxRecDepth 100000 in
theorem sameBatch_yes {st : Int} {a b : Option Addr} {g off cap g' off' cap' : Nat} (l : List ChangeL) (hlen : l.length ≤ 1048576) (w : World) (hf : ChangeAt w a g off l) (hf' : ChangeAt w b g' off' l) :
    Calls Try.prog 13 #[.agg #[.int .i64 st, .slice a l.length cap], .agg #[.int .i64 st, .slice b l.length cap']] w fun e w' => e = .returned (.bool true) ∧ Below w.heap.size w w' := by
  obtain ⟨W, hW⟩ : ∃ W, W = ((w.alloc (.cells #[.int .i64 st, .slice a l.length cap] 26)).alloc (.cells #[.int .i64 st, .slice b l.length cap'] 26)) := ⟨_, rfl⟩
  have hb0 : Below w.heap.size w W := by rw [hW]; exact ((Below.refl _ _).alloc (Nat.le_refl _) _).alloc (by simp) _
  have hWs : w.heap.size + 1 < W.heap.size := by rw [hW]; simp
  have hh1 : W.heap[w.heap.size + 1]? = some (.cells #[.int .i64 st, .slice b l.length cap'] 26 (0, 0)) := by
    rw [hW]; have := heap_alloc_new (w.alloc (.cells #[.int .i64 st, .slice a l.length cap] 26)) (.cells #[.int .i64 st, .slice b l.length cap'] 26); simpa using this
  have hh0 : W.heap[w.heap.size]? = some (.cells #[.int .i64 st, .slice a l.length cap] 26 (0, 0)) := by
    rw [hW, Below.heap_alloc _ _ _ (by simp)]; exact heap_alloc_new w _
  have HF : Hid (ChangeAt W a g off l) := hf.kept hb0
  have HF' : Hid (ChangeAt W b g' off' l) := hf'.kept hb0
  have p0 : W.cell? ⟨w.heap.size, 0, none⟩ = some (.int .i64 st) := cell_of_row _ _ 0 _ _ _ hh0
  have p1 : W.cell? ⟨w.heap.size, 1, none⟩ = some (.slice a l.length cap) := cell_of_row _ _ 1 _ _ _ hh0
  have q0 : W.cell? ⟨w.heap.size + 1, 0, none⟩ = some (.int .i64 st) := cell_of_row _ _ 0 _ _ _ hh1
  have q1 : W.cell? ⟨w.heap.size + 1, 1, none⟩ = some (.slice b l.length cap') := cell_of_row _ _ 1 _ _ _ hh1
  clear hf hf' hh0 hh1
  go_enter Try.func13, Try.ntmps13
  go_wp2_with fail
  rw [← hW]
  clear hW
  go_wp2
  go_loopw [5] (fun i wr => ∃ k : Nat, k ≤ l.length ∧ i = .int .i64 (k : Int) ∧ Below W.heap.size W wr) (fun i _ => l.length - (intOf i).toNat)
  case atStart => exact ⟨0, Nat.zero_le _, rfl, Below.refl _ _⟩
  case round =>
    obtain ⟨k, hk, rfl, hbel⟩ := hrel
    have t1 : wr.cell? ⟨w.heap.size, 1, none⟩ = some (.slice a l.length cap) := (hbel.cell (p := ⟨w.heap.size, 1, none⟩) (by show w.heap.size < _; omega)).trans p1
    have t2 : wr.cell? ⟨w.heap.size + 1, 1, none⟩ = some (.slice b l.length cap') := (hbel.cell (p := ⟨w.heap.size + 1, 1, none⟩) (by show w.heap.size + 1 < _; omega)).trans q1
    by_cases hlt : k < l.length
    · obtain ⟨c0, c1, c2⟩ := (HF.out.kept hbel).2 k hlt
      obtain ⟨d0, d1, d2⟩ := (HF'.out.kept hbel).2 k hlt
      have ea := HF.out.1 (by omega)
      have eb := HF'.out.1 (by omega)
      subst ea eb
      obtain ⟨A, hA⟩ : ∃ A, A = l[k].key := ⟨_, rfl⟩
      obtain ⟨V, hV⟩ : ∃ V, V = l[k].value := ⟨_, rfl⟩
      obtain ⟨G, hG⟩ : ∃ G, G = l[k].gone := ⟨_, rfl⟩
      rw [← hA] at c0 d0
      rw [← hV] at c1 d1
      rw [← hG] at c2 d2
      clear hA hV hG
      have hk0 : (0 : Int) ≤ (k : Int) := by omega
      have hk1 : (k : Int) < (l.length : Int) := by omega
      go_wp2_with fail
      have NE := Abv.ne wr
      have F0 := fun x : Abv wr => x.cell c0
      have F1 := fun x : Abv wr => x.cell c1
      have F2 := fun x : Abv wr => x.cell c2
      have G0 := fun x : Abv wr => x.cell d0
      have G1 := fun x : Abv wr => x.cell d1
      have G2 := fun x : Abv wr => x.cell d2
      have T1 := fun x : Abv wr => x.cell t1
      have T2 := fun x : Abv wr => x.cell t2
      refine wp_region_above (by kernel_rfl) (by kernel_rfl) ?_
      repeat (go_big_quiet_step (fail))
      refine wpQuiet_nil ?_
      rintro w1 ⟨⟨_, hb1⟩, rfl⟩
      clear NE F0 F1 F2 G0 G1 G2 T1 T2
      go_wp2
      go_roundw
      case rel => exact ⟨k + 1, by omega, by go_num, hbel.trans (hb1.mono hbel.size)⟩
      case measure => simp [intOf]; omega
    · have hk1 : ¬ (k : Int) < (l.length : Int) := by omega
      go_wp2
      go_ret
      exact ⟨rfl, hb0.trans (hbel.mono hb0.size)⟩
end Go.Proofs.Ytjheeeijikldpaa
