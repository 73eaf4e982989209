/- Lists of entries in memory, 3 cells each; measured, copied, held against each other, marked. Made by program. -/
import Derived.Test.YtimacmijinblmaaGreatKit
import Derived.Test.YtimacmijinblmaaGreatMarkA
import Derived.Test.YtimacmijinblmaaGreatMade
import Derived.Laws.AppendOwnNone
import Derived.Deep.RegionHeld3
import Derived.Deep.DeepCutAuto
namespace Go.Proofs.YtimacmijinblmaaGreat
open Go.RowKit
set_option linter.unusedVariables false
set_option linter.unusedSimpArgs false

/-- A slice at a whose elements are these. -/
def EnAt (w : World) (a : Option Addr) (g off : Nat) (l : List EntL) : Prop :=
  (0 < l.length → a = some ⟨g, off, none⟩) ∧ ∀ j (hj : j < l.length), w.cell? ⟨g, off + j * 3, none⟩ = some (.int .i64 l[j].term) ∧ w.cell? ⟨g, off + j * 3 + 1, none⟩ = some (.int .i64 l[j].kind) ∧ w.cell? ⟨g, off + j * 3 + 2, none⟩ = some (.string l[j].data)
theorem EnAt.lt {w : World} {a : Option Addr} {g off : Nat} {l : List EntL} (h : EnAt w a g off l) (hl : 0 < l.length) : g < w.heap.size := World.block_lt_of_cell? w _ (h.2 0 hl).1
theorem EnAt.kept {w w' : World} {a : Option Addr} {g off : Nat} {l : List EntL} (h : EnAt w a g off l) (hb : Below w.heap.size w w') : EnAt w' a g off l := by
  refine ⟨h.1, fun j hj => ?_⟩
  have hg := h.lt (by omega)
  rw [hb.cell (p := ⟨g, off + j * 3, none⟩) hg, hb.cell (p := ⟨g, off + j * 3 + 1, none⟩) hg, hb.cell (p := ⟨g, off + j * 3 + 2, none⟩) hg]
  exact h.2 j hj
def cellsEn (l : List EntL) : List Value := l.flatMap fun r => [.int .i64 r.term, .int .i64 r.kind, .string r.data]
theorem cellsEn_len : ∀ l : List EntL, (cellsEn l).length = l.length * 3
  | [] => rfl
  | r :: l => by have := cellsEn_len l; simp only [cellsEn, List.flatMap_cons, List.length_append, List.length_cons, List.length_nil] at *; omega
theorem cellsEn_app (l m : List EntL) : cellsEn (l ++ m) = cellsEn l ++ cellsEn m := by simp [cellsEn]
theorem cellsEn_at : ∀ (l : List EntL) (j : Nat) (hj : j < l.length), (cellsEn l)[j * 3]? = some (.int .i64 l[j].term) ∧ (cellsEn l)[j * 3 + 1]? = some (.int .i64 l[j].kind) ∧ (cellsEn l)[j * 3 + 2]? = some (.string l[j].data)
  | r :: l, 0, _ => ⟨rfl, rfl, rfl⟩
  | r :: l, j + 1, hj => by
    have := cellsEn_at l j (by simpa using hj)
    simpa [cellsEn, Nat.add_mul, Nat.add_assoc] using this
theorem cellsEn_set : ∀ (l : List EntL) (j : Nat) (r : EntL), cellsEn (l.set j r) = (((cellsEn l).set (j * 3) (.int .i64 r.term)).set (j * 3 + 1) (.int .i64 r.kind)).set (j * 3 + 2) (.string r.data)
  | [], j, r => by simp [cellsEn]
  | x :: l, 0, r => by simp [cellsEn]
  | x :: l, j + 1, r => by
    have := cellsEn_set l j r
    simp only [cellsEn, List.set_cons_succ, List.flatMap_cons, List.cons_append, List.nil_append, Nat.add_mul] at *
    rw [this]
theorem cellsEn_own {w : World} {base : Nat} {e : TypeId} {g n cap : Nat} {l : List EntL} (hn : l.length = n) (h : w.ownsRow base e 3 (.slice (some ⟨g, 0, none⟩) n cap) n (cellsEn l)) : EnAt w (some ⟨g, 0, none⟩) g 0 l := by
  refine ⟨fun _ => rfl, fun j hj => ?_⟩
  rw [Nat.zero_add, h.cellAt (j * 3) (by omega), h.cellAt (j * 3 + 1) (by omega), h.cellAt (j * 3 + 2) (by omega)]
  exact cellsEn_at l j hj
theorem Tryz.info44 : (Tryz.prog.info? 44).map (fun i => (i.zero, i.size, i.bytes)) = some (some (.agg #[.int .i64 0, .int .i64 0, .string ByteArray.empty]), 3, 32) := by kernel_rfl
set_option maxHeartbeats 2000000 in
set_option maxRecDepth 100000 in
theorem eqEn1_same (r : EntL) (w : World) : Calls Tryz.prog 87 #[entV r, entV r] w fun e w' => e = .returned (.bool true) ∧ Below w.heap.size w w' := by
  obtain ⟨F0, F1, F2⟩ := r
  unfold entV
  go_enter Tryz.func87, Tryz.ntmps87
  go_wp2
  go_ret
  exact ⟨rfl, ((Below.refl _ _).alloc (Nat.le_refl _) _).alloc (by simp) _⟩
set_option maxHeartbeats 2000000 in
set_option maxRecDepth 100000 in
theorem eqEnS_same {a b : Option Addr} {g off cap h off' cap' : Nat} (l : List EntL) (hlen : l.length ≤ 1048576) (w : World) (hf : EnAt w a g off l) (hf' : EnAt w b h off' l) :
    Calls Tryz.prog 27 #[.slice a l.length cap, .slice b l.length cap'] w fun e w' => e = .returned (.bool true) ∧ Below w.heap.size w w' := by
  have HF : Hid (EnAt w a g off l) := hf
  have HF' : Hid (EnAt w b h off' l) := hf'
  clear hf hf'
  go_enter Tryz.func27, Tryz.ntmps27
  go_wp2
  go_loopw [5] (fun i wr => ∃ k : Nat, k ≤ l.length ∧ i = .int .i64 (k : Int) ∧ Below w.heap.size w wr)
    (fun i _ => l.length - (intOf i).toNat)
  case atStart => exact ⟨0, Nat.zero_le _, rfl, Below.refl _ _⟩
  case round =>
    obtain ⟨k, hk, rfl, hbel⟩ := hrel
    by_cases hlt : k < l.length
    · have hcc := (HF.out.kept hbel).2 k hlt
      have hdd := (HF'.out.kept hbel).2 k hlt
      have ea := HF.out.1 (by omega)
      have eb := HF'.out.1 (by omega)
      subst ea eb
      obtain ⟨F0, hF0⟩ : ∃ F0, F0 = l[k].term := ⟨_, rfl⟩
      obtain ⟨F1, hF1⟩ : ∃ F1, F1 = l[k].kind := ⟨_, rfl⟩
      obtain ⟨F2, hF2⟩ : ∃ F2, F2 = l[k].data := ⟨_, rfl⟩
      have HEL : Hid (l[k] = ⟨F0, F1, F2⟩) := by show _ = _; rw [hF0, hF1, hF2]
      simp only [← hF0, ← hF1, ← hF2] at hcc hdd
      obtain ⟨c0, c1, c2⟩ := hcc
      obtain ⟨d0, d1, d2⟩ := hdd
      clear hF0 hF1 hF2
      have hk0 : (0 : Int) ≤ (k : Int) := by omega
      have hk1 : (k : Int) < (l.length : Int) := by omega
      go_wp2
      have NE := Abv.ne wr
      have C0 := fun x : Abv wr => x.cell c0
      have D0 := fun x : Abv wr => x.cell d0
      have C1 := fun x : Abv wr => x.cell c1
      have D1 := fun x : Abv wr => x.cell d1
      have C2 := fun x : Abv wr => x.cell c2
      have D2 := fun x : Abv wr => x.cell d2
      refine wp_region_above (by kernel_rfl) (by kernel_rfl) ?_
      repeat (go_big_quiet_step (first | (go_at_call 87; exact calls_above (eqEn1_same ⟨F0, F1, F2⟩ _))))
      refine wpQuiet_nil ?_
      rintro w1 ⟨⟨_, hb1⟩, rfl⟩
      clear NE C0 D0 C1 D1 C2 D2
      go_wp2
      go_roundw
      case rel => exact ⟨k + 1, by omega, by go_num, hbel.trans (hb1.mono hbel.size)⟩
      case measure => simp [intOf]; omega
    · have hk1 : ¬ (k : Int) < (l.length : Int) := by omega
      go_wp2
      go_ret
      exact ⟨rfl, hbel⟩
theorem cellsEn_one {l : List EntL} : ∀ u ∈ cellsEn l, u.oneCell' = true := by
  intro u hu
  unfold cellsEn at hu
  obtain ⟨r, _, hr⟩ := List.mem_flatMap.1 hu
  simp only [List.mem_cons, List.not_mem_nil, or_false] at hr
  rcases hr with rfl | rfl | rfl <;> rfl
/-- Marked ones: from k on, 3 numbers each. -/
def markEn1 (m : Nat) : EntL := ⟨((m : Nat) : Int), ((m + 1 : Nat) : Int), mk (m + 2)⟩
def marksEn (k n : Nat) : List EntL := (List.range n).map fun i => markEn1 (k + 3 * i)
theorem marksEn_len (k n : Nat) : (marksEn k n).length = n := by simp [marksEn]
theorem marksEn_at (k n j : Nat) (hj : j < (marksEn k n).length) : (marksEn k n)[j] = markEn1 (k + 3 * j) := by simp [marksEn]
theorem markText_at (M i : Nat) (x : Int) (hx : x = ((M + i : Nat) : Int)) (h0 : 0 < M) (hk : M + i ≤ 1000000000) (w : World) :
    Calls Tryz.prog 88 #[.int .i64 x] w fun e w' => e = .returned (.string (mk (M + i))) ∧ Below w.heap.size w w' := by
  rw [hx]; exact markText_is (M + i) (by omega) hk w
set_option maxHeartbeats 2000000 in
set_option maxRecDepth 100000 in
theorem markEnS_is {B g cap : Nat} (l : List EntL) (hlen : l.length ≤ 1048576) (k : Nat) (h0 : 0 < k) (hk : k ≤ 100000000) (w : World) (hA : w.ownsRow B 44 3 (.slice (some ⟨g, 0, none⟩) l.length cap) l.length (cellsEn l)) :
    Calls Tryz.prog 29 #[.slice (some ⟨g, 0, none⟩) l.length cap, .int .i64 (k : Int)] w fun e w' => e = .returned (.int .i64 ((k + 3 * l.length : Nat) : Int)) ∧ w'.ownsRow B 44 3 (.slice (some ⟨g, 0, none⟩) l.length cap) l.length (cellsEn (marksEn k l.length)) ∧ w.grownBy w' (some g) := by
  go_enter Tryz.func29, Tryz.ntmps29
  go_wp2
  go_loopw [1, 5] (fun x i wr => ∃ (j : Nat) (pre : List EntL), j ≤ l.length ∧ i = .int .i64 (j : Int) ∧ x = .int .i64 ((k + 3 * j : Nat) : Int) ∧ pre.length = l.length ∧ pre.take j = (marksEn k l.length).take j ∧
      wr.ownsRow B 44 3 (.slice (some ⟨g, 0, none⟩) l.length cap) l.length (cellsEn pre) ∧ w.grownBy wr (some g)) (fun _ i _ => l.length - (intOf i).toNat)
  case atStart => exact ⟨0, l, Nat.zero_le _, rfl, rfl, rfl, by simp, hA, World.grownBy.refl _ _⟩
  case round =>
    obtain ⟨j, pre, hj, rfl, rfl, hpl, hpt, hown, hgr⟩ := hrel
    have HL : Hid (pre.length = l.length) := hpl
    have HT : Hid (pre.take j = (marksEn k l.length).take j) := hpt
    clear hpl hpt hA
    by_cases hlt : j < l.length
    · have hk0 : (0 : Int) ≤ (j : Int) := by omega
      have hk1 : (j : Int) < (l.length : Int) := by omega
      obtain ⟨M, hM⟩ : ∃ M : Nat, M = k + 3 * j := ⟨_, rfl⟩
      have hMb : 0 < M ∧ M ≤ 900000000 := by omega
      have HM : Hid (M = k + 3 * j) := hM
      rw [← hM]
      clear hM
      have hw0 := hown
      have hgw0 := hgr
      have hf0 := hw0.frozenAt (j * 3)
      obtain ⟨u0, hu0⟩ := own_cell_ex (q := j * 3) hw0 (by omega) (by simp only [List.length_set, cellsEn_len, HL.out])
      have hf1 := hw0.frozenAt (j * 3 + 1)
      obtain ⟨u1, hu1⟩ := own_cell_ex (q := j * 3 + 1) hw0 (by omega) (by simp only [List.length_set, cellsEn_len, HL.out])
      have hs0 := ((hw0.stored (j * 3) (.int .i64 ((M + 0 : Nat) : Int))).1.stored (j * 3 + 1) (.int .i64 ((M + 1 : Nat) : Int)))
      have hgs0 := ((hgw0.trans (hw0.stored (j * 3) (.int .i64 ((M + 0 : Nat) : Int))).2).trans ((hw0.stored (j * 3) (.int .i64 ((M + 0 : Nat) : Int))).1.stored (j * 3 + 1) (.int .i64 ((M + 1 : Nat) : Int))).2)
      have HS0 : Hid _ := hs0.1
      have HG0 : Hid _ := hgs0
      clear hown hgr
      clear hs0 hgs0 hw0 hgw0
      go_wp2_with fail
      refine (markText_at M 2 _ (by omega) (by omega) (by omega) _).mono ?_
      rintro e w1 ⟨rfl, hb1⟩
      have hw1 := own_kept HS0.out hb1
      have hgw1 := HG0.out.trans (own_below' hb1)
      clear hb1
      have hf2 := hw1.frozenAt (j * 3 + 2)
      obtain ⟨u2, hu2⟩ := own_cell_ex (q := j * 3 + 2) hw1 (by omega) (by simp only [List.length_set, cellsEn_len, HL.out])
      have hs1 := (hw1.stored (j * 3 + 2) (.string (mk (M + 2))))
      have hgs1 := (hgw1.trans (hw1.stored (j * 3 + 2) (.string (mk (M + 2)))).2)
      have HS1 : Hid _ := hs1.1
      have HG1 : Hid _ := hgs1
      clear hs1 hgs1 hw1 hgw1
      go_wp2
      go_roundw
      case rel =>
        have e := cellsEn_set pre j (markEn1 M)
        refine ⟨j + 1, pre.set j (markEn1 M), by omega, by go_num, ?_, by rw [List.length_set]; exact HL.out, ?_, ?_, HG1.out⟩
        · refine congrArg (Value.int .i64) ?_
          have := HM.out
          omega
        · refine take_set_step (by rw [marksEn_len]; exact hlt) (by rw [marksEn_len]; exact HL.out) HT.out ?_
          rw [marksEn_at, ← HM.out]
        · rw [e]; exact HS1.out
      case measure => simp [intOf]; omega
    · have hk1 : ¬ (j : Int) < (l.length : Int) := by omega
      have HE : Hid (pre = marksEn k l.length ∧ j = l.length) := by
        have h := HT.out
        rw [List.take_of_length_le (by rw [HL.out]; omega), List.take_of_length_le (by rw [marksEn_len]; omega)] at h
        exact ⟨h, by omega⟩
      go_wp2
      go_ret
      refine ⟨by rw [← HE.out.2]; rfl, by rw [← HE.out.1]; exact hown, hgr⟩
set_option maxHeartbeats 2000000 in
set_option maxRecDepth 100000 in
theorem markEnS_nil (k : Nat) (w : World) : Calls Tryz.prog 29 #[.slice none 0 0, .int .i64 (k : Int)] w fun e w' => e = .returned (.int .i64 (k : Int)) ∧ w = w' := by
  go_enter Tryz.func29, Tryz.ntmps29
  go_wp2
  refine wp_loop_rounds 1 ?_
  rw [rounds_succ]
  go_wp2
  go_ret
  exact ⟨rfl, rfl⟩
theorem markEnS_own {B : Nat} {v : Value} (l : List EntL) (hlen : l.length ≤ 1048576) (k : Nat) (h0 : 0 < k) (hk : k ≤ 100000000) (w : World) (hA : w.ownsRow B 44 3 v l.length (cellsEn l)) :
    Calls Tryz.prog 29 #[v, .int .i64 (k : Int)] w fun e w' => e = .returned (.int .i64 ((k + 3 * l.length : Nat) : Int)) ∧ w'.ownsRow B 44 3 v l.length (cellsEn (marksEn k l.length)) ∧ w.grownBy w' v.ownBlock := by
  rcases hA.2 with ⟨h1, h2⟩ | ⟨g, cap, cur, h1, _⟩
  · subst h1
    have hl : l = [] := List.length_eq_zero_iff.1 h2
    subst hl
    refine (markEnS_nil k w).mono ?_
    rintro e w' ⟨rfl, rfl⟩
    exact ⟨rfl, World.ownsRow_nil _ _ _ _, World.grownBy.refl _ _⟩
  · subst h1
    exact markEnS_is l hlen k h0 hk w hA
end Go.Proofs.YtimacmijinblmaaGreat
