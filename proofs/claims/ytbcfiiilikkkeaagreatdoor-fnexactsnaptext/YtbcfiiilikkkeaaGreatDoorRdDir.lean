/- Lists of spots in memory, 4 cells each; measured, copied, held against each other, marked. Made by program. The calls of the program's (*textReader).spot and (*textReader).dir, walked. -/
import Derived.Test.YtbcfiiilikkkeaaGreatDoorKit
import Derived.Test.YtbcfiiilikkkeaaGreatDoorReader
import Derived.Test.YtbcfiiilikkkeaaGreatDoorMathScan
import Derived.Laws.AppendOwnNone
import Derived.Deep.RegionHeld3
import Derived.Deep.DeepCutAuto
import Derived.Test.YtbcfiiilikkkeaaGreatDoorSpecCur
namespace Go.Proofs.YtbcfiiilikkkeaaGreatDoor
open Go.RowKit
set_option linter.unusedVariables false
set_option linter.unusedSimpArgs false

def spotV (r : SpotL) : Value := .agg #[.string r.key, .int .i64 r.seg, .int .i64 r.pos, .int .i64 r.size]
/-- A slice at a whose elements are these. -/
def SpotAt (w : World) (a : Option Addr) (g off : Nat) (l : List SpotL) : Prop :=
  (0 < l.length → a = some ⟨g, off, none⟩) ∧ ∀ j (hj : j < l.length), w.cell? ⟨g, off + j * 4, none⟩ = some (.string l[j].key) ∧ w.cell? ⟨g, off + j * 4 + 1, none⟩ = some (.int .i64 l[j].seg) ∧ w.cell? ⟨g, off + j * 4 + 2, none⟩ = some (.int .i64 l[j].pos) ∧ w.cell? ⟨g, off + j * 4 + 3, none⟩ = some (.int .i64 l[j].size)
theorem SpotAt.lt {w : World} {a : Option Addr} {g off : Nat} {l : List SpotL} (h : SpotAt w a g off l) (hl : 0 < l.length) : g < w.heap.size := World.block_lt_of_cell? w _ (h.2 0 hl).1
theorem SpotAt.kept {w w' : World} {a : Option Addr} {g off : Nat} {l : List SpotL} (h : SpotAt w a g off l) (hb : Below w.heap.size w w') : SpotAt w' a g off l := by
  refine ⟨h.1, fun j hj => ?_⟩
  have hg := h.lt (by omega)
  rw [hb.cell (p := ⟨g, off + j * 4, none⟩) hg, hb.cell (p := ⟨g, off + j * 4 + 1, none⟩) hg, hb.cell (p := ⟨g, off + j * 4 + 2, none⟩) hg, hb.cell (p := ⟨g, off + j * 4 + 3, none⟩) hg]
  exact h.2 j hj
def cellsSpot (l : List SpotL) : List Value := l.flatMap fun r => [.string r.key, .int .i64 r.seg, .int .i64 r.pos, .int .i64 r.size]
theorem cellsSpot_len : ∀ l : List SpotL, (cellsSpot l).length = l.length * 4
  | [] => rfl
  | r :: l => by have := cellsSpot_len l; simp only [cellsSpot, List.flatMap_cons, List.length_append, List.length_cons, List.length_nil] at *; omega
theorem cellsSpot_app (l m : List SpotL) : cellsSpot (l ++ m) = cellsSpot l ++ cellsSpot m := by simp [cellsSpot]
theorem cellsSpot_at : ∀ (l : List SpotL) (j : Nat) (hj : j < l.length), (cellsSpot l)[j * 4]? = some (.string l[j].key) ∧ (cellsSpot l)[j * 4 + 1]? = some (.int .i64 l[j].seg) ∧ (cellsSpot l)[j * 4 + 2]? = some (.int .i64 l[j].pos) ∧ (cellsSpot l)[j * 4 + 3]? = some (.int .i64 l[j].size)
  | r :: l, 0, _ => ⟨rfl, rfl, rfl, rfl⟩
  | r :: l, j + 1, hj => by
    have := cellsSpot_at l j (by simpa using hj)
    simpa [cellsSpot, Nat.add_mul, Nat.add_assoc] using this
theorem cellsSpot_set : ∀ (l : List SpotL) (j : Nat) (r : SpotL), cellsSpot (l.set j r) = ((((cellsSpot l).set (j * 4) (.string r.key)).set (j * 4 + 1) (.int .i64 r.seg)).set (j * 4 + 2) (.int .i64 r.pos)).set (j * 4 + 3) (.int .i64 r.size)
  | [], j, r => by simp [cellsSpot]
  | x :: l, 0, r => by simp [cellsSpot]
  | x :: l, j + 1, r => by
    have := cellsSpot_set l j r
    simp only [cellsSpot, List.set_cons_succ, List.flatMap_cons, List.cons_append, List.nil_append, Nat.add_mul] at *
    rw [this]
theorem cellsSpot_own {w : World} {base : Nat} {e : TypeId} {g n cap : Nat} {l : List SpotL} (hn : l.length = n) (h : w.ownsRow base e 4 (.slice (some ⟨g, 0, none⟩) n cap) n (cellsSpot l)) : SpotAt w (some ⟨g, 0, none⟩) g 0 l := by
  refine ⟨fun _ => rfl, fun j hj => ?_⟩
  rw [Nat.zero_add, h.cellAt (j * 4) (by omega), h.cellAt (j * 4 + 1) (by omega), h.cellAt (j * 4 + 2) (by omega), h.cellAt (j * 4 + 3) (by omega)]
  exact cellsSpot_at l j hj
theorem cellsSpot_slice {w : World} {base : Nat} {v : Value} {l : List SpotL} (h : w.ownsRow base 134 4 v l.length (cellsSpot l)) : ∃ a g cap, v = .slice a l.length cap ∧ SpotAt w a g 0 l := by
  rcases h.2 with ⟨h1, h2⟩ | ⟨g, cap, cur, h1, _⟩
  · exact ⟨none, 0, 0, by rw [h1, h2], fun q => by omega, fun j hj => by omega⟩
  · subst h1; exact ⟨_, g, cap, rfl, cellsSpot_own rfl h⟩
theorem madeSpot (n : Nat) : (madeCells #[Value.string ByteArray.empty, Value.int .i64 0, Value.int .i64 0, Value.int .i64 0] (n * 4)).toList = cellsSpot (List.replicate n ⟨ByteArray.empty, 0, 0, 0⟩) := by
  induction n with
  | zero => simp [madeCells, cellsSpot]
  | succ n ih =>
    rw [List.replicate_succ', cellsSpot_app, ← ih, show (n + 1) * 4 = n * 4 + 4 by omega]
    simp only [madeCells, Array.toList_map, Array.toList_range, List.range_add, List.map_append, List.map_map, Function.comp_def]
    congr 1
    simp [List.range_succ, cellsSpot]
def totSpot1 (r : SpotL) : Nat := r.key.size
def totSpot : List SpotL → Nat
  | [] => 0
  | r :: l => totSpot1 r + 1 + totSpot l
theorem totSpot_app : ∀ (l m : List SpotL), totSpot (l ++ m) = totSpot l + totSpot m
  | [], m => by simp [totSpot]
  | r :: l, m => by simp only [List.cons_append, totSpot, totSpot_app l m]; omega
theorem totSpot_len : ∀ l : List SpotL, l.length ≤ totSpot l
  | [] => by simp [totSpot]
  | r :: l => by have := totSpot_len l; simp only [List.length_cons, totSpot]; omega
theorem totSpot_take {l : List SpotL} {j : Nat} (hj : j < l.length) : totSpot (l.take (j + 1)) = totSpot (l.take j) + (totSpot1 l[j] + 1) := by
  rw [List.take_succ_eq_append_getElem hj, totSpot_app]; simp [totSpot]
def smallSpot (B : Nat) (r : SpotL) : Prop := r.key.size ≤ B
set_option maxHeartbeats 2000000 in
set_option maxRecDepth 100000 in
theorem szSpot1_is (r : SpotL) (hr : smallSpot maxLen r) (left : Nat) (hl : left ≤ 1048576) (w : World) :
    Calls Tryz.prog 126 #[spotV r, .int .i64 (left : Int)] w fun e w' => ∃ x : Int, e = .returned (.int .i64 x) ∧ Left left (totSpot1 r) x ∧ Below w.heap.size w w' := by
  obtain ⟨F0, F1, F2, F3⟩ := r
  unfold smallSpot maxLen at hr
  simp only at hr
  unfold spotV totSpot1
  go_enter Tryz.func126, Tryz.ntmps126
  go_wp2
  · go_ret
    exact ⟨_, rfl, Or.inr ⟨by omega, rfl⟩, (Below.refl _ _).alloc (Nat.le_refl _) _⟩
  · go_ret
    exact ⟨_, rfl, Or.inl ⟨by omega, by omega⟩, (Below.refl _ _).alloc (Nat.le_refl _) _⟩
set_option maxHeartbeats 2000000 in
set_option maxRecDepth 100000 in
theorem szSpotS_is {a : Option Addr} {g off cap : Nat} (l : List SpotL) (hlen : l.length ≤ maxLen) (hsz : ∀ r ∈ l, smallSpot maxLen r) (left : Nat) (hl : left ≤ 1048576) (w : World) (hf : SpotAt w a g off l) :
    Calls Tryz.prog 56 #[.slice a l.length cap, .int .i64 (left : Int)] w fun e w' => ∃ x : Int, e = .returned (.int .i64 x) ∧ Left left (totSpot l) x ∧ Below w.heap.size w w' := by
  have HF : Hid (SpotAt w a g off l) := hf
  have HS : Hid (∀ r ∈ l, smallSpot maxLen r) := hsz
  clear hf hsz
  unfold maxLen at hlen
  by_cases h0 : left < l.length
  · have h1 : (left : Int) - (l.length : Int) < 0 := by omega
    go_enter Tryz.func56, Tryz.ntmps56
    go_wp2
    go_ret
    exact ⟨_, rfl, Or.inr ⟨by have := totSpot_len l; omega, rfl⟩, Below.refl _ _⟩
  · have h1 : ¬ (left : Int) - (l.length : Int) < 0 := by omega
    go_enter Tryz.func56, Tryz.ntmps56
    go_wp2
    go_loopw [1, 5] (fun x i wr => ∃ k R : Nat, k ≤ l.length ∧ i = .int .i64 (k : Int) ∧ x = .int .i64 (R : Int) ∧ R + totSpot (l.take k) + (l.length - k) = left ∧ Below w.heap.size w wr)
      (fun _ i _ => l.length - (intOf i).toNat)
    case atStart => exact ⟨0, left - l.length, Nat.zero_le _, rfl, by go_num, by simp [totSpot]; omega, Below.refl _ _⟩
    case round =>
      obtain ⟨k, R, hk, rfl, rfl, hR, hbel⟩ := hrel
      by_cases hlt : k < l.length
      · have hcc := (HF.out.kept hbel).2 k hlt
        have ea := HF.out.1 (by omega)
        subst ea
        have hs := HS.out l[k] (List.getElem_mem _)
        have HT := totSpot_take hlt
        obtain ⟨F0, hF0⟩ : ∃ F0, F0 = l[k].key := ⟨_, rfl⟩
        obtain ⟨F1, hF1⟩ : ∃ F1, F1 = l[k].seg := ⟨_, rfl⟩
        obtain ⟨F2, hF2⟩ : ∃ F2, F2 = l[k].pos := ⟨_, rfl⟩
        obtain ⟨F3, hF3⟩ : ∃ F3, F3 = l[k].size := ⟨_, rfl⟩
        have HEL : Hid (l[k] = ⟨F0, F1, F2, F3⟩) := by show _ = _; rw [hF0, hF1, hF2, hF3]
        simp only [← hF0, ← hF1, ← hF2, ← hF3] at hcc
        obtain ⟨c0, c1, c2, c3⟩ := hcc
        rw [HEL.out] at hs HT
        have HS1 : Hid _ := hs
        have HT1 : Hid _ := HT
        obtain ⟨Z, hZ⟩ : ∃ Z, Z = totSpot1 ⟨F0, F1, F2, F3⟩ := ⟨_, rfl⟩
        have HZ : Hid (Z = totSpot1 ⟨F0, F1, F2, F3⟩) := hZ
        clear hs HT hZ hF0 hF1 hF2 hF3
        have hk0 : (0 : Int) ≤ (k : Int) := by omega
        have hk1 : (k : Int) < (l.length : Int) := by omega
        have hRl : R ≤ 1048576 := by omega
        go_wp2_with fail
        refine (szSpot1_is ⟨F0, F1, F2, F3⟩ HS1.out R hRl wr).mono ?_
        rintro e w1 ⟨x, rfl, hx, hb1⟩
        have hx' : Left R (totSpot1 ⟨F0, F1, F2, F3⟩) x := hx
        rw [← HZ.out] at hx'
        clear hx
        rcases hx' with ⟨hx1, hx2⟩ | ⟨hx1, hx2⟩
        · obtain ⟨Y, hY⟩ : ∃ Y : Nat, Y = R - Z := ⟨_, rfl⟩
          rw [← hY] at hx2
          subst hx2
          have HY : Hid (Y = R - Z) := hY
          clear hY
          have hB : Below w.heap.size w w1 := hbel.trans (hb1.mono hbel.size)
          go_wp2
          go_roundw
          case rel => exact ⟨k + 1, Y, by omega, by go_num, rfl, by rw [HT1.out, ← HZ.out]; have := HY.out; omega, hB⟩
          case measure => simp [intOf]; omega
        · subst hx2
          have hB : Below w.heap.size w w1 := hbel.trans (hb1.mono hbel.size)
          have hno : ¬ totSpot l ≤ left := by
            have e1 := totSpot_app (l.take (k + 1)) (l.drop (k + 1))
            rw [List.take_append_drop] at e1
            have e2 := totSpot_len (l.drop (k + 1))
            rw [List.length_drop] at e2
            have := HT1.out
            rw [← HZ.out] at this
            omega
          have HN : Hid (¬ totSpot l ≤ left) := hno
          clear hno
          go_wp2
          go_ret
          exact ⟨_, rfl, Or.inr ⟨HN.out, rfl⟩, hB⟩
      · have hk1 : ¬ (k : Int) < (l.length : Int) := by omega
        have HN : Hid (totSpot l + R = left) := by
          show _ = _
          rw [List.take_of_length_le (by omega)] at hR
          omega
        clear hR
        go_wp2
        go_ret
        exact ⟨_, rfl, Or.inl ⟨by have := HN.out; omega, by have := HN.out; omega⟩, hbel⟩
set_option maxHeartbeats 2000000 in
set_option maxRecDepth 100000 in
theorem toSpot1_is (r : SpotL) (w : World) : Calls Tryz.prog 135 #[spotV r] w fun e w' => e = .returned (spotV r) ∧ Below w.heap.size w w' := by
  obtain ⟨F0, F1, F2, F3⟩ := r
  unfold spotV
  go_enter Tryz.func135, Tryz.ntmps135
  go_wp2
  refine bodyPost_ret (v := .agg #[.string F0, .int .i64 F1, .int .i64 F2, .int .i64 F3]) (by simp [results, Tryz.results135, go_sem]) rfl ⟨rfl, ?_⟩
  exact (((Below.refl _ _).alloc (Nat.le_refl _) _).alloc (by simp) _).alloc (by simp; omega) _
theorem Tryz.info134 : (Tryz.prog.info? 134).map (fun i => (i.zero, i.size, i.bytes)) = some (some (.agg #[.string ByteArray.empty, .int .i64 0, .int .i64 0, .int .i64 0]), 4, 40) := by kernel_rfl
set_option maxHeartbeats 2000000 in
set_option maxRecDepth 100000 in
theorem toSpotS_is {a : Option Addr} {g off cap : Nat} (l : List SpotL) (hlen : l.length ≤ 1048576) (w : World) (hf : SpotAt w a g off l) :
    Calls Tryz.prog 68 #[.slice a l.length cap] w fun e w' => e = .returned (.slice (some ⟨w.heap.size, 0, none⟩) l.length l.length) ∧
      w'.ownsRow w.heap.size 134 4 (.slice (some ⟨w.heap.size, 0, none⟩) l.length l.length) l.length (cellsSpot l) ∧ Below w.heap.size w w' := by
  obtain ⟨i0, hi, hz0, hz1, hz2⟩ := info_parts Tryz.info134
  have HF : Hid (SpotAt w a g off l) := hf
  clear hf
  go_enter Tryz.func68, Tryz.ntmps68
  go_wp2_with (at_make; refine wpList_make_full _ rfl _ _ 38 rfl w.heap.size 134 i0 (.agg #[.string ByteArray.empty, .int .i64 0, .int .i64 0, .int .i64 0]) 4 Tryz.underlying38 hi hz0 hz1 _ _ _ _ l.length rfl rfl (by omega) (by omega) ?b2 ?b3 (Nat.le_refl _) ?_)
  case b2 => rw [hz2]; omega
  case b3 => unfold maxLen; omega
  intro w0 hown0 hgrow0
  have hbel0 : Below w.heap.size w w0 := (Below.refl _ _).grown hgrow0 (Nat.le_refl _) (by simp)
  have hown0' : w0.ownsRow w.heap.size 134 4 (.slice (some ⟨w.heap.size, 0, none⟩) l.length l.length) l.length (cellsSpot (List.replicate l.length ⟨ByteArray.empty, 0, 0, 0⟩)) := by rw [← madeSpot]; exact hown0
  clear hgrow0 hown0
  go_wp2
  go_loopw [4] (fun i wr => ∃ (k : Nat) (pre : List SpotL), k ≤ l.length ∧ i = .int .i64 (k : Int) ∧ pre.length = l.length ∧ pre.take k = l.take k ∧
      wr.ownsRow w.heap.size 134 4 (.slice (some ⟨w.heap.size, 0, none⟩) l.length l.length) l.length (cellsSpot pre) ∧ Below w.heap.size w wr)
    (fun i _ => l.length - (intOf i).toNat)
  case atStart => exact ⟨0, _, Nat.zero_le _, rfl, by simp, by simp, hown0', hbel0⟩
  case round =>
    obtain ⟨k, pre, hk, rfl, hpl, hpt, hown, hbel⟩ := hrel
    have HL : Hid (pre.length = l.length) := hpl
    have HT : Hid (pre.take k = l.take k) := hpt
    clear hpl hpt hown0' hbel0
    by_cases hlt : k < l.length
    · have hcc := (HF.out.kept hbel).2 k hlt
      have ea := HF.out.1 (by omega)
      subst ea
      have hgz := HF.out.lt (by omega)
      obtain ⟨F0, hF0⟩ : ∃ F0, F0 = l[k].key := ⟨_, rfl⟩
      obtain ⟨F1, hF1⟩ : ∃ F1, F1 = l[k].seg := ⟨_, rfl⟩
      obtain ⟨F2, hF2⟩ : ∃ F2, F2 = l[k].pos := ⟨_, rfl⟩
      obtain ⟨F3, hF3⟩ : ∃ F3, F3 = l[k].size := ⟨_, rfl⟩
      have HEL : Hid (l[k] = ⟨F0, F1, F2, F3⟩) := by show _ = _; rw [hF0, hF1, hF2, hF3]
      simp only [← hF0, ← hF1, ← hF2, ← hF3] at hcc
      obtain ⟨c0, c1, c2, c3⟩ := hcc
      clear hF0 hF1 hF2 hF3
      have hk0 : (0 : Int) ≤ (k : Int) := by omega
      have hk1 : (k : Int) < (l.length : Int) := by omega
      go_wp2_with fail
      refine (toSpot1_is ⟨F0, F1, F2, F3⟩ wr).mono ?_
      rintro e w1 ⟨rfl, hb1⟩
      unfold spotV
      have hown1 := own_kept hown hb1
      have hbel1 : Below w.heap.size w w1 := hbel.trans (hb1.mono hbel.size)
      have hf0 := hown1.frozenAt (k * 4)
      have hf1 := hown1.frozenAt (k * 4 + 1)
      have hf2 := hown1.frozenAt (k * 4 + 2)
      have hf3 := hown1.frozenAt (k * 4 + 3)
      obtain ⟨u0, hu0⟩ : ∃ u0, w1.cell? ⟨w.heap.size, k * 4, none⟩ = some u0 := by
        rw [hown1.cellAt (k * 4) (by omega)]
        exact ⟨_, (cellsSpot_at pre k (by rw [HL.out]; exact hlt)).1⟩
      obtain ⟨u1, hu1⟩ : ∃ u1, w1.cell? ⟨w.heap.size, k * 4 + 1, none⟩ = some u1 := by
        rw [hown1.cellAt (k * 4 + 1) (by omega)]
        exact ⟨_, (cellsSpot_at pre k (by rw [HL.out]; exact hlt)).2.1⟩
      obtain ⟨u2, hu2⟩ : ∃ u2, w1.cell? ⟨w.heap.size, k * 4 + 2, none⟩ = some u2 := by
        rw [hown1.cellAt (k * 4 + 2) (by omega)]
        exact ⟨_, (cellsSpot_at pre k (by rw [HL.out]; exact hlt)).2.2.1⟩
      obtain ⟨u3, hu3⟩ : ∃ u3, w1.cell? ⟨w.heap.size, k * 4 + 3, none⟩ = some u3 := by
        rw [hown1.cellAt (k * 4 + 3) (by omega)]
        exact ⟨_, (cellsSpot_at pre k (by rw [HL.out]; exact hlt)).2.2.2⟩
      have hst := ((((hown1.stored (k * 4) (.string F0)).1.stored (k * 4 + 1) (.int .i64 F1)).1.stored (k * 4 + 2) (.int .i64 F2)).1.stored (k * 4 + 3) (.int .i64 F3))
      rw [← cellsSpot_set pre k ⟨F0, F1, F2, F3⟩] at hst
      have HST : Hid (_ ∧ _) := hst
      clear hst hb1 hown hbel
      go_wp2
      go_roundw
      case rel => exact ⟨k + 1, pre.set k ⟨F0, F1, F2, F3⟩, by omega, by go_num, by rw [List.length_set]; exact HL.out, take_set_step hlt HL.out HT.out HEL.out, HST.out.1, ((((hbel1.setCell (Nat.le_refl _) _).setCell (Nat.le_refl _) _).setCell (Nat.le_refl _) _).setCell (Nat.le_refl _) _)⟩
      case measure => simp [intOf]; omega
    · have hk1 : ¬ (k : Int) < (l.length : Int) := by omega
      have HE : Hid (pre = l) := by
        show _ = _
        have h := HT.out
        rwa [List.take_of_length_le (by rw [HL.out]; omega), List.take_of_length_le (by omega)] at h
      go_wp2
      go_ret
      exact ⟨rfl, by rw [HE.out] at hown; exact hown, hbel⟩
set_option maxHeartbeats 2000000 in
set_option maxRecDepth 100000 in
theorem eqSpot1_same (r : SpotL) (w : World) : Calls Tryz.prog 146 #[spotV r, spotV r] w fun e w' => e = .returned (.bool true) ∧ Below w.heap.size w w' := by
  obtain ⟨F0, F1, F2, F3⟩ := r
  unfold spotV
  go_enter Tryz.func146, Tryz.ntmps146
  go_wp2
  go_ret
  exact ⟨rfl, ((Below.refl _ _).alloc (Nat.le_refl _) _).alloc (by simp) _⟩
set_option maxHeartbeats 2000000 in
set_option maxRecDepth 100000 in
theorem eqSpotS_same {a b : Option Addr} {g off cap h off' cap' : Nat} (l : List SpotL) (hlen : l.length ≤ 1048576) (w : World) (hf : SpotAt w a g off l) (hf' : SpotAt w b h off' l) :
    Calls Tryz.prog 76 #[.slice a l.length cap, .slice b l.length cap'] w fun e w' => e = .returned (.bool true) ∧ Below w.heap.size w w' := by
  have HF : Hid (SpotAt w a g off l) := hf
  have HF' : Hid (SpotAt w b h off' l) := hf'
  clear hf hf'
  go_enter Tryz.func76, Tryz.ntmps76
  go_wp2
  go_loopw [5] (fun i wr => ∃ k : Nat, k ≤ l.length ∧ i = .int .i64 (k : Int) ∧ Below w.heap.size w wr)
    (fun i _ => l.length - (intOf i).toNat)
  case atStart => exact ⟨0, Nat.zero_le _, rfl, Below.refl _ _⟩
  case round =>
    obtain ⟨k, hk, rfl, hbel⟩ := hrel
    by_cases hlt : k < l.length
    · have hcc := (HF.out.kept hbel).2 k hlt
      have hdd := (HF'.out.kept hbel).2 k hlt
      have ea := HF.out.1 (by omega)
      have eb := HF'.out.1 (by omega)
      subst ea eb
      obtain ⟨F0, hF0⟩ : ∃ F0, F0 = l[k].key := ⟨_, rfl⟩
      obtain ⟨F1, hF1⟩ : ∃ F1, F1 = l[k].seg := ⟨_, rfl⟩
      obtain ⟨F2, hF2⟩ : ∃ F2, F2 = l[k].pos := ⟨_, rfl⟩
      obtain ⟨F3, hF3⟩ : ∃ F3, F3 = l[k].size := ⟨_, rfl⟩
      have HEL : Hid (l[k] = ⟨F0, F1, F2, F3⟩) := by show _ = _; rw [hF0, hF1, hF2, hF3]
      simp only [← hF0, ← hF1, ← hF2, ← hF3] at hcc hdd
      obtain ⟨c0, c1, c2, c3⟩ := hcc
      obtain ⟨d0, d1, d2, d3⟩ := hdd
      clear hF0 hF1 hF2 hF3
      have hk0 : (0 : Int) ≤ (k : Int) := by omega
      have hk1 : (k : Int) < (l.length : Int) := by omega
      go_wp2
      have NE := Abv.ne wr
      have C0 := fun x : Abv wr => x.cell c0
      have D0 := fun x : Abv wr => x.cell d0
      have C1 := fun x : Abv wr => x.cell c1
      have D1 := fun x : Abv wr => x.cell d1
      have C2 := fun x : Abv wr => x.cell c2
      have D2 := fun x : Abv wr => x.cell d2
      have C3 := fun x : Abv wr => x.cell c3
      have D3 := fun x : Abv wr => x.cell d3
      refine wp_region_above (by kernel_rfl) (by kernel_rfl) ?_
      repeat (go_big_quiet_step (first | (go_at_call 146; exact calls_above (eqSpot1_same ⟨F0, F1, F2, F3⟩ _))))
      refine wpQuiet_nil ?_
      rintro w1 ⟨⟨_, hb1⟩, rfl⟩
      clear NE C0 D0 C1 D1 C2 D2 C3 D3
      go_wp2
      go_roundw
      case rel => exact ⟨k + 1, by omega, by go_num, hbel.trans (hb1.mono hbel.size)⟩
      case measure => simp [intOf]; omega
    · have hk1 : ¬ (k : Int) < (l.length : Int) := by omega
      go_wp2
      go_ret
      exact ⟨rfl, hbel⟩
theorem SpotAt.cellsAll {w : World} {a : Option Addr} {g off : Nat} {l : List SpotL} (h : SpotAt w a g off l) : ∀ j u, (cellsSpot l)[j]? = some u → w.cell? ((⟨g, off, none⟩ : Addr).add j) = some u := by
  intro j u hu
  rw [Addr.add_lit]
  have hj : j < l.length * 4 := by rw [← cellsSpot_len]; exact (List.getElem?_eq_some_iff.1 hu).1
  obtain ⟨k, i, hi, rfl⟩ : ∃ k i, i < 4 ∧ j = k * 4 + i := ⟨j / 4, j % 4, by omega, by omega⟩
  have h1 := cellsSpot_at l k (by omega)
  have h2 := h.2 k (by omega)
  have h3 : i = 0 ∨ i = 1 ∨ i = 2 ∨ i = 3 := by omega
  rcases h3 with rfl | rfl | rfl | rfl
  · rw [show k * 4 + 0 = k * 4 from by omega, h1.1] at hu
    rw [← Option.some.inj hu]
    simpa [Nat.add_assoc] using h2.1
  · rw [h1.2.1] at hu
    rw [← Option.some.inj hu]
    simpa [Nat.add_assoc] using h2.2.1
  · rw [h1.2.2.1] at hu
    rw [← Option.some.inj hu]
    simpa [Nat.add_assoc] using h2.2.2.1
  · rw [h1.2.2.2] at hu
    rw [← Option.some.inj hu]
    simpa [Nat.add_assoc] using h2.2.2.2
theorem cellsSpot_one {l : List SpotL} : ∀ u ∈ cellsSpot l, u.oneCell' = true := by
  intro u hu
  unfold cellsSpot at hu
  obtain ⟨r, _, hr⟩ := List.mem_flatMap.1 hu
  simp only [List.mem_cons, List.not_mem_nil, or_false] at hr
  rcases hr with rfl | rfl | rfl | rfl <;> rfl
/-- 'append(x, y...)' onto a row of the call's own. -/
theorem wpList_appendSpot {w : World} {ops : Array Oper} {rest : List Oper} {o : Oper} {act : Act} {Q : Exit → Act → World → Prop} (hgd : o.guard = none) (s x : Operand)
    (ho : o.op = .call { callee := .builtin .append, args := #[s, x], argTypes := #[38, 38] }) (base : Nat) (v : Value) (n : Nat) (xs : List Value) (hs : act.eval s = v) (hown : w.ownsRow base 134 4 v n xs)
    (a : Option Addr) (g off cap : Nat) (l : List SpotL) (hx : act.eval x = .slice a l.length cap) (hf : SpotAt w a g off l) (hnil : a = none → cap = 0) (h63 : n + l.length ≤ 2097152) (hbase : base ≤ w.heap.size)
    (h : ∀ v' w', w'.ownsRow base 134 4 v' (n + l.length) (xs ++ cellsSpot l) → w.grownBy w' v.ownBlock → wpList Tryz.prog ops Q rest (act.put o.dst v') w') : wpList Tryz.prog ops Q (o :: rest) act w := by
  obtain ⟨i0, hi, hz0, hz1, hz2⟩ := info_parts Tryz.info134
  cases a with
  | none =>
    have hl : l = [] := by
      cases l with
      | nil => rfl
      | cons f r => have := hf.1 (by simp); cases this
    subst hl
    rw [hnil rfl] at hx
    refine wpList_append_own_none hgd s x 38 ho base 134 i0 4 Tryz.underlying38 hi v n xs hs hown hx ?_
    refine h v w ?_ (World.grownBy.refl _ _)
    simpa [cellsSpot] using hown
  | some ad =>
    have had : 0 < l.length → ad = ⟨g, off, none⟩ := fun hp => Option.some.inj (hf.1 hp)
    refine wpList_append_own w hgd s x 38 ho base 134 i0 (.agg #[.string ByteArray.empty, .int .i64 0, .int .i64 0, .int .i64 0]) 4 40 Tryz.underlying38 hi hz0 hz1 hz2 rfl (by decide) v n xs hs hown ad l.length cap (cellsSpot l) hx (cellsSpot_len l) ?_ cellsSpot_one (by unfold maxLen; omega) (by omega) hbase ?_
    · intro j u hu
      have hp : 0 < l.length := by
        have := (List.getElem?_eq_some_iff.1 hu).1
        rw [cellsSpot_len] at this
        omega
      rw [had hp]
      exact hf.cellsAll j u hu
    · intro v' w' h1 h2 _
      exact h v' w' h1 h2
end Go.Proofs.YtbcfiiilikkkeaaGreatDoor
namespace Go.Proofs.YtbcfiiilikkkeaaGreatDoor
open Go.RowKit
set_option linter.unusedVariables false

theorem spotAt_new (w : World) (c : SpotL) : SpotAt (w.alloc (Obj.cells #[.string c.key, .int .i64 c.seg, .int .i64 c.pos, .int .i64 c.size] 134)) (some ⟨w.heap.size, 0, none⟩) w.heap.size 0 [c] := by
  have h := heap_alloc_new w (Obj.cells #[.string c.key, .int .i64 c.seg, .int .i64 c.pos, .int .i64 c.size] 134)
  refine ⟨fun _ => rfl, fun j hj => ?_⟩
  obtain rfl : j = 0 := by simpa using hj
  exact ⟨cell_of_row _ _ 0 _ _ _ h, cell_of_row _ _ 1 _ _ _ h, cell_of_row _ _ 2 _ _ _ h, cell_of_row _ _ 3 _ _ _ h⟩
theorem ownSpot_snoc {w : World} {B : Nat} {v : Value} {pre : List SpotL} {c : SpotL} (h : w.ownsRow B 134 4 v (pre.length + 1) (cellsSpot pre ++ [.string c.key, .int .i64 c.seg, .int .i64 c.pos, .int .i64 c.size])) : w.ownsRow B 134 4 v (pre ++ [c]).length (cellsSpot (pre ++ [c])) := by
  rw [cellsSpot_app, List.length_append]
  exact h
section
variable {w W W' : World} {rb a a' : Nat} {t : ByteArray} {v : Value} {pre : List SpotL}
end
end Go.Proofs.YtbcfiiilikkkeaaGreatDoor
