/- Lists of pairs in memory, 2 cells each; measured, copied, held against each other, marked. Made by program. -/
import Derived.Test.YtijopmkcaoefjaaLChange
import Derived.Test.YtijopmkcaoefjaaMathMap
import Derived.Laws.AppendOwnNone
import Derived.Deep.RegionHeld3
import Derived.Deep.DeepCutAuto
namespace Go.Proofs.Ytijopmkcaoefjaa
open Go.RowKit
set_option linter.unusedVariables false
set_option linter.unusedSimpArgs false

def pairV (r : PairL) : Value := .agg #[.string r.key, .string r.value]
/-- A slice at a whose elements are these. -/
def PairAt (w : World) (a : Option Addr) (g off : Nat) (l : List PairL) : Prop :=
  (0 < l.length → a = some ⟨g, off, none⟩) ∧ ∀ j (hj : j < l.length), w.cell? ⟨g, off + j * 2, none⟩ = some (.string l[j].key) ∧ w.cell? ⟨g, off + j * 2 + 1, none⟩ = some (.string l[j].value)
theorem PairAt.lt {w : World} {a : Option Addr} {g off : Nat} {l : List PairL} (h : PairAt w a g off l) (hl : 0 < l.length) : g < w.heap.size := World.block_lt_of_cell? w _ (h.2 0 hl).1
theorem PairAt.kept {w w' : World} {a : Option Addr} {g off : Nat} {l : List PairL} (h : PairAt w a g off l) (hb : Below w.heap.size w w') : PairAt w' a g off l := by
  refine ⟨h.1, fun j hj => ?_⟩
  have hg := h.lt (by omega)
  rw [hb.cell (p := ⟨g, off + j * 2, none⟩) hg, hb.cell (p := ⟨g, off + j * 2 + 1, none⟩) hg]
  exact h.2 j hj
def cellsPair (l : List PairL) : List Value := l.flatMap fun r => [.string r.key, .string r.value]
theorem cellsPair_len : ∀ l : List PairL, (cellsPair l).length = l.length * 2
  | [] => rfl
  | r :: l => by have := cellsPair_len l; simp only [cellsPair, List.flatMap_cons, List.length_append, List.length_cons, List.length_nil] at *; omega
theorem cellsPair_app (l m : List PairL) : cellsPair (l ++ m) = cellsPair l ++ cellsPair m := by simp [cellsPair]
theorem cellsPair_at : ∀ (l : List PairL) (j : Nat) (hj : j < l.length), (cellsPair l)[j * 2]? = some (.string l[j].key) ∧ (cellsPair l)[j * 2 + 1]? = some (.string l[j].value)
  | r :: l, 0, _ => ⟨rfl, rfl⟩
  | r :: l, j + 1, hj => by
    have := cellsPair_at l j (by simpa using hj)
    simpa [cellsPair, Nat.add_mul, Nat.add_assoc] using this
theorem cellsPair_set : ∀ (l : List PairL) (j : Nat) (r : PairL), cellsPair (l.set j r) = ((cellsPair l).set (j * 2) (.string r.key)).set (j * 2 + 1) (.string r.value)
  | [], j, r => by simp [cellsPair]
  | x :: l, 0, r => by simp [cellsPair]
  | x :: l, j + 1, r => by
    have := cellsPair_set l j r
    simp only [cellsPair, List.set_cons_succ, List.flatMap_cons, List.cons_append, List.nil_append, Nat.add_mul] at *
    rw [this]
theorem cellsPair_own {w : World} {base : Nat} {e : TypeId} {g n cap : Nat} {l : List PairL} (hn : l.length = n) (h : w.ownsRow base e 2 (.slice (some ⟨g, 0, none⟩) n cap) n (cellsPair l)) : PairAt w (some ⟨g, 0, none⟩) g 0 l := by
  refine ⟨fun _ => rfl, fun j hj => ?_⟩
  rw [Nat.zero_add, h.cellAt (j * 2) (by omega), h.cellAt (j * 2 + 1) (by omega)]
  exact cellsPair_at l j hj
theorem cellsPair_slice {w : World} {base : Nat} {v : Value} {l : List PairL} (h : w.ownsRow base 40 2 v l.length (cellsPair l)) : ∃ a g cap, v = .slice a l.length cap ∧ PairAt w a g 0 l := by
  rcases h.2 with ⟨h1, h2⟩ | ⟨g, cap, cur, h1, _⟩
  · exact ⟨none, 0, 0, by rw [h1, h2], fun q => by omega, fun j hj => by omega⟩
  · subst h1; exact ⟨_, g, cap, rfl, cellsPair_own rfl h⟩
theorem madePair (n : Nat) : (madeCells #[Value.string ByteArray.empty, Value.string ByteArray.empty] (n * 2)).toList = cellsPair (List.replicate n ⟨ByteArray.empty, ByteArray.empty⟩) := by
  induction n with
  | zero => simp [madeCells, cellsPair]
  | succ n ih =>
    rw [List.replicate_succ', cellsPair_app, ← ih, show (n + 1) * 2 = n * 2 + 2 by omega]
    simp only [madeCells, Array.toList_map, Array.toList_range, List.range_add, List.map_append, List.map_map, Function.comp_def]
    congr 1
    simp [List.range_succ, cellsPair]
def totPair1 (r : PairL) : Nat := r.key.size + r.value.size
def totPair : List PairL → Nat
  | [] => 0
  | r :: l => totPair1 r + 1 + totPair l
theorem totPair_app : ∀ (l m : List PairL), totPair (l ++ m) = totPair l + totPair m
  | [], m => by simp [totPair]
  | r :: l, m => by simp only [List.cons_append, totPair, totPair_app l m]; omega
theorem totPair_len : ∀ l : List PairL, l.length ≤ totPair l
  | [] => by simp [totPair]
  | r :: l => by have := totPair_len l; simp only [List.length_cons, totPair]; omega
theorem totPair_mem : ∀ {l : List PairL} {r : PairL}, r ∈ l → totPair1 r + 1 ≤ totPair l
  | x :: l, r, h => by
    rcases List.mem_cons.1 h with rfl | h
    · simp only [totPair]; omega
    · have := totPair_mem h; simp only [totPair]; omega
theorem totPair_take {l : List PairL} {j : Nat} (hj : j < l.length) : totPair (l.take (j + 1)) = totPair (l.take j) + (totPair1 l[j] + 1) := by
  rw [List.take_succ_eq_append_getElem hj, totPair_app]; simp [totPair]
def smallPair (B : Nat) (r : PairL) : Prop := r.key.size ≤ B ∧ r.value.size ≤ B
theorem totPair_small {l : List PairL} {B : Nat} (h : totPair l ≤ B) : l.length ≤ B ∧ ∀ r ∈ l, smallPair B r :=
  ⟨Nat.le_trans (totPair_len l) h, fun r hr => by have := totPair_mem hr; unfold totPair1 at this; exact ⟨by omega, by omega⟩⟩
set_option maxHeartbeats 2000000 in
set_option maxRecDepth 100000 in
theorem szPair1_is (r : PairL) (hr : smallPair maxLen r) (left : Nat) (hl : left ≤ 1048576) (w : World) :
    Calls Try.prog 47 #[pairV r, .int .i64 (left : Int)] w fun e w' => ∃ x : Int, e = .returned (.int .i64 x) ∧ Left left (totPair1 r) x ∧ Below w.heap.size w w' := by
  obtain ⟨F0, F1⟩ := r
  unfold smallPair maxLen at hr
  simp only at hr
  unfold pairV totPair1
  go_enter Try.func47, Try.ntmps47
  go_wp2
  · go_ret
    exact ⟨_, rfl, Or.inr ⟨by omega, rfl⟩, (Below.refl _ _).alloc (Nat.le_refl _) _⟩
  · go_ret
    exact ⟨_, rfl, Or.inr ⟨by omega, rfl⟩, (Below.refl _ _).alloc (Nat.le_refl _) _⟩
  · go_ret
    exact ⟨_, rfl, Or.inl ⟨by omega, by omega⟩, (Below.refl _ _).alloc (Nat.le_refl _) _⟩
set_option maxHeartbeats 2000000 in
set_option maxRecDepth 100000 in
theorem szPairS_is {a : Option Addr} {g off cap : Nat} (l : List PairL) (hlen : l.length ≤ maxLen) (hsz : ∀ r ∈ l, smallPair maxLen r) (left : Nat) (hl : left ≤ 1048576) (w : World) (hf : PairAt w a g off l) :
    Calls Try.prog 16 #[.slice a l.length cap, .int .i64 (left : Int)] w fun e w' => ∃ x : Int, e = .returned (.int .i64 x) ∧ Left left (totPair l) x ∧ Below w.heap.size w w' := by
  have HF : Hid (PairAt w a g off l) := hf
  have HS : Hid (∀ r ∈ l, smallPair maxLen r) := hsz
  clear hf hsz
  unfold maxLen at hlen
  by_cases h0 : left < l.length
  · have h1 : (left : Int) - (l.length : Int) < 0 := by omega
    go_enter Try.func16, Try.ntmps16
    go_wp2
    go_ret
    exact ⟨_, rfl, Or.inr ⟨by have := totPair_len l; omega, rfl⟩, Below.refl _ _⟩
  · have h1 : ¬ (left : Int) - (l.length : Int) < 0 := by omega
    go_enter Try.func16, Try.ntmps16
    go_wp2
    go_loopw [1, 5] (fun x i wr => ∃ k R : Nat, k ≤ l.length ∧ i = .int .i64 (k : Int) ∧ x = .int .i64 (R : Int) ∧ R + totPair (l.take k) + (l.length - k) = left ∧ Below w.heap.size w wr)
      (fun _ i _ => l.length - (intOf i).toNat)
    case atStart => exact ⟨0, left - l.length, Nat.zero_le _, rfl, by go_num, by simp [totPair]; omega, Below.refl _ _⟩
    case round =>
      obtain ⟨k, R, hk, rfl, rfl, hR, hbel⟩ := hrel
      by_cases hlt : k < l.length
      · have hcc := (HF.out.kept hbel).2 k hlt
        have ea := HF.out.1 (by omega)
        subst ea
        have hs := HS.out l[k] (List.getElem_mem _)
        have HT := totPair_take hlt
        obtain ⟨F0, hF0⟩ : ∃ F0, F0 = l[k].key := ⟨_, rfl⟩
        obtain ⟨F1, hF1⟩ : ∃ F1, F1 = l[k].value := ⟨_, rfl⟩
        have HEL : Hid (l[k] = ⟨F0, F1⟩) := by show _ = _; rw [hF0, hF1]
        simp only [← hF0, ← hF1] at hcc
        obtain ⟨c0, c1⟩ := hcc
        rw [HEL.out] at hs HT
        have HS1 : Hid _ := hs
        have HT1 : Hid _ := HT
        obtain ⟨Z, hZ⟩ : ∃ Z, Z = totPair1 ⟨F0, F1⟩ := ⟨_, rfl⟩
        have HZ : Hid (Z = totPair1 ⟨F0, F1⟩) := hZ
        clear hs HT hZ hF0 hF1
        have hk0 : (0 : Int) ≤ (k : Int) := by omega
        have hk1 : (k : Int) < (l.length : Int) := by omega
        have hRl : R ≤ 1048576 := by omega
        go_wp2_with fail
        refine (szPair1_is ⟨F0, F1⟩ HS1.out R hRl wr).mono ?_
        rintro e w1 ⟨x, rfl, hx, hb1⟩
        have hx' : Left R (totPair1 ⟨F0, F1⟩) x := hx
        rw [← HZ.out] at hx'
        clear hx
        rcases hx' with ⟨hx1, hx2⟩ | ⟨hx1, hx2⟩
        · obtain ⟨Y, hY⟩ : ∃ Y : Nat, Y = R - Z := ⟨_, rfl⟩
          rw [← hY] at hx2
          subst hx2
          have HY : Hid (Y = R - Z) := hY
          clear hY
          have hB : Below w.heap.size w w1 := hbel.trans (hb1.mono hbel.size)
          go_wp2
          go_roundw
          case rel => exact ⟨k + 1, Y, by omega, by go_num, rfl, by rw [HT1.out, ← HZ.out]; have := HY.out; omega, hB⟩
          case measure => simp [intOf]; omega
        · subst hx2
          have hB : Below w.heap.size w w1 := hbel.trans (hb1.mono hbel.size)
          have hno : ¬ totPair l ≤ left := by
            have e1 := totPair_app (l.take (k + 1)) (l.drop (k + 1))
            rw [List.take_append_drop] at e1
            have e2 := totPair_len (l.drop (k + 1))
            rw [List.length_drop] at e2
            have := HT1.out
            rw [← HZ.out] at this
            omega
          have HN : Hid (¬ totPair l ≤ left) := hno
          clear hno
          go_wp2
          go_ret
          exact ⟨_, rfl, Or.inr ⟨HN.out, rfl⟩, hB⟩
      · have hk1 : ¬ (k : Int) < (l.length : Int) := by omega
        have HN : Hid (totPair l + R = left) := by
          show _ = _
          rw [List.take_of_length_le (by omega)] at hR
          omega
        clear hR
        go_wp2
        go_ret
        exact ⟨_, rfl, Or.inl ⟨by have := HN.out; omega, by have := HN.out; omega⟩, hbel⟩
set_option maxHeartbeats 2000000 in
set_option maxRecDepth 100000 in
theorem toPair1_is (r : PairL) (w : World) : Calls Try.prog 49 #[pairV r] w fun e w' => e = .returned (pairV r) ∧ Below w.heap.size w w' := by
  obtain ⟨F0, F1⟩ := r
  unfold pairV
  go_enter Try.func49, Try.ntmps49
  go_wp2
  refine bodyPost_ret (v := .agg #[.string F0, .string F1]) (by simp [results, Try.results49, go_sem]) rfl ⟨rfl, ?_⟩
  exact (((Below.refl _ _).alloc (Nat.le_refl _) _).alloc (by simp) _).alloc (by simp; omega) _
theorem Try.info40 : (Try.prog.info? 40).map (fun i => (i.zero, i.size, i.bytes)) = some (some (.agg #[.string ByteArray.empty, .string ByteArray.empty]), 2, 32) := by kernel_rfl
set_option maxHeartbeats 2000000 in
set_option maxRecDepth 100000 in
theorem toPairS_is {a : Option Addr} {g off cap : Nat} (l : List PairL) (hlen : l.length ≤ 1048576) (w : World) (hf : PairAt w a g off l) :
    Calls Try.prog 18 #[.slice a l.length cap] w fun e w' => e = .returned (.slice (some ⟨w.heap.size, 0, none⟩) l.length l.length) ∧
      w'.ownsRow w.heap.size 40 2 (.slice (some ⟨w.heap.size, 0, none⟩) l.length l.length) l.length (cellsPair l) ∧ Below w.heap.size w w' := by
  obtain ⟨i0, hi, hz0, hz1, hz2⟩ := info_parts Try.info40
  have HF : Hid (PairAt w a g off l) := hf
  clear hf
  go_enter Try.func18, Try.ntmps18
  go_wp2_with (at_make; refine wpList_make_full _ rfl _ _ 24 rfl w.heap.size 40 i0 (.agg #[.string ByteArray.empty, .string ByteArray.empty]) 2 Try.underlying24 hi hz0 hz1 _ _ _ _ l.length rfl rfl (by omega) (by omega) ?b2 ?b3 (Nat.le_refl _) ?_)
  case b2 => rw [hz2]; omega
  case b3 => unfold maxLen; omega
  intro w0 hown0 hgrow0
  have hbel0 : Below w.heap.size w w0 := (Below.refl _ _).grown hgrow0 (Nat.le_refl _) (by simp)
  have hown0' : w0.ownsRow w.heap.size 40 2 (.slice (some ⟨w.heap.size, 0, none⟩) l.length l.length) l.length (cellsPair (List.replicate l.length ⟨ByteArray.empty, ByteArray.empty⟩)) := by rw [← madePair]; exact hown0
  clear hgrow0 hown0
  go_wp2
  go_loopw [4] (fun i wr => ∃ (k : Nat) (pre : List PairL), k ≤ l.length ∧ i = .int .i64 (k : Int) ∧ pre.length = l.length ∧ pre.take k = l.take k ∧
      wr.ownsRow w.heap.size 40 2 (.slice (some ⟨w.heap.size, 0, none⟩) l.length l.length) l.length (cellsPair pre) ∧ Below w.heap.size w wr)
    (fun i _ => l.length - (intOf i).toNat)
  case atStart => exact ⟨0, _, Nat.zero_le _, rfl, by simp, by simp, hown0', hbel0⟩
  case round =>
    obtain ⟨k, pre, hk, rfl, hpl, hpt, hown, hbel⟩ := hrel
    have HL : Hid (pre.length = l.length) := hpl
    have HT : Hid (pre.take k = l.take k) := hpt
    clear hpl hpt hown0' hbel0
    by_cases hlt : k < l.length
    · have hcc := (HF.out.kept hbel).2 k hlt
      have ea := HF.out.1 (by omega)
      subst ea
      have hgz := HF.out.lt (by omega)
      obtain ⟨F0, hF0⟩ : ∃ F0, F0 = l[k].key := ⟨_, rfl⟩
      obtain ⟨F1, hF1⟩ : ∃ F1, F1 = l[k].value := ⟨_, rfl⟩
      have HEL : Hid (l[k] = ⟨F0, F1⟩) := by show _ = _; rw [hF0, hF1]
      simp only [← hF0, ← hF1] at hcc
      obtain ⟨c0, c1⟩ := hcc
      clear hF0 hF1
      have hk0 : (0 : Int) ≤ (k : Int) := by omega
      have hk1 : (k : Int) < (l.length : Int) := by omega
      go_wp2_with fail
      refine (toPair1_is ⟨F0, F1⟩ wr).mono ?_
      rintro e w1 ⟨rfl, hb1⟩
      unfold pairV
      have hown1 := own_kept hown hb1
      have hbel1 : Below w.heap.size w w1 := hbel.trans (hb1.mono hbel.size)
      have hf0 := hown1.frozenAt (k * 2)
      have hf1 := hown1.frozenAt (k * 2 + 1)
      obtain ⟨u0, hu0⟩ : ∃ u0, w1.cell? ⟨w.heap.size, k * 2, none⟩ = some u0 := by
        rw [hown1.cellAt (k * 2) (by omega)]
        exact ⟨_, (cellsPair_at pre k (by rw [HL.out]; exact hlt)).1⟩
      obtain ⟨u1, hu1⟩ : ∃ u1, w1.cell? ⟨w.heap.size, k * 2 + 1, none⟩ = some u1 := by
        rw [hown1.cellAt (k * 2 + 1) (by omega)]
        exact ⟨_, (cellsPair_at pre k (by rw [HL.out]; exact hlt)).2⟩
      have hst := ((hown1.stored (k * 2) (.string F0)).1.stored (k * 2 + 1) (.string F1))
      rw [← cellsPair_set pre k ⟨F0, F1⟩] at hst
      have HST : Hid (_ ∧ _) := hst
      clear hst hb1 hown hbel
      go_wp2
      go_roundw
      case rel => exact ⟨k + 1, pre.set k ⟨F0, F1⟩, by omega, by go_num, by rw [List.length_set]; exact HL.out, take_set_step hlt HL.out HT.out HEL.out, HST.out.1, ((hbel1.setCell (Nat.le_refl _) _).setCell (Nat.le_refl _) _)⟩
      case measure => simp [intOf]; omega
    · have hk1 : ¬ (k : Int) < (l.length : Int) := by omega
      have HE : Hid (pre = l) := by
        show _ = _
        have h := HT.out
        rwa [List.take_of_length_le (by rw [HL.out]; omega), List.take_of_length_le (by omega)] at h
      go_wp2
      go_ret
      exact ⟨rfl, by rw [HE.out] at hown; exact hown, hbel⟩
set_option maxHeartbeats 2000000 in
set_option maxRecDepth 100000 in
theorem eqPair1_same (r : PairL) (w : World) : Calls Try.prog 51 #[pairV r, pairV r] w fun e w' => e = .returned (.bool true) ∧ Below w.heap.size w w' := by
  obtain ⟨F0, F1⟩ := r
  unfold pairV
  go_enter Try.func51, Try.ntmps51
  go_wp2
  go_ret
  exact ⟨rfl, ((Below.refl _ _).alloc (Nat.le_refl _) _).alloc (by simp) _⟩
set_option maxHeartbeats 2000000 in
set_option maxRecDepth 100000 in
theorem eqPairS_same {a b : Option Addr} {g off cap h off' cap' : Nat} (l : List PairL) (hlen : l.length ≤ 1048576) (w : World) (hf : PairAt w a g off l) (hf' : PairAt w b h off' l) :
    Calls Try.prog 20 #[.slice a l.length cap, .slice b l.length cap'] w fun e w' => e = .returned (.bool true) ∧ Below w.heap.size w w' := by
  have HF : Hid (PairAt w a g off l) := hf
  have HF' : Hid (PairAt w b h off' l) := hf'
  clear hf hf'
  go_enter Try.func20, Try.ntmps20
  go_wp2
  go_loopw [5] (fun i wr => ∃ k : Nat, k ≤ l.length ∧ i = .int .i64 (k : Int) ∧ Below w.heap.size w wr)
    (fun i _ => l.length - (intOf i).toNat)
  case atStart => exact ⟨0, Nat.zero_le _, rfl, Below.refl _ _⟩
  case round =>
    obtain ⟨k, hk, rfl, hbel⟩ := hrel
    by_cases hlt : k < l.length
    · have hcc := (HF.out.kept hbel).2 k hlt
      have hdd := (HF'.out.kept hbel).2 k hlt
      have ea := HF.out.1 (by omega)
      have eb := HF'.out.1 (by omega)
      subst ea eb
      obtain ⟨F0, hF0⟩ : ∃ F0, F0 = l[k].key := ⟨_, rfl⟩
      obtain ⟨F1, hF1⟩ : ∃ F1, F1 = l[k].value := ⟨_, rfl⟩
      have HEL : Hid (l[k] = ⟨F0, F1⟩) := by show _ = _; rw [hF0, hF1]
      simp only [← hF0, ← hF1] at hcc hdd
      obtain ⟨c0, c1⟩ := hcc
      obtain ⟨d0, d1⟩ := hdd
      clear hF0 hF1
      have hk0 : (0 : Int) ≤ (k : Int) := by omega
      have hk1 : (k : Int) < (l.length : Int) := by omega
      go_wp2
      have NE := Abv.ne wr
      have C0 := fun x : Abv wr => x.cell c0
      have D0 := fun x : Abv wr => x.cell d0
      have C1 := fun x : Abv wr => x.cell c1
      have D1 := fun x : Abv wr => x.cell d1
      refine wp_region_above (by kernel_rfl) (by kernel_rfl) ?_
      repeat (go_big_quiet_step (first | (go_at_call 51; exact calls_above (eqPair1_same ⟨F0, F1⟩ _))))
      refine wpQuiet_nil ?_
      rintro w1 ⟨⟨_, hb1⟩, rfl⟩
      clear NE C0 D0 C1 D1
      go_wp2
      go_roundw
      case rel => exact ⟨k + 1, by omega, by go_num, hbel.trans (hb1.mono hbel.size)⟩
      case measure => simp [intOf]; omega
    · have hk1 : ¬ (k : Int) < (l.length : Int) := by omega
      go_wp2
      go_ret
      exact ⟨rfl, hbel⟩
theorem PairAt.cellsAll {w : World} {a : Option Addr} {g off : Nat} {l : List PairL} (h : PairAt w a g off l) : ∀ j u, (cellsPair l)[j]? = some u → w.cell? ((⟨g, off, none⟩ : Addr).add j) = some u := by
  intro j u hu
  rw [Addr.add_lit]
  have hj : j < l.length * 2 := by rw [← cellsPair_len]; exact (List.getElem?_eq_some_iff.1 hu).1
  obtain ⟨k, i, hi, rfl⟩ : ∃ k i, i < 2 ∧ j = k * 2 + i := ⟨j / 2, j % 2, by omega, by omega⟩
  have h1 := cellsPair_at l k (by omega)
  have h2 := h.2 k (by omega)
  have h3 : i = 0 ∨ i = 1 := by omega
  rcases h3 with rfl | rfl
  · rw [show k * 2 + 0 = k * 2 from by omega, h1.1] at hu
    rw [← Option.some.inj hu]
    simpa [Nat.add_assoc] using h2.1
  · rw [h1.2] at hu
    rw [← Option.some.inj hu]
    simpa [Nat.add_assoc] using h2.2
theorem cellsPair_one {l : List PairL} : ∀ u ∈ cellsPair l, u.oneCell' = true := by
  intro u hu
  unfold cellsPair at hu
  obtain ⟨r, _, hr⟩ := List.mem_flatMap.1 hu
  simp only [List.mem_cons, List.not_mem_nil, or_false] at hr
  rcases hr with rfl | rfl <;> rfl
/-- 'append(x, y...)' onto a row of the call's own. -/
theorem wpList_appendPair {w : World} {ops : Array Oper} {rest : List Oper} {o : Oper} {act : Act} {Q : Exit → Act → World → Prop} (hgd : o.guard = none) (s x : Operand)
    (ho : o.op = .call { callee := .builtin .append, args := #[s, x], argTypes := #[24, 24] }) (base : Nat) (v : Value) (n : Nat) (xs : List Value) (hs : act.eval s = v) (hown : w.ownsRow base 40 2 v n xs)
    (a : Option Addr) (g off cap : Nat) (l : List PairL) (hx : act.eval x = .slice a l.length cap) (hf : PairAt w a g off l) (hnil : a = none → cap = 0) (h63 : n + l.length ≤ 2097152) (hbase : base ≤ w.heap.size)
    (h : ∀ v' w', w'.ownsRow base 40 2 v' (n + l.length) (xs ++ cellsPair l) → w.grownBy w' v.ownBlock → wpList Try.prog ops Q rest (act.put o.dst v') w') : wpList Try.prog ops Q (o :: rest) act w := by
  obtain ⟨i0, hi, hz0, hz1, hz2⟩ := info_parts Try.info40
  cases a with
  | none =>
    have hl : l = [] := by
      cases l with
      | nil => rfl
      | cons f r => have := hf.1 (by simp); cases this
    subst hl
    rw [hnil rfl] at hx
    refine wpList_append_own_none hgd s x 24 ho base 40 i0 2 Try.underlying24 hi v n xs hs hown hx ?_
    refine h v w ?_ (World.grownBy.refl _ _)
    simpa [cellsPair] using hown
  | some ad =>
    have had : 0 < l.length → ad = ⟨g, off, none⟩ := fun hp => Option.some.inj (hf.1 hp)
    refine wpList_append_own w hgd s x 24 ho base 40 i0 (.agg #[.string ByteArray.empty, .string ByteArray.empty]) 2 32 Try.underlying24 hi hz0 hz1 hz2 rfl (by decide) v n xs hs hown ad l.length cap (cellsPair l) hx (cellsPair_len l) ?_ cellsPair_one (by unfold maxLen; omega) (by omega) hbase ?_
    · intro j u hu
      have hp : 0 < l.length := by
        have := (List.getElem?_eq_some_iff.1 hu).1
        rw [cellsPair_len] at this
        omega
      rw [had hp]
      exact hf.cellsAll j u hu
    · intro v' w' h1 h2 _
      exact h v' w' h1 h2
/-- Marked ones: from k on, 2 numbers each. -/
def markPair1 (m : Nat) : PairL := ⟨mk (m), mk (m + 1)⟩
def marksPair (k n : Nat) : List PairL := (List.range n).map fun i => markPair1 (k + 2 * i)
theorem marksPair_len (k n : Nat) : (marksPair k n).length = n := by simp [marksPair]
theorem marksPair_at (k n j : Nat) (hj : j < (marksPair k n).length) : (marksPair k n)[j] = markPair1 (k + 2 * j) := by simp [marksPair]
set_option maxHeartbeats 2000000 in
set_option maxRecDepth 100000 in
theorem markPairS_is {B g cap : Nat} (l : List PairL) (hlen : l.length ≤ 1048576) (k : Nat) (h0 : 0 < k) (hk : k ≤ 100000000) (w : World) (hA : w.ownsRow B 40 2 (.slice (some ⟨g, 0, none⟩) l.length cap) l.length (cellsPair l)) :
    Calls Try.prog 26 #[.slice (some ⟨g, 0, none⟩) l.length cap, .int .i64 (k : Int)] w fun e w' => e = .returned (.int .i64 ((k + 2 * l.length : Nat) : Int)) ∧ w'.ownsRow B 40 2 (.slice (some ⟨g, 0, none⟩) l.length cap) l.length (cellsPair (marksPair k l.length)) ∧ w.grownBy w' (some g) := by
  go_enter Try.func26, Try.ntmps26
  go_wp2
  go_loopw [1, 5] (fun x i wr => ∃ (j : Nat) (pre : List PairL), j ≤ l.length ∧ i = .int .i64 (j : Int) ∧ x = .int .i64 ((k + 2 * j : Nat) : Int) ∧ pre.length = l.length ∧ pre.take j = (marksPair k l.length).take j ∧
      wr.ownsRow B 40 2 (.slice (some ⟨g, 0, none⟩) l.length cap) l.length (cellsPair pre) ∧ w.grownBy wr (some g)) (fun _ i _ => l.length - (intOf i).toNat)
  case atStart => exact ⟨0, l, Nat.zero_le _, rfl, rfl, rfl, by simp, hA, World.grownBy.refl _ _⟩
  case round =>
    obtain ⟨j, pre, hj, rfl, rfl, hpl, hpt, hown, hgr⟩ := hrel
    have HL : Hid (pre.length = l.length) := hpl
    have HT : Hid (pre.take j = (marksPair k l.length).take j) := hpt
    clear hpl hpt hA
    by_cases hlt : j < l.length
    · have hk0 : (0 : Int) ≤ (j : Int) := by omega
      have hk1 : (j : Int) < (l.length : Int) := by omega
      obtain ⟨M, hM⟩ : ∃ M : Nat, M = k + 2 * j := ⟨_, rfl⟩
      have hMb : 0 < M ∧ M ≤ 900000000 := by omega
      have HM : Hid (M = k + 2 * j) := hM
      rw [← hM]
      clear hM
      go_wp2_with fail
      refine (markText_at M 0 _ (by omega) (by omega) (by omega) _).mono ?_
      rintro e w0 ⟨rfl, hb0⟩
      have hw0 := own_kept hown hb0
      have hgw0 := hgr.trans (own_below' hb0)
      clear hb0
      have hf0 := hw0.frozenAt (j * 2)
      obtain ⟨u0, hu0⟩ := own_cell_ex (q := j * 2) hw0 (by omega) (by simp only [List.length_set, cellsPair_len, HL.out])
      have hs0 := (hw0.stored (j * 2) (.string (mk (M + 0))))
      have hgs0 := (hgw0.trans (hw0.stored (j * 2) (.string (mk (M + 0)))).2)
      have HS0 : Hid _ := hs0.1
      have HG0 : Hid _ := hgs0
      clear hown hgr
      clear hs0 hgs0 hw0 hgw0
      go_wp2_with fail
      refine (markText_at M 1 _ (by omega) (by omega) (by omega) _).mono ?_
      rintro e w1 ⟨rfl, hb1⟩
      have hw1 := own_kept HS0.out hb1
      have hgw1 := HG0.out.trans (own_below' hb1)
      clear hb1
      have hf1 := hw1.frozenAt (j * 2 + 1)
      obtain ⟨u1, hu1⟩ := own_cell_ex (q := j * 2 + 1) hw1 (by omega) (by simp only [List.length_set, cellsPair_len, HL.out])
      have hs1 := (hw1.stored (j * 2 + 1) (.string (mk (M + 1))))
      have hgs1 := (hgw1.trans (hw1.stored (j * 2 + 1) (.string (mk (M + 1)))).2)
      have HS1 : Hid _ := hs1.1
      have HG1 : Hid _ := hgs1
      clear hs1 hgs1 hw1 hgw1
      go_wp2
      go_roundw
      case rel =>
        have e := cellsPair_set pre j (markPair1 M)
        refine ⟨j + 1, pre.set j (markPair1 M), by omega, by go_num, ?_, by rw [List.length_set]; exact HL.out, ?_, ?_, HG1.out⟩
        · refine congrArg (Value.int .i64) ?_
          have := HM.out
          omega
        · refine take_set_step (by rw [marksPair_len]; exact hlt) (by rw [marksPair_len]; exact HL.out) HT.out ?_
          rw [marksPair_at, ← HM.out]
        · rw [e]; exact HS1.out
      case measure => simp [intOf]; omega
    · have hk1 : ¬ (j : Int) < (l.length : Int) := by omega
      have HE : Hid (pre = marksPair k l.length ∧ j = l.length) := by
        have h := HT.out
        rw [List.take_of_length_le (by rw [HL.out]; omega), List.take_of_length_le (by rw [marksPair_len]; omega)] at h
        exact ⟨h, by omega⟩
      go_wp2
      go_ret
      refine ⟨by rw [← HE.out.2]; rfl, by rw [← HE.out.1]; exact hown, hgr⟩
set_option maxHeartbeats 2000000 in
set_option maxRecDepth 100000 in
theorem markPairS_nil (k : Nat) (w : World) : Calls Try.prog 26 #[.slice none 0 0, .int .i64 (k : Int)] w fun e w' => e = .returned (.int .i64 (k : Int)) ∧ w = w' := by
  go_enter Try.func26, Try.ntmps26
  go_wp2
  refine wp_loop_rounds 1 ?_
  rw [rounds_succ]
  go_wp2
  go_ret
  exact ⟨rfl, rfl⟩
theorem markPairS_own {B : Nat} {v : Value} (l : List PairL) (hlen : l.length ≤ 1048576) (k : Nat) (h0 : 0 < k) (hk : k ≤ 100000000) (w : World) (hA : w.ownsRow B 40 2 v l.length (cellsPair l)) :
    Calls Try.prog 26 #[v, .int .i64 (k : Int)] w fun e w' => e = .returned (.int .i64 ((k + 2 * l.length : Nat) : Int)) ∧ w'.ownsRow B 40 2 v l.length (cellsPair (marksPair k l.length)) ∧ w.grownBy w' v.ownBlock := by
  rcases hA.2 with ⟨h1, h2⟩ | ⟨g, cap, cur, h1, _⟩
  · subst h1
    have hl : l = [] := List.length_eq_zero_iff.1 h2
    subst hl
    refine (markPairS_nil k w).mono ?_
    rintro e w' ⟨rfl, rfl⟩
    exact ⟨rfl, World.ownsRow_nil _ _ _ _, World.grownBy.refl _ _⟩
  · subst h1
    exact markPairS_is l hlen k h0 hk w hA
end Go.Proofs.Ytijopmkcaoefjaa
