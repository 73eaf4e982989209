/- Lists of entries in memory, 3 cells each; measured, copied, held against each other, marked. Made by program. -/
import Derived.Test.YtddmogggdckneaaKit
import Derived.Test.YtddmogggdckneaaMarkA
import Derived.Test.YtddmogggdckneaaConfA
import Derived.Laws.AppendOwnNone
import Derived.Deep.RegionHeld3
import Derived.Deep.DeepCutAuto
namespace Go.Proofs.Ytddmogggdckneaa
open Go.RowKit
set_option linter.unusedVariables false
set_option linter.unusedSimpArgs false

/-- A slice at a whose elements are these. -/
def EnAt (w : World) (a : Option Addr) (g off : Nat) (l : List EntL) : Prop :=
  (0 < l.length → a = some ⟨g, off, none⟩) ∧ ∀ j (hj : j < l.length), w.cell? ⟨g, off + j * 3, none⟩ = some (.int .i64 l[j].term) ∧ w.cell? ⟨g, off + j * 3 + 1, none⟩ = some (.int .i64 l[j].kind) ∧ w.cell? ⟨g, off + j * 3 + 2, none⟩ = some (.string l[j].data)
theorem EnAt.lt {w : World} {a : Option Addr} {g off : Nat} {l : List EntL} (h : EnAt w a g off l) (hl : 0 < l.length) : g < w.heap.size := World.block_lt_of_cell? w _ (h.2 0 hl).1
theorem EnAt.kept {w w' : World} {a : Option Addr} {g off : Nat} {l : List EntL} (h : EnAt w a g off l) (hb : Below w.heap.size w w') : EnAt w' a g off l := by
  refine ⟨h.1, fun j hj => ?_⟩
  have hg := h.lt (by omega)
  rw [hb.cell (p := ⟨g, off + j * 3, none⟩) hg, hb.cell (p := ⟨g, off + j * 3 + 1, none⟩) hg, hb.cell (p := ⟨g, off + j * 3 + 2, none⟩) hg]
  exact h.2 j hj
def cellsEn (l : List EntL) : List Value := l.flatMap fun r => [.int .i64 r.term, .int .i64 r.kind, .string r.data]
theorem cellsEn_len : ∀ l : List EntL, (cellsEn l).length = l.length * 3
  | [] => rfl
  | r :: l => by have := cellsEn_len l; simp only [cellsEn, List.flatMap_cons, List.length_append, List.length_cons, List.length_nil] at *; omega
theorem cellsEn_app (l m : List EntL) : cellsEn (l ++ m) = cellsEn l ++ cellsEn m := by simp [cellsEn]
theorem cellsEn_at : ∀ (l : List EntL) (j : Nat) (hj : j < l.length), (cellsEn l)[j * 3]? = some (.int .i64 l[j].term) ∧ (cellsEn l)[j * 3 + 1]? = some (.int .i64 l[j].kind) ∧ (cellsEn l)[j * 3 + 2]? = some (.string l[j].data)
  | r :: l, 0, _ => ⟨rfl, rfl, rfl⟩
  | r :: l, j + 1, hj => by
    have := cellsEn_at l j (by simpa using hj)
    simpa [cellsEn, Nat.add_mul, Nat.add_assoc] using this
theorem cellsEn_set : ∀ (l : List EntL) (j : Nat) (r : EntL), cellsEn (l.set j r) = (((cellsEn l).set (j * 3) (.int .i64 r.term)).set (j * 3 + 1) (.int .i64 r.kind)).set (j * 3 + 2) (.string r.data)
  | [], j, r => by simp [cellsEn]
  | x :: l, 0, r => by simp [cellsEn]
  | x :: l, j + 1, r => by
    have := cellsEn_set l j r
    simp only [cellsEn, List.set_cons_succ, List.flatMap_cons, List.cons_append, List.nil_append, Nat.add_mul] at *
    rw [this]
theorem cellsEn_own {w : World} {base : Nat} {e : TypeId} {g n cap : Nat} {l : List EntL} (hn : l.length = n) (h : w.ownsRow base e 3 (.slice (some ⟨g, 0, none⟩) n cap) n (cellsEn l)) : EnAt w (some ⟨g, 0, none⟩) g 0 l := by
  refine ⟨fun _ => rfl, fun j hj => ?_⟩
  rw [Nat.zero_add, h.cellAt (j * 3) (by omega), h.cellAt (j * 3 + 1) (by omega), h.cellAt (j * 3 + 2) (by omega)]
  exact cellsEn_at l j hj
theorem cellsEn_slice {w : World} {base : Nat} {v : Value} {l : List EntL} (h : w.ownsRow base 27 3 v l.length (cellsEn l)) : ∃ a g cap, v = .slice a l.length cap ∧ EnAt w a g 0 l := by
  rcases h.2 with ⟨h1, h2⟩ | ⟨g, cap, cur, h1, _⟩
  · exact ⟨none, 0, 0, by rw [h1, h2], fun q => by omega, fun j hj => by omega⟩
  · subst h1; exact ⟨_, g, cap, rfl, cellsEn_own rfl h⟩
theorem madeEn (n : Nat) : (madeCells #[Value.int .i64 0, Value.int .i64 0, Value.string ByteArray.empty] (n * 3)).toList = cellsEn (List.replicate n ⟨0, 0, ByteArray.empty⟩) := by
  induction n with
  | zero => simp [madeCells, cellsEn]
  | succ n ih =>
    rw [List.replicate_succ', cellsEn_app, ← ih, show (n + 1) * 3 = n * 3 + 3 by omega]
    simp only [madeCells, Array.toList_map, Array.toList_range, List.range_add, List.map_append, List.map_map, Function.comp_def]
    congr 1
    simp [List.range_succ, cellsEn]
def totEn1 (r : EntL) : Nat := r.data.size
def totEn : List EntL → Nat
  | [] => 0
  | r :: l => totEn1 r + 1 + totEn l
theorem totEn_app : ∀ (l m : List EntL), totEn (l ++ m) = totEn l + totEn m
  | [], m => by simp [totEn]
  | r :: l, m => by simp only [List.cons_append, totEn, totEn_app l m]; omega
theorem totEn_len : ∀ l : List EntL, l.length ≤ totEn l
  | [] => by simp [totEn]
  | r :: l => by have := totEn_len l; simp only [List.length_cons, totEn]; omega
theorem totEn_mem : ∀ {l : List EntL} {r : EntL}, r ∈ l → totEn1 r + 1 ≤ totEn l
  | x :: l, r, h => by
    rcases List.mem_cons.1 h with rfl | h
    · simp only [totEn]; omega
    · have := totEn_mem h; simp only [totEn]; omega
theorem totEn_take {l : List EntL} {j : Nat} (hj : j < l.length) : totEn (l.take (j + 1)) = totEn (l.take j) + (totEn1 l[j] + 1) := by
  rw [List.take_succ_eq_append_getElem hj, totEn_app]; simp [totEn]
def smallEn (B : Nat) (r : EntL) : Prop := r.data.size ≤ B
theorem totEn_small {l : List EntL} {B : Nat} (h : totEn l ≤ B) : l.length ≤ B ∧ ∀ r ∈ l, smallEn B r :=
  ⟨Nat.le_trans (totEn_len l) h, fun r hr => by have := totEn_mem hr; unfold totEn1 at this; show _ ≤ _; omega⟩
set_option maxHeartbeats 2000000 in
set_option maxRecDepth 100000 in
theorem szEn1_is (r : EntL) (hr : smallEn maxLen r) (left : Nat) (hl : left ≤ 1048576) (w : World) :
    Calls Try.prog 60 #[entV r, .int .i64 (left : Int)] w fun e w' => ∃ x : Int, e = .returned (.int .i64 x) ∧ Left left (totEn1 r) x ∧ Below w.heap.size w w' := by
  obtain ⟨F0, F1, F2⟩ := r
  unfold smallEn maxLen at hr
  simp only at hr
  unfold entV totEn1
  go_enter Try.func60, Try.ntmps60
  go_wp2
  · go_ret
    exact ⟨_, rfl, Or.inr ⟨by omega, rfl⟩, (Below.refl _ _).alloc (Nat.le_refl _) _⟩
  · go_ret
    exact ⟨_, rfl, Or.inl ⟨by omega, by omega⟩, (Below.refl _ _).alloc (Nat.le_refl _) _⟩
set_option maxHeartbeats 2000000 in
set_option maxRecDepth 100000 in
theorem szEnS_is {a : Option Addr} {g off cap : Nat} (l : List EntL) (hlen : l.length ≤ maxLen) (hsz : ∀ r ∈ l, smallEn maxLen r) (left : Nat) (hl : left ≤ 1048576) (w : World) (hf : EnAt w a g off l) :
    Calls Try.prog 33 #[.slice a l.length cap, .int .i64 (left : Int)] w fun e w' => ∃ x : Int, e = .returned (.int .i64 x) ∧ Left left (totEn l) x ∧ Below w.heap.size w w' := by
  have HF : Hid (EnAt w a g off l) := hf
  have HS : Hid (∀ r ∈ l, smallEn maxLen r) := hsz
  clear hf hsz
  unfold maxLen at hlen
  by_cases h0 : left < l.length
  · have h1 : (left : Int) - (l.length : Int) < 0 := by omega
    go_enter Try.func33, Try.ntmps33
    go_wp2
    go_ret
    exact ⟨_, rfl, Or.inr ⟨by have := totEn_len l; omega, rfl⟩, Below.refl _ _⟩
  · have h1 : ¬ (left : Int) - (l.length : Int) < 0 := by omega
    go_enter Try.func33, Try.ntmps33
    go_wp2
    go_loopw [1, 5] (fun x i wr => ∃ k R : Nat, k ≤ l.length ∧ i = .int .i64 (k : Int) ∧ x = .int .i64 (R : Int) ∧ R + totEn (l.take k) + (l.length - k) = left ∧ Below w.heap.size w wr)
      (fun _ i _ => l.length - (intOf i).toNat)
    case atStart => exact ⟨0, left - l.length, Nat.zero_le _, rfl, by go_num, by simp [totEn]; omega, Below.refl _ _⟩
    case round =>
      obtain ⟨k, R, hk, rfl, rfl, hR, hbel⟩ := hrel
      by_cases hlt : k < l.length
      · have hcc := (HF.out.kept hbel).2 k hlt
        have ea := HF.out.1 (by omega)
        subst ea
        have hs := HS.out l[k] (List.getElem_mem _)
        have HT := totEn_take hlt
        obtain ⟨F0, hF0⟩ : ∃ F0, F0 = l[k].term := ⟨_, rfl⟩
        obtain ⟨F1, hF1⟩ : ∃ F1, F1 = l[k].kind := ⟨_, rfl⟩
        obtain ⟨F2, hF2⟩ : ∃ F2, F2 = l[k].data := ⟨_, rfl⟩
        have HEL : Hid (l[k] = ⟨F0, F1, F2⟩) := by show _ = _; rw [hF0, hF1, hF2]
        simp only [← hF0, ← hF1, ← hF2] at hcc
        obtain ⟨c0, c1, c2⟩ := hcc
        rw [HEL.out] at hs HT
        have HS1 : Hid _ := hs
        have HT1 : Hid _ := HT
        obtain ⟨Z, hZ⟩ : ∃ Z, Z = totEn1 ⟨F0, F1, F2⟩ := ⟨_, rfl⟩
        have HZ : Hid (Z = totEn1 ⟨F0, F1, F2⟩) := hZ
        clear hs HT hZ hF0 hF1 hF2
        have hk0 : (0 : Int) ≤ (k : Int) := by omega
        have hk1 : (k : Int) < (l.length : Int) := by omega
        have hRl : R ≤ 1048576 := by omega
        go_wp2_with fail
        refine (szEn1_is ⟨F0, F1, F2⟩ HS1.out R hRl wr).mono ?_
        rintro e w1 ⟨x, rfl, hx, hb1⟩
        have hx' : Left R (totEn1 ⟨F0, F1, F2⟩) x := hx
        rw [← HZ.out] at hx'
        clear hx
        rcases hx' with ⟨hx1, hx2⟩ | ⟨hx1, hx2⟩
        · obtain ⟨Y, hY⟩ : ∃ Y : Nat, Y = R - Z := ⟨_, rfl⟩
          rw [← hY] at hx2
          subst hx2
          have HY : Hid (Y = R - Z) := hY
          clear hY
          have hB : Below w.heap.size w w1 := hbel.trans (hb1.mono hbel.size)
          go_wp2
          go_roundw
          case rel => exact ⟨k + 1, Y, by omega, by go_num, rfl, by rw [HT1.out, ← HZ.out]; have := HY.out; omega, hB⟩
          case measure => simp [intOf]; omega
        · subst hx2
          have hB : Below w.heap.size w w1 := hbel.trans (hb1.mono hbel.size)
          have hno : ¬ totEn l ≤ left := by
            have e1 := totEn_app (l.take (k + 1)) (l.drop (k + 1))
            rw [List.take_append_drop] at e1
            have e2 := totEn_len (l.drop (k + 1))
            rw [List.length_drop] at e2
            have := HT1.out
            rw [← HZ.out] at this
            omega
          have HN : Hid (¬ totEn l ≤ left) := hno
          clear hno
          go_wp2
          go_ret
          exact ⟨_, rfl, Or.inr ⟨HN.out, rfl⟩, hB⟩
      · have hk1 : ¬ (k : Int) < (l.length : Int) := by omega
        have HN : Hid (totEn l + R = left) := by
          show _ = _
          rw [List.take_of_length_le (by omega)] at hR
          omega
        clear hR
        go_wp2
        go_ret
        exact ⟨_, rfl, Or.inl ⟨by have := HN.out; omega, by have := HN.out; omega⟩, hbel⟩
set_option maxHeartbeats 2000000 in
set_option maxRecDepth 100000 in
theorem toEn1_is (r : EntL) (w : World) : Calls Try.prog 61 #[entV r] w fun e w' => e = .returned (entV r) ∧ Below w.heap.size w w' := by
  obtain ⟨F0, F1, F2⟩ := r
  unfold entV
  go_enter Try.func61, Try.ntmps61
  go_wp2
  refine bodyPost_ret (v := .agg #[.int .i64 F0, .int .i64 F1, .string F2]) (by simp [results, Try.results61, go_sem]) rfl ⟨rfl, ?_⟩
  exact (((Below.refl _ _).alloc (Nat.le_refl _) _).alloc (by simp) _).alloc (by simp; omega) _
theorem Try.info27 : (Try.prog.info? 27).map (fun i => (i.zero, i.size, i.bytes)) = some (some (.agg #[.int .i64 0, .int .i64 0, .string ByteArray.empty]), 3, 32) := by kernel_rfl
set_option maxHeartbeats 2000000 in
set_option maxRecDepth 100000 in
theorem toEnS_is {a : Option Addr} {g off cap : Nat} (l : List EntL) (hlen : l.length ≤ 1048576) (w : World) (hf : EnAt w a g off l) :
    Calls Try.prog 36 #[.slice a l.length cap] w fun e w' => e = .returned (.slice (some ⟨w.heap.size, 0, none⟩) l.length l.length) ∧
      w'.ownsRow w.heap.size 27 3 (.slice (some ⟨w.heap.size, 0, none⟩) l.length l.length) l.length (cellsEn l) ∧ Below w.heap.size w w' := by
  obtain ⟨i0, hi, hz0, hz1, hz2⟩ := info_parts Try.info27
  have HF : Hid (EnAt w a g off l) := hf
  clear hf
  go_enter Try.func36, Try.ntmps36
  go_wp2_with (at_make; refine wpList_make_full _ rfl _ _ 30 rfl w.heap.size 27 i0 (.agg #[.int .i64 0, .int .i64 0, .string ByteArray.empty]) 3 Try.underlying30 hi hz0 hz1 _ _ _ _ l.length rfl rfl (by omega) (by omega) ?b2 ?b3 (Nat.le_refl _) ?_)
  case b2 => rw [hz2]; omega
  case b3 => unfold maxLen; omega
  intro w0 hown0 hgrow0
  have hbel0 : Below w.heap.size w w0 := (Below.refl _ _).grown hgrow0 (Nat.le_refl _) (by simp)
  have hown0' : w0.ownsRow w.heap.size 27 3 (.slice (some ⟨w.heap.size, 0, none⟩) l.length l.length) l.length (cellsEn (List.replicate l.length ⟨0, 0, ByteArray.empty⟩)) := by rw [← madeEn]; exact hown0
  clear hgrow0 hown0
  go_wp2
  go_loopw [4] (fun i wr => ∃ (k : Nat) (pre : List EntL), k ≤ l.length ∧ i = .int .i64 (k : Int) ∧ pre.length = l.length ∧ pre.take k = l.take k ∧
      wr.ownsRow w.heap.size 27 3 (.slice (some ⟨w.heap.size, 0, none⟩) l.length l.length) l.length (cellsEn pre) ∧ Below w.heap.size w wr)
    (fun i _ => l.length - (intOf i).toNat)
  case atStart => exact ⟨0, _, Nat.zero_le _, rfl, by simp, by simp, hown0', hbel0⟩
  case round =>
    obtain ⟨k, pre, hk, rfl, hpl, hpt, hown, hbel⟩ := hrel
    have HL : Hid (pre.length = l.length) := hpl
    have HT : Hid (pre.take k = l.take k) := hpt
    clear hpl hpt hown0' hbel0
    by_cases hlt : k < l.length
    · have hcc := (HF.out.kept hbel).2 k hlt
      have ea := HF.out.1 (by omega)
      subst ea
      have hgz := HF.out.lt (by omega)
      obtain ⟨F0, hF0⟩ : ∃ F0, F0 = l[k].term := ⟨_, rfl⟩
      obtain ⟨F1, hF1⟩ : ∃ F1, F1 = l[k].kind := ⟨_, rfl⟩
      obtain ⟨F2, hF2⟩ : ∃ F2, F2 = l[k].data := ⟨_, rfl⟩
      have HEL : Hid (l[k] = ⟨F0, F1, F2⟩) := by show _ = _; rw [hF0, hF1, hF2]
      simp only [← hF0, ← hF1, ← hF2] at hcc
      obtain ⟨c0, c1, c2⟩ := hcc
      clear hF0 hF1 hF2
      have hk0 : (0 : Int) ≤ (k : Int) := by omega
      have hk1 : (k : Int) < (l.length : Int) := by omega
      go_wp2_with fail
      refine (toEn1_is ⟨F0, F1, F2⟩ wr).mono ?_
      rintro e w1 ⟨rfl, hb1⟩
      unfold entV
      have hown1 := own_kept hown hb1
      have hbel1 : Below w.heap.size w w1 := hbel.trans (hb1.mono hbel.size)
      have hf0 := hown1.frozenAt (k * 3)
      have hf1 := hown1.frozenAt (k * 3 + 1)
      have hf2 := hown1.frozenAt (k * 3 + 2)
      obtain ⟨u0, hu0⟩ : ∃ u0, w1.cell? ⟨w.heap.size, k * 3, none⟩ = some u0 := by
        rw [hown1.cellAt (k * 3) (by omega)]
        exact ⟨_, (cellsEn_at pre k (by rw [HL.out]; exact hlt)).1⟩
      obtain ⟨u1, hu1⟩ : ∃ u1, w1.cell? ⟨w.heap.size, k * 3 + 1, none⟩ = some u1 := by
        rw [hown1.cellAt (k * 3 + 1) (by omega)]
        exact ⟨_, (cellsEn_at pre k (by rw [HL.out]; exact hlt)).2.1⟩
      obtain ⟨u2, hu2⟩ : ∃ u2, w1.cell? ⟨w.heap.size, k * 3 + 2, none⟩ = some u2 := by
        rw [hown1.cellAt (k * 3 + 2) (by omega)]
        exact ⟨_, (cellsEn_at pre k (by rw [HL.out]; exact hlt)).2.2⟩
      have hst := (((hown1.stored (k * 3) (.int .i64 F0)).1.stored (k * 3 + 1) (.int .i64 F1)).1.stored (k * 3 + 2) (.string F2))
      rw [← cellsEn_set pre k ⟨F0, F1, F2⟩] at hst
      have HST : Hid (_ ∧ _) := hst
      clear hst hb1 hown hbel
      go_wp2
      go_roundw
      case rel => exact ⟨k + 1, pre.set k ⟨F0, F1, F2⟩, by omega, by go_num, by rw [List.length_set]; exact HL.out, take_set_step hlt HL.out HT.out HEL.out, HST.out.1, (((hbel1.setCell (Nat.le_refl _) _).setCell (Nat.le_refl _) _).setCell (Nat.le_refl _) _)⟩
      case measure => simp [intOf]; omega
    · have hk1 : ¬ (k : Int) < (l.length : Int) := by omega
      have HE : Hid (pre = l) := by
        show _ = _
        have h := HT.out
        rwa [List.take_of_length_le (by rw [HL.out]; omega), List.take_of_length_le (by omega)] at h
      go_wp2
      go_ret
      exact ⟨rfl, by rw [HE.out] at hown; exact hown, hbel⟩
set_option maxHeartbeats 2000000 in
set_option maxRecDepth 100000 in
theorem eqEn1_same (r : EntL) (w : World) : Calls Try.prog 12 #[entV r, entV r] w fun e w' => e = .returned (.bool true) ∧ Below w.heap.size w w' := by
  obtain ⟨F0, F1, F2⟩ := r
  unfold entV
  go_enter Try.func12, Try.ntmps12
  go_wp2
  go_ret
  exact ⟨rfl, ((Below.refl _ _).alloc (Nat.le_refl _) _).alloc (by simp) _⟩
set_option maxHeartbeats 2000000 in
set_option maxRecDepth 100000 in
theorem eqEnS_same {a b : Option Addr} {g off cap h off' cap' : Nat} (l : List EntL) (hlen : l.length ≤ 1048576) (w : World) (hf : EnAt w a g off l) (hf' : EnAt w b h off' l) :
    Calls Try.prog 40 #[.slice a l.length cap, .slice b l.length cap'] w fun e w' => e = .returned (.bool true) ∧ Below w.heap.size w w' := by
  have HF : Hid (EnAt w a g off l) := hf
  have HF' : Hid (EnAt w b h off' l) := hf'
  clear hf hf'
  go_enter Try.func40, Try.ntmps40
  go_wp2
  go_loopw [5] (fun i wr => ∃ k : Nat, k ≤ l.length ∧ i = .int .i64 (k : Int) ∧ Below w.heap.size w wr)
    (fun i _ => l.length - (intOf i).toNat)
  case atStart => exact ⟨0, Nat.zero_le _, rfl, Below.refl _ _⟩
  case round =>
    obtain ⟨k, hk, rfl, hbel⟩ := hrel
    by_cases hlt : k < l.length
    · have hcc := (HF.out.kept hbel).2 k hlt
      have hdd := (HF'.out.kept hbel).2 k hlt
      have ea := HF.out.1 (by omega)
      have eb := HF'.out.1 (by omega)
      subst ea eb
      obtain ⟨F0, hF0⟩ : ∃ F0, F0 = l[k].term := ⟨_, rfl⟩
      obtain ⟨F1, hF1⟩ : ∃ F1, F1 = l[k].kind := ⟨_, rfl⟩
      obtain ⟨F2, hF2⟩ : ∃ F2, F2 = l[k].data := ⟨_, rfl⟩
      have HEL : Hid (l[k] = ⟨F0, F1, F2⟩) := by show _ = _; rw [hF0, hF1, hF2]
      simp only [← hF0, ← hF1, ← hF2] at hcc hdd
      obtain ⟨c0, c1, c2⟩ := hcc
      obtain ⟨d0, d1, d2⟩ := hdd
      clear hF0 hF1 hF2
      have hk0 : (0 : Int) ≤ (k : Int) := by omega
      have hk1 : (k : Int) < (l.length : Int) := by omega
      go_wp2
      have NE := Abv.ne wr
      have C0 := fun x : Abv wr => x.cell c0
      have D0 := fun x : Abv wr => x.cell d0
      have C1 := fun x : Abv wr => x.cell c1
      have D1 := fun x : Abv wr => x.cell d1
      have C2 := fun x : Abv wr => x.cell c2
      have D2 := fun x : Abv wr => x.cell d2
      refine wp_region_above (by kernel_rfl) (by kernel_rfl) ?_
      repeat (go_big_quiet_step (first | (go_at_call 12; exact calls_above (eqEn1_same ⟨F0, F1, F2⟩ _))))
      refine wpQuiet_nil ?_
      rintro w1 ⟨⟨_, hb1⟩, rfl⟩
      clear NE C0 D0 C1 D1 C2 D2
      go_wp2
      go_roundw
      case rel => exact ⟨k + 1, by omega, by go_num, hbel.trans (hb1.mono hbel.size)⟩
      case measure => simp [intOf]; omega
    · have hk1 : ¬ (k : Int) < (l.length : Int) := by omega
      go_wp2
      go_ret
      exact ⟨rfl, hbel⟩
theorem EnAt.cellsAll {w : World} {a : Option Addr} {g off : Nat} {l : List EntL} (h : EnAt w a g off l) : ∀ j u, (cellsEn l)[j]? = some u → w.cell? ((⟨g, off, none⟩ : Addr).add j) = some u := by
  intro j u hu
  rw [Addr.add_lit]
  have hj : j < l.length * 3 := by rw [← cellsEn_len]; exact (List.getElem?_eq_some_iff.1 hu).1
  obtain ⟨k, i, hi, rfl⟩ : ∃ k i, i < 3 ∧ j = k * 3 + i := ⟨j / 3, j % 3, by omega, by omega⟩
  have h1 := cellsEn_at l k (by omega)
  have h2 := h.2 k (by omega)
  have h3 : i = 0 ∨ i = 1 ∨ i = 2 := by omega
  rcases h3 with rfl | rfl | rfl
  · rw [show k * 3 + 0 = k * 3 from by omega, h1.1] at hu
    rw [← Option.some.inj hu]
    simpa [Nat.add_assoc] using h2.1
  · rw [h1.2.1] at hu
    rw [← Option.some.inj hu]
    simpa [Nat.add_assoc] using h2.2.1
  · rw [h1.2.2] at hu
    rw [← Option.some.inj hu]
    simpa [Nat.add_assoc] using h2.2.2
theorem cellsEn_one {l : List EntL} : ∀ u ∈ cellsEn l, u.oneCell' = true := by
  intro u hu
  unfold cellsEn at hu
  obtain ⟨r, _, hr⟩ := List.mem_flatMap.1 hu
  simp only [List.mem_cons, List.not_mem_nil, or_false] at hr
  rcases hr with rfl | rfl | rfl <;> rfl
/-- 'append(x, y...)' onto a row of the call's own. -/
theorem wpList_appendEn {w : World} {ops : Array Oper} {rest : List Oper} {o : Oper} {act : Act} {Q : Exit → Act → World → Prop} (hgd : o.guard = none) (s x : Operand)
    (ho : o.op = .call { callee := .builtin .append, args := #[s, x], argTypes := #[30, 30] }) (base : Nat) (v : Value) (n : Nat) (xs : List Value) (hs : act.eval s = v) (hown : w.ownsRow base 27 3 v n xs)
    (a : Option Addr) (g off cap : Nat) (l : List EntL) (hx : act.eval x = .slice a l.length cap) (hf : EnAt w a g off l) (hnil : a = none → cap = 0) (h63 : n + l.length ≤ 2097152) (hbase : base ≤ w.heap.size)
    (h : ∀ v' w', w'.ownsRow base 27 3 v' (n + l.length) (xs ++ cellsEn l) → w.grownBy w' v.ownBlock → wpList Try.prog ops Q rest (act.put o.dst v') w') : wpList Try.prog ops Q (o :: rest) act w := by
  obtain ⟨i0, hi, hz0, hz1, hz2⟩ := info_parts Try.info27
  cases a with
  | none =>
    have hl : l = [] := by
      cases l with
      | nil => rfl
      | cons f r => have := hf.1 (by simp); cases this
    subst hl
    rw [hnil rfl] at hx
    refine wpList_append_own_none hgd s x 30 ho base 27 i0 3 Try.underlying30 hi v n xs hs hown hx ?_
    refine h v w ?_ (World.grownBy.refl _ _)
    simpa [cellsEn] using hown
  | some ad =>
    have had : 0 < l.length → ad = ⟨g, off, none⟩ := fun hp => Option.some.inj (hf.1 hp)
    refine wpList_append_own w hgd s x 30 ho base 27 i0 (.agg #[.int .i64 0, .int .i64 0, .string ByteArray.empty]) 3 32 Try.underlying30 hi hz0 hz1 hz2 rfl (by decide) v n xs hs hown ad l.length cap (cellsEn l) hx (cellsEn_len l) ?_ cellsEn_one (by unfold maxLen; omega) (by omega) hbase ?_
    · intro j u hu
      have hp : 0 < l.length := by
        have := (List.getElem?_eq_some_iff.1 hu).1
        rw [cellsEn_len] at this
        omega
      rw [had hp]
      exact hf.cellsAll j u hu
    · intro v' w' h1 h2 _
      exact h v' w' h1 h2
/-- Marked ones: from k on, 3 numbers each. -/
def markEn1 (m : Nat) : EntL := ⟨((m : Nat) : Int), ((m + 1 : Nat) : Int), mk (m + 2)⟩
def marksEn (k n : Nat) : List EntL := (List.range n).map fun i => markEn1 (k + 3 * i)
theorem marksEn_len (k n : Nat) : (marksEn k n).length = n := by simp [marksEn]
theorem marksEn_at (k n j : Nat) (hj : j < (marksEn k n).length) : (marksEn k n)[j] = markEn1 (k + 3 * j) := by simp [marksEn]
end Go.Proofs.Ytddmogggdckneaa
