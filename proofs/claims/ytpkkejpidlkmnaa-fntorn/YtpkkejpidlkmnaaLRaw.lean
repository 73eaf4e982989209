/- Lists of raw writes in memory, 4 cells each; measured, copied, held against each other, marked. Made by program. -/
import Derived.Test.YtpkkejpidlkmnaaRaws
import Derived.Test.YtpkkejpidlkmnaaRawArg
import Derived.Test.YtpkkejpidlkmnaaAbove
import Derived.Test.YtpkkejpidlkmnaaSz
import Derived.Laws.AppendOwnNone
import Derived.Deep.RegionHeld3
import Derived.Deep.DeepCutAuto
namespace Go.Proofs.Ytpkkejpidlkmnaa
open Go.RowKit
set_option linter.unusedVariables false
set_option linter.unusedSimpArgs false

def cellsRaw (l : List Disks.RawL) : List Value := l.flatMap fun r => [.int .i64 r.kind, .string r.name, .string r.to, .string r.text]
theorem cellsRaw_len : ∀ l : List Disks.RawL, (cellsRaw l).length = l.length * 4
  | [] => rfl
  | r :: l => by have := cellsRaw_len l; simp only [cellsRaw, List.flatMap_cons, List.length_append, List.length_cons, List.length_nil] at *; omega
theorem cellsRaw_app (l m : List Disks.RawL) : cellsRaw (l ++ m) = cellsRaw l ++ cellsRaw m := by simp [cellsRaw]
theorem cellsRaw_at : ∀ (l : List Disks.RawL) (j : Nat) (hj : j < l.length), (cellsRaw l)[j * 4]? = some (.int .i64 l[j].kind) ∧ (cellsRaw l)[j * 4 + 1]? = some (.string l[j].name) ∧ (cellsRaw l)[j * 4 + 2]? = some (.string l[j].to) ∧ (cellsRaw l)[j * 4 + 3]? = some (.string l[j].text)
  | r :: l, 0, _ => ⟨rfl, rfl, rfl, rfl⟩
  | r :: l, j + 1, hj => by
    have := cellsRaw_at l j (by simpa using hj)
    simpa [cellsRaw, Nat.add_mul, Nat.add_assoc] using this
theorem cellsRaw_set : ∀ (l : List Disks.RawL) (j : Nat) (r : Disks.RawL), cellsRaw (l.set j r) = ((((cellsRaw l).set (j * 4) (.int .i64 r.kind)).set (j * 4 + 1) (.string r.name)).set (j * 4 + 2) (.string r.to)).set (j * 4 + 3) (.string r.text)
  | [], j, r => by simp [cellsRaw]
  | x :: l, 0, r => by simp [cellsRaw]
  | x :: l, j + 1, r => by
    have := cellsRaw_set l j r
    simp only [cellsRaw, List.set_cons_succ, List.flatMap_cons, List.cons_append, List.nil_append, Nat.add_mul] at *
    rw [this]
theorem cellsRaw_own {w : World} {base : Nat} {e : TypeId} {g n cap : Nat} {l : List Disks.RawL} (hn : l.length = n) (h : w.ownsRow base e 4 (.slice (some ⟨g, 0, none⟩) n cap) n (cellsRaw l)) : RawsAt w (some ⟨g, 0, none⟩) g 0 l := by
  refine ⟨fun _ => rfl, fun j hj => ?_⟩
  rw [Nat.zero_add, h.cellAt (j * 4) (by omega), h.cellAt (j * 4 + 1) (by omega), h.cellAt (j * 4 + 2) (by omega), h.cellAt (j * 4 + 3) (by omega)]
  exact cellsRaw_at l j hj
theorem cellsRaw_slice {w : World} {base : Nat} {v : Value} {l : List Disks.RawL} (h : w.ownsRow base 45 4 v l.length (cellsRaw l)) : ∃ a g cap, v = .slice a l.length cap ∧ RawsAt w a g 0 l := by
  rcases h.2 with ⟨h1, h2⟩ | ⟨g, cap, cur, h1, _⟩
  · exact ⟨none, 0, 0, by rw [h1, h2], fun q => by omega, fun j hj => by omega⟩
  · subst h1; exact ⟨_, g, cap, rfl, cellsRaw_own rfl h⟩
theorem madeRaw (n : Nat) : (madeCells #[Value.int .i64 0, Value.string ByteArray.empty, Value.string ByteArray.empty, Value.string ByteArray.empty] (n * 4)).toList = cellsRaw (List.replicate n ⟨0, ByteArray.empty, ByteArray.empty, ByteArray.empty⟩) := by
  induction n with
  | zero => simp [madeCells, cellsRaw]
  | succ n ih =>
    rw [List.replicate_succ', cellsRaw_app, ← ih, show (n + 1) * 4 = n * 4 + 4 by omega]
    simp only [madeCells, Array.toList_map, Array.toList_range, List.range_add, List.map_append, List.map_map, Function.comp_def]
    congr 1
    simp [List.range_succ, cellsRaw]
def totRaw1 (r : Disks.RawL) : Nat := totR r
def totRaw : List Disks.RawL → Nat
  | [] => 0
  | r :: l => totRaw1 r + 1 + totRaw l
theorem totRaw_app : ∀ (l m : List Disks.RawL), totRaw (l ++ m) = totRaw l + totRaw m
  | [], m => by simp [totRaw]
  | r :: l, m => by simp only [List.cons_append, totRaw, totRaw_app l m]; omega
theorem totRaw_len : ∀ l : List Disks.RawL, l.length ≤ totRaw l
  | [] => by simp [totRaw]
  | r :: l => by have := totRaw_len l; simp only [List.length_cons, totRaw]; omega
theorem totRaw_mem : ∀ {l : List Disks.RawL} {r : Disks.RawL}, r ∈ l → totRaw1 r + 1 ≤ totRaw l
  | x :: l, r, h => by
    rcases List.mem_cons.1 h with rfl | h
    · simp only [totRaw]; omega
    · have := totRaw_mem h; simp only [totRaw]; omega
theorem totRaw_take {l : List Disks.RawL} {j : Nat} (hj : j < l.length) : totRaw (l.take (j + 1)) = totRaw (l.take j) + (totRaw1 l[j] + 1) := by
  rw [List.take_succ_eq_append_getElem hj, totRaw_app]; simp [totRaw]
def smallRaw (B : Nat) (r : Disks.RawL) : Prop := r.name.size ≤ B ∧ r.to.size ≤ B ∧ r.text.size ≤ B
theorem totRaw_small {l : List Disks.RawL} {B : Nat} (h : totRaw l ≤ B) : l.length ≤ B ∧ ∀ r ∈ l, smallRaw B r :=
  ⟨Nat.le_trans (totRaw_len l) h, fun r hr => by have := totRaw_mem hr; unfold totRaw1 totR at this; exact ⟨by omega, by omega, by omega⟩⟩
set_option maxHeartbeats 2000000 in
set_option maxRecDepth 100000 in
theorem szRawS_is {a : Option Addr} {g off cap : Nat} (l : List Disks.RawL) (hlen : l.length ≤ maxLen) (hsz : ∀ r ∈ l, smallRaw maxLen r) (left : Nat) (hl : left ≤ 1048576) (w : World) (hf : RawsAt w a g off l) :
    Calls Try.prog 32 #[.slice a l.length cap, .int .i64 (left : Int)] w fun e w' => ∃ x : Int, e = .returned (.int .i64 x) ∧ Left left (totRaw l) x ∧ Below w.heap.size w w' := by
  have HF : Hid (RawsAt w a g off l) := hf
  have HS : Hid (∀ r ∈ l, smallRaw maxLen r) := hsz
  clear hf hsz
  unfold maxLen at hlen
  by_cases h0 : left < l.length
  · have h1 : (left : Int) - (l.length : Int) < 0 := by omega
    go_enter Try.func32, Try.ntmps32
    go_wp2
    go_ret
    exact ⟨_, rfl, Or.inr ⟨by have := totRaw_len l; omega, rfl⟩, Below.refl _ _⟩
  · have h1 : ¬ (left : Int) - (l.length : Int) < 0 := by omega
    go_enter Try.func32, Try.ntmps32
    go_wp2
    go_loopw [1, 5] (fun x i wr => ∃ k R : Nat, k ≤ l.length ∧ i = .int .i64 (k : Int) ∧ x = .int .i64 (R : Int) ∧ R + totRaw (l.take k) + (l.length - k) = left ∧ Below w.heap.size w wr)
      (fun _ i _ => l.length - (intOf i).toNat)
    case atStart => exact ⟨0, left - l.length, Nat.zero_le _, rfl, by go_num, by simp [totRaw]; omega, Below.refl _ _⟩
    case round =>
      obtain ⟨k, R, hk, rfl, rfl, hR, hbel⟩ := hrel
      by_cases hlt : k < l.length
      · have hcc := (HF.out.kept hbel).2 k hlt
        have ea := HF.out.1 (by omega)
        subst ea
        have hs := HS.out l[k] (List.getElem_mem _)
        have HT := totRaw_take hlt
        obtain ⟨F0, hF0⟩ : ∃ F0, F0 = l[k].kind := ⟨_, rfl⟩
        obtain ⟨F1, hF1⟩ : ∃ F1, F1 = l[k].name := ⟨_, rfl⟩
        obtain ⟨F2, hF2⟩ : ∃ F2, F2 = l[k].to := ⟨_, rfl⟩
        obtain ⟨F3, hF3⟩ : ∃ F3, F3 = l[k].text := ⟨_, rfl⟩
        have HEL : Hid (l[k] = ⟨F0, F1, F2, F3⟩) := by show _ = _; rw [hF0, hF1, hF2, hF3]
        simp only [← hF0, ← hF1, ← hF2, ← hF3] at hcc
        obtain ⟨c0, c1, c2, c3⟩ := hcc
        rw [HEL.out] at hs HT
        have HS1 : Hid _ := hs
        have HT1 : Hid _ := HT
        obtain ⟨Z, hZ⟩ : ∃ Z, Z = totRaw1 ⟨F0, F1, F2, F3⟩ := ⟨_, rfl⟩
        have HZ : Hid (Z = totRaw1 ⟨F0, F1, F2, F3⟩) := hZ
        clear hs HT hZ hF0 hF1 hF2 hF3
        have hk0 : (0 : Int) ≤ (k : Int) := by omega
        have hk1 : (k : Int) < (l.length : Int) := by omega
        have hRl : R ≤ 1048576 := by omega
        go_wp2_with fail
        refine (szRaw_is ⟨F0, F1, F2, F3⟩ HS1.out R hRl wr).mono ?_
        rintro e w1 ⟨x, rfl, hx, hb1⟩
        have hx' : Left R (totRaw1 ⟨F0, F1, F2, F3⟩) x := hx
        rw [← HZ.out] at hx'
        clear hx
        rcases hx' with ⟨hx1, hx2⟩ | ⟨hx1, hx2⟩
        · obtain ⟨Y, hY⟩ : ∃ Y : Nat, Y = R - Z := ⟨_, rfl⟩
          rw [← hY] at hx2
          subst hx2
          have HY : Hid (Y = R - Z) := hY
          clear hY
          have hB : Below w.heap.size w w1 := hbel.trans (hb1.mono hbel.size)
          go_wp2
          go_roundw
          case rel => exact ⟨k + 1, Y, by omega, by go_num, rfl, by rw [HT1.out, ← HZ.out]; have := HY.out; omega, hB⟩
          case measure => simp [intOf]; omega
        · subst hx2
          have hB : Below w.heap.size w w1 := hbel.trans (hb1.mono hbel.size)
          have hno : ¬ totRaw l ≤ left := by
            have e1 := totRaw_app (l.take (k + 1)) (l.drop (k + 1))
            rw [List.take_append_drop] at e1
            have e2 := totRaw_len (l.drop (k + 1))
            rw [List.length_drop] at e2
            have := HT1.out
            rw [← HZ.out] at this
            omega
          have HN : Hid (¬ totRaw l ≤ left) := hno
          clear hno
          go_wp2
          go_ret
          exact ⟨_, rfl, Or.inr ⟨HN.out, rfl⟩, hB⟩
      · have hk1 : ¬ (k : Int) < (l.length : Int) := by omega
        have HN : Hid (totRaw l + R = left) := by
          show _ = _
          rw [List.take_of_length_le (by omega)] at hR
          omega
        clear hR
        go_wp2
        go_ret
        exact ⟨_, rfl, Or.inl ⟨by have := HN.out; omega, by have := HN.out; omega⟩, hbel⟩
theorem Try.info45 : (Try.prog.info? 45).map (fun i => (i.zero, i.size, i.bytes)) = some (some (.agg #[.int .i64 0, .string ByteArray.empty, .string ByteArray.empty, .string ByteArray.empty]), 4, 56) := by kernel_rfl
set_option maxHeartbeats 2000000 in
set_option maxRecDepth 100000 in
theorem toRawS_is {a : Option Addr} {g off cap : Nat} (l : List Disks.RawL) (hlen : l.length ≤ 1048576) (w : World) (hf : RawsAt w a g off l) :
    Calls Try.prog 34 #[.slice a l.length cap] w fun e w' => e = .returned (.slice (some ⟨w.heap.size, 0, none⟩) l.length l.length) ∧
      w'.ownsRow w.heap.size 45 4 (.slice (some ⟨w.heap.size, 0, none⟩) l.length l.length) l.length (cellsRaw l) ∧ Below w.heap.size w w' := by
  obtain ⟨i0, hi, hz0, hz1, hz2⟩ := info_parts Try.info45
  have HF : Hid (RawsAt w a g off l) := hf
  clear hf
  go_enter Try.func34, Try.ntmps34
  go_wp2_with (at_make; refine wpList_make_full _ rfl _ _ 53 rfl w.heap.size 45 i0 (.agg #[.int .i64 0, .string ByteArray.empty, .string ByteArray.empty, .string ByteArray.empty]) 4 Try.underlying53 hi hz0 hz1 _ _ _ _ l.length rfl rfl (by omega) (by omega) ?b2 ?b3 (Nat.le_refl _) ?_)
  case b2 => rw [hz2]; omega
  case b3 => unfold maxLen; omega
  intro w0 hown0 hgrow0
  have hbel0 : Below w.heap.size w w0 := (Below.refl _ _).grown hgrow0 (Nat.le_refl _) (by simp)
  have hown0' : w0.ownsRow w.heap.size 45 4 (.slice (some ⟨w.heap.size, 0, none⟩) l.length l.length) l.length (cellsRaw (List.replicate l.length ⟨0, ByteArray.empty, ByteArray.empty, ByteArray.empty⟩)) := by rw [← madeRaw]; exact hown0
  clear hgrow0 hown0
  go_wp2
  go_loopw [4] (fun i wr => ∃ (k : Nat) (pre : List Disks.RawL), k ≤ l.length ∧ i = .int .i64 (k : Int) ∧ pre.length = l.length ∧ pre.take k = l.take k ∧
      wr.ownsRow w.heap.size 45 4 (.slice (some ⟨w.heap.size, 0, none⟩) l.length l.length) l.length (cellsRaw pre) ∧ Below w.heap.size w wr)
    (fun i _ => l.length - (intOf i).toNat)
  case atStart => exact ⟨0, _, Nat.zero_le _, rfl, by simp, by simp, hown0', hbel0⟩
  case round =>
    obtain ⟨k, pre, hk, rfl, hpl, hpt, hown, hbel⟩ := hrel
    have HL : Hid (pre.length = l.length) := hpl
    have HT : Hid (pre.take k = l.take k) := hpt
    clear hpl hpt hown0' hbel0
    by_cases hlt : k < l.length
    · have hcc := (HF.out.kept hbel).2 k hlt
      have ea := HF.out.1 (by omega)
      subst ea
      have hgz := HF.out.lt (by omega)
      obtain ⟨F0, hF0⟩ : ∃ F0, F0 = l[k].kind := ⟨_, rfl⟩
      obtain ⟨F1, hF1⟩ : ∃ F1, F1 = l[k].name := ⟨_, rfl⟩
      obtain ⟨F2, hF2⟩ : ∃ F2, F2 = l[k].to := ⟨_, rfl⟩
      obtain ⟨F3, hF3⟩ : ∃ F3, F3 = l[k].text := ⟨_, rfl⟩
      have HEL : Hid (l[k] = ⟨F0, F1, F2, F3⟩) := by show _ = _; rw [hF0, hF1, hF2, hF3]
      simp only [← hF0, ← hF1, ← hF2, ← hF3] at hcc
      obtain ⟨c0, c1, c2, c3⟩ := hcc
      clear hF0 hF1 hF2 hF3
      have hk0 : (0 : Int) ≤ (k : Int) := by omega
      have hk1 : (k : Int) < (l.length : Int) := by omega
      go_wp2_with fail
      refine (toRaw_is ⟨F0, F1, F2, F3⟩ wr).mono ?_
      rintro e w1 ⟨rfl, hb1⟩
      unfold rawV
      have hown1 := own_kept hown hb1
      have hbel1 : Below w.heap.size w w1 := hbel.trans (hb1.mono hbel.size)
      have hf0 := hown1.frozenAt (k * 4)
      have hf1 := hown1.frozenAt (k * 4 + 1)
      have hf2 := hown1.frozenAt (k * 4 + 2)
      have hf3 := hown1.frozenAt (k * 4 + 3)
      obtain ⟨u0, hu0⟩ : ∃ u0, w1.cell? ⟨w.heap.size, k * 4, none⟩ = some u0 := by
        rw [hown1.cellAt (k * 4) (by omega)]
        exact ⟨_, (cellsRaw_at pre k (by rw [HL.out]; exact hlt)).1⟩
      obtain ⟨u1, hu1⟩ : ∃ u1, w1.cell? ⟨w.heap.size, k * 4 + 1, none⟩ = some u1 := by
        rw [hown1.cellAt (k * 4 + 1) (by omega)]
        exact ⟨_, (cellsRaw_at pre k (by rw [HL.out]; exact hlt)).2.1⟩
      obtain ⟨u2, hu2⟩ : ∃ u2, w1.cell? ⟨w.heap.size, k * 4 + 2, none⟩ = some u2 := by
        rw [hown1.cellAt (k * 4 + 2) (by omega)]
        exact ⟨_, (cellsRaw_at pre k (by rw [HL.out]; exact hlt)).2.2.1⟩
      obtain ⟨u3, hu3⟩ : ∃ u3, w1.cell? ⟨w.heap.size, k * 4 + 3, none⟩ = some u3 := by
        rw [hown1.cellAt (k * 4 + 3) (by omega)]
        exact ⟨_, (cellsRaw_at pre k (by rw [HL.out]; exact hlt)).2.2.2⟩
      have hst := ((((hown1.stored (k * 4) (.int .i64 F0)).1.stored (k * 4 + 1) (.string F1)).1.stored (k * 4 + 2) (.string F2)).1.stored (k * 4 + 3) (.string F3))
      rw [← cellsRaw_set pre k ⟨F0, F1, F2, F3⟩] at hst
      have HST : Hid (_ ∧ _) := hst
      clear hst hb1 hown hbel
      go_wp2
      go_roundw
      case rel => exact ⟨k + 1, pre.set k ⟨F0, F1, F2, F3⟩, by omega, by go_num, by rw [List.length_set]; exact HL.out, take_set_step hlt HL.out HT.out HEL.out, HST.out.1, ((((hbel1.setCell (Nat.le_refl _) _).setCell (Nat.le_refl _) _).setCell (Nat.le_refl _) _).setCell (Nat.le_refl _) _)⟩
      case measure => simp [intOf]; omega
    · have hk1 : ¬ (k : Int) < (l.length : Int) := by omega
      have HE : Hid (pre = l) := by
        show _ = _
        have h := HT.out
        rwa [List.take_of_length_le (by rw [HL.out]; omega), List.take_of_length_le (by omega)] at h
      go_wp2
      go_ret
      exact ⟨rfl, by rw [HE.out] at hown; exact hown, hbel⟩
set_option maxHeartbeats 2000000 in
set_option maxRecDepth 100000 in
theorem eqRaw1_same (r : Disks.RawL) (w : World) : Calls Try.prog 65 #[rawV r, rawV r] w fun e w' => e = .returned (.bool true) ∧ Below w.heap.size w w' := by
  obtain ⟨F0, F1, F2, F3⟩ := r
  unfold rawV
  go_enter Try.func65, Try.ntmps65
  go_wp2
  go_ret
  exact ⟨rfl, ((Below.refl _ _).alloc (Nat.le_refl _) _).alloc (by simp) _⟩
set_option maxHeartbeats 2000000 in
set_option maxRecDepth 100000 in
theorem eqRawS_same {a b : Option Addr} {g off cap h off' cap' : Nat} (l : List Disks.RawL) (hlen : l.length ≤ 1048576) (w : World) (hf : RawsAt w a g off l) (hf' : RawsAt w b h off' l) :
    Calls Try.prog 36 #[.slice a l.length cap, .slice b l.length cap'] w fun e w' => e = .returned (.bool true) ∧ Below w.heap.size w w' := by
  have HF : Hid (RawsAt w a g off l) := hf
  have HF' : Hid (RawsAt w b h off' l) := hf'
  clear hf hf'
  go_enter Try.func36, Try.ntmps36
  go_wp2
  go_loopw [5] (fun i wr => ∃ k : Nat, k ≤ l.length ∧ i = .int .i64 (k : Int) ∧ Below w.heap.size w wr)
    (fun i _ => l.length - (intOf i).toNat)
  case atStart => exact ⟨0, Nat.zero_le _, rfl, Below.refl _ _⟩
  case round =>
    obtain ⟨k, hk, rfl, hbel⟩ := hrel
    by_cases hlt : k < l.length
    · have hcc := (HF.out.kept hbel).2 k hlt
      have hdd := (HF'.out.kept hbel).2 k hlt
      have ea := HF.out.1 (by omega)
      have eb := HF'.out.1 (by omega)
      subst ea eb
      obtain ⟨F0, hF0⟩ : ∃ F0, F0 = l[k].kind := ⟨_, rfl⟩
      obtain ⟨F1, hF1⟩ : ∃ F1, F1 = l[k].name := ⟨_, rfl⟩
      obtain ⟨F2, hF2⟩ : ∃ F2, F2 = l[k].to := ⟨_, rfl⟩
      obtain ⟨F3, hF3⟩ : ∃ F3, F3 = l[k].text := ⟨_, rfl⟩
      have HEL : Hid (l[k] = ⟨F0, F1, F2, F3⟩) := by show _ = _; rw [hF0, hF1, hF2, hF3]
      simp only [← hF0, ← hF1, ← hF2, ← hF3] at hcc hdd
      obtain ⟨c0, c1, c2, c3⟩ := hcc
      obtain ⟨d0, d1, d2, d3⟩ := hdd
      clear hF0 hF1 hF2 hF3
      have hk0 : (0 : Int) ≤ (k : Int) := by omega
      have hk1 : (k : Int) < (l.length : Int) := by omega
      go_wp2
      have NE := Abv.ne wr
      have C0 := fun x : Abv wr => x.cell c0
      have D0 := fun x : Abv wr => x.cell d0
      have C1 := fun x : Abv wr => x.cell c1
      have D1 := fun x : Abv wr => x.cell d1
      have C2 := fun x : Abv wr => x.cell c2
      have D2 := fun x : Abv wr => x.cell d2
      have C3 := fun x : Abv wr => x.cell c3
      have D3 := fun x : Abv wr => x.cell d3
      refine wp_region_above (by kernel_rfl) (by kernel_rfl) ?_
      repeat (go_big_quiet_step (first | (go_at_call 65; exact calls_above (eqRaw1_same ⟨F0, F1, F2, F3⟩ _))))
      refine wpQuiet_nil ?_
      rintro w1 ⟨⟨_, hb1⟩, rfl⟩
      clear NE C0 D0 C1 D1 C2 D2 C3 D3
      go_wp2
      go_roundw
      case rel => exact ⟨k + 1, by omega, by go_num, hbel.trans (hb1.mono hbel.size)⟩
      case measure => simp [intOf]; omega
    · have hk1 : ¬ (k : Int) < (l.length : Int) := by omega
      go_wp2
      go_ret
      exact ⟨rfl, hbel⟩
theorem RawsAt.cellsAll {w : World} {a : Option Addr} {g off : Nat} {l : List Disks.RawL} (h : RawsAt w a g off l) : ∀ j u, (cellsRaw l)[j]? = some u → w.cell? ((⟨g, off, none⟩ : Addr).add j) = some u := by
  intro j u hu
  rw [Addr.add_lit]
  have hj : j < l.length * 4 := by rw [← cellsRaw_len]; exact (List.getElem?_eq_some_iff.1 hu).1
  obtain ⟨k, i, hi, rfl⟩ : ∃ k i, i < 4 ∧ j = k * 4 + i := ⟨j / 4, j % 4, by omega, by omega⟩
  have h1 := cellsRaw_at l k (by omega)
  have h2 := h.2 k (by omega)
  have h3 : i = 0 ∨ i = 1 ∨ i = 2 ∨ i = 3 := by omega
  rcases h3 with rfl | rfl | rfl | rfl
  · rw [show k * 4 + 0 = k * 4 from by omega, h1.1] at hu
    rw [← Option.some.inj hu]
    simpa [Nat.add_assoc] using h2.1
  · rw [h1.2.1] at hu
    rw [← Option.some.inj hu]
    simpa [Nat.add_assoc] using h2.2.1
  · rw [h1.2.2.1] at hu
    rw [← Option.some.inj hu]
    simpa [Nat.add_assoc] using h2.2.2.1
  · rw [h1.2.2.2] at hu
    rw [← Option.some.inj hu]
    simpa [Nat.add_assoc] using h2.2.2.2
theorem cellsRaw_one {l : List Disks.RawL} : ∀ u ∈ cellsRaw l, u.oneCell' = true := by
  intro u hu
  unfold cellsRaw at hu
  obtain ⟨r, _, hr⟩ := List.mem_flatMap.1 hu
  simp only [List.mem_cons, List.not_mem_nil, or_false] at hr
  rcases hr with rfl | rfl | rfl | rfl <;> rfl
/-- 'append(x, y...)' onto a row of the call's own. -/
theorem wpList_appendRaw {w : World} {ops : Array Oper} {rest : List Oper} {o : Oper} {act : Act} {Q : Exit → Act → World → Prop} (hgd : o.guard = none) (s x : Operand)
    (ho : o.op = .call { callee := .builtin .append, args := #[s, x], argTypes := #[53, 53] }) (base : Nat) (v : Value) (n : Nat) (xs : List Value) (hs : act.eval s = v) (hown : w.ownsRow base 45 4 v n xs)
    (a : Option Addr) (g off cap : Nat) (l : List Disks.RawL) (hx : act.eval x = .slice a l.length cap) (hf : RawsAt w a g off l) (hnil : a = none → cap = 0) (h63 : n + l.length ≤ 2097152) (hbase : base ≤ w.heap.size)
    (h : ∀ v' w', w'.ownsRow base 45 4 v' (n + l.length) (xs ++ cellsRaw l) → w.grownBy w' v.ownBlock → wpList Try.prog ops Q rest (act.put o.dst v') w') : wpList Try.prog ops Q (o :: rest) act w := by
  obtain ⟨i0, hi, hz0, hz1, hz2⟩ := info_parts Try.info45
  cases a with
  | none =>
    have hl : l = [] := by
      cases l with
      | nil => rfl
      | cons f r => have := hf.1 (by simp); cases this
    subst hl
    rw [hnil rfl] at hx
    refine wpList_append_own_none hgd s x 53 ho base 45 i0 4 Try.underlying53 hi v n xs hs hown hx ?_
    refine h v w ?_ (World.grownBy.refl _ _)
    simpa [cellsRaw] using hown
  | some ad =>
    have had : 0 < l.length → ad = ⟨g, off, none⟩ := fun hp => Option.some.inj (hf.1 hp)
    refine wpList_append_own w hgd s x 53 ho base 45 i0 (.agg #[.int .i64 0, .string ByteArray.empty, .string ByteArray.empty, .string ByteArray.empty]) 4 56 Try.underlying53 hi hz0 hz1 hz2 rfl (by decide) v n xs hs hown ad l.length cap (cellsRaw l) hx (cellsRaw_len l) ?_ cellsRaw_one (by unfold maxLen; omega) (by omega) hbase ?_
    · intro j u hu
      have hp : 0 < l.length := by
        have := (List.getElem?_eq_some_iff.1 hu).1
        rw [cellsRaw_len] at this
        omega
      rw [had hp]
      exact hf.cellsAll j u hu
    · intro v' w' h1 h2 _
      exact h v' w' h1 h2
/-- Marked ones: from k on, 4 numbers each. -/
def markRaw1 (m : Nat) : Disks.RawL := ⟨((m : Nat) : Int), mk (m + 1), mk (m + 2), mk (m + 3)⟩
def marksRaw (k n : Nat) : List Disks.RawL := (List.range n).map fun i => markRaw1 (k + 4 * i)
theorem marksRaw_len (k n : Nat) : (marksRaw k n).length = n := by simp [marksRaw]
theorem marksRaw_at (k n j : Nat) (hj : j < (marksRaw k n).length) : (marksRaw k n)[j] = markRaw1 (k + 4 * j) := by simp [marksRaw]
theorem own_cell_ex {w : World} {B : Nat} {e : TypeId} {z g n cap : Nat} {xs : List Value} (h : w.ownsRow B e z (.slice (some ⟨g, 0, none⟩) n cap) n xs) {q : Nat} (hq : q < n * z) (hx : xs.length = n * z) : ∃ u, w.cell? ⟨g, q, none⟩ = some u := by
  rw [h.cellAt q hq]
  exact ⟨_, List.getElem?_eq_getElem (by omega)⟩
theorem markText_at (M i : Nat) (x : Int) (hx : x = ((M + i : Nat) : Int)) (h0 : 0 < M) (hk : M + i ≤ 1000000000) (w : World) :
    Calls Try.prog 66 #[.int .i64 x] w fun e w' => e = .returned (.string (mk (M + i))) ∧ Below w.heap.size w w' := by
  rw [hx]; exact markText_is (M + i) (by omega) hk w
set_option maxHeartbeats 2000000 in
set_option maxRecDepth 100000 in
theorem markRawS_is {B g cap : Nat} (l : List Disks.RawL) (hlen : l.length ≤ 1048576) (k : Nat) (h0 : 0 < k) (hk : k ≤ 100000000) (w : World) (hA : w.ownsRow B 45 4 (.slice (some ⟨g, 0, none⟩) l.length cap) l.length (cellsRaw l)) :
    Calls Try.prog 37 #[.slice (some ⟨g, 0, none⟩) l.length cap, .int .i64 (k : Int)] w fun e w' => e = .returned (.int .i64 ((k + 4 * l.length : Nat) : Int)) ∧ w'.ownsRow B 45 4 (.slice (some ⟨g, 0, none⟩) l.length cap) l.length (cellsRaw (marksRaw k l.length)) ∧ w.grownBy w' (some g) := by
  go_enter Try.func37, Try.ntmps37
  go_wp2
  go_loopw [1, 5] (fun x i wr => ∃ (j : Nat) (pre : List Disks.RawL), j ≤ l.length ∧ i = .int .i64 (j : Int) ∧ x = .int .i64 ((k + 4 * j : Nat) : Int) ∧ pre.length = l.length ∧ pre.take j = (marksRaw k l.length).take j ∧
      wr.ownsRow B 45 4 (.slice (some ⟨g, 0, none⟩) l.length cap) l.length (cellsRaw pre) ∧ w.grownBy wr (some g)) (fun _ i _ => l.length - (intOf i).toNat)
  case atStart => exact ⟨0, l, Nat.zero_le _, rfl, rfl, rfl, by simp, hA, World.grownBy.refl _ _⟩
  case round =>
    obtain ⟨j, pre, hj, rfl, rfl, hpl, hpt, hown, hgr⟩ := hrel
    have HL : Hid (pre.length = l.length) := hpl
    have HT : Hid (pre.take j = (marksRaw k l.length).take j) := hpt
    clear hpl hpt hA
    by_cases hlt : j < l.length
    · have hk0 : (0 : Int) ≤ (j : Int) := by omega
      have hk1 : (j : Int) < (l.length : Int) := by omega
      obtain ⟨M, hM⟩ : ∃ M : Nat, M = k + 4 * j := ⟨_, rfl⟩
      have hMb : 0 < M ∧ M ≤ 900000000 := by omega
      have HM : Hid (M = k + 4 * j) := hM
      rw [← hM]
      clear hM
      have hw0 := hown
      have hgw0 := hgr
      have hf0 := hw0.frozenAt (j * 4)
      obtain ⟨u0, hu0⟩ := own_cell_ex (q := j * 4) hw0 (by omega) (by simp only [List.length_set, cellsRaw_len, HL.out])
      have hs0 := (hw0.stored (j * 4) (.int .i64 ((M + 0 : Nat) : Int)))
      have hgs0 := (hgw0.trans (hw0.stored (j * 4) (.int .i64 ((M + 0 : Nat) : Int))).2)
      have HS0 : Hid _ := hs0.1
      have HG0 : Hid _ := hgs0
      clear hown hgr
      clear hs0 hgs0 hw0 hgw0
      go_wp2_with fail
      refine (markText_at M 1 _ (by omega) (by omega) (by omega) _).mono ?_
      rintro e w1 ⟨rfl, hb1⟩
      have hw1 := own_kept HS0.out hb1
      have hgw1 := HG0.out.trans (own_below' hb1)
      clear hb1
      have hf1 := hw1.frozenAt (j * 4 + 1)
      obtain ⟨u1, hu1⟩ := own_cell_ex (q := j * 4 + 1) hw1 (by omega) (by simp only [List.length_set, cellsRaw_len, HL.out])
      have hs1 := (hw1.stored (j * 4 + 1) (.string (mk (M + 1))))
      have hgs1 := (hgw1.trans (hw1.stored (j * 4 + 1) (.string (mk (M + 1)))).2)
      have HS1 : Hid _ := hs1.1
      have HG1 : Hid _ := hgs1
      clear hs1 hgs1 hw1 hgw1
      go_wp2_with fail
      refine (markText_at M 2 _ (by omega) (by omega) (by omega) _).mono ?_
      rintro e w2 ⟨rfl, hb2⟩
      have hw2 := own_kept HS1.out hb2
      have hgw2 := HG1.out.trans (own_below' hb2)
      clear hb2
      have hf2 := hw2.frozenAt (j * 4 + 2)
      obtain ⟨u2, hu2⟩ := own_cell_ex (q := j * 4 + 2) hw2 (by omega) (by simp only [List.length_set, cellsRaw_len, HL.out])
      have hs2 := (hw2.stored (j * 4 + 2) (.string (mk (M + 2))))
      have hgs2 := (hgw2.trans (hw2.stored (j * 4 + 2) (.string (mk (M + 2)))).2)
      have HS2 : Hid _ := hs2.1
      have HG2 : Hid _ := hgs2
      clear hs2 hgs2 hw2 hgw2
      go_wp2_with fail
      refine (markText_at M 3 _ (by omega) (by omega) (by omega) _).mono ?_
      rintro e w3 ⟨rfl, hb3⟩
      have hw3 := own_kept HS2.out hb3
      have hgw3 := HG2.out.trans (own_below' hb3)
      clear hb3
      have hf3 := hw3.frozenAt (j * 4 + 3)
      obtain ⟨u3, hu3⟩ := own_cell_ex (q := j * 4 + 3) hw3 (by omega) (by simp only [List.length_set, cellsRaw_len, HL.out])
      have hs3 := (hw3.stored (j * 4 + 3) (.string (mk (M + 3))))
      have hgs3 := (hgw3.trans (hw3.stored (j * 4 + 3) (.string (mk (M + 3)))).2)
      have HS3 : Hid _ := hs3.1
      have HG3 : Hid _ := hgs3
      clear hs3 hgs3 hw3 hgw3
      go_wp2
      go_roundw
      case rel =>
        have e := cellsRaw_set pre j (markRaw1 M)
        refine ⟨j + 1, pre.set j (markRaw1 M), by omega, by go_num, ?_, by rw [List.length_set]; exact HL.out, ?_, ?_, HG3.out⟩
        · refine congrArg (Value.int .i64) ?_
          have := HM.out
          omega
        · refine take_set_step (by rw [marksRaw_len]; exact hlt) (by rw [marksRaw_len]; exact HL.out) HT.out ?_
          rw [marksRaw_at, ← HM.out]
        · rw [e]; exact HS3.out
      case measure => simp [intOf]; omega
    · have hk1 : ¬ (j : Int) < (l.length : Int) := by omega
      have HE : Hid (pre = marksRaw k l.length ∧ j = l.length) := by
        have h := HT.out
        rw [List.take_of_length_le (by rw [HL.out]; omega), List.take_of_length_le (by rw [marksRaw_len]; omega)] at h
        exact ⟨h, by omega⟩
      go_wp2
      go_ret
      refine ⟨by rw [← HE.out.2]; rfl, by rw [← HE.out.1]; exact hown, hgr⟩
set_option maxHeartbeats 2000000 in
set_option maxRecDepth 100000 in
theorem markRawS_nil (k : Nat) (w : World) : Calls Try.prog 37 #[.slice none 0 0, .int .i64 (k : Int)] w fun e w' => e = .returned (.int .i64 (k : Int)) ∧ w = w' := by
  go_enter Try.func37, Try.ntmps37
  go_wp2
  refine wp_loop_rounds 1 ?_
  rw [rounds_succ]
  go_wp2
  go_ret
  exact ⟨rfl, rfl⟩
theorem markRawS_own {B : Nat} {v : Value} (l : List Disks.RawL) (hlen : l.length ≤ 1048576) (k : Nat) (h0 : 0 < k) (hk : k ≤ 100000000) (w : World) (hA : w.ownsRow B 45 4 v l.length (cellsRaw l)) :
    Calls Try.prog 37 #[v, .int .i64 (k : Int)] w fun e w' => e = .returned (.int .i64 ((k + 4 * l.length : Nat) : Int)) ∧ w'.ownsRow B 45 4 v l.length (cellsRaw (marksRaw k l.length)) ∧ w.grownBy w' v.ownBlock := by
  rcases hA.2 with ⟨h1, h2⟩ | ⟨g, cap, cur, h1, _⟩
  · subst h1
    have hl : l = [] := List.length_eq_zero_iff.1 h2
    subst hl
    refine (markRawS_nil k w).mono ?_
    rintro e w' ⟨rfl, rfl⟩
    exact ⟨rfl, World.ownsRow_nil _ _ _ _, World.grownBy.refl _ _⟩
  · subst h1
    exact markRawS_is l hlen k h0 hk w hA
end Go.Proofs.Ytpkkejpidlkmnaa
