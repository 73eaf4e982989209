/- The call of the specification's DiskOk, walked. The calls of l03At, l03Text and of the specification's FileAt, walked. The calls of the specification's l01Figure, Decimal, ReadDecimal, SegName, walked. The calls of the specification's l09In, l09Seg, l09SameInts, walked. Shelves as values and in blocks. -/
import Derived.Test.YtbcfiiilikkkeaaGreatDoorLChange
import Derived.Test.YtbcfiiilikkkeaaGreatDoorMathAt
import Derived.Deep.RegionWith
import Derived.Deep.QuietTactic
import Derived.BigQuiet
import Derived.Deep.RegionHeld3
import Derived.Test.YtbcfiiilikkkeaaGreatDoorMathTab
import Derived.WalkMore
import Derived.Test.YtbcfiiilikkkeaaGreatDoorWords5
import Derived.Test.YtbcfiiilikkkeaaGreatDoorReadLaw
import Derived.Test.YtbcfiiilikkkeaaGreatDoorSpecRM
import Derived.Test.YtbcfiiilikkkeaaGreatDoorSpecScan
import Derived.Test.YtbcfiiilikkkeaaGreatDoorSpecMore
namespace Go.Proofs.YtbcfiiilikkkeaaGreatDoor
open Go.RowKit

set_option maxHeartbeats 400000 in
theorem in_yes_pk (x a b : Int) (h : a ≤ x ∧ x ≤ b) (w : World) :
    Calls Tryz.prog 130 #[.int .i64 x, .int .i64 a, .int .i64 b] w fun e w' => e = .returned (.bool true) ∧ w = w' := by
  obtain ⟨h1, h2⟩ := h
  go_enter Tryz.func130, Tryz.ntmps130
  go_wp2
  go_ret
  exact ⟨rfl, rfl⟩
set_option maxHeartbeats 400000 in
theorem in_no_pk (x a b : Int) (h : ¬ (a ≤ x ∧ x ≤ b)) (w : World) :
    Calls Tryz.prog 130 #[.int .i64 x, .int .i64 a, .int .i64 b] w fun e w' => e = .returned (.bool false) ∧ w = w' := by
  by_cases h1 : a ≤ x
  · have h2 : ¬ x ≤ b := fun h3 => h ⟨h1, h3⟩
    go_enter Tryz.func130, Tryz.ntmps130
    go_wp2
    go_ret
    exact ⟨rfl, rfl⟩
  · go_enter Tryz.func130, Tryz.ntmps130
    go_wp2
    go_ret
    exact ⟨rfl, rfl⟩
theorem in_yes_q (x a b : Int) (h : a ≤ x ∧ x ≤ b) (w : World) :
    Calls Tryz.prog 130 #[.int .i64 x, .int .i64 a, .int .i64 b] w fun e w' => e = .returned (.bool true) ∧ w' = w := (in_yes_pk x a b h w).mono fun _ _ ⟨h1, h2⟩ => ⟨h1, h2.symm⟩
theorem in_no_q (x a b : Int) (h : ¬ (a ≤ x ∧ x ≤ b)) (w : World) :
    Calls Tryz.prog 130 #[.int .i64 x, .int .i64 a, .int .i64 b] w fun e w' => e = .returned (.bool false) ∧ w' = w := (in_no_pk x a b h w).mono fun _ _ ⟨h1, h2⟩ => ⟨h1, h2.symm⟩
set_option maxHeartbeats 4000000 in
set_option maxRecDepth 100000 in
theorem specDiskOk_big (R : Bool) {a : Option Addr} {g off cap : Nat} (l : List FileL) (hlen : l.length ≤ 1048576) (w : World) (hf : FilesAt w a g off l) (hsz : ∀ f ∈ l, f.1.size ≤ 2097152 ∧ f.2.size ≤ 2097152) (hR : R = true ↔ Disks.ok l) :
    Calls Tryz.prog 96 #[.agg #[.slice a l.length cap]] w fun e w' => e = .returned (.bool R) ∧ Below w.heap.size w w' := by
  have HR : Hid (R = true ↔ Disks.ok l) := hR
  clear hR
  have HF : Hid (FilesAt w a g off l) := hf
  have HS : Hid (∀ f ∈ l, f.1.size ≤ 2097152 ∧ f.2.size ≤ 2097152) := hsz
  clear hf hsz
  by_cases h30 : 30 < l.length
  · have h1 : (30 : Int) < (l.length : Int) := by omega
    go_enter Tryz.func96, Tryz.ntmps96
    go_wp2
    go_ret
    exact ⟨by rw [ans_no HR.out (fun h => by have := h.1; omega)]; rfl, (Below.refl _ _).alloc (Nat.le_refl _) _⟩
  · have h1 : ¬ (30 : Int) < (l.length : Int) := by omega
    go_enter Tryz.func96, Tryz.ntmps96
    go_wp2
    go_loopw [3] (fun i wr => ∃ k : Nat, k ≤ l.length ∧ i = .int .i64 (k : Int) ∧ (∀ j, j < k → Disks.okAt l j) ∧ wr.cell? ⟨w.heap.size, 0, none⟩ = some (.slice a l.length cap) ∧ Below w.heap.size w wr)
      (fun i _ => l.length - (intOf i).toNat)
    case atStart => exact ⟨0, Nat.zero_le _, rfl, fun j hj => absurd hj (Nat.not_lt_zero _), cell_of_row _ _ _ _ _ _ (heap_alloc_new w _), (Below.refl _ _).alloc (Nat.le_refl _) _⟩
    case round =>
      obtain ⟨k, hk, rfl, hall, hd, hbel⟩ := hrel
      have HA : Hid (∀ j, j < k → Disks.okAt l j) := hall
      clear hall
      by_cases hlt : k < l.length
      · obtain ⟨c0, c1⟩ := (HF.out.kept hbel).2 k hlt
        have ea := HF.out.1 (by omega)
        subst ea
        obtain ⟨A, hA⟩ : ∃ A, A = l[k].1 := ⟨_, rfl⟩
        obtain ⟨T, hT⟩ : ∃ T, T = l[k].2 := ⟨_, rfl⟩
        obtain ⟨s0, s1⟩ := HS.out l[k] (List.getElem_mem _)
        rw [← hA] at c0 s0
        rw [← hT] at c1 s1
        have HAA : Hid (A = l[k].1) := hA
        have HTT : Hid (T = l[k].2) := hT
        clear hA hT
        have hk0 : (0 : Int) ≤ (k : Int) := by omega
        have hk1 : (k : Int) < (l.length : Int) := by omega
        by_cases hn : 1 ≤ A.size ∧ A.size ≤ 12
        · by_cases ht : 20000 < T.size
          · have hti : (20000 : Int) < (T.size : Int) := by omega
            have htd : decide ((20000 : Int) < (T.size : Int)) = true := decide_eq_true hti
            have HN : Hid (¬ Disks.okAt l k) := by
              show ¬ _
              rintro ⟨_, ⟨_, _, q3⟩, _⟩
              rw [← HTT.out] at q3
              omega
            go_wp2
            go_quiet (first | (go_at_call 130; exact Calls.quiet_of_same (in_yes_q (A.size : Int) 1 12 (by omega) _)))
            go_wp2
            go_ret
            exact ⟨by rw [ans_no HR.out (Disks.not_ok hlt HN.out)]; rfl, below_drewN hbel _⟩
          · have hti : ¬ (20000 : Int) < (T.size : Int) := by omega
            have htd : decide ((20000 : Int) < (T.size : Int)) = false := decide_eq_false hti
            rcases Nat.eq_zero_or_pos k with hz | hp
            · have hkd : decide (0 < k) = false := decide_eq_false (by omega)
              have HZ : Hid (k = 0) := hz
              have HN : Hid (Disks.okAt l k) := ⟨hlt, ⟨by rw [← HAA.out]; exact hn.1, by rw [← HAA.out]; exact hn.2, by rw [← HTT.out]; omega⟩, fun h => absurd h (by omega)⟩
              clear hz
              go_wp2
              go_quiet (first | (go_at_call 130; exact Calls.quiet_of_same (in_yes_q (A.size : Int) 1 12 (by omega) _)))
              go_wp2
              go_roundw
              case rel => exact ⟨k + 1, by omega, by go_num, Disks.ok_step HA.out HN.out, hd, below_drewN hbel _⟩
              case measure => simp [intOf]; omega
            · obtain ⟨m, rfl⟩ : ∃ m, k = m + 1 := ⟨k - 1, by omega⟩
              obtain ⟨e0, _⟩ := (HF.out.kept hbel).2 m (by omega)
              obtain ⟨E, hE⟩ : ∃ E, E = l[m].1 := ⟨_, rfl⟩
              rw [← hE] at e0
              have HEE : Hid (E = l[m].1) := hE
              clear hE
              have hm1 : IntKind.i64.wrap ((m : Int) + 1 - 1) = (m : Int) := by rw [IntWalk.i64_in _ (by omega)]; omega
              have hm2 : decide ((0 : Int) < (m : Int) + 1) = true := decide_eq_true (by omega)
              have hm3 : (0 : Int) ≤ (m : Int) := by omega
              have hm4 : (m : Int) < (l.length : Int) := by omega
              by_cases hb : Op.bytesLess E.toList A.toList = true
              · go_wp2
                go_quiet (first | (go_at_call 130; exact Calls.quiet_of_same (in_yes_q (A.size : Int) 1 12 (by omega) _)))
                have HN : Hid (Disks.okAt l (m + 1)) := ⟨hlt, ⟨by rw [← HAA.out]; exact hn.1, by rw [← HAA.out]; exact hn.2, by rw [← HTT.out]; omega⟩, fun _ => ⟨by omega, by show Op.bytesLess _ _ = true; rw [← HAA.out]; simp only [Nat.add_sub_cancel]; rw [← HEE.out]; exact hb⟩⟩
                go_wp2
                go_roundw
                case rel => exact ⟨m + 1 + 1, by omega, by go_num, Disks.ok_step HA.out HN.out, hd, below_drewN hbel _⟩
                case measure => simp [intOf]; omega
              · have hb' : Op.bytesLess E.toList A.toList = false := by simpa using hb
                have HN : Hid (¬ Disks.okAt l (m + 1)) := by
                  show ¬ _
                  rintro ⟨_, _, q⟩
                  obtain ⟨_, q2⟩ := q (by omega)
                  simp only [Nat.add_sub_cancel, Disks.lt] at q2
                  rw [← HAA.out, ← HEE.out] at q2
                  exact hb q2
                go_wp2
                go_quiet (first | (go_at_call 130; exact Calls.quiet_of_same (in_yes_q (A.size : Int) 1 12 (by omega) _)))
                go_wp2
                go_ret
                exact ⟨by rw [ans_no HR.out (Disks.not_ok hlt HN.out)]; rfl, below_drewN hbel _⟩
        · have HN : Hid (¬ Disks.okAt l k) := by
            show ¬ _
            rintro ⟨_, ⟨q1, q2, _⟩, _⟩
            rw [← HAA.out] at q1 q2
            exact hn ⟨q1, q2⟩
          go_wp2
          go_quiet (first | (go_at_call 130; exact Calls.quiet_of_same (in_no_q (A.size : Int) 1 12 (by omega) _)))
          go_wp2
          go_ret
          exact ⟨by rw [ans_no HR.out (Disks.not_ok hlt HN.out)]; rfl, below_drewN hbel _⟩
      · have hk1 : ¬ (k : Int) < (l.length : Int) := by omega
        go_wp2
        go_ret
        exact ⟨by rw [HR.out.2 ⟨by omega, fun j hj => HA.out j (by omega)⟩]; rfl, hbel⟩
theorem specDiskOk_any (R : Bool) {a : Option Addr} {g off cap : Nat} (l : List FileL) (hlen : l.length ≤ 1048576) (w : World) (hf : FilesAt w a g off l) (hsz : ∀ f ∈ l, f.1.size ≤ 1048576 ∧ f.2.size ≤ 1048576) (hR : R = true ↔ Disks.ok l) :
    Calls Tryz.prog 96 #[.agg #[.slice a l.length cap]] w fun e w' => e = .returned (.bool R) ∧ Below w.heap.size w w' :=
  specDiskOk_big R l hlen w hf (fun f h => by have := hsz f h; omega) hR
end Go.Proofs.YtbcfiiilikkkeaaGreatDoor
namespace Go.Proofs.YtbcfiiilikkkeaaGreatDoor
open Go.RowKit

set_option maxHeartbeats 1000000 in
set_option maxRecDepth 100000 in
theorem l03At_is {a : Option Addr} {g off cap : Nat} (l : List FileL) (hlen : l.length ≤ 1048576) (n : ByteArray) (x : Int) (hx : (Disks.None l n ∧ x = -1) ∨ ∃ k : Nat, Disks.At l n k ∧ x = (k : Int)) (w : World) (hf : FilesAt w a g off l) :
    Calls Tryz.prog 121 #[.agg #[.slice a l.length cap], .string n] w fun e w' => e = .returned (.int .i64 x) ∧ Below w.heap.size w w' := by
  have HF : Hid (FilesAt w a g off l) := hf
  have HX : Hid ((Disks.None l n ∧ x = -1) ∨ ∃ k : Nat, Disks.At l n k ∧ x = (k : Int)) := hx
  clear hf hx
  go_enter Tryz.func121, Tryz.ntmps121
  go_wp2
  go_loopw [5] (fun i wr => ∃ k : Nat, k ≤ l.length ∧ i = .int .i64 (k : Int) ∧ (∀ j (hj : j < k) (hl : j < l.length), Disks.nameIs n l[j] = false) ∧ wr.cell? ⟨w.heap.size, 0, none⟩ = some (.slice a l.length cap) ∧ Below w.heap.size w wr)
    (fun i _ => l.length - (intOf i).toNat)
  case atStart => exact ⟨0, Nat.zero_le _, rfl, fun j hj => absurd hj (Nat.not_lt_zero _), cell_of_row _ _ _ _ _ _ (heap_alloc_new w _), (Below.refl _ _).alloc (Nat.le_refl _) _⟩
  case round =>
    obtain ⟨k, hk, rfl, hall, hd, hbel⟩ := hrel
    have HA : Hid (∀ j (hj : j < k) (hl : j < l.length), Disks.nameIs n l[j] = false) := hall
    clear hall
    by_cases hlt : k < l.length
    · obtain ⟨c0, c1⟩ := (HF.out.kept hbel).2 k hlt
      have ea := HF.out.1 (by omega)
      subst ea
      obtain ⟨A, hA⟩ : ∃ A, A = l[k].1 := ⟨_, rfl⟩
      rw [← hA] at c0
      have HAA : Hid (A = l[k].1) := hA
      clear hA c1
      have hk0 : (0 : Int) ≤ (k : Int) := by omega
      have hk1 : (k : Int) < (l.length : Int) := by omega
      by_cases hb : (A.toList == n.toList) = true
      · have HK : Hid (x = (k : Int)) := by
          show _ = _
          have hat : Disks.At l n k := ⟨hlt, by unfold Disks.nameIs; rw [← HAA.out]; exact hb, fun j hj => HA.out j hj (by omega)⟩
          rcases HX.out with ⟨h1, _⟩ | ⟨k', h1, h2⟩
          · have := h1 k hlt
            unfold Disks.nameIs at this
            rw [← HAA.out, hb] at this
            cases this
          · rw [h2, Disks.at_unique hat h1]
        go_wp2
        go_ret
        exact ⟨by rw [HK.out]; rfl, hbel⟩
      · have hb' : (A.toList == n.toList) = false := by simpa using hb
        have HN : Hid (Disks.nameIs n l[k] = false) := by show _ = _; unfold Disks.nameIs; rw [← HAA.out]; exact hb'
        go_wp2
        go_roundw
        case rel => exact ⟨k + 1, by omega, by go_num, fun j hj hl => by
                                                        rcases Nat.lt_succ_iff_lt_or_eq.1 hj with h1 | h1
                                                        · exact HA.out j h1 hl
                                                        · subst h1; exact HN.out, hd, hbel⟩
        case measure => simp [intOf]; omega
    · have hk1 : ¬ (k : Int) < (l.length : Int) := by omega
      have HK : Hid (x = -1) := by
        show _ = _
        rcases HX.out with ⟨_, h1⟩ | ⟨k', ⟨h0, h1, _⟩, _⟩
        · exact h1
        · have := HA.out k' (by omega) h0
          rw [h1] at this
          cases this
      go_wp2
      go_ret
      exact ⟨by rw [HK.out]; rfl, hbel⟩

set_option maxHeartbeats 1000000 in
set_option maxRecDepth 100000 in
theorem l03Text_is {a : Option Addr} {g off cap : Nat} (l : List FileL) (hlen : l.length ≤ 1048576) (n t : ByteArray) (ht : Disks.TextIs l n t) (w : World) (hf : FilesAt w a g off l) :
    Calls Tryz.prog 63 #[.agg #[.slice a l.length cap], .string n] w fun e w' => e = .returned (.string t) ∧ Below w.heap.size w w' := by
  have HF : Hid (FilesAt w a g off l) := hf
  clear hf
  have hB : Below w.heap.size w (w.alloc (Obj.cells #[Value.slice a l.length cap] 46)) := (Below.refl _ _).alloc (Nat.le_refl _) _
  have HB : Hid (Below w.heap.size w (w.alloc (Obj.cells #[Value.slice a l.length cap] 46))) := hB
  have hd0 : (w.alloc (Obj.cells #[Value.slice a l.length cap] 46)).cell? ⟨w.heap.size, 0, none⟩ = some (.slice a l.length cap) := cell_of_row _ _ _ _ _ _ (heap_alloc_new w _)
  have hz0 := World.block_lt_of_cell? _ _ hd0
  have HD : Hid (_ = _) := hd0
  have HZ : Hid (_ < _) := hz0
  clear hB hd0 hz0
  rcases ht with ⟨h1, rfl⟩ | ⟨k, hk, h1, rfl⟩
  · go_enter Tryz.func63, Tryz.ntmps63
    go_wp2_with fail
    refine (l03At_is l hlen n (-1) (Or.inl ⟨h1, rfl⟩) _ (HF.out.kept HB.out)).mono ?_
    rintro e w1 ⟨rfl, hb1⟩
    have hB1 := HB.out.trans (hb1.mono HB.out.size)
    go_wp2
    go_ret
    exact ⟨rfl, hB1⟩
  · obtain ⟨T, hT⟩ : ∃ T, T = l[k].2 := ⟨_, rfl⟩
    rw [← hT]
    have HT : Hid (T = l[k].2) := hT
    clear hT
    go_enter Tryz.func63, Tryz.ntmps63
    go_wp2_with fail
    refine (l03At_is l hlen n (k : Int) (Or.inr ⟨k, h1, rfl⟩) _ (HF.out.kept HB.out)).mono ?_
    rintro e w1 ⟨rfl, hb1⟩
    have hB1 := HB.out.trans (hb1.mono HB.out.size)
    have hd1 : w1.cell? ⟨w.heap.size, 0, none⟩ = some (.slice a l.length cap) := (hb1.cell (p := ⟨w.heap.size, 0, none⟩) HZ.out).trans HD.out
    obtain ⟨_, c1⟩ := (HF.out.kept hB1).2 k hk
    have ea := HF.out.1 (by omega)
    subst ea
    rw [← HT.out] at c1
    have hk0 : (0 : Int) ≤ (k : Int) := by omega
    have hk1 : (k : Int) < (l.length : Int) := by omega
    clear hb1
    go_wp2
    go_ret
    exact ⟨rfl, hB1⟩

def fileTuple : Option ByteArray → Value
  | none => .tuple #[.string ⟨#[]⟩, .bool false]
  | some t => .tuple #[.string t, .bool true]

set_option maxHeartbeats 1000000 in
set_option maxRecDepth 100000 in
theorem specFileAt_is {a : Option Addr} {g off cap : Nat} (l : List FileL) (hlen : l.length ≤ 1048576) (hsz : ∀ f ∈ l, f.1.size ≤ 1048576 ∧ f.2.size ≤ 1048576) (n : ByteArray) (o : Option ByteArray) (ho : Disks.FileIs l n o) (w : World) (hf : FilesAt w a g off l) :
    Calls Tryz.prog 182 #[.agg #[.slice a l.length cap], .string n] w fun e w' => e = .returned (fileTuple o) ∧ Below w.heap.size w w' := by
  have HF : Hid (FilesAt w a g off l) := hf
  have HS : Hid (∀ f ∈ l, f.1.size ≤ 1048576 ∧ f.2.size ≤ 1048576) := hsz
  clear hf hsz
  have hB : Below w.heap.size w (w.alloc (Obj.cells #[Value.slice a l.length cap] 46)) := (Below.refl _ _).alloc (Nat.le_refl _) _
  have HB : Hid (Below w.heap.size w (w.alloc (Obj.cells #[Value.slice a l.length cap] 46))) := hB
  have hd0 : (w.alloc (Obj.cells #[Value.slice a l.length cap] 46)).cell? ⟨w.heap.size, 0, none⟩ = some (.slice a l.length cap) := cell_of_row _ _ _ _ _ _ (heap_alloc_new w _)
  have hz0 := World.block_lt_of_cell? _ _ hd0
  have HD : Hid (_ = _) := hd0
  have HZ : Hid (_ < _) := hz0
  clear hB hd0 hz0
  obtain ⟨x, hx⟩ : ∃ x : Int, (Disks.None l n ∧ x = -1) ∨ ∃ k : Nat, Disks.At l n k ∧ x = (k : Int) := by
    rcases Disks.at_or_none l n with h | ⟨k, h⟩
    · exact ⟨-1, Or.inl ⟨h, rfl⟩⟩
    · exact ⟨k, Or.inr ⟨k, h, rfl⟩⟩
  have HX : Hid ((Disks.None l n ∧ x = -1) ∨ ∃ k : Nat, Disks.At l n k ∧ x = (k : Int)) := hx
  have HO : Hid (Disks.FileIs l n o) := ho
  clear hx ho
  go_enter Tryz.func182, Tryz.ntmps182
  go_wp2_with fail
  refine (l03At_is l hlen n x HX.out _ (HF.out.kept HB.out)).mono ?_
  rintro e w1 ⟨rfl, hb1⟩
  have hB1 := HB.out.trans (hb1.mono HB.out.size)
  have hd1 : w1.cell? ⟨w.heap.size, 0, none⟩ = some (.slice a l.length cap) := (hb1.cell (p := ⟨w.heap.size, 0, none⟩) HZ.out).trans HD.out
  have hz1 := World.block_lt_of_cell? _ _ hd1
  clear hb1 HD HZ HB
  by_cases hok : Disks.ok l
  · have HOK : Hid (Disks.ok l) := hok
    clear hok
    go_wp2_with fail
    refine (specDiskOk_any true l hlen w1 (HF.out.kept hB1) HS.out ⟨fun _ => HOK.out, fun _ => rfl⟩).mono ?_
    rintro e w2 ⟨rfl, hb2⟩
    have hB2 := hB1.trans (hb2.mono hB1.size)
    have hd2 : w2.cell? ⟨w.heap.size, 0, none⟩ = some (.slice a l.length cap) := (hb2.cell (p := ⟨w.heap.size, 0, none⟩) hz1).trans hd1
    clear hb2 hB1 hd1 hz1
    rcases HX.out with ⟨h1, h2⟩ | ⟨k, h1, h2⟩
    · subst h2
      have HE : Hid (o = none) := by
        show _ = _
        have h := HO.out
        cases o with
        | none => rfl
        | some t =>
          obtain ⟨_, k, hk, ⟨_, h3, _⟩, _⟩ := h
          have := h1 k hk
          rw [h3] at this
          cases this
      clear h1
      go_wp2
      go_ret2
      exact ⟨by rw [HE.out]; rfl, hB2⟩
    · subst h2
      obtain ⟨hk, _⟩ := id h1
      obtain ⟨T, hT⟩ : ∃ T, T = l[k].2 := ⟨_, rfl⟩
      have HE : Hid (o = some T) := by
        show _ = _
        have h := HO.out
        cases o with
        | none =>
          rcases h with h | h
          · exact absurd HOK.out h
          · obtain ⟨_, h3, _⟩ := h1
            have := h k hk
            rw [h3] at this
            cases this
        | some t =>
          obtain ⟨_, k', hk', h3, h4⟩ := h
          have := Disks.at_unique h1 h3
          subst this
          rw [h4, hT]
      have HT : Hid (T = l[k].2) := hT
      clear hT h1
      obtain ⟨_, c1⟩ := (HF.out.kept hB2).2 k hk
      have ea := HF.out.1 (by omega)
      subst ea
      rw [← HT.out] at c1
      have hk0 : (0 : Int) ≤ (k : Int) := by omega
      have hk1 : (k : Int) < (l.length : Int) := by omega
      go_wp2
      go_ret2
      exact ⟨by rw [HE.out]; rfl, hB2⟩
  · have HNK : Hid (¬ Disks.ok l) := hok
    have HE : Hid (o = none) := by
      show _ = _
      have h := HO.out
      cases o with
      | none => rfl
      | some t => exact absurd h.1 hok
    clear hok
    go_wp2_with fail
    refine (specDiskOk_any false l hlen w1 (HF.out.kept hB1) HS.out ⟨fun h => (by cases h), fun h => absurd h HNK.out⟩).mono ?_
    rintro e w2 ⟨rfl, hb2⟩
    have hB2 := hB1.trans (hb2.mono hB1.size)
    clear hb2 hB1
    go_wp2
    go_ret2
    exact ⟨by rw [HE.out]; rfl, hB2⟩
end Go.Proofs.YtbcfiiilikkkeaaGreatDoor
namespace Go.Proofs.YtbcfiiilikkkeaaGreatDoor
open Go.RowKit
set_option linter.unusedVariables false

theorem ret_byte {a b : Int} (h : a = b) : Ending.returned (.int .u8 a) = .returned (.int .u8 b) := by rw [h]

set_option maxHeartbeats 400000 in
theorem figure_any (x : Int) (h0 : 0 ≤ x) (h1 : x < 16) (w : World) :
    Calls Tryz.prog 188 #[.int .i64 x] w fun e w' => e = .returned (.int .u8 ((Words.fig x.toNat).toNat : Int)) ∧ w' = w := by
  by_cases h : x < 10
  · have hf := Words.fig_low x.toNat (by omega)
    have HF : Hid (_ = _) := hf
    clear hf
    go_enter Tryz.func188, Tryz.ntmps188
    go_wp2
    go_ret
    exact ⟨ret_byte (by rw [HF.out]; omega), rfl⟩
  · have hf := Words.fig_high x.toNat (by omega) (by omega)
    have HF : Hid (_ = _) := hf
    clear hf
    go_enter Tryz.func188, Tryz.ntmps188
    go_wp2
    go_ret
    exact ⟨ret_byte (by rw [HF.out]; omega), rfl⟩

theorem figure_nat (X : Nat) (h : X < 16) (w : World) :
    Calls Tryz.prog 188 #[.int .i64 (X : Int)] w fun e w' => e = .returned (.int .u8 ((Words.fig X).toNat : Int)) ∧ w' = w := by
  have := figure_any (X : Int) (by omega) (by omega) w
  rwa [Int.toNat_natCast] at this
set_option maxHeartbeats 1000000 in
set_option maxRecDepth 100000 in
theorem dec_nat (n : Nat) (hn : n ≤ 1000000000) (w : World) :
    Calls Tryz.prog 133 #[.int .i64 (n : Int)] w fun e w' => e = .returned (.string ⟨(Words.dec n).toArray⟩) ∧ Below w.heap.size w w' := by
  by_cases h0 : n = 0
  · subst h0
    go_enter Tryz.func133, Tryz.ntmps133
    go_wp2
    go_ret
    exact ⟨rfl, Below.refl _ _⟩
  · have hne : ((n : Int) == 0) = false := by simp; omega
    have HD : Hid (Words.dec n = Words.dig n) := by show _ = _; rw [Words.dec, if_neg h0]
    have hl := Words.dig_len 10 n (by omega)
    have HL : Hid (_ ≤ _) := hl
    clear hl
    go_enter Tryz.func133, Tryz.ntmps133
    go_wp2
    go_loopw [0, 4] (fun x v wr => ∃ (m : Nat) (S : ByteArray), m ≤ 1000000000 ∧ x = .int .i64 (m : Int) ∧ v = .string S ∧ S.size ≤ 10 ∧ Words.dig m ++ S.data.toList = Words.dig n ∧ Below w.heap.size w wr)
      (fun x _ _ => (intOf x).toNat)
    case atStart => exact ⟨n, ⟨#[]⟩, hn, rfl, rfl, by decide, by simp, Below.refl _ _⟩
    case round =>
      obtain ⟨m, S, hm, rfl, rfl, hsz, heq, hbel⟩ := hrel
      have HE : Hid (_ = _) := heq
      clear heq
      by_cases hz : m = 0
      · have hmz : ((m : Int) != 0) = false := by simp; omega
        have HZ : Hid (m = 0) := hz
        clear hz
        go_wp2
        go_ret
        refine ⟨?_, hbel⟩
        have e := HE.out
        rw [HZ.out, Words.dig_zero, List.nil_append] at e
        rw [HD.out, ← str_ext e]; rfl
      · have hmz : ((m : Int) != 0) = true := by simp; omega
        obtain ⟨X, HX, hX⟩ : ∃ X : Nat, Hid (X = m % 10) ∧ (m : Int) % 10 = (X : Int) := ⟨m % 10, rfl, by omega⟩
        have hX16 : X < 16 := by have := HX.out; omega
        have hX10 : ¬ (X : Int) < 0 := by omega
        have hcv := one_string wr (Words.fig X)
        go_wp2_with (go_at_call 188; refine (figure_nat X hX16 _).mono ?_; rintro e w' ⟨rfl, hw⟩; subst hw)
        go_roundw
        case rel =>
          have E : Words.dig (m / 10) ++ ((⟨#[Words.fig X]⟩ : ByteArray) ++ S).data.toList = Words.dig n := by
            rw [str_app, ← HE.out, Words.dig_step m hz, HX.out]; simp
          refine ⟨m / 10, _, by omega, by go_num, rfl, ?_, E, hbel.alloc hbel.size _⟩
          have L := congrArg List.length E
          rw [List.length_append, Words.size_list] at L
          have := HL.out
          omega
        case measure => simp [intOf]; omega
def rdDTuple : Option Nat → Value
  | none => .tuple #[.int .i64 0, .bool false]
  | some n => .tuple #[.int .i64 (n : Int), .bool true]

theorem numF_take {s : ByteArray} {k : Nat} (h : k < s.size) : Words.numF (s.data.toList.take (k + 1)) 0 = 10 * Words.numF (s.data.toList.take k) 0 + (s[k].toNat - 48) := by
  rw [Words.take_snoc s k h, Words.numF_snoc]
set_option maxHeartbeats 1000000 in
set_option maxRecDepth 100000 in
theorem specRD_any (s : ByteArray) (hs : s.size ≤ 1048576) (w : World) :
    Calls Tryz.prog 186 #[.string s] w fun e w' => e = .returned (rdDTuple (Words.rdD s.data.toList 0 true)) ∧ Below w.heap.size w w' := by
  by_cases hlong : 10 < s.size
  · have HN : Hid (_ = _) := Words.rdD_long (l := s.data.toList) (by rw [Words.size_list]; exact hlong)
    go_enter Tryz.func186, Tryz.ntmps186
    go_wp2
    go_ret2
    exact ⟨by rw [HN.out]; rfl, Below.refl _ _⟩
  · go_enter Tryz.func186, Tryz.ntmps186
    go_wp2
    go_loop [4, 5] (fun x i => ∃ k n : Nat, k ≤ s.size ∧ n < 10 ^ k ∧ n ≤ 9999999999 ∧ i = .int .i64 (k : Int) ∧ x = .int .i64 (n : Int) ∧ n = Words.numF (s.data.toList.take k) 0)
      (fun _ i => s.size - (intOf i).toNat)
    case atStart => exact ⟨0, 0, by omega, by simp, by omega, rfl, rfl, rfl⟩
    case round =>
      obtain ⟨k, n, hk, hn, hn9, rfl, rfl, heq⟩ := hrel
      have HE : Hid (_ = _) := heq
      have HK : Hid (_ < _) := hn
      clear heq hn
      by_cases hlt : k < s.size
      · have hb : (s[k].toNat : Int) ≤ 255 := by have := s[k].toNat_lt; omega
        have hmem : s[k] ∈ s.data.toList := List.getElem_mem (l := s.data.toList) (by rw [Words.size_list]; exact hlt)
        have HM : Hid (_ ∈ _) := hmem
        clear hmem
        by_cases h1 : (s[k].toNat : Int) < 48
        · have HN : Hid (_ = _) := Words.rdD_nofig HM.out (by unfold Words.isFig; omega)
          go_wp2
          go_ret2
          exact ⟨by rw [HN.out]; rfl, Below.refl _ _⟩
        · by_cases h2 : (57 : Int) < (s[k].toNat : Int)
          · have HN : Hid (_ = _) := Words.rdD_nofig HM.out (by unfold Words.isFig; omega)
            go_wp2
            go_ret2
            exact ⟨by rw [HN.out]; rfl, Below.refl _ _⟩
          · go_wp2
            go_round
            case rel =>
              have hp : 10 * n + (s[k].toNat - 48) < 10 ^ (k + 1) := by have := HK.out; rw [Nat.pow_succ]; omega
              have hp10 : 10 ^ (k + 1) ≤ 10 ^ 10 := Nat.pow_le_pow_right (by omega) (by omega)
              have h10 : (10 : Nat) ^ 10 = 10000000000 := rfl
              exact ⟨k + 1, 10 * n + (s[k].toNat - 48), by omega, hp, by omega, by go_num, by go_num, by rw [numF_take hlt, ← HE.out]⟩
            case measure => simp [intOf]; omega
      · have HT : Hid (n = Words.numF s.data.toList 0) := by
          show _ = _
          rw [HE.out, List.take_of_length_le (by rw [Words.size_list]; omega)]
        by_cases hM : 1000000000 < n
        · have HN : Hid (_ = _) := Words.rdD_great (l := s.data.toList) (by rw [← HT.out]; exact hM)
          go_wp2
          go_ret2
          exact ⟨by rw [HN.out]; rfl, Below.refl _ _⟩
        · have hM2 : n ≤ 1000000000 := by omega
          by_cases hd : Words.dec n = s.data.toList
          · have HN : Hid (_ = _) := Words.rdD_yes (l := s.data.toList) (by rw [← HT.out]; exact hM2) (by rw [← HT.out]; exact hd)
            have hcmp : (Words.dec n == s.toList) = true := by rw [ByteArray.toList_eq, hd]; simp
            clear hd
            go_wp2_with (go_at_call 133; refine (dec_nat n hM2 _).mono ?_; rintro e w1 ⟨rfl, hb1⟩)
            go_ret2
            exact ⟨by rw [HN.out, ← HT.out]; rfl, hb1⟩
          · have HN : Hid (_ = _) := Words.rdD_other (l := s.data.toList) (by rw [← HT.out]; exact hd)
            have hcmp : (Words.dec n == s.toList) = false := by rw [ByteArray.toList_eq]; simpa using hd
            clear hd
            go_wp2_with (go_at_call 133; refine (dec_nat n hM2 _).mono ?_; rintro e w1 ⟨rfl, hb1⟩)
            go_ret2
            exact ⟨by rw [HN.out]; rfl, hb1⟩

/-- Is a number in a range? -/
theorem segIn_any (n : Int) (w : World) : Calls Tryz.prog 130 #[.int .i64 n, .int .i64 0, .int .i64 999] w fun e w' => e = .returned (.bool (decide (0 ≤ n ∧ n ≤ 999))) ∧ w = w' := by
  by_cases h1 : 0 ≤ n
  · by_cases h2 : n ≤ 999
    · rw [show decide (0 ≤ n ∧ n ≤ 999) = true from decide_eq_true ⟨h1, h2⟩]
      go_enter Tryz.func130, Tryz.ntmps130
      go_wp2
      go_ret
      exact ⟨rfl, rfl⟩
    · rw [show decide (0 ≤ n ∧ n ≤ 999) = false from decide_eq_false fun h => h2 h.2]
      go_enter Tryz.func130, Tryz.ntmps130
      go_wp2
      go_ret
      exact ⟨rfl, rfl⟩
  · rw [show decide (0 ≤ n ∧ n ≤ 999) = false from decide_eq_false fun h => h1 h.1]
    go_enter Tryz.func130, Tryz.ntmps130
    go_wp2
    go_ret
    exact ⟨rfl, rfl⟩
theorem segName_out {n : Int} (h : ¬ (0 ≤ n ∧ n ≤ 999)) : Shelves.segName n = ⟨#[]⟩ := by unfold Shelves.segName; rw [if_neg h]
theorem segName_cat {n : Int} (h : 0 ≤ n ∧ n ≤ 999) : (⟨#[103]⟩ : ByteArray) ++ ⟨(Words.dec n.toNat).toArray⟩ = Shelves.segName n := by
  apply Batches.by_inj
  rw [Shelves.segName_in h]
  show ((⟨#[103]⟩ : ByteArray) ++ ⟨(Words.dec n.toNat).toArray⟩).data.toList = _
  rw [str_app]
set_option maxHeartbeats 1000000 in
theorem specSeg_any (n : Int) (w : World) : Calls Tryz.prog 62 #[.int .i64 n] w fun e w' => e = .returned (.string (Shelves.segName n)) ∧ Below w.heap.size w w' := by
  by_cases h : 0 ≤ n ∧ n ≤ 999
  · obtain ⟨k, rfl⟩ := Int.eq_ofNat_of_zero_le h.1
    have hz : (⟨(Words.dec k).toArray⟩ : ByteArray).size ≤ 10 := by
      have := Words.dec_len k (by omega)
      show (Words.dec k).toArray.size ≤ 10
      simpa using this
    obtain ⟨D, hD⟩ : ∃ D : ByteArray, D = ⟨(Words.dec k).toArray⟩ := ⟨_, rfl⟩
    have HC : Hid ((⟨#[103]⟩ : ByteArray) ++ D = Shelves.segName (k : Int)) := by rw [hD]; exact segName_cat (n := (k : Int)) h
    have HS : Hid (∀ w : World, Calls Tryz.prog 133 #[.int .i64 (k : Int)] w fun e w' => e = .returned (.string D) ∧ Below w.heap.size w w') := fun w => by rw [hD]; exact dec_nat k (by omega) w
    have HT : Hid (decide (0 ≤ (k : Int) ∧ (k : Int) ≤ 999) = true) := decide_eq_true h
    rw [← hD] at hz
    clear hD h
    go_enter Tryz.func62, Tryz.ntmps62
    go_wp2_with (first | (go_at_call 130; refine (segIn_any (k : Int) _).mono ?_; rintro e w0 ⟨rfl, rfl⟩; rw [HT.out]) | (go_at_call 133; refine (HS.out _).mono ?_; rintro e w1 ⟨rfl, hb1⟩))
    go_ret
    exact ⟨by rw [HC.out]; rfl, hb1⟩
  · have HT : Hid (decide (0 ≤ n ∧ n ≤ 999) = false) := decide_eq_false h
    rw [segName_out h]
    clear h
    go_enter Tryz.func62, Tryz.ntmps62
    go_wp2_with (go_at_call 130; refine (segIn_any n _).mono ?_; rintro e w0 ⟨rfl, rfl⟩; rw [HT.out])
    go_ret
    exact ⟨rfl, Below.refl _ _⟩
/-- The number of a segment's name, or -1. -/
def segNum (name : ByteArray) : Int := match Shelves.segOf name with
  | none => -1
  | some n => (n : Int)
end Go.Proofs.YtbcfiiilikkkeaaGreatDoor
namespace Go.Proofs.YtbcfiiilikkkeaaGreatDoor
open Go.RowKit
set_option linter.unusedVariables false

set_option maxHeartbeats 1000000 in
theorem in9_is {a : Option Addr} {g off cap : Nat} (l : List Int) (hlen : l.length ≤ 1048576) (x : Int) (w : World) (hf : IntAt w a g off l) :
    Calls Tryz.prog 123 #[.slice a l.length cap, .int .i64 x] w fun e w' => e = .returned (.bool (l.contains x)) ∧ w' = w := by
  have HF : Hid (IntAt w a g off l) := hf
  clear hf
  obtain ⟨R, hR⟩ : ∃ R, R = l.contains x := ⟨_, rfl⟩
  rw [← hR]
  have HR : Hid (R = l.contains x) := hR
  clear hR
  go_enter Tryz.func123, Tryz.ntmps123
  go_wp2
  go_loop [5] (fun i => ∃ k : Nat, k ≤ l.length ∧ i = .int .i64 (k : Int) ∧ ∀ j (h : j < l.length), j < k → l[j] ≠ x) (fun i => l.length - (intOf i).toNat)
  case atStart => exact ⟨0, Nat.zero_le _, rfl, fun j h q => absurd q (Nat.not_lt_zero _)⟩
  case round =>
    obtain ⟨k, hk, rfl, hno⟩ := hrel
    have HN : Hid (∀ j (h : j < l.length), j < k → l[j] ≠ x) := hno
    clear hno
    by_cases hlt : k < l.length
    · have c0 := HF.out.2 k hlt
      have ea := HF.out.1 (by omega)
      subst ea
      obtain ⟨X, hX⟩ : ∃ X, X = l[k] := ⟨_, rfl⟩
      rw [← hX] at c0
      have HX : Hid (X = l[k]) := hX
      clear hX
      have hk0 : (0 : Int) ≤ (k : Int) := by omega
      have hk1 : (k : Int) < (l.length : Int) := by omega
      by_cases hx : X = x
      · have hRt : R = true := by
          rw [HR.out, List.contains_eq_mem, decide_eq_true_eq, ← hx, HX.out]
          exact List.getElem_mem _
        have HT : Hid (R = true) := hRt
        clear hRt
        have hc : (X == x) = true := by simp [hx]
        go_wp2
        go_ret
        exact ⟨by rw [HT.out]; rfl, rfl⟩
      · have hc : (X == x) = false := by simp [hx]
        have HE : Hid (X ≠ x) := hx
        clear hx
        go_wp2
        go_round
        case rel =>
          refine ⟨k + 1, by omega, by go_num, fun j h q => ?_⟩
          by_cases e : j = k
          · subst e; rw [← HX.out]; exact HE.out
          · exact HN.out j h (by omega)
        case measure => simp [intOf]; omega
    · have hRf : R = false := by
        rw [HR.out, List.contains_eq_mem, decide_eq_false_iff_not]
        intro hm
        obtain ⟨j, hj, e⟩ := List.getElem_of_mem hm
        exact HN.out j hj (by omega) e
      have HT : Hid (R = false) := hRf
      clear hRf
      go_wp2
      go_ret
      exact ⟨by rw [HT.out]; rfl, rfl⟩
theorem segNum_none {name : ByteArray} (h : Words.rdD ((Batches.by_ name).drop 1) 0 true = none) : segNum name = -1 := by
  unfold segNum Shelves.segOf
  rw [h]
theorem segNum_other {name : ByteArray} {n : Nat} (h : Words.rdD ((Batches.by_ name).drop 1) 0 true = some n) (h2 : Shelves.segName n ≠ name) : segNum name = -1 := by
  unfold segNum Shelves.segOf
  rw [h]
  simp only
  rw [if_neg (fun e => h2 (Batches.by_inj (beq_iff_eq.1 e)))]
theorem segNum_yes {name : ByteArray} {n : Nat} (h : Words.rdD ((Batches.by_ name).drop 1) 0 true = some n) (h2 : Shelves.segName n = name) : segNum name = (n : Int) := by
  unfold segNum Shelves.segOf
  rw [h]
  simp only
  rw [if_pos (by rw [h2]; simp)]
theorem segNum_short {name : ByteArray} (h : name.size < 2) : segNum name = -1 := by
  refine segNum_none ?_
  have e : (Batches.by_ name).drop 1 = [] := List.drop_of_length_le (by rw [Scan.by_len]; omega)
  rw [e]
  cases q : Words.rdD [] 0 true with
  | none => rfl
  | some n => exact absurd ((Words.rdD_iff _ _).1 q).2 (Words.dec_ne n)
set_option maxHeartbeats 1000000 in
theorem seg9_is (name : ByteArray) (hs : name.size ≤ 1048576) (w : World) :
    Calls Tryz.prog 122 #[.string name] w fun e w' => e = .returned (.int .i64 (segNum name)) ∧ Below w.heap.size w w' := by
  by_cases h2 : name.size < 2
  · rw [segNum_short h2]
    go_enter Tryz.func122, Tryz.ntmps122
    go_wp2
    go_ret
    exact ⟨rfl, Below.refl _ _⟩
  · obtain ⟨T, hT⟩ : ∃ T : ByteArray, T = name.extract 1 name.size := ⟨_, rfl⟩
    have hTd : T.data.toList = (Batches.by_ name).drop 1 := by
      rw [hT]
      simp [Batches.by_, ByteArray.data_extract, Array.toList_extract]
      rw [List.take_of_length_le]
      rw [List.length_tail]
      exact Nat.le_of_eq (by rw [Words.size_list])
    have hTs : T.size ≤ 1048576 := by
      rw [← Scan.by_len]
      show T.data.toList.length ≤ _
      rw [hTd, List.length_drop, Scan.by_len]; omega
    have HRD : Hid (∀ w : World, Calls Tryz.prog 186 #[.string T] w fun e w' => e = .returned (rdDTuple (Words.rdD ((Batches.by_ name).drop 1) 0 true)) ∧ Below w.heap.size w w') := fun w => by rw [← hTd]; exact specRD_any T hTs w
    have hsl : ∀ wx, (Instr.slice 9 (.string name) (some (.int .i64 1)) none none).run Tryz.prog wx = .ok (.string T) wx := fun wx => by
      rw [hT]
      have h3 : (1 : Int) ≤ (name.size : Int) := by omega
      simp [Instr.slice, h3, go_sem]
    clear hTd hTs hT
    cases hr : Words.rdD ((Batches.by_ name).drop 1) 0 true with
    | none =>
      rw [segNum_none hr]
      rw [hr] at HRD
      have HQ : Hid (∀ w : World, Calls Tryz.prog 186 #[.string T] w fun e w' => e = .returned (.tuple #[.int .i64 0, .bool false]) ∧ Below w.heap.size w w') := HRD.out
      clear hr HRD
      go_enter Tryz.func122, Tryz.ntmps122
      go_wp2_with (go_at_call 186; refine (HQ.out _).mono ?_; rintro e w1 ⟨rfl, hb1⟩)
      go_ret
      exact ⟨rfl, hb1⟩
    | some n =>
      by_cases hn : Shelves.segName n = name
      · rw [segNum_yes hr hn]
        rw [hr] at HRD
        have HQ : Hid (∀ w : World, Calls Tryz.prog 186 #[.string T] w fun e w' => e = .returned (.tuple #[.int .i64 (n : Int), .bool true]) ∧ Below w.heap.size w w') := HRD.out
        have hc : ((Shelves.segName n).toList == name.toList) = true := by rw [hn]; simp
        clear hr hn HRD
        go_enter Tryz.func122, Tryz.ntmps122
        go_wp2_with (first | (go_at_call 186; refine (HQ.out _).mono ?_; rintro e w1 ⟨rfl, hb1⟩) | (go_at_call 62; refine (specSeg_any (n : Int) _).mono ?_; rintro e w2 ⟨rfl, hb2⟩))
        go_ret
        exact ⟨rfl, hb1.trans (hb2.mono hb1.size)⟩
      · rw [segNum_other hr hn]
        rw [hr] at HRD
        have HQ : Hid (∀ w : World, Calls Tryz.prog 186 #[.string T] w fun e w' => e = .returned (.tuple #[.int .i64 (n : Int), .bool true]) ∧ Below w.heap.size w w') := HRD.out
        have hc : ((Shelves.segName n).toList == name.toList) = false := by
          cases q : ((Shelves.segName n).toList == name.toList)
          · rfl
          · rw [beq_iff_eq, Batches.toList_by, Batches.toList_by] at q
            exact absurd (Batches.by_inj q) hn
        clear hr hn HRD
        go_enter Tryz.func122, Tryz.ntmps122
        go_wp2_with (first | (go_at_call 186; refine (HQ.out _).mono ?_; rintro e w1 ⟨rfl, hb1⟩) | (go_at_call 62; refine (specSeg_any (n : Int) _).mono ?_; rintro e w2 ⟨rfl, hb2⟩))
        go_ret
        exact ⟨rfl, hb1.trans (hb2.mono hb1.size)⟩
set_option maxHeartbeats 2000000 in
set_option maxRecDepth 100000 in
theorem sameInts9_is {a b : Option Addr} {g off cap h off' cap' : Nat} (l m : List Int) (hlen : l.length ≤ 1048576) (hlen' : m.length ≤ 1048576) (R : Bool) (hR : R = true ↔ l = m) (w : World) (hf : IntAt w a g off l) (hf' : IntAt w b h off' m) :
    Calls Tryz.prog 172 #[.slice a l.length cap, .slice b m.length cap'] w fun e w' => e = .returned (.bool R) ∧ Below w.heap.size w w' := by
  have HF : Hid (IntAt w a g off l) := hf
  have HF' : Hid (IntAt w b h off' m) := hf'
  clear hf hf'
  by_cases hl : l.length = m.length
  · have HR : Hid (R = true ↔ l = m) := hR
    clear hR
    have hc : ((l.length : Int) != (m.length : Int)) = false := by simp; omega
    go_enter Tryz.func172, Tryz.ntmps172
    go_wp2
    go_loopw [5] (fun i wr => ∃ k : Nat, k ≤ l.length ∧ i = .int .i64 (k : Int) ∧ (∀ j (h1 : j < l.length) (h2 : j < m.length), j < k → l[j] = m[j]) ∧ Below w.heap.size w wr)
      (fun i _ => l.length - (intOf i).toNat)
    case atStart => exact ⟨0, Nat.zero_le _, rfl, fun j _ _ q => absurd q (Nat.not_lt_zero _), Below.refl _ _⟩
    case round =>
      obtain ⟨k, hk, rfl, hsm, hbel⟩ := hrel
      have HS : Hid (∀ j (h1 : j < l.length) (h2 : j < m.length), j < k → l[j] = m[j]) := hsm
      clear hsm
      by_cases hlt : k < l.length
      · have hltm : k < m.length := by omega
        have c0 := (HF.out.kept hbel).2 k hlt
        have d0 := (HF'.out.kept hbel).2 k hltm
        have ea := HF.out.1 (by omega)
        have eb := HF'.out.1 (by omega)
        subst ea eb
        obtain ⟨X, hX⟩ : ∃ X, X = l[k] := ⟨_, rfl⟩
        obtain ⟨Y, hY⟩ : ∃ Y, Y = m[k] := ⟨_, rfl⟩
        rw [← hX] at c0
        rw [← hY] at d0
        have HX : Hid (X = l[k]) := hX
        have HY : Hid (Y = m[k]) := hY
        clear hX hY
        have hk0 : (0 : Int) ≤ (k : Int) := by omega
        have hk1 : (k : Int) < (l.length : Int) := by omega
        have hk2 : (k : Int) < (m.length : Int) := by omega
        by_cases hxy : X = Y
        · have hcx : (X != Y) = false := by simp [hxy]
          have HXY : Hid (X = Y) := hxy
          clear hxy
          go_wp2
          have NE := Abv.ne wr
          have C0 := fun x : Abv wr => x.cell c0
          have D0 := fun x : Abv wr => x.cell d0
          refine wp_region_above (by kernel_rfl) (by kernel_rfl) ?_
          repeat (go_big_quiet_step (fail))
          refine wpQuiet_nil ?_
          rintro w1 ⟨⟨_, hb1⟩, rfl⟩
          clear NE C0 D0
          go_wp2
          go_roundw
          case rel =>
            refine ⟨k + 1, by omega, by go_num, fun j h1 h2 q => ?_, hbel.trans (hb1.mono hbel.size)⟩
            by_cases e : j = k
            · subst e; rw [← HX.out, ← HY.out]; exact HXY.out
            · exact HS.out j h1 h2 (by omega)
          case measure => simp [intOf]; omega
        · have hcx : (X != Y) = true := by simp [hxy]
          have hRf : R = false := by
            refine ans_no HR.out fun e => hxy ?_
            rw [HX.out, HY.out]
            subst e; rfl
          subst hRf
          clear HR hxy
          go_wp2
          have NE := Abv.ne wr
          have C0 := fun x : Abv wr => x.cell c0
          have D0 := fun x : Abv wr => x.cell d0
          refine wp_region_above (by kernel_rfl) (by kernel_rfl) ?_
          repeat (go_big_quiet_step (fail))
          refine wpQuiet_nil ?_
          rintro w1 ⟨⟨_, hb1⟩, rfl⟩
          clear NE C0 D0
          go_wp2
          go_ret
          exact ⟨rfl, hbel.trans (hb1.mono hbel.size)⟩
      · have hRt : R = true := HR.out.2 (List.ext_getElem hl fun j h1 h2 => HS.out j h1 h2 (by omega))
        subst hRt
        clear HR
        have hk1 : ¬ (k : Int) < (l.length : Int) := by omega
        go_wp2
        go_ret
        exact ⟨rfl, hbel⟩
  · have hRf : R = false := ans_no hR fun e => hl (by rw [e])
    subst hRf
    clear hR
    have hc : ((l.length : Int) != (m.length : Int)) = true := by simp; omega
    go_enter Tryz.func172, Tryz.ntmps172
    go_wp2
    go_ret
    exact ⟨rfl, Below.refl _ _⟩
end Go.Proofs.YtbcfiiilikkkeaaGreatDoor
namespace Go.Proofs.YtbcfiiilikkkeaaGreatDoor
open Go.RowKit
set_option linter.unusedVariables false

def zero7 : Array Value := #[.slice none 0 0, .int .i64 0, .int .i64 0, .int .i64 0, .slice none 0 0, .slice none 0 0, .int .i64 0]
def cells7 (s : ShelfL) (va vc vd : Value) : Array Value := #[va, .int .i64 s.man.next, .int .i64 s.man.base, .int .i64 s.man.term, vc, vd, .int .i64 s.stamp]
def shV (s : ShelfL) (va vc vd : Value) : Value := .agg (cells7 s va vc vd)
/-- The rows of a shelf that a call owns. -/
structure ShOwn (b : Nat) (s : ShelfL) (va vc vd : Value) (W : World) : Prop where
  segs : W.ownsRow b 3 1 va s.man.segs.length (cellsI s.man.segs)
  conf : W.ownsRow b 3 1 vc s.man.conf.length (cellsI s.man.conf)
  dir : W.ownsRow b 134 4 vd s.dir.length (cellsSpot s.dir)
theorem ShOwn.kept {b : Nat} {s : ShelfL} {va vc vd : Value} {W W' : World} (h : ShOwn b s va vc vd W) (hb : Below W.heap.size W W') : ShOwn b s va vc vd W' := ⟨own_kept h.segs hb, own_kept h.conf hb, own_kept h.dir hb⟩
theorem ShOwn.mono {b b' : Nat} {s : ShelfL} {va vc vd : Value} {W : World} (h : ShOwn b s va vc vd W) (hb : b' ≤ b) : ShOwn b' s va vc vd W := ⟨own_mono h.segs hb, own_mono h.conf hb, own_mono h.dir hb⟩
theorem ShOwn.set {b : Nat} {s : ShelfL} {va vc vd : Value} {W : World} (h : ShOwn b s va vc vd W) {g : Nat} {cs : Array Value} {t : TypeId} {fz : Nat × Nat} (hg : W.heap[g]? = some (.cells cs t fz)) (h1 : t ≠ 3) (h2 : t ≠ 134) (j : Nat) (x : Value) : ShOwn b s va vc vd (W.setCell ⟨g, j, none⟩ x) :=
  ⟨own_set h.segs _ _ _ (own_not h.segs hg (fun e => h1 e.symm)), own_set h.conf _ _ _ (own_not h.conf hg (fun e => h1 e.symm)), own_set h.dir _ _ _ (own_not h.dir hg (fun e => h2 e.symm))⟩
theorem ShOwn.zero (b : Nat) (W : World) : ShOwn b Shelves.zeroS (.slice none 0 0) (.slice none 0 0) (.slice none 0 0) W := ⟨World.ownsRow_nil _ _ _ _, World.ownsRow_nil _ _ _ _, World.ownsRow_nil _ _ _ _⟩
theorem seven_set {W : World} {Z : Nat} {a0 a1 a2 a3 a4 a5 a6 : Value} {t : TypeId} (h : W.heap[Z]? = some (.cells #[a0, a1, a2, a3, a4, a5, a6] t (0, 0))) (v0 v1 v2 v3 v4 v5 v6 : Value) :
    (((((((W.setCell ⟨Z, 0, none⟩ v0).setCell ⟨Z, 1, none⟩ v1).setCell ⟨Z, 2, none⟩ v2).setCell ⟨Z, 3, none⟩ v3).setCell ⟨Z, 4, none⟩ v4).setCell ⟨Z, 5, none⟩ v5).setCell ⟨Z, 6, none⟩ v6).heap[Z]? = some (.cells #[v0, v1, v2, v3, v4, v5, v6] t (0, 0)) := by
  have h1 := heap_setCell_same W Z 0 _ t v0 h
  have h2 := heap_setCell_same _ Z 1 _ t v1 h1
  have h3 := heap_setCell_same _ Z 2 _ t v2 h2
  have h4 := heap_setCell_same _ Z 3 _ t v3 h3
  have h5 := heap_setCell_same _ Z 4 _ t v4 h4
  have h6 := heap_setCell_same _ Z 5 _ t v5 h5
  have h7 := heap_setCell_same _ Z 6 _ t v6 h6
  simpa using h7
theorem seven_cells {W : World} {Z : Nat} {a0 a1 a2 a3 a4 a5 a6 : Value} {t : TypeId} (h : W.heap[Z]? = some (.cells #[a0, a1, a2, a3, a4, a5, a6] t (0, 0))) :
    (W.cell? ⟨Z, 0, none⟩ = some a0 ∧ W.cell? ⟨Z, 1, none⟩ = some a1 ∧ W.cell? ⟨Z, 2, none⟩ = some a2 ∧ W.cell? ⟨Z, 3, none⟩ = some a3 ∧ W.cell? ⟨Z, 4, none⟩ = some a4 ∧ W.cell? ⟨Z, 5, none⟩ = some a5 ∧ W.cell? ⟨Z, 6, none⟩ = some a6) ∧
      (W.frozen? ⟨Z, 0, none⟩ = false ∧ W.frozen? ⟨Z, 1, none⟩ = false ∧ W.frozen? ⟨Z, 2, none⟩ = false ∧ W.frozen? ⟨Z, 3, none⟩ = false ∧ W.frozen? ⟨Z, 4, none⟩ = false ∧ W.frozen? ⟨Z, 5, none⟩ = false ∧ W.frozen? ⟨Z, 6, none⟩ = false) :=
  ⟨⟨cell_of_row _ _ 0 _ _ _ h, cell_of_row _ _ 1 _ _ _ h, cell_of_row _ _ 2 _ _ _ h, cell_of_row _ _ 3 _ _ _ h, cell_of_row _ _ 4 _ _ _ h, cell_of_row _ _ 5 _ _ _ h, cell_of_row _ _ 6 _ _ _ h⟩,
   ⟨frozen_of_row _ _ 0 _ _ h, frozen_of_row _ _ 1 _ _ h, frozen_of_row _ _ 2 _ _ h, frozen_of_row _ _ 3 _ _ h, frozen_of_row _ _ 4 _ _ h, frozen_of_row _ _ 5 _ _ h, frozen_of_row _ _ 6 _ _ h⟩⟩
/-- A block of seven cells written anew. -/
def set7 (W : World) (Z : Nat) (v0 v1 v2 v3 v4 v5 v6 : Value) : World := ((((((W.setCell ⟨Z, 0, none⟩ v0).setCell ⟨Z, 1, none⟩ v1).setCell ⟨Z, 2, none⟩ v2).setCell ⟨Z, 3, none⟩ v3).setCell ⟨Z, 4, none⟩ v4).setCell ⟨Z, 5, none⟩ v5).setCell ⟨Z, 6, none⟩ v6
theorem set7_below {w W : World} {b Z : Nat} (h : Below b w W) (hZ : b ≤ Z) (v0 v1 v2 v3 v4 v5 v6 : Value) : Below b w (set7 W Z v0 v1 v2 v3 v4 v5 v6) :=
  ((((((h.setCell hZ _).setCell hZ _).setCell hZ _).setCell hZ _).setCell hZ _).setCell hZ _).setCell hZ _
theorem set7_own {W : World} {b Z : Nat} {cs : Array Value} {t : TypeId} {fz : Nat × Nat} {e k n : Nat} {v : Value} {xs : List Value} (h : W.ownsRow b e k v n xs) (hZ : W.heap[Z]? = some (.cells cs t fz)) (ht : e ≠ t) (v0 v1 v2 v3 v4 v5 v6 : Value) : (set7 W Z v0 v1 v2 v3 v4 v5 v6).ownsRow b e k v n xs := by
  have hn := own_not h hZ ht
  exact own_set (own_set (own_set (own_set (own_set (own_set (own_set h _ _ _ hn) _ _ _ hn) _ _ _ hn) _ _ _ hn) _ _ _ hn) _ _ _ hn) _ _ _ hn
theorem set7_sh {W : World} {b Z : Nat} {cs : Array Value} {t : TypeId} {fz : Nat × Nat} {s : ShelfL} {va vc vd : Value} (h : ShOwn b s va vc vd W) (hZ : W.heap[Z]? = some (.cells cs t fz)) (h3 : t ≠ 3) (h5 : t ≠ 134) (v0 v1 v2 v3 v4 v5 v6 : Value) : ShOwn b s va vc vd (set7 W Z v0 v1 v2 v3 v4 v5 v6) :=
  ⟨set7_own h.segs hZ (fun e => h3 e.symm) _ _ _ _ _ _ _, set7_own h.conf hZ (fun e => h3 e.symm) _ _ _ _ _ _ _, set7_own h.dir hZ (fun e => h5 e.symm) _ _ _ _ _ _ _⟩
end Go.Proofs.YtbcfiiilikkkeaaGreatDoor
