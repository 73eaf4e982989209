/- The call of the specification's DiskOk, walked. The calls of l03At, l03Text and of the specification's FileAt, walked. -/
import Derived.Test.YtbcfiiilikkkeaaGreatDoorKit
import Derived.Test.YtbcfiiilikkkeaaGreatDoorMathAt
import Derived.Deep.RegionWith
import Derived.Deep.QuietTactic
import Derived.BigQuiet
import Derived.Deep.RegionHeld3
namespace Go.Proofs.YtbcfiiilikkkeaaGreatDoor
open Go.RowKit

set_option maxHeartbeats 400000 in
theorem in_yes_pk (x a b : Int) (h : a ≤ x ∧ x ≤ b) (w : World) :
    Calls Tryz.prog 130 #[.int .i64 x, .int .i64 a, .int .i64 b] w fun e w' => e = .returned (.bool true) ∧ w = w' := by
  obtain ⟨h1, h2⟩ := h
  go_enter Tryz.func130, Tryz.ntmps130
  go_wp2
  go_ret
  exact ⟨rfl, rfl⟩
set_option maxHeartbeats 400000 in
theorem in_no_pk (x a b : Int) (h : ¬ (a ≤ x ∧ x ≤ b)) (w : World) :
    Calls Tryz.prog 130 #[.int .i64 x, .int .i64 a, .int .i64 b] w fun e w' => e = .returned (.bool false) ∧ w = w' := by
  by_cases h1 : a ≤ x
  · have h2 : ¬ x ≤ b := fun h3 => h ⟨h1, h3⟩
    go_enter Tryz.func130, Tryz.ntmps130
    go_wp2
    go_ret
    exact ⟨rfl, rfl⟩
  · go_enter Tryz.func130, Tryz.ntmps130
    go_wp2
    go_ret
    exact ⟨rfl, rfl⟩
theorem in_yes_q (x a b : Int) (h : a ≤ x ∧ x ≤ b) (w : World) :
    Calls Tryz.prog 130 #[.int .i64 x, .int .i64 a, .int .i64 b] w fun e w' => e = .returned (.bool true) ∧ w' = w := (in_yes_pk x a b h w).mono fun _ _ ⟨h1, h2⟩ => ⟨h1, h2.symm⟩
theorem in_no_q (x a b : Int) (h : ¬ (a ≤ x ∧ x ≤ b)) (w : World) :
    Calls Tryz.prog 130 #[.int .i64 x, .int .i64 a, .int .i64 b] w fun e w' => e = .returned (.bool false) ∧ w' = w := (in_no_pk x a b h w).mono fun _ _ ⟨h1, h2⟩ => ⟨h1, h2.symm⟩
set_option maxHeartbeats 4000000 in
set_option maxRecDepth 100000 in
theorem specDiskOk_big (R : Bool) {a : Option Addr} {g off cap : Nat} (l : List FileL) (hlen : l.length ≤ 1048576) (w : World) (hf : FilesAt w a g off l) (hsz : ∀ f ∈ l, f.1.size ≤ 2097152 ∧ f.2.size ≤ 2097152) (hR : R = true ↔ Disks.ok l) :
    Calls Tryz.prog 96 #[.agg #[.slice a l.length cap]] w fun e w' => e = .returned (.bool R) ∧ Below w.heap.size w w' := by
  have HR : Hid (R = true ↔ Disks.ok l) := hR
  clear hR
  have HF : Hid (FilesAt w a g off l) := hf
  have HS : Hid (∀ f ∈ l, f.1.size ≤ 2097152 ∧ f.2.size ≤ 2097152) := hsz
  clear hf hsz
  by_cases h30 : 30 < l.length
  · have h1 : (30 : Int) < (l.length : Int) := by omega
    go_enter Tryz.func96, Tryz.ntmps96
    go_wp2
    go_ret
    exact ⟨by rw [ans_no HR.out (fun h => by have := h.1; omega)]; rfl, (Below.refl _ _).alloc (Nat.le_refl _) _⟩
  · have h1 : ¬ (30 : Int) < (l.length : Int) := by omega
    go_enter Tryz.func96, Tryz.ntmps96
    go_wp2
    go_loopw [3] (fun i wr => ∃ k : Nat, k ≤ l.length ∧ i = .int .i64 (k : Int) ∧ (∀ j, j < k → Disks.okAt l j) ∧ wr.cell? ⟨w.heap.size, 0, none⟩ = some (.slice a l.length cap) ∧ Below w.heap.size w wr)
      (fun i _ => l.length - (intOf i).toNat)
    case atStart => exact ⟨0, Nat.zero_le _, rfl, fun j hj => absurd hj (Nat.not_lt_zero _), cell_of_row _ _ _ _ _ _ (heap_alloc_new w _), (Below.refl _ _).alloc (Nat.le_refl _) _⟩
    case round =>
      obtain ⟨k, hk, rfl, hall, hd, hbel⟩ := hrel
      have HA : Hid (∀ j, j < k → Disks.okAt l j) := hall
      clear hall
      by_cases hlt : k < l.length
      · obtain ⟨c0, c1⟩ := (HF.out.kept hbel).2 k hlt
        have ea := HF.out.1 (by omega)
        subst ea
        obtain ⟨A, hA⟩ : ∃ A, A = l[k].1 := ⟨_, rfl⟩
        obtain ⟨T, hT⟩ : ∃ T, T = l[k].2 := ⟨_, rfl⟩
        obtain ⟨s0, s1⟩ := HS.out l[k] (List.getElem_mem _)
        rw [← hA] at c0 s0
        rw [← hT] at c1 s1
        have HAA : Hid (A = l[k].1) := hA
        have HTT : Hid (T = l[k].2) := hT
        clear hA hT
        have hk0 : (0 : Int) ≤ (k : Int) := by omega
        have hk1 : (k : Int) < (l.length : Int) := by omega
        by_cases hn : 1 ≤ A.size ∧ A.size ≤ 12
        · by_cases ht : 20000 < T.size
          · have hti : (20000 : Int) < (T.size : Int) := by omega
            have htd : decide ((20000 : Int) < (T.size : Int)) = true := decide_eq_true hti
            have HN : Hid (¬ Disks.okAt l k) := by
              show ¬ _
              rintro ⟨_, ⟨_, _, q3⟩, _⟩
              rw [← HTT.out] at q3
              omega
            go_wp2
            go_quiet (first | (go_at_call 130; exact Calls.quiet_of_same (in_yes_q (A.size : Int) 1 12 (by omega) _)))
            go_wp2
            go_ret
            exact ⟨by rw [ans_no HR.out (Disks.not_ok hlt HN.out)]; rfl, below_drewN hbel _⟩
          · have hti : ¬ (20000 : Int) < (T.size : Int) := by omega
            have htd : decide ((20000 : Int) < (T.size : Int)) = false := decide_eq_false hti
            rcases Nat.eq_zero_or_pos k with hz | hp
            · have hkd : decide (0 < k) = false := decide_eq_false (by omega)
              have HZ : Hid (k = 0) := hz
              have HN : Hid (Disks.okAt l k) := ⟨hlt, ⟨by rw [← HAA.out]; exact hn.1, by rw [← HAA.out]; exact hn.2, by rw [← HTT.out]; omega⟩, fun h => absurd h (by omega)⟩
              clear hz
              go_wp2
              go_quiet (first | (go_at_call 130; exact Calls.quiet_of_same (in_yes_q (A.size : Int) 1 12 (by omega) _)))
              go_wp2
              go_roundw
              case rel => exact ⟨k + 1, by omega, by go_num, Disks.ok_step HA.out HN.out, hd, below_drewN hbel _⟩
              case measure => simp [intOf]; omega
            · obtain ⟨m, rfl⟩ : ∃ m, k = m + 1 := ⟨k - 1, by omega⟩
              obtain ⟨e0, _⟩ := (HF.out.kept hbel).2 m (by omega)
              obtain ⟨E, hE⟩ : ∃ E, E = l[m].1 := ⟨_, rfl⟩
              rw [← hE] at e0
              have HEE : Hid (E = l[m].1) := hE
              clear hE
              have hm1 : IntKind.i64.wrap ((m : Int) + 1 - 1) = (m : Int) := by rw [IntWalk.i64_in _ (by omega)]; omega
              have hm2 : decide ((0 : Int) < (m : Int) + 1) = true := decide_eq_true (by omega)
              have hm3 : (0 : Int) ≤ (m : Int) := by omega
              have hm4 : (m : Int) < (l.length : Int) := by omega
              by_cases hb : Op.bytesLess E.toList A.toList = true
              · go_wp2
                go_quiet (first | (go_at_call 130; exact Calls.quiet_of_same (in_yes_q (A.size : Int) 1 12 (by omega) _)))
                have HN : Hid (Disks.okAt l (m + 1)) := ⟨hlt, ⟨by rw [← HAA.out]; exact hn.1, by rw [← HAA.out]; exact hn.2, by rw [← HTT.out]; omega⟩, fun _ => ⟨by omega, by show Op.bytesLess _ _ = true; rw [← HAA.out]; simp only [Nat.add_sub_cancel]; rw [← HEE.out]; exact hb⟩⟩
                go_wp2
                go_roundw
                case rel => exact ⟨m + 1 + 1, by omega, by go_num, Disks.ok_step HA.out HN.out, hd, below_drewN hbel _⟩
                case measure => simp [intOf]; omega
              · have hb' : Op.bytesLess E.toList A.toList = false := by simpa using hb
                have HN : Hid (¬ Disks.okAt l (m + 1)) := by
                  show ¬ _
                  rintro ⟨_, _, q⟩
                  obtain ⟨_, q2⟩ := q (by omega)
                  simp only [Nat.add_sub_cancel, Disks.lt] at q2
                  rw [← HAA.out, ← HEE.out] at q2
                  exact hb q2
                go_wp2
                go_quiet (first | (go_at_call 130; exact Calls.quiet_of_same (in_yes_q (A.size : Int) 1 12 (by omega) _)))
                go_wp2
                go_ret
                exact ⟨by rw [ans_no HR.out (Disks.not_ok hlt HN.out)]; rfl, below_drewN hbel _⟩
        · have HN : Hid (¬ Disks.okAt l k) := by
            show ¬ _
            rintro ⟨_, ⟨q1, q2, _⟩, _⟩
            rw [← HAA.out] at q1 q2
            exact hn ⟨q1, q2⟩
          go_wp2
          go_quiet (first | (go_at_call 130; exact Calls.quiet_of_same (in_no_q (A.size : Int) 1 12 (by omega) _)))
          go_wp2
          go_ret
          exact ⟨by rw [ans_no HR.out (Disks.not_ok hlt HN.out)]; rfl, below_drewN hbel _⟩
      · have hk1 : ¬ (k : Int) < (l.length : Int) := by omega
        go_wp2
        go_ret
        exact ⟨by rw [HR.out.2 ⟨by omega, fun j hj => HA.out j (by omega)⟩]; rfl, hbel⟩
theorem specDiskOk_any (R : Bool) {a : Option Addr} {g off cap : Nat} (l : List FileL) (hlen : l.length ≤ 1048576) (w : World) (hf : FilesAt w a g off l) (hsz : ∀ f ∈ l, f.1.size ≤ 1048576 ∧ f.2.size ≤ 1048576) (hR : R = true ↔ Disks.ok l) :
    Calls Tryz.prog 96 #[.agg #[.slice a l.length cap]] w fun e w' => e = .returned (.bool R) ∧ Below w.heap.size w w' :=
  specDiskOk_big R l hlen w hf (fun f h => by have := hsz f h; omega) hR
end Go.Proofs.YtbcfiiilikkkeaaGreatDoor
namespace Go.Proofs.YtbcfiiilikkkeaaGreatDoor
open Go.RowKit

set_option maxHeartbeats 1000000 in
set_option maxRecDepth 100000 in
theorem l03At_is {a : Option Addr} {g off cap : Nat} (l : List FileL) (hlen : l.length ≤ 1048576) (n : ByteArray) (x : Int) (hx : (Disks.None l n ∧ x = -1) ∨ ∃ k : Nat, Disks.At l n k ∧ x = (k : Int)) (w : World) (hf : FilesAt w a g off l) :
    Calls Tryz.prog 121 #[.agg #[.slice a l.length cap], .string n] w fun e w' => e = .returned (.int .i64 x) ∧ Below w.heap.size w w' := by
  have HF : Hid (FilesAt w a g off l) := hf
  have HX : Hid ((Disks.None l n ∧ x = -1) ∨ ∃ k : Nat, Disks.At l n k ∧ x = (k : Int)) := hx
  clear hf hx
  go_enter Tryz.func121, Tryz.ntmps121
  go_wp2
  go_loopw [5] (fun i wr => ∃ k : Nat, k ≤ l.length ∧ i = .int .i64 (k : Int) ∧ (∀ j (hj : j < k) (hl : j < l.length), Disks.nameIs n l[j] = false) ∧ wr.cell? ⟨w.heap.size, 0, none⟩ = some (.slice a l.length cap) ∧ Below w.heap.size w wr)
    (fun i _ => l.length - (intOf i).toNat)
  case atStart => exact ⟨0, Nat.zero_le _, rfl, fun j hj => absurd hj (Nat.not_lt_zero _), cell_of_row _ _ _ _ _ _ (heap_alloc_new w _), (Below.refl _ _).alloc (Nat.le_refl _) _⟩
  case round =>
    obtain ⟨k, hk, rfl, hall, hd, hbel⟩ := hrel
    have HA : Hid (∀ j (hj : j < k) (hl : j < l.length), Disks.nameIs n l[j] = false) := hall
    clear hall
    by_cases hlt : k < l.length
    · obtain ⟨c0, c1⟩ := (HF.out.kept hbel).2 k hlt
      have ea := HF.out.1 (by omega)
      subst ea
      obtain ⟨A, hA⟩ : ∃ A, A = l[k].1 := ⟨_, rfl⟩
      rw [← hA] at c0
      have HAA : Hid (A = l[k].1) := hA
      clear hA c1
      have hk0 : (0 : Int) ≤ (k : Int) := by omega
      have hk1 : (k : Int) < (l.length : Int) := by omega
      by_cases hb : (A.toList == n.toList) = true
      · have HK : Hid (x = (k : Int)) := by
          show _ = _
          have hat : Disks.At l n k := ⟨hlt, by unfold Disks.nameIs; rw [← HAA.out]; exact hb, fun j hj => HA.out j hj (by omega)⟩
          rcases HX.out with ⟨h1, _⟩ | ⟨k', h1, h2⟩
          · have := h1 k hlt
            unfold Disks.nameIs at this
            rw [← HAA.out, hb] at this
            cases this
          · rw [h2, Disks.at_unique hat h1]
        go_wp2
        go_ret
        exact ⟨by rw [HK.out]; rfl, hbel⟩
      · have hb' : (A.toList == n.toList) = false := by simpa using hb
        have HN : Hid (Disks.nameIs n l[k] = false) := by show _ = _; unfold Disks.nameIs; rw [← HAA.out]; exact hb'
        go_wp2
        go_roundw
        case rel => exact ⟨k + 1, by omega, by go_num, fun j hj hl => by
                                                        rcases Nat.lt_succ_iff_lt_or_eq.1 hj with h1 | h1
                                                        · exact HA.out j h1 hl
                                                        · subst h1; exact HN.out, hd, hbel⟩
        case measure => simp [intOf]; omega
    · have hk1 : ¬ (k : Int) < (l.length : Int) := by omega
      have HK : Hid (x = -1) := by
        show _ = _
        rcases HX.out with ⟨_, h1⟩ | ⟨k', ⟨h0, h1, _⟩, _⟩
        · exact h1
        · have := HA.out k' (by omega) h0
          rw [h1] at this
          cases this
      go_wp2
      go_ret
      exact ⟨by rw [HK.out]; rfl, hbel⟩

set_option maxHeartbeats 1000000 in
set_option maxRecDepth 100000 in
theorem l03Text_is {a : Option Addr} {g off cap : Nat} (l : List FileL) (hlen : l.length ≤ 1048576) (n t : ByteArray) (ht : Disks.TextIs l n t) (w : World) (hf : FilesAt w a g off l) :
    Calls Tryz.prog 63 #[.agg #[.slice a l.length cap], .string n] w fun e w' => e = .returned (.string t) ∧ Below w.heap.size w w' := by
  have HF : Hid (FilesAt w a g off l) := hf
  clear hf
  have hB : Below w.heap.size w (w.alloc (Obj.cells #[Value.slice a l.length cap] 46)) := (Below.refl _ _).alloc (Nat.le_refl _) _
  have HB : Hid (Below w.heap.size w (w.alloc (Obj.cells #[Value.slice a l.length cap] 46))) := hB
  have hd0 : (w.alloc (Obj.cells #[Value.slice a l.length cap] 46)).cell? ⟨w.heap.size, 0, none⟩ = some (.slice a l.length cap) := cell_of_row _ _ _ _ _ _ (heap_alloc_new w _)
  have hz0 := World.block_lt_of_cell? _ _ hd0
  have HD : Hid (_ = _) := hd0
  have HZ : Hid (_ < _) := hz0
  clear hB hd0 hz0
  rcases ht with ⟨h1, rfl⟩ | ⟨k, hk, h1, rfl⟩
  · go_enter Tryz.func63, Tryz.ntmps63
    go_wp2_with fail
    refine (l03At_is l hlen n (-1) (Or.inl ⟨h1, rfl⟩) _ (HF.out.kept HB.out)).mono ?_
    rintro e w1 ⟨rfl, hb1⟩
    have hB1 := HB.out.trans (hb1.mono HB.out.size)
    go_wp2
    go_ret
    exact ⟨rfl, hB1⟩
  · obtain ⟨T, hT⟩ : ∃ T, T = l[k].2 := ⟨_, rfl⟩
    rw [← hT]
    have HT : Hid (T = l[k].2) := hT
    clear hT
    go_enter Tryz.func63, Tryz.ntmps63
    go_wp2_with fail
    refine (l03At_is l hlen n (k : Int) (Or.inr ⟨k, h1, rfl⟩) _ (HF.out.kept HB.out)).mono ?_
    rintro e w1 ⟨rfl, hb1⟩
    have hB1 := HB.out.trans (hb1.mono HB.out.size)
    have hd1 : w1.cell? ⟨w.heap.size, 0, none⟩ = some (.slice a l.length cap) := (hb1.cell (p := ⟨w.heap.size, 0, none⟩) HZ.out).trans HD.out
    obtain ⟨_, c1⟩ := (HF.out.kept hB1).2 k hk
    have ea := HF.out.1 (by omega)
    subst ea
    rw [← HT.out] at c1
    have hk0 : (0 : Int) ≤ (k : Int) := by omega
    have hk1 : (k : Int) < (l.length : Int) := by omega
    clear hb1
    go_wp2
    go_ret
    exact ⟨rfl, hB1⟩

def fileTuple : Option ByteArray → Value
  | none => .tuple #[.string ⟨#[]⟩, .bool false]
  | some t => .tuple #[.string t, .bool true]

set_option maxHeartbeats 1000000 in
set_option maxRecDepth 100000 in
theorem specFileAt_is {a : Option Addr} {g off cap : Nat} (l : List FileL) (hlen : l.length ≤ 1048576) (hsz : ∀ f ∈ l, f.1.size ≤ 1048576 ∧ f.2.size ≤ 1048576) (n : ByteArray) (o : Option ByteArray) (ho : Disks.FileIs l n o) (w : World) (hf : FilesAt w a g off l) :
    Calls Tryz.prog 182 #[.agg #[.slice a l.length cap], .string n] w fun e w' => e = .returned (fileTuple o) ∧ Below w.heap.size w w' := by
  have HF : Hid (FilesAt w a g off l) := hf
  have HS : Hid (∀ f ∈ l, f.1.size ≤ 1048576 ∧ f.2.size ≤ 1048576) := hsz
  clear hf hsz
  have hB : Below w.heap.size w (w.alloc (Obj.cells #[Value.slice a l.length cap] 46)) := (Below.refl _ _).alloc (Nat.le_refl _) _
  have HB : Hid (Below w.heap.size w (w.alloc (Obj.cells #[Value.slice a l.length cap] 46))) := hB
  have hd0 : (w.alloc (Obj.cells #[Value.slice a l.length cap] 46)).cell? ⟨w.heap.size, 0, none⟩ = some (.slice a l.length cap) := cell_of_row _ _ _ _ _ _ (heap_alloc_new w _)
  have hz0 := World.block_lt_of_cell? _ _ hd0
  have HD : Hid (_ = _) := hd0
  have HZ : Hid (_ < _) := hz0
  clear hB hd0 hz0
  obtain ⟨x, hx⟩ : ∃ x : Int, (Disks.None l n ∧ x = -1) ∨ ∃ k : Nat, Disks.At l n k ∧ x = (k : Int) := by
    rcases Disks.at_or_none l n with h | ⟨k, h⟩
    · exact ⟨-1, Or.inl ⟨h, rfl⟩⟩
    · exact ⟨k, Or.inr ⟨k, h, rfl⟩⟩
  have HX : Hid ((Disks.None l n ∧ x = -1) ∨ ∃ k : Nat, Disks.At l n k ∧ x = (k : Int)) := hx
  have HO : Hid (Disks.FileIs l n o) := ho
  clear hx ho
  go_enter Tryz.func182, Tryz.ntmps182
  go_wp2_with fail
  refine (l03At_is l hlen n x HX.out _ (HF.out.kept HB.out)).mono ?_
  rintro e w1 ⟨rfl, hb1⟩
  have hB1 := HB.out.trans (hb1.mono HB.out.size)
  have hd1 : w1.cell? ⟨w.heap.size, 0, none⟩ = some (.slice a l.length cap) := (hb1.cell (p := ⟨w.heap.size, 0, none⟩) HZ.out).trans HD.out
  have hz1 := World.block_lt_of_cell? _ _ hd1
  clear hb1 HD HZ HB
  by_cases hok : Disks.ok l
  · have HOK : Hid (Disks.ok l) := hok
    clear hok
    go_wp2_with fail
    refine (specDiskOk_any true l hlen w1 (HF.out.kept hB1) HS.out ⟨fun _ => HOK.out, fun _ => rfl⟩).mono ?_
    rintro e w2 ⟨rfl, hb2⟩
    have hB2 := hB1.trans (hb2.mono hB1.size)
    have hd2 : w2.cell? ⟨w.heap.size, 0, none⟩ = some (.slice a l.length cap) := (hb2.cell (p := ⟨w.heap.size, 0, none⟩) hz1).trans hd1
    clear hb2 hB1 hd1 hz1
    rcases HX.out with ⟨h1, h2⟩ | ⟨k, h1, h2⟩
    · subst h2
      have HE : Hid (o = none) := by
        show _ = _
        have h := HO.out
        cases o with
        | none => rfl
        | some t =>
          obtain ⟨_, k, hk, ⟨_, h3, _⟩, _⟩ := h
          have := h1 k hk
          rw [h3] at this
          cases this
      clear h1
      go_wp2
      go_ret2
      exact ⟨by rw [HE.out]; rfl, hB2⟩
    · subst h2
      obtain ⟨hk, _⟩ := id h1
      obtain ⟨T, hT⟩ : ∃ T, T = l[k].2 := ⟨_, rfl⟩
      have HE : Hid (o = some T) := by
        show _ = _
        have h := HO.out
        cases o with
        | none =>
          rcases h with h | h
          · exact absurd HOK.out h
          · obtain ⟨_, h3, _⟩ := h1
            have := h k hk
            rw [h3] at this
            cases this
        | some t =>
          obtain ⟨_, k', hk', h3, h4⟩ := h
          have := Disks.at_unique h1 h3
          subst this
          rw [h4, hT]
      have HT : Hid (T = l[k].2) := hT
      clear hT h1
      obtain ⟨_, c1⟩ := (HF.out.kept hB2).2 k hk
      have ea := HF.out.1 (by omega)
      subst ea
      rw [← HT.out] at c1
      have hk0 : (0 : Int) ≤ (k : Int) := by omega
      have hk1 : (k : Int) < (l.length : Int) := by omega
      go_wp2
      go_ret2
      exact ⟨by rw [HE.out]; rfl, hB2⟩
  · have HNK : Hid (¬ Disks.ok l) := hok
    have HE : Hid (o = none) := by
      show _ = _
      have h := HO.out
      cases o with
      | none => rfl
      | some t => exact absurd h.1 hok
    clear hok
    go_wp2_with fail
    refine (specDiskOk_any false l hlen w1 (HF.out.kept hB1) HS.out ⟨fun h => (by cases h), fun h => absurd h HNK.out⟩).mono ?_
    rintro e w2 ⟨rfl, hb2⟩
    have hB2 := hB1.trans (hb2.mono hB1.size)
    clear hb2 hB1
    go_wp2
    go_ret2
    exact ⟨by rw [HE.out]; rfl, hB2⟩
end Go.Proofs.YtbcfiiilikkkeaaGreatDoor
