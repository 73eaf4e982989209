/- The call of the specification's DiskOk, walked. -/
import Derived.Test.YtpkkejpidlkmnaaMathDisk
import Derived.Deep.RegionWith
import Derived.Deep.QuietTactic
import Derived.BigQuiet
import Derived.Deep.RegionHeld3
namespace Go.Proofs.Ytpkkejpidlkmnaa
open Go.RowKit

set_option maxHeartbeats 400000 in
theorem in_yes (x a b : Int) (h : a ≤ x ∧ x ≤ b) (w : World) :
    Calls Try.prog 51 #[.int .i64 x, .int .i64 a, .int .i64 b] w fun e w' => e = .returned (.bool true) ∧ w = w' := by
  obtain ⟨h1, h2⟩ := h
  go_enter Try.func51, Try.ntmps51
  go_wp2
  go_ret
  exact ⟨rfl, rfl⟩
set_option maxHeartbeats 400000 in
theorem in_no (x a b : Int) (h : ¬ (a ≤ x ∧ x ≤ b)) (w : World) :
    Calls Try.prog 51 #[.int .i64 x, .int .i64 a, .int .i64 b] w fun e w' => e = .returned (.bool false) ∧ w = w' := by
  by_cases h1 : a ≤ x
  · have h2 : ¬ x ≤ b := fun h3 => h ⟨h1, h3⟩
    go_enter Try.func51, Try.ntmps51
    go_wp2
    go_ret
    exact ⟨rfl, rfl⟩
  · go_enter Try.func51, Try.ntmps51
    go_wp2
    go_ret
    exact ⟨rfl, rfl⟩
theorem in_yes_q (x a b : Int) (h : a ≤ x ∧ x ≤ b) (w : World) :
    Calls Try.prog 51 #[.int .i64 x, .int .i64 a, .int .i64 b] w fun e w' => e = .returned (.bool true) ∧ w' = w := (in_yes x a b h w).mono fun _ _ ⟨h1, h2⟩ => ⟨h1, h2.symm⟩
theorem in_no_q (x a b : Int) (h : ¬ (a ≤ x ∧ x ≤ b)) (w : World) :
    Calls Try.prog 51 #[.int .i64 x, .int .i64 a, .int .i64 b] w fun e w' => e = .returned (.bool false) ∧ w' = w := (in_no x a b h w).mono fun _ _ ⟨h1, h2⟩ => ⟨h1, h2.symm⟩
theorem ans_no {R : Bool} {p : Prop} (h : R = true ↔ p) (hp : ¬ p) : R = false := by
  cases R with
  | false => rfl
  | true => exact absurd (h.1 rfl) hp
theorem below_drewN {b : Nat} {w w' : World} (h : Below b w w') : ∀ n, Below b w (w'.drewN n)
  | 0 => h
  | n + 1 => (below_drewN h n).drew

set_option maxHeartbeats 4000000 in
set_option maxRecDepth 100000 in
theorem specDiskOk_big (R : Bool) {a : Option Addr} {g off cap : Nat} (l : List FileL) (hlen : l.length ≤ 1048576) (w : World) (hf : FilesAt w a g off l) (hsz : ∀ f ∈ l, f.1.size ≤ 2097152 ∧ f.2.size ≤ 2097152) (hR : R = true ↔ Disks.ok l) :
    Calls Try.prog 20 #[.agg #[.slice a l.length cap]] w fun e w' => e = .returned (.bool R) ∧ Below w.heap.size w w' := by
  have HR : Hid (R = true ↔ Disks.ok l) := hR
  clear hR
  have HF : Hid (FilesAt w a g off l) := hf
  have HS : Hid (∀ f ∈ l, f.1.size ≤ 2097152 ∧ f.2.size ≤ 2097152) := hsz
  clear hf hsz
  by_cases h30 : 30 < l.length
  · have h1 : (30 : Int) < (l.length : Int) := by omega
    go_enter Try.func20, Try.ntmps20
    go_wp2
    go_ret
    exact ⟨by rw [ans_no HR.out (fun h => by have := h.1; omega)]; rfl, (Below.refl _ _).alloc (Nat.le_refl _) _⟩
  · have h1 : ¬ (30 : Int) < (l.length : Int) := by omega
    go_enter Try.func20, Try.ntmps20
    go_wp2
    go_loopw [3] (fun i wr => ∃ k : Nat, k ≤ l.length ∧ i = .int .i64 (k : Int) ∧ (∀ j, j < k → Disks.okAt l j) ∧ wr.cell? ⟨w.heap.size, 0, none⟩ = some (.slice a l.length cap) ∧ Below w.heap.size w wr)
      (fun i _ => l.length - (intOf i).toNat)
    case atStart => exact ⟨0, Nat.zero_le _, rfl, fun j hj => absurd hj (Nat.not_lt_zero _), cell_of_row _ _ _ _ _ _ (heap_alloc_new w _), (Below.refl _ _).alloc (Nat.le_refl _) _⟩
    case round =>
      obtain ⟨k, hk, rfl, hall, hd, hbel⟩ := hrel
      have HA : Hid (∀ j, j < k → Disks.okAt l j) := hall
      clear hall
      by_cases hlt : k < l.length
      · obtain ⟨c0, c1⟩ := (HF.out.kept hbel).2 k hlt
        have ea := HF.out.1 (by omega)
        subst ea
        obtain ⟨A, hA⟩ : ∃ A, A = l[k].1 := ⟨_, rfl⟩
        obtain ⟨T, hT⟩ : ∃ T, T = l[k].2 := ⟨_, rfl⟩
        obtain ⟨s0, s1⟩ := HS.out l[k] (List.getElem_mem _)
        rw [← hA] at c0 s0
        rw [← hT] at c1 s1
        have HAA : Hid (A = l[k].1) := hA
        have HTT : Hid (T = l[k].2) := hT
        clear hA hT
        have hk0 : (0 : Int) ≤ (k : Int) := by omega
        have hk1 : (k : Int) < (l.length : Int) := by omega
        by_cases hn : 1 ≤ A.size ∧ A.size ≤ 12
        · by_cases ht : 20000 < T.size
          · have hti : (20000 : Int) < (T.size : Int) := by omega
            have htd : decide ((20000 : Int) < (T.size : Int)) = true := decide_eq_true hti
            have HN : Hid (¬ Disks.okAt l k) := by
              show ¬ _
              rintro ⟨_, ⟨_, _, q3⟩, _⟩
              rw [← HTT.out] at q3
              omega
            go_wp2
            go_quiet (first | (go_at_call 51; exact Calls.quiet_of_same (in_yes_q (A.size : Int) 1 12 (by omega) _)))
            go_wp2
            go_ret
            exact ⟨by rw [ans_no HR.out (Disks.not_ok hlt HN.out)]; rfl, below_drewN hbel _⟩
          · have hti : ¬ (20000 : Int) < (T.size : Int) := by omega
            have htd : decide ((20000 : Int) < (T.size : Int)) = false := decide_eq_false hti
            rcases Nat.eq_zero_or_pos k with hz | hp
            · have hkd : decide (0 < k) = false := decide_eq_false (by omega)
              have HZ : Hid (k = 0) := hz
              have HN : Hid (Disks.okAt l k) := ⟨hlt, ⟨by rw [← HAA.out]; exact hn.1, by rw [← HAA.out]; exact hn.2, by rw [← HTT.out]; omega⟩, fun h => absurd h (by omega)⟩
              clear hz
              go_wp2
              go_quiet (first | (go_at_call 51; exact Calls.quiet_of_same (in_yes_q (A.size : Int) 1 12 (by omega) _)))
              go_wp2
              go_roundw
              case rel => exact ⟨k + 1, by omega, by go_num, Disks.ok_step HA.out HN.out, hd, below_drewN hbel _⟩
              case measure => simp [intOf]; omega
            · obtain ⟨m, rfl⟩ : ∃ m, k = m + 1 := ⟨k - 1, by omega⟩
              obtain ⟨e0, _⟩ := (HF.out.kept hbel).2 m (by omega)
              obtain ⟨E, hE⟩ : ∃ E, E = l[m].1 := ⟨_, rfl⟩
              rw [← hE] at e0
              have HEE : Hid (E = l[m].1) := hE
              clear hE
              have hm1 : IntKind.i64.wrap ((m : Int) + 1 - 1) = (m : Int) := by rw [IntWalk.i64_in _ (by omega)]; omega
              have hm2 : decide ((0 : Int) < (m : Int) + 1) = true := decide_eq_true (by omega)
              have hm3 : (0 : Int) ≤ (m : Int) := by omega
              have hm4 : (m : Int) < (l.length : Int) := by omega
              by_cases hb : Op.bytesLess E.toList A.toList = true
              · go_wp2
                go_quiet (first | (go_at_call 51; exact Calls.quiet_of_same (in_yes_q (A.size : Int) 1 12 (by omega) _)))
                have HN : Hid (Disks.okAt l (m + 1)) := ⟨hlt, ⟨by rw [← HAA.out]; exact hn.1, by rw [← HAA.out]; exact hn.2, by rw [← HTT.out]; omega⟩, fun _ => ⟨by omega, by show Op.bytesLess _ _ = true; rw [← HAA.out]; simp only [Nat.add_sub_cancel]; rw [← HEE.out]; exact hb⟩⟩
                go_wp2
                go_roundw
                case rel => exact ⟨m + 1 + 1, by omega, by go_num, Disks.ok_step HA.out HN.out, hd, below_drewN hbel _⟩
                case measure => simp [intOf]; omega
              · have hb' : Op.bytesLess E.toList A.toList = false := by simpa using hb
                have HN : Hid (¬ Disks.okAt l (m + 1)) := by
                  show ¬ _
                  rintro ⟨_, _, q⟩
                  obtain ⟨_, q2⟩ := q (by omega)
                  simp only [Nat.add_sub_cancel, Disks.lt] at q2
                  rw [← HAA.out, ← HEE.out] at q2
                  exact hb q2
                go_wp2
                go_quiet (first | (go_at_call 51; exact Calls.quiet_of_same (in_yes_q (A.size : Int) 1 12 (by omega) _)))
                go_wp2
                go_ret
                exact ⟨by rw [ans_no HR.out (Disks.not_ok hlt HN.out)]; rfl, below_drewN hbel _⟩
        · have HN : Hid (¬ Disks.okAt l k) := by
            show ¬ _
            rintro ⟨_, ⟨q1, q2, _⟩, _⟩
            rw [← HAA.out] at q1 q2
            exact hn ⟨q1, q2⟩
          go_wp2
          go_quiet (first | (go_at_call 51; exact Calls.quiet_of_same (in_no_q (A.size : Int) 1 12 (by omega) _)))
          go_wp2
          go_ret
          exact ⟨by rw [ans_no HR.out (Disks.not_ok hlt HN.out)]; rfl, below_drewN hbel _⟩
      · have hk1 : ¬ (k : Int) < (l.length : Int) := by omega
        go_wp2
        go_ret
        exact ⟨by rw [HR.out.2 ⟨by omega, fun j hj => HA.out j (by omega)⟩]; rfl, hbel⟩
theorem specDiskOk_any (R : Bool) {a : Option Addr} {g off cap : Nat} (l : List FileL) (hlen : l.length ≤ 1048576) (w : World) (hf : FilesAt w a g off l) (hsz : ∀ f ∈ l, f.1.size ≤ 1048576 ∧ f.2.size ≤ 1048576) (hR : R = true ↔ Disks.ok l) :
    Calls Try.prog 20 #[.agg #[.slice a l.length cap]] w fun e w' => e = .returned (.bool R) ∧ Below w.heap.size w w' :=
  specDiskOk_big R l hlen w hf (fun f h => by have := hsz f h; omega) hR
end Go.Proofs.Ytpkkejpidlkmnaa
