/- Votes: what is one, by its numbers; ballotOf of the program, VoteText of both sides, walked. -/
import Derived.Test.YtahpoemmlpbgdaaDoorSealA
import Derived.Test.YtahpoemmlpbgdaaDoorTxtA
import Derived.Test.YtahpoemmlpbgdaaDoorKit
import Derived.Test.YtahpoemmlpbgdaaDoorAgg
import Derived.Laws.StructEq
namespace Go.Proofs.YtahpoemmlpbgdaaDoor
open Go.RowKit
set_option linter.unusedVariables false
set_option linter.unusedSimpArgs false

/-- What the program's one variable holds: the vote that is none. -/
def NoB (w : World) : Prop := w.cell? ⟨0, 0, none⟩ = some (.int .i64 (-1)) ∧ w.cell? ⟨0, 1, none⟩ = some (.int .i64 0) ∧ 0 < w.heap.size
theorem NoB.below {w w' : World} {B : Nat} (h : NoB w) (hb : Below B w w') (hB : 0 < B) : NoB w' :=
  ⟨by rw [hb.cell (p := ⟨0, 0, none⟩) hB]; exact h.1, by rw [hb.cell (p := ⟨0, 1, none⟩) hB]; exact h.2.1, Nat.lt_of_lt_of_le h.2.2 hb.size⟩
theorem NoB.up {w w' : World} (h : NoB w) (hb : Below w.heap.size w w') : NoB w' := h.below hb h.2.2
theorem NoB.alloc {w : World} (h : NoB w) (o : Obj) : NoB (w.alloc o) := h.up ((Below.refl _ _).alloc (Nat.le_refl _) o)
theorem NoB.grown {w w' : World} {g : Nat} (h : NoB w) (hg : w.grownBy w' (some g)) (hne : 0 < g) : NoB w' := by
  have hb : Below 1 w w' := ⟨hg.os, hg.tape, hg.output, hg.size, fun k hk => hg.block k (by have := h.2.2; omega) (fun e => by cases e; omega)⟩
  exact h.below hb (by omega)
/-- Whether two numbers are a vote's. -/
def voteB (t n : Int) : Bool := decide (0 ≤ t ∧ t ≤ 100000) && decide (0 ≤ n ∧ n ≤ 4)
theorem voteB_iff {t n : Int} : voteB t n = true ↔ (0 ≤ t ∧ t ≤ 100000) ∧ (0 ≤ n ∧ n ≤ 4) := by simp [voteB]
def btT (t n : Int) : Int := if voteB t n = true then t else -1
def btN (t n : Int) : Int := if voteB t n = true then n else 0
def btV (t n : Int) : Value := .agg #[.int .i64 (btT t n), .int .i64 (btN t n)]
theorem btV_yes {t n : Int} (h : voteB t n = true) : btV t n = .agg #[.int .i64 t, .int .i64 n] := by simp [btV, btT, btN, h]
theorem btV_no {t n : Int} (h : voteB t n = false) : btV t n = .agg #[.int .i64 (-1), .int .i64 0] := by simp [btV, btT, btN, h]
theorem termOk_is (x : Int) (R : Bool) (hR : R = decide (0 ≤ x ∧ x ≤ 100000)) (w : World) : Calls Tryd.prog 29 #[.int .i64 x] w fun en w' => en = .returned (.bool R) ∧ w' = w := by
  by_cases h0 : 0 ≤ x
  · by_cases h1 : x ≤ 100000
    · have HR : Hid (R = true) := by show _ = _; rw [hR]; simp [h0, h1]
      clear hR
      go_enter Tryd.func29, Tryd.ntmps29
      go_wp2
      go_ret
      exact ⟨by rw [HR.out]; simp [h1], rfl⟩
    · have HR : Hid (R = false) := by show _ = _; rw [hR]; simp [h1]
      clear hR
      go_enter Tryd.func29, Tryd.ntmps29
      go_wp2
      go_ret
      exact ⟨by rw [HR.out]; simp [h1], rfl⟩
  · have HR : Hid (R = false) := by show _ = _; rw [hR]; simp [h0]
    clear hR
    go_enter Tryd.func29, Tryd.ntmps29
    go_wp2
    go_ret
    exact ⟨by rw [HR.out]; rfl, rfl⟩
theorem one_block {w : World} {a0 a1 : Value} {t : TypeId} : (w.alloc (Obj.cells #[a0, a1] t)).cell? ⟨w.heap.size, 0, none⟩ = some a0 ∧ (w.alloc (Obj.cells #[a0, a1] t)).cell? ⟨w.heap.size, 1, none⟩ = some a1 := by
  constructor <;> simp
set_option maxHeartbeats 1000000 in
theorem ballotOf_is (t n : Int) (w : World) (hN : NoB w) : Calls Tryd.prog 15 #[.int .i64 t, .int .i64 n] w fun en w' => en = .returned (btV t n) ∧ Below w.heap.size w w' := by
  have hz := hN.2.2
  obtain ⟨c0, c1, _⟩ := hN.alloc (Obj.cells #[.int .i64 0, .int .i64 0] 36)
  have HB : ∀ A : Array Value, Below w.heap.size w (w.alloc (Obj.cells A 36)) := fun A => (Below.refl _ _).alloc (Nat.le_refl _) _
  by_cases h0 : 0 ≤ t ∧ t ≤ 100000
  · have HT : Hid (∀ W, Calls Tryd.prog 29 #[.int .i64 t] W fun en w' => en = .returned (.bool true) ∧ w' = W) := fun W => termOk_is t true (by simp [h0]) W
    by_cases h1 : n < 0
    · rw [btV_no (by simp [voteB]; omega)]
      clear h0
      go_enter Tryd.func15, Tryd.ntmps15
      go_wp2_with (go_at_call 29; refine (HT.out _).mono ?_; rintro e w1 ⟨rfl, rfl⟩)
      obtain ⟨l0, l1⟩ := one_block (w := w) (a0 := .int .i64 (-1)) (a1 := .int .i64 0) (t := 36)
      exact bodyPost_ret (v := .agg #[.int .i64 (-1), .int .i64 0]) (by simp [results, Tryd.results15, go_sem, l0, l1]) rfl ⟨rfl, HB _⟩
    · by_cases h2 : 4 < n
      · rw [btV_no (by simp [voteB]; omega)]
        clear h0
        go_enter Tryd.func15, Tryd.ntmps15
        go_wp2_with (go_at_call 29; refine (HT.out _).mono ?_; rintro e w1 ⟨rfl, rfl⟩)
        obtain ⟨l0, l1⟩ := one_block (w := w) (a0 := .int .i64 (-1)) (a1 := .int .i64 0) (t := 36)
        exact bodyPost_ret (v := .agg #[.int .i64 (-1), .int .i64 0]) (by simp [results, Tryd.results15, go_sem, l0, l1]) rfl ⟨rfl, HB _⟩
      · rw [btV_yes (by rw [voteB_iff]; omega)]
        clear h0
        go_enter Tryd.func15, Tryd.ntmps15
        go_wp2_with (go_at_call 29; refine (HT.out _).mono ?_; rintro e w1 ⟨rfl, rfl⟩)
        obtain ⟨l0, l1⟩ := one_block (w := w) (a0 := .int .i64 t) (a1 := .int .i64 n) (t := 36)
        exact bodyPost_ret (v := .agg #[.int .i64 t, .int .i64 n]) (by simp [results, Tryd.results15, go_sem, l0, l1]) rfl ⟨rfl, HB _⟩
  · have HT : Hid (∀ W, Calls Tryd.prog 29 #[.int .i64 t] W fun en w' => en = .returned (.bool false) ∧ w' = W) := fun W => termOk_is t false (by simp [h0]) W
    rw [btV_no (by simp [voteB]; omega)]
    clear h0
    go_enter Tryd.func15, Tryd.ntmps15
    go_wp2_with (go_at_call 29; refine (HT.out _).mono ?_; rintro e w1 ⟨rfl, rfl⟩)
    obtain ⟨l0, l1⟩ := one_block (w := w) (a0 := .int .i64 (-1)) (a1 := .int .i64 0) (t := 36)
    exact bodyPost_ret (v := .agg #[.int .i64 (-1), .int .i64 0]) (by simp [results, Tryd.results15, go_sem, l0, l1]) rfl ⟨rfl, HB _⟩
/-- What VoteText answers. -/
def voteRec (t n : Int) : ByteArray := varS t ++ varS n
def voteTuple (t n : Int) : Value := if voteB t n = true then frameTuple (voteRec t n) else .tuple #[.string ⟨#[]⟩, .bool false]
theorem varS_len (x : Int) (h0 : 0 ≤ x) (h1 : x ≤ 100000) : 1 ≤ (varS x).size ∧ (varS x).size ≤ 5 := by
  rw [(varS_is x).size]
  have h := Mans.var_five x.toNat (by omega)
  have h2 : 0 < (Words.var x.toNat).length := Words.var_pos x.toNat
  omega
theorem voteRec_size {t n : Int} (h : voteB t n = true) : 1 ≤ (voteRec t n).size ∧ (voteRec t n).size ≤ 10 := by
  rw [voteB_iff] at h
  have h1 := varS_len t h.1.1 h.1.2
  have h2 := varS_len n h.2.1 (by omega)
  unfold voteRec
  rw [ByteArray.size_append]
  omega
set_option maxHeartbeats 1000000 in
theorem specVote_is (t n : Int) (w : World) : Calls Tryd.prog 6 #[.int .i64 t, .int .i64 n] w fun en w' => en = .returned (voteTuple t n) ∧ Below w.heap.size w w' := by
  by_cases h0 : 0 ≤ t ∧ t ≤ 100000
  · by_cases h1 : 0 ≤ n ∧ n ≤ 4
    · have hv : voteB t n = true := voteB_iff.2 ⟨h0, h1⟩
      have hz := voteRec_size hv
      rw [voteTuple, if_pos hv]
      have HF : Hid (∀ W, Calls Tryd.prog 13 #[.string (varS t ++ varS n)] W fun e w' => e = .returned (frameTuple (voteRec t n)) ∧ Below W.heap.size W w') := fun W => specFrame_yes (voteRec t n) hz.1 (by omega) W
      have hz2 : ¬ 9223372036854775807 < (varS t).size + (varS n).size := by have := varS_len t h0.1 h0.2; have := varS_len n h1.1 (by omega); omega
      clear hv hz
      unfold frameTuple at HF ⊢
      go_enter Tryd.func6, Tryd.ntmps6
      go_wp2_with fail
      refine (in_yes t 0 100000 h0 _).mono ?_
      rintro e w1 ⟨rfl, rfl⟩
      go_wp2_with fail
      refine (in_yes n 0 4 h1 _).mono ?_
      rintro e w1 ⟨rfl, rfl⟩
      go_wp2_with fail
      refine (l01Var_q t h0.1 (by omega) _).mono ?_
      rintro e w1 ⟨rfl, hb1⟩
      go_wp2_with fail
      refine (l01Var_q n h1.1 (by omega) _).mono ?_
      rintro e w2 ⟨rfl, hb2⟩
      go_wp2_with fail
      refine (HF.out _).mono ?_
      rintro e w3 ⟨rfl, hb3⟩
      go_wp2
      go_ret2
      exact ⟨rfl, (hb1.trans (hb2.mono hb1.size)).trans (hb3.mono (by have := hb1.size; have := hb2.size; omega))⟩
    · have hv : voteB t n = false := by simp [voteB]; omega
      rw [voteTuple, if_neg (by rw [hv]; simp)]
      clear hv
      go_enter Tryd.func6, Tryd.ntmps6
      go_wp2_with fail
      refine (in_yes t 0 100000 h0 _).mono ?_
      rintro e w1 ⟨rfl, rfl⟩
      go_wp2_with fail
      refine (in_no n 0 4 h1 _).mono ?_
      rintro e w1 ⟨rfl, rfl⟩
      go_wp2
      go_ret2
      exact ⟨rfl, Below.refl _ _⟩
  · have hv : voteB t n = false := by simp [voteB]; omega
    rw [voteTuple, if_neg (by rw [hv]; simp)]
    clear hv
    go_enter Tryd.func6, Tryd.ntmps6
    go_wp2_with fail
    refine (in_no t 0 100000 h0 _).mono ?_
    rintro e w1 ⟨rfl, rfl⟩
    go_wp2
    go_ret2
    exact ⟨rfl, Below.refl _ _⟩
end Go.Proofs.YtahpoemmlpbgdaaDoor
