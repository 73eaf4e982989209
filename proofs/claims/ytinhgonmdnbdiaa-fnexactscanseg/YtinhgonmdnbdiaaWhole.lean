/- The calls of the program's readWhole and ReadBatch, walked: the deferred closure that recovers, the closure that reads. -/
import Derived.Test.YtinhgonmdnbdiaaReadBatch
import Derived.Test.YtinhgonmdnbdiaaImplOk
import Derived.Defers
import Derived.Recover
namespace Go.Proofs.Ytinhgonmdnbdiaa
open Go.RowKit
set_option linter.unusedVariables false

theorem catch_panicking (p : Addr) (x : Bool) (u : TypeId) (pv : Value) (older : List PanicEntry) (w : World) (hc : w.cell? p = some (.bool x)) (hz : w.frozen? p = false) :
    CallsD Try.prog 67 #[.pointer (some p)] (.panicking ({ v := .iface u pv, recovered := false } :: older)) w fun e u' w' =>
      e = .returned (.tuple #[]) ∧ u' = .panicking ({ v := .iface u pv, recovered := true } :: older) ∧ w' = w.setCell p (.bool false) := by
  refine callsD_of_wpS Try.func67 rfl fun c₀ cs hu => ?_
  apply wpS_seq
  apply wpS_region
  simp [wpOpsS, go_sem, recoverD, hu, Try.ntmps67, Exit.thenS]
  refine wpS_cond (t := true) (by simp [Act.eval, Array.replicate]) ?_
  simp only [if_true]
  apply wpS_region
  simp [wpOpsS, go_sem, hc, hz, bodyPostS, results, Try.results67]

theorem catch_idle (p : Addr) (w : World) :
    CallsD Try.prog 67 #[.pointer (some p)] .returning w fun e u' w' => e = .returned (.tuple #[]) ∧ u' = .returning ∧ w' = w := by
  refine callsD_of_wpS Try.func67 rfl fun c₀ cs hu => ?_
  apply wpS_seq
  apply wpS_region
  simp [wpOpsS, go_sem, recoverD, hu, Try.ntmps67, Exit.thenS]
  refine wpS_cond (t := false) (by simp [Act.eval, Array.replicate]) ?_
  simp only [Bool.false_eq_true, if_false]
  refine wpS_of_wp (wp_skip ?_)
  cases c₀
  simp_all [bodyPostS, results, Try.results67]

/-- How the reading of a text breaks off. -/
def Reads (t : ByteArray) : Prop := Words.rd t.data.toList 0 = none ∨ (∃ st a1, Words.rd t.data.toList 0 = some (st, a1) ∧ Words.rd t.data.toList a1 = none) ∨
  (∃ st a1 n a2, Words.rd t.data.toList 0 = some (st, a1) ∧ Words.rd t.data.toList a1 = some (n, a2) ∧ ¬ n ≤ 60) ∨ (∃ st a1 n a2, Words.rd t.data.toList 0 = some (st, a1) ∧ Words.rd t.data.toList a1 = some (n, a2) ∧ n ≤ 60 ∧ Batches.rdMany t n a2 = none)
theorem Reads.nostamp {t : ByteArray} (h1 : Words.rd t.data.toList 0 = none) : Reads t := Or.inl h1
theorem Reads.nocount {t : ByteArray} (st a1 : Nat) (h1 : Words.rd t.data.toList 0 = some (st, a1)) (h2 : Words.rd t.data.toList a1 = none) : Reads t := Or.inr (Or.inl ⟨st, a1, h1, h2⟩)
theorem Reads.over {t : ByteArray} (st a1 n a2 : Nat) (h1 : Words.rd t.data.toList 0 = some (st, a1)) (h2 : Words.rd t.data.toList a1 = some (n, a2)) (hn : ¬ n ≤ 60) : Reads t := Or.inr (Or.inr (Or.inl ⟨st, a1, n, a2, h1, h2, hn⟩))
theorem Reads.torn {t : ByteArray} (st a1 n a2 : Nat) (h1 : Words.rd t.data.toList 0 = some (st, a1)) (h2 : Words.rd t.data.toList a1 = some (n, a2)) (hn : n ≤ 60) (h3 : Batches.rdMany t n a2 = none) : Reads t := Or.inr (Or.inr (Or.inr ⟨st, a1, n, a2, h1, h2, hn, h3⟩))
theorem batch_thrown {rb : Nat} {t : ByteArray} (hs : t.size ≤ 1048576) (w : World) (hr : Rd w rb t 0) (h : Reads t) :
    Calls Try.prog 88 #[.pointer (some ⟨rb, 0, none⟩)] w fun en w' => en = .panicked thrown ∧ w.grownBy w' (some rb) := by
  rcases h with h1 | ⟨st, a1, h1, h2⟩ | ⟨st, a1, n, a2, h1, h2, hn⟩ | ⟨st, a1, n, a2, h1, h2, hn, h3⟩
  · exact batch_nostamp hs w hr h1
  · exact batch_nocount hs w hr h1 h2
  · exact batch_over hs w hr h1 h2 hn
  · exact batch_torn hs w hr h1 h2 hn h3
/-- What is read, up to e. -/
def Gets (t : ByteArray) (st : Nat) (l : List ChangeL) (e : Nat) : Prop := ∃ a1 n a2, Words.rd t.data.toList 0 = some (st, a1) ∧ Words.rd t.data.toList a1 = some (n, a2) ∧ n ≤ 60 ∧ Batches.rdMany t n a2 = some (l, e)
theorem reads_or (t : ByteArray) : Reads t ∨ ∃ st l e, Gets t st l e := by
  cases h1 : Words.rd t.data.toList 0 with
  | none => exact Or.inl (Reads.nostamp h1)
  | some p =>
    obtain ⟨st, a1⟩ := p
    cases h2 : Words.rd t.data.toList a1 with
    | none => exact Or.inl (Reads.nocount st a1 h1 h2)
    | some q =>
      obtain ⟨n, a2⟩ := q
      by_cases hn : n ≤ 60
      · cases h3 : Batches.rdMany t n a2 with
        | none => exact Or.inl (Reads.torn st a1 n a2 h1 h2 hn h3)
        | some r => obtain ⟨l, e⟩ := r; exact Or.inr ⟨st, l, e, a1, n, a2, h1, h2, hn, h3⟩
      · exact Or.inl (Reads.over st a1 n a2 h1 h2 hn)
theorem batch_gets {rb : Nat} {t : ByteArray} {st e : Nat} {l : List ChangeL} (hs : t.size ≤ 1048576) (w : World) (hr : Rd w rb t 0) (h : Gets t st l e) :
    Calls Try.prog 88 #[.pointer (some ⟨rb, 0, none⟩)] w fun en w' => ∃ v, en = .returned (.agg #[.int .i64 (st : Int), v]) ∧ w'.ownsRow w.heap.size 53 3 v l.length (cellsChange l) ∧ Rd w' rb t e ∧ w.grownBy w' (some rb) := by
  obtain ⟨a1, n, a2, h1, h2, hn, h3⟩ := h
  exact batch_some hs w hr h1 h2 hn h3

set_option maxHeartbeats 400000 in
theorem lit_thrown {rb B0 : Nat} {t : ByteArray} (hs : t.size ≤ 1048576) (w : World) (hr : Rd w rb t 0) (h : Reads t) :
    Calls Try.prog 87 #[.pointer (some ⟨rb, 0, none⟩), .pointer (some ⟨B0, 0, none⟩)] w fun en w' => en = .panicked thrown ∧ w.grownBy w' (some rb) := by
  have HR : Hid (Rd w rb t 0) := hr
  clear hr
  go_enter Try.func87, Try.ntmps87
  go_wp2_with (go_at_call 88; refine (batch_thrown hs _ HR.out h).mono ?_; rintro e w1 ⟨rfl, hg1⟩)
  exact ⟨rfl, rfl, hg1⟩
set_option maxHeartbeats 400000 in
theorem lit_gets {rb B0 : Nat} {t : ByteArray} {st e : Nat} {l : List ChangeL} (hs : t.size ≤ 1048576) (w : World) (hr : Rd w rb t 0) (h : Gets t st l e) (hne : B0 ≠ rb) (hB : w.heap[B0]? = some (.cells #[.int .i64 0, .slice none 0 0] 47 (0, 0))) :
    Calls Try.prog 87 #[.pointer (some ⟨rb, 0, none⟩), .pointer (some ⟨B0, 0, none⟩)] w fun en w' => en = .returned (.tuple #[]) ∧
      ∃ v w1, w.grownBy w1 (some rb) ∧ w1.grownBy w' (some B0) ∧ w'.heap[B0]? = some (.cells #[.int .i64 (st : Int), v] 47 (0, 0)) ∧ w'.ownsRow w.heap.size 53 3 v l.length (cellsChange l) ∧ Rd w' rb t e := by
  have HR : Hid (Rd w rb t 0) := hr
  have HB : Hid (_ = _) := hB
  clear hr hB
  go_enter Try.func87, Try.ntmps87
  go_wp2_with fail
  refine (batch_gets hs _ HR.out h).mono ?_
  rintro en w1 ⟨v, rfl, hown, hr1, hg1⟩
  obtain ⟨va, vc, rfl⟩ := own_slice hown
  have hb1 := grown_keep HB.out hg1 hne
  have HB1 : Hid (_ = _) := hb1
  have HO1 : Hid (w1.ownsRow w.heap.size 53 3 (.slice va l.length vc) l.length (cellsChange l)) := hown
  have HR1 : Hid (Rd w1 rb t e) := hr1
  have HG1 : Hid (w.grownBy w1 (some rb)) := hg1
  have c0 := cell_of_row _ _ 0 _ _ _ hb1
  have c1 := cell_of_row _ _ 1 _ _ _ hb1
  have f0 := frozen_of_row _ _ 0 _ _ hb1
  have f1 := frozen_of_row _ _ 1 _ _ hb1
  simp at c0 c1
  clear hown hr1 hg1 hb1
  go_wp2
  go_end0
  refine ⟨rfl, .slice va l.length vc, w1, HG1.out, (grown_set _ _ _ _).trans (grown_set _ _ _ _), two_set HB1.out _ _, ?_, (HR1.out.setNew hne.symm 0 _).setNew hne.symm 1 _⟩
  exact own_set (own_set HO1.out _ _ _ (own_not HO1.out HB1.out (by decide))) _ _ _ (own_not HO1.out HB1.out (by decide))
end Go.Proofs.Ytinhgonmdnbdiaa
