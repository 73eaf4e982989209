/- Texts that a call owns; the law's own marks, walked. Lists of changes in memory, 3 cells each; measured, copied, held against each other, marked. Made by program. The calls of the program's reader, walked: need, number, count, short, one, flag, change; each ends with its answer or with the panic that the reader throws. -/
import Derived.Test.YtbcfiiilikkkeaaGreatDoorVar
import Derived.Test.YtbcfiiilikkkeaaGreatDoorMathShelf
import Derived.Test.YtbcfiiilikkkeaaGreatDoorKit
import Derived.Test.YtbcfiiilikkkeaaGreatDoorMathScan
import Derived.Laws.AppendOwnNone
import Derived.Deep.RegionHeld3
import Derived.Deep.DeepCutAuto
import Derived.Deep.QuietTactic
namespace Go.Proofs.YtbcfiiilikkkeaaGreatDoor
open Go.RowKit

def cellsS (ps : List (List UInt8)) : List Value := ps.map fun p => .string ⟨p.toArray⟩
theorem cellsS_app (l m : List (List UInt8)) : cellsS (l ++ m) = cellsS l ++ cellsS m := by simp [cellsS]
theorem Tryz.info9 : (Tryz.prog.info? 9).map (fun i => (i.zero, i.size, i.bytes)) = some (some (.string ⟨#[]⟩), 1, 16) := by kernel_rfl
theorem one_string (w : World) (c : UInt8) :
    (convert 62 9 (.slice (some ⟨w.heap.size, 0, none⟩) 1 1)).run Tryz.prog (w.alloc (.cells #[.int .u8 (c.toNat : Int)] 5)) = .ok (.string ⟨#[c]⟩) (w.alloc (.cells #[.int .u8 (c.toNat : Int)] 5)) := by
  refine run_convert_bytes_back (P := Tryz.prog) _ 62 9 5 ⟨w.heap.size, 0, none⟩ 1 [c] Tryz.underlying62 Tryz.underlying5 Tryz.underlying9 fun j hj => ?_
  obtain rfl : j = 0 := by simpa using hj
  simp [Addr.add]

theorem str_app (c : UInt8) (S : ByteArray) : ((⟨#[c]⟩ : ByteArray) ++ S).data.toList = c :: S.data.toList := by
  rw [show ((⟨#[c]⟩ : ByteArray) ++ S).data.toList = (⟨#[c]⟩ : ByteArray).data.toList ++ S.data.toList from by simp]
  rfl
theorem str_ext {S : ByteArray} {l : List UInt8} (h : S.data.toList = l) : S = ⟨l.toArray⟩ := by
  cases S; simp at h; subst h; simp

end Go.Proofs.YtbcfiiilikkkeaaGreatDoor
namespace Go.Proofs.YtbcfiiilikkkeaaGreatDoor
open Go.RowKit
set_option linter.unusedVariables false
set_option linter.unusedSimpArgs false

def changeV (r : ChangeL) : Value := .agg #[.string r.key, .string r.value, .bool r.gone]
/-- A slice at a whose elements are these. -/
def ChangeAt (w : World) (a : Option Addr) (g off : Nat) (l : List ChangeL) : Prop :=
  (0 < l.length → a = some ⟨g, off, none⟩) ∧ ∀ j (hj : j < l.length), w.cell? ⟨g, off + j * 3, none⟩ = some (.string l[j].key) ∧ w.cell? ⟨g, off + j * 3 + 1, none⟩ = some (.string l[j].value) ∧ w.cell? ⟨g, off + j * 3 + 2, none⟩ = some (.bool l[j].gone)
theorem ChangeAt.lt {w : World} {a : Option Addr} {g off : Nat} {l : List ChangeL} (h : ChangeAt w a g off l) (hl : 0 < l.length) : g < w.heap.size := World.block_lt_of_cell? w _ (h.2 0 hl).1
theorem ChangeAt.kept {w w' : World} {a : Option Addr} {g off : Nat} {l : List ChangeL} (h : ChangeAt w a g off l) (hb : Below w.heap.size w w') : ChangeAt w' a g off l := by
  refine ⟨h.1, fun j hj => ?_⟩
  have hg := h.lt (by omega)
  rw [hb.cell (p := ⟨g, off + j * 3, none⟩) hg, hb.cell (p := ⟨g, off + j * 3 + 1, none⟩) hg, hb.cell (p := ⟨g, off + j * 3 + 2, none⟩) hg]
  exact h.2 j hj
def cellsChange (l : List ChangeL) : List Value := l.flatMap fun r => [.string r.key, .string r.value, .bool r.gone]
theorem cellsChange_app (l m : List ChangeL) : cellsChange (l ++ m) = cellsChange l ++ cellsChange m := by simp [cellsChange]
theorem cellsChange_at : ∀ (l : List ChangeL) (j : Nat) (hj : j < l.length), (cellsChange l)[j * 3]? = some (.string l[j].key) ∧ (cellsChange l)[j * 3 + 1]? = some (.string l[j].value) ∧ (cellsChange l)[j * 3 + 2]? = some (.bool l[j].gone)
  | r :: l, 0, _ => ⟨rfl, rfl, rfl⟩
  | r :: l, j + 1, hj => by
    have := cellsChange_at l j (by simpa using hj)
    simpa [cellsChange, Nat.add_mul, Nat.add_assoc] using this
theorem cellsChange_own {w : World} {base : Nat} {e : TypeId} {g n cap : Nat} {l : List ChangeL} (hn : l.length = n) (h : w.ownsRow base e 3 (.slice (some ⟨g, 0, none⟩) n cap) n (cellsChange l)) : ChangeAt w (some ⟨g, 0, none⟩) g 0 l := by
  refine ⟨fun _ => rfl, fun j hj => ?_⟩
  rw [Nat.zero_add, h.cellAt (j * 3) (by omega), h.cellAt (j * 3 + 1) (by omega), h.cellAt (j * 3 + 2) (by omega)]
  exact cellsChange_at l j hj
theorem cellsChange_slice {w : World} {base : Nat} {v : Value} {l : List ChangeL} (h : w.ownsRow base 149 3 v l.length (cellsChange l)) : ∃ a g cap, v = .slice a l.length cap ∧ ChangeAt w a g 0 l := by
  rcases h.2 with ⟨h1, h2⟩ | ⟨g, cap, cur, h1, _⟩
  · exact ⟨none, 0, 0, by rw [h1, h2], fun q => by omega, fun j hj => by omega⟩
  · subst h1; exact ⟨_, g, cap, rfl, cellsChange_own rfl h⟩
def smallChange (B : Nat) (r : ChangeL) : Prop := r.key.size ≤ B ∧ r.value.size ≤ B
theorem Tryz.info149 : (Tryz.prog.info? 149).map (fun i => (i.zero, i.size, i.bytes)) = some (some (.agg #[.string ByteArray.empty, .string ByteArray.empty, .bool false]), 3, 40) := by kernel_rfl
end Go.Proofs.YtbcfiiilikkkeaaGreatDoor
namespace Go.Proofs.YtbcfiiilikkkeaaGreatDoor
open Go.RowKit

/-- A reader at rb, that far in its text. -/
def Rd (w : World) (rb : Nat) (t : ByteArray) (a : Nat) : Prop := w.heap[rb]? = some (.cells #[.string t, .int .i64 (a : Int)] 299 (0, 0)) ∧ a ≤ t.size
theorem Rd.c0 {w : World} {rb : Nat} {t : ByteArray} {a : Nat} (h : Rd w rb t a) : w.cell? ⟨rb, 0, none⟩ = some (.string t) := cell_of_row _ _ 0 _ _ _ h.1
theorem Rd.c1 {w : World} {rb : Nat} {t : ByteArray} {a : Nat} (h : Rd w rb t a) : w.cell? ⟨rb, 1, none⟩ = some (.int .i64 (a : Int)) := cell_of_row _ _ 1 _ _ _ h.1
theorem Rd.fz {w : World} {rb : Nat} {t : ByteArray} {a : Nat} (h : Rd w rb t a) (i : Nat) : w.frozen? ⟨rb, i, none⟩ = false := frozen_of_row _ _ _ _ _ h.1
theorem Rd.set {w : World} {rb : Nat} {t : ByteArray} {a : Nat} (h : Rd w rb t a) {b : Nat} (hb : b ≤ t.size) : Rd (w.setCell ⟨rb, 1, none⟩ (.int .i64 (b : Int))) rb t b := by
  refine ⟨?_, hb⟩
  have := heap_setCell_same w rb 1 _ 299 (.int .i64 (b : Int)) h.1
  simpa using this
theorem Rd.lt {w : World} {rb : Nat} {t : ByteArray} {a : Nat} (h : Rd w rb t a) : rb < w.heap.size := (Array.getElem?_eq_some_iff.1 h.1).1
theorem Rd.below {w w' : World} {rb : Nat} {t : ByteArray} {a : Nat} (h : Rd w rb t a) (hb : Below w.heap.size w w') : Rd w' rb t a := ⟨(hb.block _ h.lt).trans h.1, h.2⟩
/-- What the reader throws. -/
def thrown : List PanicEntry := [{ v := .iface 375 (.agg #[]), recovered := false }]

set_option maxHeartbeats 400000 in
theorem need_yes (r : Value) (w : World) : Calls Tryz.prog 289 #[r, .bool true] w fun e w' => e = .returned (.tuple #[]) ∧ w = w' := by
  go_enter Tryz.func289, Tryz.ntmps289
  go_wp2
  go_end0
  exact ⟨rfl, rfl⟩
set_option maxHeartbeats 400000 in
theorem need_no (r : Value) (w : World) : Calls Tryz.prog 289 #[r, .bool false] w fun e w' => e = .panicked thrown ∧ w = w' := by
  go_enter Tryz.func289, Tryz.ntmps289
  go_wp2
  exact ⟨rfl, rfl, rfl⟩

theorem rdZ_at {t : ByteArray} {a : Nat} (h : a ≤ t.size) : rdZ t (a : Int) = Words.rd t.data.toList a := by
  rw [rdZ, if_pos ⟨by omega, by omega⟩, Int.toNat_natCast]

set_option maxHeartbeats 1000000 in
theorem number_some {rb : Nat} {t : ByteArray} {a n b : Nat} (hs : t.size ≤ 1048576) (w : World) (hr : Rd w rb t a) (h : Words.rd t.data.toList a = some (n, b)) :
    Calls Tryz.prog 245 #[.pointer (some ⟨rb, 0, none⟩)] w fun e w' => e = .returned (.int .i64 (n : Int)) ∧ Rd w' rb t b ∧ w.grownBy w' (some rb) := by
  have hb := (Batches.rd_cut h).2.1
  have HR : Hid (Rd w rb t a) := hr
  have HZ : Hid (rdZ t (a : Int) = some (n, b)) := (rdZ_at hr.2).trans h
  have c0 := hr.c0
  have c1 := hr.c1
  have f1 := hr.fz 1
  clear h hr
  go_enter Tryz.func245, Tryz.ntmps245
  go_wp2_with fail
  go_quiet (first | (go_at_call 288; exact Calls.quiet_of_same (implRead_some hs HZ.out _)))
  go_wp2_with (go_at_call 289; refine (need_yes _ _).mono ?_; rintro e w2 ⟨rfl, rfl⟩)
  go_ret
  exact ⟨rfl, Rd.set (w := w.drewN nq) HR.out hb, (grown_drewN (World.grownBy.refl w _) nq).trans (grown_set _ _ _ _)⟩
set_option maxHeartbeats 1000000 in
theorem number_none {rb : Nat} {t : ByteArray} {a : Nat} (hs : t.size ≤ 1048576) (w : World) (hr : Rd w rb t a) (h : Words.rd t.data.toList a = none) :
    Calls Tryz.prog 245 #[.pointer (some ⟨rb, 0, none⟩)] w fun e w' => e = .panicked thrown ∧ w.grownBy w' (some rb) := by
  have HZ : Hid (rdZ t (a : Int) = none) := (rdZ_at hr.2).trans h
  have c0 := hr.c0
  have c1 := hr.c1
  clear h hr
  go_enter Tryz.func245, Tryz.ntmps245
  go_wp2_with fail
  go_quiet (first | (go_at_call 288; exact Calls.quiet_of_same (implRead_none hs HZ.out _)))
  go_wp2_with (go_at_call 289; refine (need_no _ _).mono ?_; rintro e w2 ⟨rfl, rfl⟩)
  exact ⟨rfl, rfl, grown_drewN (World.grownBy.refl w _) nq⟩

set_option maxHeartbeats 1000000 in
theorem count_some {rb : Nat} {t : ByteArray} {a n b : Nat} (hs : t.size ≤ 1048576) (w : World) (hr : Rd w rb t a) (h : Words.rd t.data.toList a = some (n, b)) (hn : n ≤ 60) :
    Calls Tryz.prog 280 #[.pointer (some ⟨rb, 0, none⟩), .int .i64 60] w fun e w' => e = .returned (.int .i64 (n : Int)) ∧ Rd w' rb t b ∧ w.grownBy w' (some rb) := by
  have HR : Hid (Rd w rb t a) := hr
  have HH : Hid (Words.rd t.data.toList a = some (n, b)) := h
  have hn' : (n : Int) ≤ 60 := by omega
  clear h hr
  go_enter Tryz.func280, Tryz.ntmps280
  go_wp2_with (first | (go_at_call 245; refine (number_some hs _ HR.out HH.out).mono ?_; rintro e w1 ⟨rfl, h1, h2⟩) | (go_at_call 289; refine (need_yes _ _).mono ?_; rintro e w2 ⟨rfl, rfl⟩))
  go_ret
  exact ⟨rfl, h1, h2⟩
set_option maxHeartbeats 1000000 in
theorem count_none {rb : Nat} {t : ByteArray} {a : Nat} (hs : t.size ≤ 1048576) (w : World) (hr : Rd w rb t a) (h : Words.rd t.data.toList a = none) :
    Calls Tryz.prog 280 #[.pointer (some ⟨rb, 0, none⟩), .int .i64 60] w fun e w' => e = .panicked thrown ∧ w.grownBy w' (some rb) := by
  have HR : Hid (Rd w rb t a) := hr
  have HH : Hid (Words.rd t.data.toList a = none) := h
  clear h hr
  go_enter Tryz.func280, Tryz.ntmps280
  go_wp2_with (first | (go_at_call 245; refine (number_none hs _ HR.out HH.out).mono ?_; rintro e w1 ⟨rfl, h2⟩))
  exact ⟨rfl, rfl, h2⟩
set_option maxHeartbeats 200000 in
theorem count_over {rb : Nat} {t : ByteArray} {a n b : Nat} (hs : t.size ≤ 1048576) (w : World) (hr : Rd w rb t a) (h : Words.rd t.data.toList a = some (n, b)) (hn : ¬ n ≤ 60) :
    Calls Tryz.prog 280 #[.pointer (some ⟨rb, 0, none⟩), .int .i64 60] w fun e w' => e = .panicked thrown ∧ w.grownBy w' (some rb) := by
  have HR : Hid (Rd w rb t a) := hr
  have HH : Hid (Words.rd t.data.toList a = some (n, b)) := h
  have hn' : decide ((n : Int) ≤ 60) = false := decide_eq_false (by omega)
  have hn2 : decide (n ≤ 60) = false := decide_eq_false hn
  clear hn
  clear h hr
  go_enter Tryz.func280, Tryz.ntmps280
  go_wp2_with (first | (go_at_call 245; refine (number_some hs _ HR.out HH.out).mono ?_; rintro e w1 ⟨rfl, h1, h2⟩) | (go_at_call 289; refine (need_no _ _).mono ?_; rintro e w2 ⟨rfl, rfl⟩))
  exact ⟨rfl, rfl, h2⟩

theorem rdShort_parts {t : ByteArray} {a b : Nat} {x : ByteArray} (ha : a ≤ t.size) (h : Batches.rdShort t a = some (x, b)) : ∃ n k, rdZ t (a : Int) = some (n, k) ∧ n ≤ 20000 ∧ k + n ≤ t.size ∧ x = t.extract k (k + n) ∧ b = k + n := by
  unfold Batches.rdShort at h
  split at h
  · cases h
  · rename_i n k hr
    split at h
    · rename_i hn
      simp only [Option.some.injEq, Prod.mk.injEq] at h
      exact ⟨n, k, (rdZ_at ha).trans hr, hn.1, hn.2, h.1.symm, h.2.symm⟩
    · cases h
theorem rdShort_not {t : ByteArray} {a : Nat} (ha : a ≤ t.size) (h : Batches.rdShort t a = none) : rdZ t (a : Int) = none ∨ ∃ n k, rdZ t (a : Int) = some (n, k) ∧ (20000 < n ∨ t.size < k + n) ∧ k ≤ t.size ∧ n ≤ 1000000000 := by
  unfold Batches.rdShort at h
  split at h
  · rename_i hr; exact Or.inl ((rdZ_at ha).trans hr)
  · rename_i n k hr
    split at h
    · cases h
    · rename_i hn
      obtain ⟨_, h2, _, h4⟩ := Batches.rd_cut hr
      exact Or.inr ⟨n, k, (rdZ_at ha).trans hr, by omega, h2, h4⟩
theorem implRS_some {t : ByteArray} {a b : Nat} {x : ByteArray} (hs : t.size ≤ 1048576) (ha : a ≤ t.size) (h : Batches.rdShort t a = some (x, b)) (w : World) :
    Calls Tryz.prog 330 #[.string t, .int .i64 (a : Int)] w fun e w' => e = .returned (.tuple #[.string x, .int .i64 (b : Int), .bool true]) ∧ Below w.heap.size w w' := by
  obtain ⟨n, k, h1, h2, h3, rfl, rfl⟩ := rdShort_parts ha h
  have := implRS_yes hs h1 h2 h3 w
  exact this
theorem implRS_not {t : ByteArray} {a : Nat} (hs : t.size ≤ 1048576) (ha : a ≤ t.size) (h : Batches.rdShort t a = none) (w : World) :
    Calls Tryz.prog 330 #[.string t, .int .i64 (a : Int)] w fun e w' => e = .returned (.tuple #[.string ⟨#[]⟩, .int .i64 0, .bool false]) ∧ Below w.heap.size w w' := by
  rcases rdShort_not ha h with h1 | ⟨n, k, h1, h2, h3, h4⟩
  · exact implRS_none hs h1 w
  · exact implRS_no hs h1 h3 h2 h4 w

set_option maxHeartbeats 1000000 in
theorem short_some {rb : Nat} {t : ByteArray} {a b : Nat} {x : ByteArray} (hs : t.size ≤ 1048576) (w : World) (hr : Rd w rb t a) (h : Batches.rdShort t a = some (x, b)) :
    Calls Tryz.prog 309 #[.pointer (some ⟨rb, 0, none⟩)] w fun e w' => e = .returned (.string x) ∧ Rd w' rb t b ∧ w.grownBy w' (some rb) := by
  have hb := (Batches.rdShort_cut h).2.1
  have ha := hr.2
  have HR : Hid (Rd w rb t a) := hr
  have HH : Hid (Batches.rdShort t a = some (x, b)) := h
  have c0 := hr.c0
  have c1 := hr.c1
  clear h hr
  go_enter Tryz.func309, Tryz.ntmps309
  go_wp2_with fail
  have NE := Abv.ne w
  have F0 := fun x : Abv w => x.cell c0
  have F1 := fun x : Abv w => x.cell c1
  refine wp_region_above (by kernel_rfl) (by kernel_rfl) ?_
  repeat (go_big_quiet_step (first | (go_at_call 330; exact calls_above (implRS_some hs ha HH.out _))))
  refine wpQuiet_nil ?_
  rintro w1 ⟨⟨_, hb1⟩, rfl⟩
  clear NE F0 F1
  rename World => w1
  have hr1 := HR.out.below hb1
  have f1 := hr1.fz 1
  have d1 := hr1.c1
  have HR1 : Hid (Rd w1 rb t a) := hr1
  clear hr1
  go_wp2_with (go_at_call 289; refine (need_yes _ _).mono ?_; rintro e w2 ⟨rfl, rfl⟩)
  go_ret
  exact ⟨rfl, HR1.out.set hb, (own_below' hb1).trans (grown_set _ _ _ _)⟩
set_option maxHeartbeats 1000000 in
theorem short_none {rb : Nat} {t : ByteArray} {a : Nat} (hs : t.size ≤ 1048576) (w : World) (hr : Rd w rb t a) (h : Batches.rdShort t a = none) :
    Calls Tryz.prog 309 #[.pointer (some ⟨rb, 0, none⟩)] w fun e w' => e = .panicked thrown ∧ w.grownBy w' (some rb) := by
  have ha := hr.2
  have HH : Hid (Batches.rdShort t a = none) := h
  have c0 := hr.c0
  have c1 := hr.c1
  clear h hr
  go_enter Tryz.func309, Tryz.ntmps309
  go_wp2_with fail
  have NE := Abv.ne w
  have F0 := fun x : Abv w => x.cell c0
  have F1 := fun x : Abv w => x.cell c1
  refine wp_region_above (by kernel_rfl) (by kernel_rfl) ?_
  repeat (go_big_quiet_step (first | (go_at_call 330; exact calls_above (implRS_not hs ha HH.out _))))
  refine wpQuiet_nil ?_
  rintro w1 ⟨⟨_, hb1⟩, rfl⟩
  clear NE F0 F1
  go_wp2_with (go_at_call 289; refine (need_no _ _).mono ?_; rintro e w2 ⟨rfl, rfl⟩)
  exact ⟨rfl, rfl, own_below' hb1⟩
end Go.Proofs.YtbcfiiilikkkeaaGreatDoor
