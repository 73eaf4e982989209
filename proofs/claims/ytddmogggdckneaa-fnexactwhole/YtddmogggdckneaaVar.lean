/- The calls of l01Var and of VarText: they answer with the bytes of the number, and leave old memory as it was; for every number. -/
import Derived.Test.YtddmogggdckneaaProg
import Derived.Test.YtddmogggdckneaaMathA
import Derived.WalkKit
import Derived.WalkSpells
import Derived.WalkLawsBesides
import Derived.Laws.IdiomStrings
import Derived.Laws.BytesArg
import Derived.Laws.BitsAllLaws
namespace Go.Proofs.Ytddmogggdckneaa
open Go.RowKit

def cellsB (l : List UInt8) : List Value := l.map fun b => .int .u8 (b.toNat : Int)
theorem cellsB_len (l : List UInt8) : (cellsB l).length = l.length := by simp [cellsB]
theorem cellsB_app (l m : List UInt8) : cellsB (l ++ m) = cellsB l ++ cellsB m := by simp [cellsB]

theorem Try.info5 : (Try.prog.info? 5).map (fun i => (i.zero, i.size, i.bytes)) = some (some (.int .u8 0), 1, 1) := by kernel_rfl

/-- A row of bytes that the call owns, as a string. -/
theorem string_own {w : World} {base : Nat} {v : Value} {l : List UInt8} (h : w.ownsRow base 5 1 v l.length (cellsB l)) :
    (convert 148 9 v).run Try.prog w = .ok (.string ⟨l.toArray⟩) w := by
  have h0 := h
  rcases h.2 with ⟨rfl, hz⟩ | ⟨g, cap, cur, rfl, hg, hh, hnc, hcp, hcs, htake⟩
  · obtain rfl : l = [] := List.length_eq_zero_iff.1 hz
    rw [run_convert_bytes_nil w 148 5 Try.underlying148 Try.underlying5 0 0 9 Try.underlying9]
    rfl
  · refine run_convert_bytes_back (P := Try.prog) w 148 9 5 ⟨g, 0, none⟩ cap l Try.underlying148 Try.underlying5 Try.underlying9 fun j hj => ?_
    rw [Addr.add_lit, Nat.zero_add, h0.cellAt j (by omega)]
    simp [cellsB, hj]

theorem byte_cell (n : Nat) (h : n < 256) : Value.int .u8 (n : Int) = .int .u8 ((UInt8.ofNat n).toNat : Int) := by
  rw [Words.ofNat_toNat n h]

set_option maxHeartbeats 400000 in
theorem in_yes (x a b : Int) (h : a ≤ x ∧ x ≤ b) (w : World) :
    Calls Try.prog 65 #[.int .i64 x, .int .i64 a, .int .i64 b] w fun e w' => e = .returned (.bool true) ∧ w' = w := by
  obtain ⟨h1, h2⟩ := h
  go_enter Try.func65, Try.ntmps65
  go_wp2
  go_ret
  exact ⟨rfl, rfl⟩
set_option maxHeartbeats 400000 in
theorem in_no (x a b : Int) (h : ¬ (a ≤ x ∧ x ≤ b)) (w : World) :
    Calls Try.prog 65 #[.int .i64 x, .int .i64 a, .int .i64 b] w fun e w' => e = .returned (.bool false) ∧ w' = w := by
  by_cases h1 : a ≤ x
  · have h2 : ¬ x ≤ b := fun h3 => h ⟨h1, h3⟩
    go_enter Try.func65, Try.ntmps65
    go_wp2
    go_ret
    exact ⟨rfl, rfl⟩
  · go_enter Try.func65, Try.ntmps65
    go_wp2
    go_ret
    exact ⟨rfl, rfl⟩

/-- One byte put behind an owned row. -/
theorem own_snoc {w : World} {base : Nat} {v : Value} {pre : List UInt8} {c : UInt8} (h : w.ownsRow base 5 1 v (pre.length + 1) (cellsB pre ++ [.int .u8 (c.toNat : Int)])) :
    w.ownsRow base 5 1 v (pre ++ [c]).length (cellsB (pre ++ [c])) := by
  rw [cellsB_app, List.length_append]; exact h
theorem own_below {w : World} {base : Nat} {v : Value} {n : Nat} {xs : List Value} (h : w.ownsRow base 5 1 v n xs) : ∀ k, v.ownBlock = some k → base ≤ k := fun k hk => (h.lt k hk).1

theorem var_step {n m f : Nat} {pre : List UInt8} {c : UInt8} (hmf : m ≤ f) (hlt : 127 < m) (hc : (c.toNat : Int) = (m : Int) % 128 + 128) (h : pre ++ Words.varF f m = Words.var n) (hn : n ≤ 1000000000) :
    (pre ++ [c]) ++ Words.varF (f - 1) (m / 128) = Words.var n ∧ (pre ++ [c]).length ≤ 1000000001 := by
  have hcc : c = UInt8.ofNat (m % 128 + 128) := Words.byte_ext (by rw [Words.ofNat_toNat _ (by omega)]; omega)
  obtain ⟨g, rfl⟩ : ∃ g, f = g + 1 := ⟨f - 1, by omega⟩
  rw [Words.varF_big g m hlt] at h
  have e : (pre ++ [c]) ++ Words.varF (g + 1 - 1) (m / 128) = Words.var n := by rw [← h, hcc]; simp
  refine ⟨e, ?_⟩
  have l := congrArg List.length e
  have := Words.var_len n
  rw [List.length_append] at l
  omega
theorem var_last {n m f : Nat} {pre : List UInt8} {c : UInt8} (hlt : ¬ 127 < m) (hc : (c.toNat : Int) = (m : Int)) (h : pre ++ Words.varF f m = Words.var n) :
    pre ++ [c] = Words.var n := by
  have hcc : c = UInt8.ofNat m := Words.byte_ext (by rw [Words.ofNat_toNat _ (by omega)]; omega)
  rw [Words.varF_small f m (by omega)] at h
  rw [← h, hcc]
theorem byte_of (x : Int) (h0 : 0 ≤ x) (h1 : x < 256) : ∃ c : UInt8, Hid ((c.toNat : Int) = x) :=
  ⟨UInt8.ofNat x.toNat, by show _ = _; rw [Words.ofNat_toNat _ (by omega)]; omega⟩

end Go.Proofs.Ytddmogggdckneaa
