/- The calls of l01Var and of VarText: they answer with the bytes of the number, and leave old memory as it was; for every number. -/
import Derived.Test.YthcfnofhdbjemaaGreatDoorProg
import Derived.Test.YthcfnofhdbjemaaGreatDoorMath
import Derived.WalkKit
import Derived.WalkSpells
import Derived.WalkLawsBesides
import Derived.Laws.IdiomStrings
import Derived.Laws.BytesArg
import Derived.Laws.BitsAllLaws
namespace Go.Proofs.YthcfnofhdbjemaaGreatDoor
open Go.RowKit

def cellsB (l : List UInt8) : List Value := l.map fun b => .int .u8 (b.toNat : Int)
theorem cellsB_app (l m : List UInt8) : cellsB (l ++ m) = cellsB l ++ cellsB m := by simp [cellsB]

theorem Tryz.info5 : (Tryz.prog.info? 5).map (fun i => (i.zero, i.size, i.bytes)) = some (some (.int .u8 0), 1, 1) := by kernel_rfl

/-- A row of bytes that the call owns, as a string. -/
theorem string_own {w : World} {base : Nat} {v : Value} {l : List UInt8} (h : w.ownsRow base 5 1 v l.length (cellsB l)) :
    (convert 67 9 v).run Tryz.prog w = .ok (.string ⟨l.toArray⟩) w := by
  have h0 := h
  rcases h.2 with ⟨rfl, hz⟩ | ⟨g, cap, cur, rfl, hg, hh, hnc, hcp, hcs, htake⟩
  · obtain rfl : l = [] := List.length_eq_zero_iff.1 hz
    rw [run_convert_bytes_nil w 67 5 Tryz.underlying67 Tryz.underlying5 0 0 9 Tryz.underlying9]
    rfl
  · refine run_convert_bytes_back (P := Tryz.prog) w 67 9 5 ⟨g, 0, none⟩ cap l Tryz.underlying67 Tryz.underlying5 Tryz.underlying9 fun j hj => ?_
    rw [Addr.add_lit, Nat.zero_add, h0.cellAt j (by omega)]
    simp [cellsB, hj]

set_option maxHeartbeats 400000 in
theorem in_yes (x a b : Int) (h : a ≤ x ∧ x ≤ b) (w : World) :
    Calls Tryz.prog 39 #[.int .i64 x, .int .i64 a, .int .i64 b] w fun e w' => e = .returned (.bool true) ∧ w' = w := by
  obtain ⟨h1, h2⟩ := h
  go_enter Tryz.func39, Tryz.ntmps39
  go_wp2
  go_ret
  exact ⟨rfl, rfl⟩
set_option maxHeartbeats 400000 in
theorem in_no (x a b : Int) (h : ¬ (a ≤ x ∧ x ≤ b)) (w : World) :
    Calls Tryz.prog 39 #[.int .i64 x, .int .i64 a, .int .i64 b] w fun e w' => e = .returned (.bool false) ∧ w' = w := by
  by_cases h1 : a ≤ x
  · have h2 : ¬ x ≤ b := fun h3 => h ⟨h1, h3⟩
    go_enter Tryz.func39, Tryz.ntmps39
    go_wp2
    go_ret
    exact ⟨rfl, rfl⟩
  · go_enter Tryz.func39, Tryz.ntmps39
    go_wp2
    go_ret
    exact ⟨rfl, rfl⟩

/-- One byte put behind an owned row. -/
theorem own_snoc {w : World} {base : Nat} {v : Value} {pre : List UInt8} {c : UInt8} (h : w.ownsRow base 5 1 v (pre.length + 1) (cellsB pre ++ [.int .u8 (c.toNat : Int)])) :
    w.ownsRow base 5 1 v (pre ++ [c]).length (cellsB (pre ++ [c])) := by
  rw [cellsB_app, List.length_append]; exact h
theorem own_below {w : World} {base : Nat} {v : Value} {n : Nat} {xs : List Value} (h : w.ownsRow base 5 1 v n xs) : ∀ k, v.ownBlock = some k → base ≤ k := fun k hk => (h.lt k hk).1

theorem var_step {n m f : Nat} {pre : List UInt8} {c : UInt8} (hmf : m ≤ f) (hlt : 127 < m) (hc : (c.toNat : Int) = (m : Int) % 128 + 128) (h : pre ++ Words.varF f m = Words.var n) (hn : n ≤ 1000000000) :
    (pre ++ [c]) ++ Words.varF (f - 1) (m / 128) = Words.var n ∧ (pre ++ [c]).length ≤ 1000000001 := by
  have hcc : c = UInt8.ofNat (m % 128 + 128) := Words.byte_ext (by rw [Words.ofNat_toNat _ (by omega)]; omega)
  obtain ⟨g, rfl⟩ : ∃ g, f = g + 1 := ⟨f - 1, by omega⟩
  rw [Words.varF_big g m hlt] at h
  have e : (pre ++ [c]) ++ Words.varF (g + 1 - 1) (m / 128) = Words.var n := by rw [← h, hcc]; simp
  refine ⟨e, ?_⟩
  have l := congrArg List.length e
  have := Words.var_len n
  rw [List.length_append] at l
  omega
theorem var_last {n m f : Nat} {pre : List UInt8} {c : UInt8} (hlt : ¬ 127 < m) (hc : (c.toNat : Int) = (m : Int)) (h : pre ++ Words.varF f m = Words.var n) :
    pre ++ [c] = Words.var n := by
  have hcc : c = UInt8.ofNat m := Words.byte_ext (by rw [Words.ofNat_toNat _ (by omega)]; omega)
  rw [Words.varF_small f m (by omega)] at h
  rw [← h, hcc]
theorem byte_of (x : Int) (h0 : 0 ≤ x) (h1 : x < 256) : ∃ c : UInt8, Hid ((c.toNat : Int) = x) :=
  ⟨UInt8.ofNat x.toNat, by show _ = _; rw [Words.ofNat_toNat _ (by omega)]; omega⟩

set_option maxHeartbeats 1000000 in
set_option maxRecDepth 100000 in
theorem l01Var_any (n : Nat) (hn : n ≤ 1000000000) (w : World) :
    Calls Tryz.prog 37 #[.int .i64 (n : Int)] w fun e w' => e = .returned (.string ⟨(Words.var n).toArray⟩) ∧ Below w.heap.size w w' := by
  obtain ⟨i0, hi, hz0, hz1, hz2⟩ := info_parts Tryz.info5
  go_enter Tryz.func37, Tryz.ntmps37
  go_wp2
  go_loopw [0, 3] (fun x v wr => ∃ (m f : Nat) (pre : List UInt8), m ≤ f ∧ m ≤ 1000000000 ∧ x = .int .i64 (m : Int) ∧ pre.length ≤ 1000000001 ∧ pre ++ Words.varF f m = Words.var n ∧
      wr.ownsRow w.heap.size 5 1 v pre.length (cellsB pre) ∧ Below w.heap.size w wr)
    (fun x _ _ => (intOf x).toNat)
  case atStart => exact ⟨n, n, [], Nat.le_refl _, hn, rfl, by simp, rfl, World.ownsRow_made w #[] 0 (Nat.le_refl _) (by unfold maxLen; omega) rfl, (Below.refl _ _).alloc (Nat.le_refl _) _⟩
  case round =>
    obtain ⟨m, f, pre, hmf, hm, rfl, hpl, heq, hown, hbel⟩ := hrel
    have HE : Hid (pre ++ Words.varF f m = Words.var n) := heq
    clear heq
    by_cases hlt : 127 < m
    · obtain ⟨c, hc⟩ := byte_of ((m : Int) % 128 + 128) (by omega) (by omega)
      go_wp2_with (at_builtin; refine wpList_append_own _ rfl _ _ 67 rfl w.heap.size 5 i0 (.int .u8 0) 1 1 Tryz.underlying67 hi hz0 hz1 hz2 rfl (by decide) _ _ _ rfl (hown.alloc _) ⟨wr.heap.size, 0, none⟩ 1 1 [.int .u8 (c.toNat : Int)] rfl rfl ?c1 ?c2 ?c3 ?c4 ?c5 ?_)
      case c1 =>
        intro j u hj
        match j, hj with
        | 0, hj => simp at hj; subst hj; simp [Addr.add, hc.out]
      case c2 => intro u hu; simp at hu; subst hu; rfl
      case c3 => unfold maxLen; omega
      case c4 => omega
      case c5 => have := hbel.size; simp; omega
      intro v' w1 hown' hgrow _
      go_wp2
      go_roundw
      case rel =>
        have R := var_step hmf hlt hc.out HE.out hn
        exact ⟨m / 128, f - 1, pre ++ [c], by omega, by omega, by go_num, R.2, R.1, own_snoc hown', (hbel.alloc hbel.size _).grown hgrow (by have := hbel.size; simp; omega) (own_below hown)⟩
      case measure => simp [intOf]; omega
    · obtain ⟨c, hc⟩ := byte_of (m : Int) (by omega) (by omega)
      go_wp2_with (at_builtin; refine wpList_append_own _ rfl _ _ 67 rfl w.heap.size 5 i0 (.int .u8 0) 1 1 Tryz.underlying67 hi hz0 hz1 hz2 rfl (by decide) _ _ _ rfl (hown.alloc _) ⟨wr.heap.size, 0, none⟩ 1 1 [.int .u8 (c.toNat : Int)] rfl rfl ?d1 ?d2 ?d3 ?d4 ?d5 ?_)
      case d1 =>
        intro j u hj
        match j, hj with
        | 0, hj => simp at hj; subst hj; simp [Addr.add, hc.out]
      case d2 => intro u hu; simp at hu; subst hu; rfl
      case d3 => unfold maxLen; omega
      case d4 => omega
      case d5 => have := hbel.size; simp; omega
      intro v' w1 hown' hgrow _
      have hcv := string_own (own_snoc hown')
      go_wp2
      go_ret
      exact ⟨by rw [var_last hlt hc.out HE.out]; rfl, (hbel.alloc hbel.size _).grown hgrow (by have := hbel.size; simp; omega) (own_below hown)⟩

set_option maxHeartbeats 1000000 in
set_option maxRecDepth 100000 in
theorem implVar_yes (n : Nat) (hn : n ≤ 1000000000) (w : World) :
    Calls Tryz.prog 69 #[.int .i64 (n : Int)] w fun e w' => e = .returned (.tuple #[.string ⟨(Words.var n).toArray⟩, .bool true]) ∧ Below w.heap.size w w' := by
  obtain ⟨i0, hi, hz0, hz1, hz2⟩ := info_parts Tryz.info5
  have hmk : ∀ w, (Instr.makeSlice 67 (.int .i64 0) (.int .i64 5)).run Tryz.prog w = .ok (.slice (some ⟨w.heap.size, 0, none⟩) 0 5) (w.alloc (.cells #[.int .u8 0, .int .u8 0, .int .u8 0, .int .u8 0, .int .u8 0] 5)) := fun _ => by kernel_rfl
  have hl0 : ¬ (n : Int) < 0 := by omega
  have hl1 : (n : Int) ≤ 1000000000 := by omega
  go_enter Tryz.func69, Tryz.ntmps69
  go_wp2
  go_loopw [0, 4] (fun x v wr => ∃ (m f : Nat) (pre : List UInt8), m ≤ f ∧ m ≤ 1000000000 ∧ x = .int .i64 (m : Int) ∧ pre.length ≤ 1000000001 ∧ pre ++ Words.varF f m = Words.var n ∧
      wr.ownsRow w.heap.size 5 1 v pre.length (cellsB pre) ∧ Below w.heap.size w wr)
    (fun x _ _ => (intOf x).toNat)
  case atStart => exact ⟨n, n, [], Nat.le_refl _, hn, rfl, by simp, rfl, World.ownsRow_made w _ 5 (Nat.le_refl _) (by unfold maxLen; omega) rfl, (Below.refl _ _).alloc (Nat.le_refl _) _⟩
  case round =>
    obtain ⟨m, f, pre, hmf, hm, rfl, hpl, heq, hown, hbel⟩ := hrel
    have HE : Hid (pre ++ Words.varF f m = Words.var n) := heq
    clear heq
    by_cases hlt : 127 < m
    · obtain ⟨c, hc⟩ := byte_of ((m : Int) % 128 + 128) (by omega) (by omega)
      go_wp2_with (at_builtin; refine wpList_append_own _ rfl _ _ 67 rfl w.heap.size 5 i0 (.int .u8 0) 1 1 Tryz.underlying67 hi hz0 hz1 hz2 rfl (by decide) _ _ _ rfl (hown.alloc _) ⟨wr.heap.size, 0, none⟩ 1 1 [.int .u8 (c.toNat : Int)] rfl rfl ?c1 ?c2 ?c3 ?c4 ?c5 ?_)
      case c1 =>
        intro j u hj
        match j, hj with
        | 0, hj => simp at hj; subst hj; simp [Addr.add, hc.out]
      case c2 => intro u hu; simp at hu; subst hu; rfl
      case c3 => unfold maxLen; omega
      case c4 => omega
      case c5 => have := hbel.size; simp; omega
      intro v' w1 hown' hgrow _
      go_wp2
      go_roundw
      case rel =>
        have R := var_step hmf hlt hc.out HE.out hn
        exact ⟨m / 128, f - 1, pre ++ [c], by omega, by omega, by go_num, R.2, R.1, own_snoc hown', (hbel.alloc hbel.size _).grown hgrow (by have := hbel.size; simp; omega) (own_below hown)⟩
      case measure => simp [intOf]; omega
    · obtain ⟨c, hc⟩ := byte_of (m : Int) (by omega) (by omega)
      go_wp2_with (at_builtin; refine wpList_append_own _ rfl _ _ 67 rfl w.heap.size 5 i0 (.int .u8 0) 1 1 Tryz.underlying67 hi hz0 hz1 hz2 rfl (by decide) _ _ _ rfl (hown.alloc _) ⟨wr.heap.size, 0, none⟩ 1 1 [.int .u8 (c.toNat : Int)] rfl rfl ?d1 ?d2 ?d3 ?d4 ?d5 ?_)
      case d1 =>
        intro j u hj
        match j, hj with
        | 0, hj => simp at hj; subst hj; simp [Addr.add, hc.out]
      case d2 => intro u hu; simp at hu; subst hu; rfl
      case d3 => unfold maxLen; omega
      case d4 => omega
      case d5 => have := hbel.size; simp; omega
      intro v' w1 hown' hgrow _
      have hcv := string_own (own_snoc hown')
      go_wp2
      go_ret2
      exact ⟨by rw [var_last hlt hc.out HE.out]; rfl, (hbel.alloc hbel.size _).grown hgrow (by have := hbel.size; simp; omega) (own_below hown)⟩
end Go.Proofs.YthcfnofhdbjemaaGreatDoor
