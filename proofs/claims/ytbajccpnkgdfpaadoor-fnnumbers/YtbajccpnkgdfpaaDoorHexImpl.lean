/- The call of the program's Hex, walked. -/
import Derived.Test.YtbajccpnkgdfpaaDoorFig
import Derived.Deep.RegionHeld3
import Derived.Deep.AppendLies
import Derived.Deep.RegionWith
namespace Go.Proofs.YtbajccpnkgdfpaaDoor
open Go.RowKit

theorem byte_high (b : UInt8) : ∃ X : Nat, Hid (X = b.toNat / 16) ∧ IntKind.i64.wrap ((b.toNat : Int) / 16) = (X : Int) ∧ X < 16 :=
  ⟨b.toNat / 16, rfl, by
    have := b.toNat_lt
    rw [IntWalk.i64_in _ (by omega)]; omega, by have := b.toNat_lt; omega⟩

theorem byte_low (b : UInt8) : ∃ X : Nat, Hid (X = b.toNat % 16) ∧ (b.toNat : Int).tmod 16 = (X : Int) ∧ X < 16 :=
  ⟨b.toNat % 16, rfl, by
    rw [Int.tmod_eq_emod_of_nonneg (by omega)]; omega, by omega⟩

theorem own_two {w : World} {base : Nat} {v : Value} {pre : List UInt8} {c d : UInt8} (h : w.ownsRow base 5 1 v (pre.length + 2) (cellsB pre ++ [.int .u8 (c.toNat : Int), .int .u8 (d.toNat : Int)])) :
    w.ownsRow base 5 1 v (pre ++ [c, d]).length (cellsB (pre ++ [c, d])) := by
  rw [cellsB_app, List.length_append]; exact h

theorem two_cells (a b : Int) : ∀ u ∈ [Value.int .u8 a, Value.int .u8 b], u.oneCell' = true := by
  intro u hu
  simp only [List.mem_cons, List.not_mem_nil, or_false] at hu
  rcases hu with rfl | rfl <;> rfl

theorem index_fig (X : Nat) (h : X < 16) (w : World) :
    (Instr.index 9 (.string ⟨#[48, 49, 50, 51, 52, 53, 54, 55, 56, 57, 97, 98, 99, 100, 101, 102]⟩) (.int .u8 (X : Int))).run Tryd.prog w = .ok (.int .u8 ((Words.fig X).toNat : Int)) w := by
  have hc : X = 0 ∨ X = 1 ∨ X = 2 ∨ X = 3 ∨ X = 4 ∨ X = 5 ∨ X = 6 ∨ X = 7 ∨ X = 8 ∨ X = 9 ∨ X = 10 ∨ X = 11 ∨ X = 12 ∨ X = 13 ∨ X = 14 ∨ X = 15 := by omega
  rcases hc with rfl | rfl | rfl | rfl | rfl | rfl | rfl | rfl | rfl | rfl | rfl | rfl | rfl | rfl | rfl | rfl <;> rfl

set_option maxHeartbeats 1000000 in
set_option maxRecDepth 100000 in
theorem implHex_yes (s : ByteArray) (h : s.size ≤ 20000) (w : World) :
    Calls Tryd.prog 14 #[.string s] w fun e w' => e = .returned (.tuple #[.string ⟨(Words.hex s.data.toList).toArray⟩, .bool true]) ∧ Below w.heap.size w w' := by
  obtain ⟨i0, hi, hz0, hz1, hz2⟩ := info_parts Tryd.info5
  go_enter Tryd.func14, Tryd.ntmps14
  go_wp2_with (at_make; refine wpList_make_own _ rfl _ _ 22 rfl w.heap.size 5 i0 (.int .u8 0) 1 Tryd.underlying22 hi hz0 hz1 _ _ _ (2 * s.size) rfl rfl (by omega) ?b2 ?b3 (Nat.le_refl _) ?_)
  case b2 => rw [hz2]; omega
  case b3 => unfold maxLen; omega
  intro w0 hown0 hgrow0
  have hbel0 : Below w.heap.size w w0 := (Below.refl _ _).grown hgrow0 (Nat.le_refl _) (by simp)
  clear hgrow0
  go_wp2
  go_loopw [4, 16] (fun v i wr => ∃ (k : Nat) (pre : List UInt8), k ≤ s.size ∧ i = .int .i64 (k : Int) ∧ pre = Words.hex (s.data.toList.take k) ∧ pre.length = 2 * k ∧
      wr.ownsRow w.heap.size 5 1 v pre.length (cellsB pre) ∧ Below w.heap.size w wr)
    (fun _ i _ => s.size - (intOf i).toNat)
  case atStart => exact ⟨0, [], by omega, rfl, rfl, rfl, hown0, hbel0⟩
  case round =>
    obtain ⟨k, pre, hk, rfl, heq, hlen, hown, hbel⟩ := hrel
    have HE : Hid (_ = _) := heq
    have HL : Hid (_ = _) := hlen
    have hpl : pre.length ≤ 40000 := by omega
    clear heq hlen
    by_cases hlt : k < s.size
    · have hk0 : (0 : Int) ≤ (k : Int) := by omega
      have hk1 : (k : Int) < (s.size : Int) := by omega
      have hbyte : (s[k].toNat : Int) ≤ 255 := by have := s[k].toNat_lt; omega
      obtain ⟨X, hX, hXq, hX16⟩ := byte_high s[k]
      obtain ⟨Y, hY, hYr, hY16⟩ := byte_low s[k]
      clear hXq hYr
      have hix := index_fig X hX16
      have hiy := index_fig Y hY16
      have q1 : (s[k].toNat : Int) / 16 = (X : Int) := by have := hX.out; omega
      have q2 : (s[k].toNat : Int).tdiv 16 = (X : Int) := by rw [Int.tdiv_eq_ediv_of_nonneg (by omega)]; exact q1
      have q3 : (s[k].toNat : Int) % 16 = (Y : Int) := by have := hY.out; omega
      have q4 : (s[k].toNat : Int).tmod 16 = (Y : Int) := by rw [Int.tmod_eq_emod_of_nonneg (by omega)]; exact q3
      have q5 : IntKind.u8.wrap (X : Int) = (X : Int) := by simp [IntKind.wrap, IntKind.signed, IntKind.bits]; omega
      have hbz := hbel.size
      have h63 : pre.length + 2 ≤ maxLen := by unfold maxLen; omega
      have hby : (pre.length + 2) * 1 ≤ 140737488355328 := by omega
      have hbs : w.heap.size ≤ (wr.alloc (.cells #[.int .u8 ((Words.fig X).toNat : Int), .int .u8 ((Words.fig Y).toNat : Int)] 5)).heap.size := by simp; omega
      go_wp2
      go_region_held3 (fun _ => True) (trivial) (first | (refine step_append_lies _ (by rfl) _ _ _ (by rfl) w.heap.size 5 i0 _ 1 1 Tryd.underlying22 hi hz0 hz1 hz2 rfl (Nat.zero_lt_succ _) u4 pre.length (cellsB pre) (by rfl) ((hown.alloc _).drew) ⟨wr.heap.size, 0, none⟩ 2 2 [.int .u8 ((Words.fig X).toNat : Int), .int .u8 ((Words.fig Y).toNat : Int)] (by rfl) (by rfl) (World.news_of_block (cs := #[.int .u8 ((Words.fig X).toNat : Int), .int .u8 ((Words.fig Y).toNat : Int)]) (t := 5) (fr := (0, 0)) (heap_alloc_new wr _)) (two_cells _ _) (Nat.zero_lt_succ _) h63 hby hbs (wr.heap.size + 1) (Array.size_push ..) ?_; intro g cap w1 hown1 hgrow hat hlt2))
      all_goals
        go_wp2
        go_roundw
        case rel =>
          refine ⟨k + 1, pre ++ [Words.fig X, Words.fig Y], by omega, by go_num, ?_, ?_, own_two hown1, ?_⟩
          · rw [Words.take_snoc s k hlt, Words.hex_snoc, ← HE.out, hX.out, hY.out]
          · rw [List.length_append, HL.out]; simp; omega
          · exact ((hbel.alloc hbz _).drew).grown hgrow (by simp; omega) (own_below hown)
        case measure => simp [intOf]; omega
    · have hcv := string_own hown
      go_wp2
      go_ret2
      refine ⟨?_, hbel⟩
      have hk2 : k = s.size := by omega
      have e := HE.out
      rw [hk2, List.take_of_length_le (by rw [Words.size_list]; omega)] at e
      rw [← e]; rfl
end Go.Proofs.YtbajccpnkgdfpaaDoor
