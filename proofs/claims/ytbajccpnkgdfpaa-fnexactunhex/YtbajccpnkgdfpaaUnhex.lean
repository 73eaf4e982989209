/- The calls of both Unhex, walked. -/
import Derived.Test.YtbajccpnkgdfpaaVar
import Derived.Test.YtbajccpnkgdfpaaMathHex
import Derived.Test.YtbajccpnkgdfpaaShelf
import Derived.WalkMore
import Derived.Deep.LoopGhost
namespace Go.Proofs.Ytbajccpnkgdfpaa
open Go.RowKit

theorem ret_int {k : IntKind} {a b : Int} (h : a = b) : Ending.returned (.int k a) = .returned (.int k b) := by rw [h]

set_option maxHeartbeats 400000 in
theorem value_any (b : UInt8) (w : World) :
    Calls Try.prog 34 #[.int .u8 (b.toNat : Int)] w fun e w' => e = .returned (.int .i64 (Words.uval b)) ∧ w = w' := by
  have hb : (b.toNat : Int) ≤ 255 := by have := b.toNat_lt; omega
  by_cases h1 : (48 : Int) ≤ b.toNat
  · by_cases h2 : (b.toNat : Int) ≤ 57
    · go_enter Try.func34, Try.ntmps34
      go_wp2
      go_ret
      exact ⟨ret_int (by unfold Words.uval; rw [if_pos (by omega)]), rfl⟩
    · by_cases h3 : (97 : Int) ≤ b.toNat
      · by_cases h4 : (b.toNat : Int) ≤ 102
        · go_enter Try.func34, Try.ntmps34
          go_wp2
          go_ret
          exact ⟨ret_int (by unfold Words.uval; rw [if_neg (by omega), if_pos (by omega)]), rfl⟩
        · go_enter Try.func34, Try.ntmps34
          go_wp2
          go_ret
          exact ⟨ret_int (by unfold Words.uval; rw [if_neg (by omega), if_neg (by omega)]), rfl⟩
      · go_enter Try.func34, Try.ntmps34
        go_wp2
        go_ret
        exact ⟨ret_int (by unfold Words.uval; rw [if_neg (by omega), if_neg (by omega)]), rfl⟩
  · go_enter Try.func34, Try.ntmps34
    go_wp2
    go_ret
    exact ⟨ret_int (by unfold Words.uval; rw [if_neg (by omega), if_neg (by omega)]), rfl⟩

theorem figIndex_any (b : UInt8) (w : World) :
    Calls Try.prog 35 #[.string ⟨#[48, 49, 50, 51, 52, 53, 54, 55, 56, 57, 97, 98, 99, 100, 101, 102]⟩, .int .u8 (b.toNat : Int)] w fun e w' => e = .returned (.int .i64 (Words.uval b)) ∧ w = w' := by
  have h := Try.strings_IndexByte ⟨#[48, 49, 50, 51, 52, 53, 54, 55, 56, 57, 97, 98, 99, 100, 101, 102]⟩ (b.toNat : Int) w
  have e : ((b.toNat : Int).toNat.toUInt8) = b := Words.byte_ext (by rw [Int.toNat_natCast]; simp)
  rw [e] at h
  have e2 := Words.index_uval b
  unfold Words.figures at e2
  rw [e2] at h
  exact h.mono fun e w' hh => ⟨hh.1, hh.2.symm⟩

/-- What both Unhex answer. -/
def uhTuple : Option (List UInt8) → Value
  | none => .tuple #[.string ⟨#[]⟩, .bool false]
  | some l => .tuple #[.string ⟨l.toArray⟩, .bool true]
def uhZ (s : ByteArray) : Option (List UInt8) := if s.size ≤ 40000 ∧ s.size % 2 = 0 then Words.unhex s.data.toList else none

set_option maxHeartbeats 1000000 in
set_option maxRecDepth 100000 in
theorem specUnhex_yes (s : ByteArray) (h : s.size ≤ 40000) (he : s.size % 2 = 0) (w : World) :
    Calls Try.prog 21 #[.string s] w fun e w' => e = .returned (uhTuple (Words.unhex s.data.toList)) ∧ Below w.heap.size w w' := by
  obtain ⟨i0, hi, hz0, hz1, hz2⟩ := info_parts Try.info5
  have hem : ((s.size : Int) % 2 != 0) = false := by simp; omega
  have HE0 : Hid (s.size % 2 = 0) := he
  clear he
  go_enter Try.func21, Try.ntmps21
  go_wp2
  go_loopw [4, 5] (fun v i wr => ∃ (j : Nat) (pre : List UInt8), 2 * j ≤ s.size ∧ i = .int .i64 (2 * (j : Int)) ∧ pre.length = j ∧ Words.Goes s.data.toList pre (2 * j) ∧
      wr.ownsRow w.heap.size 5 1 v pre.length (cellsB pre) ∧ Below w.heap.size w wr)
    (fun _ i _ => s.size - (intOf i).toNat)
  case atStart => exact ⟨0, [], by omega, rfl, rfl, Words.goes_start _, World.ownsRow_made w #[] 0 (Nat.le_refl _) (by unfold maxLen; omega) rfl, (Below.refl _ _).alloc (Nat.le_refl _) _⟩
  case round =>
    obtain ⟨j, pre, hj, rfl, hlen, hgo, hown, hbel⟩ := hrel
    have HL : Hid (_ = _) := hlen
    have hpl : pre.length ≤ 20000 := by omega
    clear hlen
    by_cases hlt : 2 * j < s.size
    · have hlt2 : 2 * j + 1 < s.size := by have := HE0.out; omega
      have b0 := Words.uval_le s[2 * j]
      have b1 := Words.uval_le s[2 * j + 1]
      by_cases v0 : Words.uval s[2 * j] < 0
      · go_wp2_with (go_at_call 34; refine (value_any _ _).mono ?_; rintro e w' ⟨rfl, rfl⟩)
        go_ret2
        exact ⟨by rw [Words.goes_not hgo (by rw [Words.size_list]; omega) (Or.inl v0)]; rfl, hbel⟩
      · by_cases v1 : Words.uval s[2 * j + 1] < 0
        · go_wp2_with (go_at_call 34; refine (value_any _ _).mono ?_; rintro e w' ⟨rfl, rfl⟩)
          go_ret2
          exact ⟨by rw [Words.goes_not hgo (by rw [Words.size_list]; omega) (Or.inr v1)]; rfl, hbel⟩
        · obtain ⟨c, hc⟩ := byte_of (16 * Words.uval s[2 * j] + Words.uval s[2 * j + 1]) (by omega) (by omega)
          go_wp2_with (first | (go_at_call 34; refine (value_any _ _).mono ?_; rintro e w' ⟨rfl, rfl⟩) | (at_builtin; refine wpList_append_own _ rfl _ _ 41 rfl w.heap.size 5 i0 (.int .u8 0) 1 1 Try.underlying41 hi hz0 hz1 hz2 rfl (by decide) _ _ _ rfl (hown.alloc _) ⟨wr.heap.size, 0, none⟩ 1 1 [.int .u8 (c.toNat : Int)] rfl rfl ?c1 ?c2 ?c3 ?c4 ?c5 ?_))
          case c1 =>
            intro j u hj
            match j, hj with
            | 0, hj => simp at hj; subst hj; simp [Addr.add, hc.out]
          case c2 => intro u hu; simp at hu; subst hu; rfl
          case c3 => unfold maxLen; omega
          case c4 => omega
          case c5 => have := hbel.size; simp; omega
          intro v' w1 hown' hgrow _
          go_wp2
          go_roundw
          case rel =>
            have G := Words.goes_more (l := s.data.toList) (k := 2 * j) hgo (by rw [Words.size_list]; omega) v0 v1 hc.out
            rw [show 2 * j + 2 = 2 * (j + 1) from by omega] at G
            exact ⟨j + 1, pre ++ [c], by omega, by go_num, by rw [List.length_append, HL.out]; rfl, G, own_snoc hown', (hbel.alloc hbel.size _).grown hgrow (by have := hbel.size; simp; omega) (own_below hown)⟩
          case measure => simp [intOf]; omega
    · have hcv := string_own hown
      go_wp2
      go_ret2
      exact ⟨by rw [Words.goes_end hgo (by rw [Words.size_list]; omega)]; rfl, hbel⟩

set_option maxHeartbeats 400000 in
theorem specUnhex_no (s : ByteArray) (h : ¬ (s.size ≤ 40000 ∧ s.size % 2 = 0)) (w : World) :
    Calls Try.prog 21 #[.string s] w fun e w' => e = .returned (uhTuple none) ∧ Below w.heap.size w w' := by
  by_cases h1 : 40000 < s.size
  · clear h
    go_enter Try.func21, Try.ntmps21
    go_wp2
    go_ret2
    exact ⟨rfl, Below.refl _ _⟩
  · have hem : ((s.size : Int) % 2 != 0) = true := by simp; omega
    clear h
    go_enter Try.func21, Try.ntmps21
    go_wp2
    go_ret2
    exact ⟨rfl, Below.refl _ _⟩
set_option maxHeartbeats 400000 in
theorem implUnhex_no (s : ByteArray) (h : ¬ (s.size ≤ 40000 ∧ s.size % 2 = 0)) (hs : s.size ≤ 1048576) (w : World) :
    Calls Try.prog 22 #[.string s] w fun e w' => e = .returned (uhTuple none) ∧ Below w.heap.size w w' := by
  by_cases h1 : s.size % 2 = 0
  · have hem : ((s.size : Int) % 2 != 0) = false := by simp; omega
    have h2 : (40000 : Int) < (s.size : Int) := by omega
    clear h h1
    go_enter Try.func22, Try.ntmps22
    go_wp2
    go_step3
    go_wp2
    rw [Exit.noGoto_ret]
    go_ret2
    exact ⟨rfl, Below.refl _ _⟩
  · have hem : ((s.size : Int) % 2 != 0) = true := by simp; omega
    clear h h1
    go_enter Try.func22, Try.ntmps22
    go_wp2
    go_step3
    go_wp2
    rw [Exit.noGoto_ret]
    go_ret2
    exact ⟨rfl, Below.refl _ _⟩

set_option maxHeartbeats 1000000 in
set_option maxRecDepth 100000 in
theorem implUnhex_yes (s : ByteArray) (h : s.size ≤ 40000) (he : s.size % 2 = 0) (w : World) :
    Calls Try.prog 22 #[.string s] w fun e w' => e = .returned (uhTuple (Words.unhex s.data.toList)) ∧ Below w.heap.size w w' := by
  obtain ⟨i0, hi, hz0, hz1, hz2⟩ := info_parts Try.info5
  have hem : ((s.size : Int) % 2 != 0) = false := by simp; omega
  have HE0 : Hid (s.size % 2 = 0) := he
  clear he
  go_enter Try.func22, Try.ntmps22
  go_wp2
  go_step3
  go_wp2_with (at_make; refine wpList_make_own _ rfl _ _ 41 rfl w.heap.size 5 i0 (.int .u8 0) 1 Try.underlying41 hi hz0 hz1 _ _ _ (s.size / 2) rfl rfl (by omega) ?b2 ?b3 (Nat.le_refl _) ?_)
  case b2 => rw [hz2]; omega
  case b3 => unfold maxLen; omega
  intro w0 hown0 hgrow0
  have hbel0 : Below w.heap.size w w0 := (Below.refl _ _).grown hgrow0 (Nat.le_refl _) (by simp)
  clear hgrow0
  go_wp2
  go_step3
  go_wp2
  go_loopw [4, 5, 23] (fun v x i wr => ∃ (k : Nat) (pre : List UInt8) (hg : Int), k ≤ s.size ∧ i = .int .i64 (k : Int) ∧ x = .int .i64 hg ∧ pre.length ≤ 20000 ∧ v ≠ .slice none 0 0 ∧ wr.ownsRow w.heap.size 5 1 v pre.length (cellsB pre) ∧ Below w.heap.size w wr ∧
      ((k % 2 = 0 ∧ 2 * pre.length = k ∧ Words.Goes s.data.toList pre k) ∨ ∃ m : Nat, k = m + 1 ∧ m % 2 = 0 ∧ 2 * pre.length = m ∧ Words.Goes s.data.toList pre m ∧ ∃ hm : m < s.size, hg = Words.uval s[m] ∧ 0 ≤ Words.uval s[m]))
    (fun _ _ i _ => s.size - (intOf i).toNat)
  case atStart => exact ⟨0, [], 0, by omega, rfl, rfl, by simp, by simp, hown0, hbel0, Or.inl ⟨rfl, rfl, Words.goes_start _⟩⟩
  case round =>
    obtain ⟨k, pre, hg, hk, rfl, rfl, hpl, hnn, hown, hbel, hcase⟩ := hrel
    by_cases hlt : k < s.size
    · have hb := Words.uval_le s[k]
      rcases hcase with ⟨hpar, hlen, hgo⟩ | ⟨m, hkm, hpar, hlen, hgo, hm, hge, hg0⟩
      · have HL : Hid (2 * pre.length = k) := hlen
        have HP : Hid (k % 2 = 0) := hpar
        have hp2 : (((k : Int) % 2) == 0) = true := by simp; omega
        have hk1 : k + 1 < s.size := by have := HE0.out; omega
        clear hlen hpar
        by_cases v0 : Words.uval s[k] < 0
        · have hN : Words.unhex s.data.toList = none := Words.goes_not (l := s.data.toList) hgo (by rw [Words.size_list]; omega) (Or.inl v0)
          have HN : Hid (_ = _) := hN
          clear hN hgo
          have h2 : (2 * (pre.length : Int)) < (s.size : Int) := by have := HL.out; omega
          rcases hown.2 with ⟨rfl, _⟩ | ⟨g, cap, cur, rfl, _⟩
          · exact absurd rfl hnn
          · go_wp2_with (go_at_call 35; refine (figIndex_any _ _).mono ?_; rintro e w' ⟨rfl, rfl⟩)
            try rw [Exit.noGoto_ret]
            go_ret2
            exact ⟨by rw [HN.out]; rfl, hbel⟩
        · go_wp2_with (go_at_call 35; refine (figIndex_any _ _).mono ?_; rintro e w' ⟨rfl, rfl⟩)
          go_roundw
          case rel => exact ⟨k + 1, pre, _, by omega, by go_num, rfl, hpl, hnn, hown, hbel, Or.inr ⟨k, rfl, HP.out, HL.out, hgo, by omega, rfl, by omega⟩⟩
          case measure => simp [intOf]; omega
      · subst hkm
        subst hge
        have HL : Hid (2 * pre.length = m) := hlen
        have HP : Hid (m % 2 = 0) := hpar
        have hp2 : ((((m : Int) + 1) % 2) == 0) = false := by simp; omega
        clear hlen hpar
        by_cases v0 : Words.uval s[m + 1] < 0
        · have hN : Words.unhex s.data.toList = none := Words.goes_not (l := s.data.toList) hgo (by rw [Words.size_list]; omega) (Or.inr v0)
          have HN : Hid (_ = _) := hN
          clear hN hgo
          have h2 : (2 * (pre.length : Int)) < (s.size : Int) := by have := HL.out; omega
          rcases hown.2 with ⟨rfl, _⟩ | ⟨g, cap, cur, rfl, _⟩
          · exact absurd rfl hnn
          · go_wp2_with (go_at_call 35; refine (figIndex_any _ _).mono ?_; rintro e w' ⟨rfl, rfl⟩)
            try rw [Exit.noGoto_ret]
            go_ret2
            exact ⟨by rw [HN.out]; rfl, hbel⟩
        · have hb2 := Words.uval_le s[m]
          obtain ⟨c, hc⟩ := byte_of (16 * Words.uval s[m] + Words.uval s[m + 1]) (by omega) (by omega)
          go_wp2_with (first | (go_at_call 35; refine (figIndex_any _ _).mono ?_; rintro e w' ⟨rfl, rfl⟩) | (at_builtin; refine wpList_append_own _ rfl _ _ 41 rfl w.heap.size 5 i0 (.int .u8 0) 1 1 Try.underlying41 hi hz0 hz1 hz2 rfl (by decide) _ _ _ rfl (hown.alloc _) ⟨wr.heap.size, 0, none⟩ 1 1 [.int .u8 (c.toNat : Int)] rfl rfl ?c1 ?c2 ?c3 ?c4 ?c5 ?_))
          case c1 =>
            intro j u hj
            match j, hj with
            | 0, hj => simp at hj; subst hj; simp [Addr.add, hc.out]
          case c2 => intro u hu; simp at hu; subst hu; rfl
          case c3 => unfold maxLen; omega
          case c4 => omega
          case c5 => have := hbel.size; simp; omega
          intro v' w1 hown' hgrow hnil
          go_wp2
          go_roundw
          case rel =>
            have G := Words.goes_more (l := s.data.toList) (k := m) hgo (by rw [Words.size_list]; omega) hg0 (by show 0 ≤ Words.uval s[m + 1]; omega) hc.out
            exact ⟨m + 1 + 1, pre ++ [c], _, by omega, by go_num, rfl, by rw [List.length_append]; have := HL.out; simp; omega, hnil, own_snoc hown', (hbel.alloc hbel.size _).grown hgrow (by have := hbel.size; simp; omega) (own_below hown), Or.inl ⟨by have := HP.out; omega, by rw [List.length_append]; have := HL.out; simp; omega, G⟩⟩
          case measure => simp [intOf]; omega
    · rcases hcase with ⟨hpar, hlen, hgo⟩ | ⟨m, hkm, hpar, hlen, hgo, hm, hge, hg0⟩
      · have HN : Hid (_ = _) := Words.goes_end hgo (by rw [Words.size_list]; omega)
        have h2 : ¬ (2 * (pre.length : Int)) < (s.size : Int) := by omega
        clear hpar hlen
        have hcv := string_own hown
        rcases hown.2 with ⟨rfl, _⟩ | ⟨g, cap, cur, rfl, _⟩
        · exact absurd rfl hnn
        · go_wp2
          try rw [Exit.noGoto_ret]
          go_ret2
          exact ⟨by rw [HN.out]; rfl, hbel⟩
      · exact absurd HE0.out (by omega)

theorem specUnhex_any (s : ByteArray) (w : World) :
    Calls Try.prog 21 #[.string s] w fun e w' => e = .returned (uhTuple (uhZ s)) ∧ Below w.heap.size w w' := by
  by_cases h : s.size ≤ 40000 ∧ s.size % 2 = 0
  · rw [uhZ, if_pos h]; exact specUnhex_yes s h.1 h.2 w
  · rw [uhZ, if_neg h]; exact specUnhex_no s h w
theorem implUnhex_any (s : ByteArray) (hs : s.size ≤ 1048576) (w : World) :
    Calls Try.prog 22 #[.string s] w fun e w' => e = .returned (uhTuple (uhZ s)) ∧ Below w.heap.size w w' := by
  by_cases h : s.size ≤ 40000 ∧ s.size % 2 = 0
  · rw [uhZ, if_pos h]; exact implUnhex_yes s h.1 h.2 w
  · rw [uhZ, if_neg h]; exact implUnhex_no s h hs w
theorem specUnhex_none {s : ByteArray} (h : uhZ s = none) (w : World) :
    Calls Try.prog 21 #[.string s] w fun e w' => e = .returned (.tuple #[.string ⟨#[]⟩, .bool false]) ∧ Below w.heap.size w w' := by
  have := specUnhex_any s w
  rwa [h] at this
theorem specUnhex_some {s : ByteArray} {l : List UInt8} (h : uhZ s = some l) (w : World) :
    Calls Try.prog 21 #[.string s] w fun e w' => e = .returned (.tuple #[.string ⟨l.toArray⟩, .bool true]) ∧ Below w.heap.size w w' := by
  have := specUnhex_any s w
  rwa [h] at this
theorem implUnhex_none {s : ByteArray} (hs : s.size ≤ 1048576) (h : uhZ s = none) (w : World) :
    Calls Try.prog 22 #[.string s] w fun e w' => e = .returned (.tuple #[.string ⟨#[]⟩, .bool false]) ∧ Below w.heap.size w w' := by
  have := implUnhex_any s hs w
  rwa [h] at this
theorem implUnhex_some {s : ByteArray} {l : List UInt8} (hs : s.size ≤ 1048576) (h : uhZ s = some l) (w : World) :
    Calls Try.prog 22 #[.string s] w fun e w' => e = .returned (.tuple #[.string ⟨l.toArray⟩, .bool true]) ∧ Below w.heap.size w w' := by
  have := implUnhex_any s hs w
  rwa [h] at this

set_option maxHeartbeats 400000 in
theorem lawUnhex_any (s : ByteArray) (_hs : s.size ≤ maxLen) (w : World) :
    Calls Try.prog 8 #[.string s] w fun e w' => e = .returned (.bool true) ∧ Below w.heap.size w w' := by
  by_cases hbig : 1048576 < s.size
  · go_enter Try.func8, Try.ntmps8
    go_wp2
    go_ret
    exact ⟨rfl, Below.refl _ _⟩
  · have hz : s.size ≤ 1048576 := by omega
    rcases hr : uhZ s with _ | l
    · have HR : Hid (_ = _) := hr
      clear hr
      go_enter Try.func8, Try.ntmps8
      go_wp2_with (first | (go_at_call 21; refine (specUnhex_none HR.out _).mono ?_; rintro e w1 ⟨rfl, hb1⟩) | (go_at_call 22; refine (implUnhex_none hz HR.out _).mono ?_; rintro e w2 ⟨rfl, hb2⟩))
      go_ret
      exact ⟨rfl, hb1.trans (hb2.mono hb1.size)⟩
    · have HR : Hid (_ = _) := hr
      clear hr
      go_enter Try.func8, Try.ntmps8
      go_wp2_with (first | (go_at_call 21; refine (specUnhex_some HR.out _).mono ?_; rintro e w1 ⟨rfl, hb1⟩) | (go_at_call 22; refine (implUnhex_some hz HR.out _).mono ?_; rintro e w2 ⟨rfl, hb2⟩))
      go_ret
      exact ⟨rfl, hb1.trans (hb2.mono hb1.size)⟩
end Go.Proofs.Ytbajccpnkgdfpaa
