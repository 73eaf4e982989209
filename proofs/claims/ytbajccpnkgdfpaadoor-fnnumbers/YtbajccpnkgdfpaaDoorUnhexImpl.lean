/- The call of the program's Unhex, walked. -/
import Derived.Test.YtbajccpnkgdfpaaDoorVar
import Derived.Test.YtbajccpnkgdfpaaDoorMathHex
import Derived.Test.YtbajccpnkgdfpaaDoorShelf
import Derived.WalkMore
namespace Go.Proofs.YtbajccpnkgdfpaaDoor
open Go.RowKit

theorem figIndex_any (b : UInt8) (w : World) :
    Calls Tryd.prog 25 #[.string ⟨#[48, 49, 50, 51, 52, 53, 54, 55, 56, 57, 97, 98, 99, 100, 101, 102]⟩, .int .u8 (b.toNat : Int)] w fun e w' => e = .returned (.int .i64 (Words.uval b)) ∧ w = w' := by
  have h := Tryd.strings_IndexByte ⟨#[48, 49, 50, 51, 52, 53, 54, 55, 56, 57, 97, 98, 99, 100, 101, 102]⟩ (b.toNat : Int) w
  have e : ((b.toNat : Int).toNat.toUInt8) = b := Words.byte_ext (by rw [Int.toNat_natCast]; simp)
  rw [e] at h
  have e2 := Words.index_uval b
  unfold Words.figures at e2
  rw [e2] at h
  exact h.mono fun e w' hh => ⟨hh.1, hh.2.symm⟩

/-- What both Unhex answer. -/
def uhTuple : Option (List UInt8) → Value
  | none => .tuple #[.string ⟨#[]⟩, .bool false]
  | some l => .tuple #[.string ⟨l.toArray⟩, .bool true]

set_option maxHeartbeats 1000000 in
set_option maxRecDepth 100000 in
theorem implUnhex_yes (s : ByteArray) (h : s.size ≤ 40000) (he : s.size % 2 = 0) (w : World) :
    Calls Tryd.prog 15 #[.string s] w fun e w' => e = .returned (uhTuple (Words.unhex s.data.toList)) ∧ Below w.heap.size w w' := by
  obtain ⟨i0, hi, hz0, hz1, hz2⟩ := info_parts Tryd.info5
  have hem : ((s.size : Int) % 2 != 0) = false := by simp; omega
  have HE0 : Hid (s.size % 2 = 0) := he
  clear he
  go_enter Tryd.func15, Tryd.ntmps15
  go_wp2
  go_step3
  go_wp2_with (at_make; refine wpList_make_own _ rfl _ _ 22 rfl w.heap.size 5 i0 (.int .u8 0) 1 Tryd.underlying22 hi hz0 hz1 _ _ _ (s.size / 2) rfl rfl (by omega) ?b2 ?b3 (Nat.le_refl _) ?_)
  case b2 => rw [hz2]; omega
  case b3 => unfold maxLen; omega
  intro w0 hown0 hgrow0
  have hbel0 : Below w.heap.size w w0 := (Below.refl _ _).grown hgrow0 (Nat.le_refl _) (by simp)
  clear hgrow0
  go_wp2
  go_step3
  go_wp2
  go_loopw [4, 5, 23] (fun v x i wr => ∃ (k : Nat) (pre : List UInt8) (hg : Int), k ≤ s.size ∧ i = .int .i64 (k : Int) ∧ x = .int .i64 hg ∧ pre.length ≤ 20000 ∧ v ≠ .slice none 0 0 ∧ wr.ownsRow w.heap.size 5 1 v pre.length (cellsB pre) ∧ Below w.heap.size w wr ∧
      ((k % 2 = 0 ∧ 2 * pre.length = k ∧ Words.Goes s.data.toList pre k) ∨ ∃ m : Nat, k = m + 1 ∧ m % 2 = 0 ∧ 2 * pre.length = m ∧ Words.Goes s.data.toList pre m ∧ ∃ hm : m < s.size, hg = Words.uval s[m] ∧ 0 ≤ Words.uval s[m]))
    (fun _ _ i _ => s.size - (intOf i).toNat)
  case atStart => exact ⟨0, [], 0, by omega, rfl, rfl, by simp, by simp, hown0, hbel0, Or.inl ⟨rfl, rfl, Words.goes_start _⟩⟩
  case round =>
    obtain ⟨k, pre, hg, hk, rfl, rfl, hpl, hnn, hown, hbel, hcase⟩ := hrel
    by_cases hlt : k < s.size
    · have hb := Words.uval_le s[k]
      rcases hcase with ⟨hpar, hlen, hgo⟩ | ⟨m, hkm, hpar, hlen, hgo, hm, hge, hg0⟩
      · have HL : Hid (2 * pre.length = k) := hlen
        have HP : Hid (k % 2 = 0) := hpar
        have hp2 : (((k : Int) % 2) == 0) = true := by simp; omega
        have hk1 : k + 1 < s.size := by have := HE0.out; omega
        clear hlen hpar
        by_cases v0 : Words.uval s[k] < 0
        · have hN : Words.unhex s.data.toList = none := Words.goes_not (l := s.data.toList) hgo (by rw [Words.size_list]; omega) (Or.inl v0)
          have HN : Hid (_ = _) := hN
          clear hN hgo
          have h2 : (2 * (pre.length : Int)) < (s.size : Int) := by have := HL.out; omega
          rcases hown.2 with ⟨rfl, _⟩ | ⟨g, cap, cur, rfl, _⟩
          · exact absurd rfl hnn
          · go_wp2_with (go_at_call 25; refine (figIndex_any _ _).mono ?_; rintro e w' ⟨rfl, rfl⟩)
            try rw [Exit.noGoto_ret]
            go_ret2
            exact ⟨by rw [HN.out]; rfl, hbel⟩
        · go_wp2_with (go_at_call 25; refine (figIndex_any _ _).mono ?_; rintro e w' ⟨rfl, rfl⟩)
          go_roundw
          case rel => exact ⟨k + 1, pre, _, by omega, by go_num, rfl, hpl, hnn, hown, hbel, Or.inr ⟨k, rfl, HP.out, HL.out, hgo, by omega, rfl, by omega⟩⟩
          case measure => simp [intOf]; omega
      · subst hkm
        subst hge
        have HL : Hid (2 * pre.length = m) := hlen
        have HP : Hid (m % 2 = 0) := hpar
        have hp2 : ((((m : Int) + 1) % 2) == 0) = false := by simp; omega
        clear hlen hpar
        by_cases v0 : Words.uval s[m + 1] < 0
        · have hN : Words.unhex s.data.toList = none := Words.goes_not (l := s.data.toList) hgo (by rw [Words.size_list]; omega) (Or.inr v0)
          have HN : Hid (_ = _) := hN
          clear hN hgo
          have h2 : (2 * (pre.length : Int)) < (s.size : Int) := by have := HL.out; omega
          rcases hown.2 with ⟨rfl, _⟩ | ⟨g, cap, cur, rfl, _⟩
          · exact absurd rfl hnn
          · go_wp2_with (go_at_call 25; refine (figIndex_any _ _).mono ?_; rintro e w' ⟨rfl, rfl⟩)
            try rw [Exit.noGoto_ret]
            go_ret2
            exact ⟨by rw [HN.out]; rfl, hbel⟩
        · have hb2 := Words.uval_le s[m]
          obtain ⟨c, hc⟩ := byte_of (16 * Words.uval s[m] + Words.uval s[m + 1]) (by omega) (by omega)
          go_wp2_with (first | (go_at_call 25; refine (figIndex_any _ _).mono ?_; rintro e w' ⟨rfl, rfl⟩) | (at_builtin; refine wpList_append_own _ rfl _ _ 22 rfl w.heap.size 5 i0 (.int .u8 0) 1 1 Tryd.underlying22 hi hz0 hz1 hz2 rfl (by decide) _ _ _ rfl (hown.alloc _) ⟨wr.heap.size, 0, none⟩ 1 1 [.int .u8 (c.toNat : Int)] rfl rfl ?c1 ?c2 ?c3 ?c4 ?c5 ?_))
          case c1 =>
            intro j u hj
            match j, hj with
            | 0, hj => simp at hj; subst hj; simp [Addr.add, hc.out]
          case c2 => intro u hu; simp at hu; subst hu; rfl
          case c3 => unfold maxLen; omega
          case c4 => omega
          case c5 => have := hbel.size; simp; omega
          intro v' w1 hown' hgrow hnil
          go_wp2
          go_roundw
          case rel =>
            have G := Words.goes_more (l := s.data.toList) (k := m) hgo (by rw [Words.size_list]; omega) hg0 (by show 0 ≤ Words.uval s[m + 1]; omega) hc.out
            exact ⟨m + 1 + 1, pre ++ [c], _, by omega, by go_num, rfl, by rw [List.length_append]; have := HL.out; simp; omega, hnil, own_snoc hown', (hbel.alloc hbel.size _).grown hgrow (by have := hbel.size; simp; omega) (own_below hown), Or.inl ⟨by have := HP.out; omega, by rw [List.length_append]; have := HL.out; simp; omega, G⟩⟩
          case measure => simp [intOf]; omega
    · rcases hcase with ⟨hpar, hlen, hgo⟩ | ⟨m, hkm, hpar, hlen, hgo, hm, hge, hg0⟩
      · have HN : Hid (_ = _) := Words.goes_end hgo (by rw [Words.size_list]; omega)
        have h2 : ¬ (2 * (pre.length : Int)) < (s.size : Int) := by omega
        clear hpar hlen
        have hcv := string_own hown
        rcases hown.2 with ⟨rfl, _⟩ | ⟨g, cap, cur, rfl, _⟩
        · exact absurd rfl hnn
        · go_wp2
          try rw [Exit.noGoto_ret]
          go_ret2
          exact ⟨by rw [HN.out]; rfl, hbel⟩
      · exact absurd HE0.out (by omega)
end Go.Proofs.YtbajccpnkgdfpaaDoor
