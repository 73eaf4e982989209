/- The calls of both PartsOf, walked: the parts of the line, or none. -/
import Derived.Test.YtbajccpnkgdfpaaParts1
import Derived.Test.YtbajccpnkgdfpaaClone
namespace Go.Proofs.Ytbajccpnkgdfpaa
open Go.RowKit

def cellsS (ps : List (List UInt8)) : List Value := ps.map fun p => .string ⟨p.toArray⟩
theorem cellsS_app (l m : List (List UInt8)) : cellsS (l ++ m) = cellsS l ++ cellsS m := by simp [cellsS]
theorem Try.info9 : (Try.prog.info? 9).map (fun i => (i.zero, i.size, i.bytes)) = some (some (.string ⟨#[]⟩), 1, 16) := by kernel_rfl
def Good (s : ByteArray) : Prop := s.size ≤ 600 ∧ Words.plain s.data.toList ∧ (Words.partsF s.data.toList []).length ≤ 10
/-- What both PartsOf answer: the parts and true, or none and false. -/
def Res (s : ByteArray) (ps : List (List UInt8)) (ok : Bool) : Prop := (ok = true ∧ Good s ∧ ps = Words.partsF s.data.toList []) ∨ (ok = false ∧ ¬ Good s ∧ ps = [])
theorem res_one {s : ByteArray} {ps qs : List (List UInt8)} {a b : Bool} (h : Res s ps a) (k : Res s qs b) : ps = qs ∧ a = b := by
  rcases h with ⟨h1, h2, h3⟩ | ⟨h1, h2, h3⟩ <;> rcases k with ⟨k1, k2, k3⟩ | ⟨k1, k2, k3⟩
  · exact ⟨h3.trans k3.symm, h1.trans k1.symm⟩
  · exact absurd h2 k2
  · exact absurd k2 h2
  · exact ⟨h3.trans k3.symm, h1.trans k1.symm⟩
def PartsPost (s : ByteArray) (w : World) (e : Ending) (w' : World) : Prop := ∃ ps ok v, e = .returned (.tuple #[v, .bool ok]) ∧ w'.ownsRow w.heap.size 9 1 v ps.length (cellsS ps) ∧ Below w.heap.size w w' ∧ Res s ps ok
theorem partsPost {s : ByteArray} {w w' : World} {ps : List (List UInt8)} {ok : Bool} {v : Value} (h1 : w'.ownsRow w.heap.size 9 1 v ps.length (cellsS ps)) (h2 : Below w.heap.size w w') (h3 : Res s ps ok) : PartsPost s w (.returned (.tuple #[v, .bool ok])) w' :=
  ⟨ps, ok, v, rfl, h1, h2, h3⟩
theorem snoc_str {w : World} {base : Nat} {v : Value} {ps : List (List UInt8)} {p : List UInt8} (h : w.ownsRow base 9 1 v (ps.length + 1) (cellsS ps ++ [.string ⟨p.toArray⟩])) :
    w.ownsRow base 9 1 v (ps ++ [p]).length (cellsS (ps ++ [p])) := by
  rw [cellsS_app, List.length_append]; exact h
theorem str_below {w : World} {base : Nat} {v : Value} {n : Nat} {xs : List Value} (h : w.ownsRow base 9 1 v n xs) : ∀ k, v.ownBlock = some k → base ≤ k := fun k hk => (h.lt k hk).1
theorem grown_of {w w' : World} (h : Below w.heap.size w w') (row : Option Nat) : w.grownBy w' row := ⟨h.os, h.tape, h.output, h.size, fun k hk _ => h.block k hk⟩
theorem str_ext0 {S : ByteArray} {l : List UInt8} (h : S.data.toList = l) : S = ⟨l.toArray⟩ := by
  cases S; simp at h; subst h; simp
theorem cut_str (s : ByteArray) (a k : Nat) : ∃ p : List UInt8, Hid (p = (s.data.toList.drop a).take (k - a)) ∧ s.extract a k = ⟨p.toArray⟩ :=
  ⟨_, rfl, str_ext0 (Words.extract_list s a k)⟩

set_option maxHeartbeats 1000000 in
set_option maxRecDepth 100000 in
theorem specParts_any (s : ByteArray) (hs : s.size ≤ 1048576) (w : World) :
    Calls Try.prog 25 #[.string s] w fun e w' => PartsPost s w e w' := by
  obtain ⟨i0, hi, hz0, hz1, hz2⟩ := info_parts Try.info9
  by_cases hlong : 600 < s.size
  · go_enter Try.func25, Try.ntmps25
    go_wp2
    go_ret2
    exact partsPost (ps := []) (World.ownsRow_made w #[] 0 (Nat.le_refl _) (by unfold maxLen; omega) rfl) ((Below.refl _ _).alloc (Nat.le_refl _) _) (Or.inr ⟨rfl, fun g => absurd g.1 (by omega), rfl⟩)
  · go_enter Try.func25, Try.ntmps25
    go_wp2
    go_loopw [4, 5, 6] (fun v b i wr => ∃ (k a : Nat) (ps : List (List UInt8)), k ≤ s.size + 1 ∧ i = .int .i64 (k : Int) ∧ b = .int .i64 (a : Int) ∧ a ≤ k ∧ ps.length ≤ k ∧ v ≠ .slice none 0 0 ∧ wr.ownsRow w.heap.size 9 1 v ps.length (cellsS ps) ∧ Below w.heap.size w wr ∧
        (∀ b ∈ s.data.toList.take k, 32 ≤ b.toNat ∧ b.toNat ≤ 126) ∧ ps ++ Words.partsF (s.data.toList.drop k) ((s.data.toList.drop a).take (k - a)) = Words.partsF s.data.toList [] ∧ (s.size < k → a = k))
      (fun _ _ i _ => s.size + 1 - (intOf i).toNat)
    case atStart => exact ⟨0, 0, [], by omega, rfl, rfl, by omega, by simp, by simp, World.ownsRow_made w #[] 0 (Nat.le_refl _) (by unfold maxLen; omega) rfl, (Below.refl _ _).alloc (Nat.le_refl _) _, by simp, by simp, by omega⟩
    case round =>
      obtain ⟨k, a, ps, hk, rfl, rfl, hak, hpl, hnn, hown, hbel, hall, heq, hend⟩ := hrel
      have HA : Hid (∀ b ∈ s.data.toList.take k, 32 ≤ b.toNat ∧ b.toNat ≤ 126) := hall
      have HE : Hid (_ = _) := heq
      have HEnd : Hid (s.size < k → a = k) := hend
      clear hall heq hend
      have hbz := hbel.size
      by_cases hlt : k < s.size
      · have hle : (k : Int) ≤ (s.size : Int) := by omega
        have hlti : (k : Int) < (s.size : Int) := by omega
        by_cases h1 : (s[k].toNat : Int) < 32
        · go_wp2
          go_ret2
          exact partsPost (ps := []) (World.ownsRow_made wr #[] 0 hbz (by unfold maxLen; omega) rfl) (hbel.alloc hbz _) (Or.inr ⟨rfl, fun g => by have := g.2.1 s[k] (Words.memB s k hlt); omega, rfl⟩)
        · by_cases h2 : (126 : Int) < (s[k].toNat : Int)
          · go_wp2
            go_ret2
            exact partsPost (ps := []) (World.ownsRow_made wr #[] 0 hbz (by unfold maxLen; omega) rfl) (hbel.alloc hbz _) (Or.inr ⟨rfl, fun g => by have := g.2.1 s[k] (Words.memB s k hlt); omega, rfl⟩)
          · have HA2 : Hid (∀ b ∈ s.data.toList.take (k + 1), 32 ≤ b.toNat ∧ b.toNat ≤ 126) := by
              show ∀ b ∈ _, _
              rw [Words.take_snoc s k hlt]
              intro b hb
              rcases List.mem_append.1 hb with hb | hb
              · exact HA.out b hb
              · rw [List.mem_singleton.1 hb]; omega
            by_cases hb : s[k].toNat = 32
            · have hbi : ((s[k].toNat : Int) != 32) = false := by simp; omega
              have HB : Hid (s[k].toNat = 32) := hb
              clear hb h1 h2
              by_cases hab : a < k
              · obtain ⟨p, HP, hex⟩ := cut_str s a k
                have hsl : ∀ wx, (Instr.slice 9 (.string s) (some (.int .i64 (a : Int))) (some (.int .i64 (k : Int))) none).run Try.prog wx = .ok (.string ⟨p.toArray⟩) wx := fun wx => by
                  rw [run_slice_string wx 9 s .i64 .i64 _ _ Try.underlying9 (by omega) (by omega) (by omega), Int.toNat_natCast, Int.toNat_natCast, hex]
                clear hex
                have h32 : (32 : Int) ≤ (s[k].toNat : Int) := by have := HB.out; omega
                have h126 : (s[k].toNat : Int) ≤ 126 := by have := HB.out; omega
                go_wp2_with (at_builtin; refine wpList_append_own _ rfl _ _ 34 rfl w.heap.size 9 i0 (.string ⟨#[]⟩) 1 16 Try.underlying34 hi hz0 hz1 hz2 rfl (by decide) _ _ _ rfl (hown.alloc _) ⟨wr.heap.size, 0, none⟩ 1 1 [.string ⟨p.toArray⟩] rfl rfl ?c1 ?c2 ?c3 ?c4 ?c5 ?_)
                case c1 =>
                  intro j u hj
                  match j, hj with
                  | 0, hj => simp at hj; subst hj; simp [Addr.add]
                case c2 => intro u hu; simp at hu; subst hu; rfl
                case c3 => unfold maxLen; omega
                case c4 => omega
                case c5 => simp; omega
                intro v' w1 hown' hgrow hnil
                go_wp2
                go_roundw
                case rel =>
                  refine ⟨k + 1, k + 1, ps ++ [p], by omega, by go_num, by go_num, by omega, by simp; omega, hnil, snoc_str hown', (hbel.alloc hbz _).grown hgrow (by simp; omega) (str_below hown), HA2.out, ?_, fun _ => rfl⟩
                  rw [Nat.sub_self, List.take_zero, List.append_assoc, ← HE.out, Words.parts_end1 (Words.cut_ne hab (by omega)) hlt HB.out, HP.out]
                  rfl
                case measure => simp [intOf]; omega
              · have h32 : (32 : Int) ≤ (s[k].toNat : Int) := by have := HB.out; omega
                have h126 : (s[k].toNat : Int) ≤ 126 := by have := HB.out; omega
                go_wp2
                go_roundw
                case rel =>
                  refine ⟨k + 1, k + 1, ps, by omega, by go_num, by go_num, by omega, by omega, hnn, hown, hbel, HA2.out, ?_, fun _ => rfl⟩
                  have e := HE.out
                  have hka : k - a = 0 := by omega
                  rw [hka, List.take_zero, Words.parts_skip hlt HB.out] at e
                  rw [Nat.sub_self, List.take_zero]
                  exact e
                case measure => simp [intOf]; omega
            · have hbi : ((s[k].toNat : Int) != 32) = true := by simp; omega
              go_wp2
              go_roundw
              case rel =>
                refine ⟨k + 1, a, ps, by omega, by go_num, rfl, by omega, by omega, hnn, hown, hbel, HA2.out, ?_, by omega⟩
                rw [Words.cut_snoc hak hlt, ← HE.out, Words.parts_more hlt hb]
              case measure => simp [intOf]; omega
      · by_cases hks : k = s.size
        · have hle : (k : Int) ≤ (s.size : Int) := by omega
          have hlti : ¬ (k : Int) < (s.size : Int) := by omega
          have HA2 : Hid (∀ b ∈ s.data.toList.take (k + 1), 32 ≤ b.toNat ∧ b.toNat ≤ 126) := by
            show ∀ b ∈ _, _
            rw [List.take_of_length_le (by rw [Words.size_list]; omega)]
            have := HA.out
            rwa [List.take_of_length_le (by rw [Words.size_list]; omega)] at this
          have HD : Hid (s.data.toList.drop (k + 1) = s.data.toList.drop k) := by
            show _ = _
            rw [Words.dropB_end s k hlt, Words.dropB_end s (k + 1) (by omega)]
          have hkz : k ≤ s.size := by omega
          clear hks
          by_cases hab : a < k
          · obtain ⟨p, HP, hex⟩ := cut_str s a k
            have hsl : ∀ wx, (Instr.slice 9 (.string s) (some (.int .i64 (a : Int))) (some (.int .i64 (k : Int))) none).run Try.prog wx = .ok (.string ⟨p.toArray⟩) wx := fun wx => by
              rw [run_slice_string wx 9 s .i64 .i64 _ _ Try.underlying9 (by omega) (by omega) (by omega), Int.toNat_natCast, Int.toNat_natCast, hex]
            clear hex
            go_wp2_with (at_builtin; refine wpList_append_own _ rfl _ _ 34 rfl w.heap.size 9 i0 (.string ⟨#[]⟩) 1 16 Try.underlying34 hi hz0 hz1 hz2 rfl (by decide) _ _ _ rfl (hown.alloc _) ⟨wr.heap.size, 0, none⟩ 1 1 [.string ⟨p.toArray⟩] rfl rfl ?d1 ?d2 ?d3 ?d4 ?d5 ?_)
            case d2 => first | rfl | (intro u hu; rw [List.mem_singleton.1 hu]; rfl)
            case d3 => unfold maxLen; omega
            case d4 => omega
            case d5 => first | omega | (simp; omega)
            intro v' w1 hown' hgrow hnil
            go_wp2
            go_roundw
            case rel =>
              refine ⟨k + 1, k + 1, ps ++ [p], by omega, by go_num, by go_num, by omega, by simp; omega, hnil, snoc_str hown', (hbel.alloc hbz _).grown hgrow (by simp; omega) (str_below hown), HA2.out, ?_, fun _ => rfl⟩
              rw [HD.out, Nat.sub_self, List.take_zero, List.append_assoc, ← HE.out, Words.parts_end (Words.cut_ne hab hkz) (fun h => absurd h hlt), HP.out]
              rfl
            case measure => simp [intOf]; omega
          · go_wp2
            go_roundw
            case rel =>
              refine ⟨k + 1, k + 1, ps, by omega, by go_num, by go_num, by omega, by omega, hnn, hown, hbel, HA2.out, ?_, fun _ => rfl⟩
              have e := HE.out
              have hka : k - a = 0 := by omega
              rw [hka, List.take_zero] at e
              rw [HD.out, Nat.sub_self, List.take_zero]
              exact e
            case measure => simp [intOf]; omega
        · have hle : ¬ (k : Int) ≤ (s.size : Int) := by omega
          have HPl : Words.plain s.data.toList := by
            have := HA.out
            rwa [List.take_of_length_le (by rw [Words.size_list]; omega)] at this
          have HF : Hid (ps = Words.partsF s.data.toList []) := by
            have e := HE.out
            have ek := HEnd.out (by omega)
            show _ = _
            rw [Words.dropB_end s k hlt, ek, Nat.sub_self, List.take_zero, Words.partsF, if_pos rfl, List.append_nil] at e
            exact e
          have HPl2 : Hid (Words.plain s.data.toList) := HPl
          clear HPl
          rcases hown.2 with ⟨rfl, _⟩ | ⟨g, cap, cur, rfl, _⟩
          · exact absurd rfl hnn
          · by_cases hten : ps.length ≤ 10
            · have h10 : ¬ (10 : Int) < (ps.length : Int) := by omega
              go_wp2
              go_ret2
              exact partsPost hown hbel (Or.inl ⟨rfl, ⟨by omega, HPl2.out, by rw [← HF.out]; exact hten⟩, HF.out⟩)
            · have h10 : (10 : Int) < (ps.length : Int) := by omega
              go_wp2
              go_ret2
              exact partsPost (ps := []) (World.ownsRow_made wr #[] 0 hbz (by unfold maxLen; omega) rfl) (hbel.alloc hbz _) (Or.inr ⟨rfl, fun g => by have := g.2.2; rw [← HF.out] at this; omega, rfl⟩)

theorem skip_zero (s : ByteArray) (hs : s.size ≤ 1048576) (w : World) :
    Calls Try.prog 38 #[.string s, .int .i64 0] w fun e w' => ∃ E : Nat, e = .returned (.int .i64 (E : Int)) ∧ w = w' ∧ 0 ≤ E ∧ E ≤ s.size ∧ Words.partsF (s.data.toList.drop 0) [] = Words.partsF (s.data.toList.drop E) [] ∧ ∀ h : E < s.size, ¬ s[E].toNat = 32 :=
  skip_any s hs 0 (Nat.zero_le _) w

set_option maxHeartbeats 1000000 in
set_option maxRecDepth 100000 in
theorem implParts_any (s : ByteArray) (hs : s.size ≤ 1048576) (w : World) :
    Calls Try.prog 26 #[.string s] w fun e w' => PartsPost s w e w' := by
  obtain ⟨i0, hi, hz0, hz1, hz2⟩ := info_parts Try.info9
  by_cases hlong : 600 < s.size
  · have hli : (600 : Int) < (s.size : Int) := by omega
    go_enter Try.func26, Try.ntmps26
    go_wp2
    go_ret2
    exact partsPost (ps := []) (World.ownsRow_nil _ _ _ _) (Below.refl _ _) (Or.inr ⟨rfl, fun g => absurd g.1 (by omega), rfl⟩)
  · have hli : ¬ (600 : Int) < (s.size : Int) := by omega
    by_cases hp : Words.plain s.data.toList
    · have HP : Hid (Words.plain s.data.toList) := hp
      clear hp
      go_enter Try.func26, Try.ntmps26
      go_wp2_with (first | (go_at_call 37; refine (plain_yes s hs HP.out _).mono ?_; rintro e w' ⟨rfl, rfl⟩) | (go_at_call 38; refine (skip_zero s hs _).mono ?_; rintro e w' ⟨A, rfl, rfl, hA1, hA2, hA3, hA4⟩))
      go_loopw [4, 5] (fun v i wr => ∃ (a : Nat) (ps : List (List UInt8)), a ≤ s.size ∧ i = .int .i64 (a : Int) ∧ ps.length ≤ a ∧ wr.ownsRow w.heap.size 9 1 v ps.length (cellsS ps) ∧ Below w.heap.size w wr ∧
          ps ++ Words.partsF (s.data.toList.drop a) [] = Words.partsF s.data.toList [] ∧ (∀ h : a < s.size, ¬ s[a].toNat = 32))
        (fun _ i _ => s.size - (intOf i).toNat)
      case atStart => exact ⟨A, [], hA2, rfl, by simp, World.ownsRow_nil _ _ _ _, Below.refl _ _, by rw [List.nil_append, ← hA3]; rfl, hA4⟩
      case round =>
        obtain ⟨a, ps, ha, rfl, hpl, hown, hbel, heq, hnb⟩ := hrel
        have HE : Hid (_ = _) := heq
        clear heq hA3 hA4
        have hbz := hbel.size
        by_cases hlt : a < s.size
        · have hlti : (a : Int) < (s.size : Int) := by omega
          have HNB : Hid (¬ s[a].toNat = 32) := hnb hlt
          clear hnb
          go_wp2_with fail
          refine (end_any s hs a hlt HNB.out _).mono ?_
          rintro e w' ⟨E, rfl, rfl, hE1, hE2, hE3⟩
          have HE3 : Hid (_ = _) := hE3
          clear hE3
          obtain ⟨p, HPp, hex⟩ := cut_str s a E
          have hsl : ∀ wx, (Instr.slice 9 (.string s) (some (.int .i64 (a : Int))) (some (.int .i64 (E : Int))) none).run Try.prog wx = .ok (.string ⟨p.toArray⟩) wx := fun wx => by
            rw [run_slice_string wx 9 s .i64 .i64 _ _ Try.underlying9 (by omega) (by omega) (by omega), Int.toNat_natCast, Int.toNat_natCast, hex]
          have hpz : (⟨p.toArray⟩ : ByteArray).size ≤ 281474976710656 := by rw [← hex, ByteArray.size_extract]; omega
          clear hex
          go_wp2_with fail
          refine (clone_any ⟨p.toArray⟩ hpz _).mono ?_
          rintro e w1 ⟨rfl, hb1⟩
          have hown1 := hown.kept (grown_of hb1 none) (Classical.em _)
          have hbel1 : Below w.heap.size w w1 := hbel.trans (hb1.mono hbz)
          have hbz1 := hbel1.size
          go_wp2_with (at_builtin; refine wpList_append_own _ rfl _ _ 34 rfl w.heap.size 9 i0 (.string ⟨#[]⟩) 1 16 Try.underlying34 hi hz0 hz1 hz2 rfl (by decide) _ _ _ rfl (hown1.alloc _) ⟨w1.heap.size, 0, none⟩ 1 1 [.string ⟨p.toArray⟩] rfl rfl ?c1 ?c2 ?c3 ?c4 ?c5 ?_)
          case c1 =>
            intro j u hj
            match j, hj with
            | 0, hj => simp at hj; subst hj; simp [Addr.add]
          case c2 => first | rfl | (intro u hu; rw [List.mem_singleton.1 hu]; rfl)
          case c3 => unfold maxLen; omega
          case c4 => omega
          case c5 => simp; omega
          intro v' w2 hown2 hgrow _
          have hbel2 : Below w.heap.size w w2 := (hbel1.alloc hbz1 _).grown hgrow (by simp; omega) (str_below hown1)
          clear hgrow
          go_wp2_with fail
          refine (skip_any s hs E hE2 _).mono ?_
          rintro e w' ⟨B, rfl, rfl, hB1, hB2, hB3, hB4⟩
          have HB3 : Hid (_ = _) := hB3
          clear hB3
          go_wp2
          go_roundw
          case rel =>
            refine ⟨B, ps ++ [p], hB2, rfl, by simp; omega, snoc_str hown2, hbel2, ?_, hB4⟩
            rw [List.append_assoc, ← HE.out, HE3.out, HPp.out, ← HB3.out]
            rfl
          case measure => simp [intOf]; omega
        · have hlti : ¬ (a : Int) < (s.size : Int) := by omega
          have HF : Hid (ps = Words.partsF s.data.toList []) := by
            have e := HE.out
            show _ = _
            rw [Words.dropB_end s a hlt, Words.partsF, if_pos rfl, List.append_nil] at e
            exact e
          clear hnb
          rcases hown.2 with ⟨rfl, hz⟩ | ⟨g, cap, cur, rfl, _⟩
          · have HZ : Hid (_ = _) := hz
            clear hz
            go_wp2
            go_ret2
            exact partsPost hown hbel (Or.inl ⟨rfl, ⟨by omega, HP.out, by rw [← HF.out]; have := HZ.out; omega⟩, HF.out⟩)
          · by_cases hten : ps.length ≤ 10
            · have h10 : ¬ (10 : Int) < (ps.length : Int) := by omega
              go_wp2
              go_ret2
              exact partsPost hown hbel (Or.inl ⟨rfl, ⟨by omega, HP.out, by rw [← HF.out]; exact hten⟩, HF.out⟩)
            · have h10 : (10 : Int) < (ps.length : Int) := by omega
              go_wp2
              go_ret2
              exact partsPost (ps := []) (World.ownsRow_nil _ _ _ _) hbel (Or.inr ⟨rfl, fun g => by have := g.2.2; rw [← HF.out] at this; omega, rfl⟩)
    · have HP : Hid (¬ Words.plain s.data.toList) := hp
      clear hp
      go_enter Try.func26, Try.ntmps26
      go_wp2_with (go_at_call 37; refine (plain_no s hs HP.out _).mono ?_; rintro e w' ⟨rfl, rfl⟩)
      go_ret2
      exact partsPost (ps := []) (World.ownsRow_nil _ _ _ _) (Below.refl _ _) (Or.inr ⟨rfl, fun g => absurd g.2.1 HP.out, rfl⟩)
end Go.Proofs.Ytbajccpnkgdfpaa
