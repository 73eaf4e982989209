/- The call of the program's (*textReader).list, walked. -/
import Derived.Test.YtcmjidcdkooliaaReader
import Derived.Test.YtcmjidcdkooliaaInts
namespace Go.Proofs.Ytcmjidcdkooliaa
open Go.RowKit
set_option linter.unusedVariables false

/-- What list holds: the reader, the numbers read so far. -/
structure LSt (w : World) (rb : Nat) (t : ByteArray) (a : Nat) (v : Value) (pre : List Int) (W : World) : Prop where
  rd : Rd W rb t a
  own : W.ownsRow w.heap.size 3 1 v pre.length (cellsI pre)
  grown : w.grownBy W (some rb)
  up : rb < w.heap.size
section
variable {w W W' : World} {rb a a' : Nat} {t : ByteArray} {v : Value} {pre : List Int}
theorem LSt.call (h : LSt w rb t a v pre W) (hr : Rd W' rb t a') (hg : W.grownBy W' (some rb)) : LSt w rb t a' v pre W' :=
  ⟨hr, h.own.kept hg (Or.inr (own_not h.own h.rd.1 (by decide))), h.grown.trans hg, h.up⟩
theorem LSt.alloc (h : LSt w rb t a v pre W) (o : Obj) : LSt w rb t a v pre (W.alloc o) :=
  h.call (h.rd.below ((Below.refl _ _).alloc (Nat.le_refl _) _)) (grown_alloc _ _)
theorem LSt.app (h : LSt w rb t a v pre W) {v' : Value} {c : Int} (hg : W.grownBy W' v.ownBlock) (hown : W'.ownsRow w.heap.size 3 1 v' (pre.length + 1) (cellsI pre ++ [.int .i64 c])) : LSt w rb t a v' (pre ++ [c]) W' := by
  refine ⟨⟨?_, h.rd.2⟩, ownI_snoc hown, h.grown.andThen hg (fun r e => Or.inl (h.own.lt r e).1), h.up⟩
  exact (hg.block rb h.rd.lt (fun e => own_not h.own h.rd.1 (by decide) e.symm)).trans h.rd.1
end
set_option maxHeartbeats 1000000 in
set_option maxRecDepth 100000 in
theorem list_some {rb : Nat} {t : ByteArray} {a n a0 e : Nat} {l : List Int} {M : Nat} (hM : M ≤ 1000) (hs : t.size ≤ 1048576) (w : World) (hr : Rd w rb t a)
    (h1 : Words.rd t.data.toList a = some (n, a0)) (hn : n ≤ M) (h2 : Mans.rdMany t n a0 = some (l, e)) :
    Calls Try.prog 58 #[.pointer (some ⟨rb, 0, none⟩), .int .i64 (M : Int)] w fun en w' => ∃ v, en = .returned v ∧ w'.ownsRow w.heap.size 3 1 v l.length (cellsI l) ∧ Rd w' rb t e ∧ w.grownBy w' (some rb) := by
  obtain ⟨i0, hi, hz0, hz1, hz2⟩ := info_parts Try.info3
  have hlt := hr.lt
  have HR : Hid (Rd w rb t a) := hr
  have H1 : Hid (_ = _) := h1
  have H2 : Hid (Mans.rdMany t n a0 = some (l, e)) := h2
  clear hr h1 h2
  go_enter Try.func58, Try.ntmps58
  go_wp2_with (go_at_call 67; refine (count_some hs _ HR.out H1.out hM hn).mono ?_; rintro en w1 ⟨rfl, hr1, hg1⟩)
  have HS1 : Hid (LSt w rb t a0 (.slice none 0 0) [] w1) := ⟨hr1, World.ownsRow_nil _ _ _ _, hg1, hlt⟩
  clear hr1 hg1
  go_loopw [5, 9] (fun v i wr => ∃ (k a' : Nat) (pre rest : List Int), k ≤ n ∧ i = .int .i64 (k : Int) ∧ pre.length = k ∧ pre ++ rest = l ∧ Mans.rdMany t (n - k) a' = some (rest, e) ∧ LSt w rb t a' v pre wr)
    (fun _ i _ => n - (intOf i).toNat)
  case atStart => exact ⟨0, a0, [], l, Nat.zero_le _, rfl, rfl, rfl, H2.out, HS1.out⟩
  case round =>
    obtain ⟨k, a', pre, rest, hk, rfl, hpl0, hpr, hrd, hst⟩ := hrel
    have HS : Hid (LSt w rb t a' u5 pre wr) := hst
    have HP : Hid (pre ++ rest = l) := hpr
    have HM : Hid (Mans.rdMany t (n - k) a' = some (rest, e)) := hrd
    have HPL : Hid (pre.length = k) := hpl0
    clear hst hpr hrd hpl0
    by_cases hlt : k < n
    · obtain ⟨c, a1', r, hone, hmany, hrest⟩ := Mans.rdMany_next (m := n - k - 1) (by rw [show n - k - 1 + 1 = n - k by omega]; exact HM.out)
      have HO : Hid (_ = _) := hone
      have HM1 : Hid (Mans.rdMany t (n - (k + 1)) a1' = some (r, e)) := by rw [show n - (k + 1) = n - k - 1 by omega]; exact hmany
      have HP1 : Hid ((pre ++ [(c : Int)]) ++ r = l) := by show _ = _; rw [← HP.out, hrest]; simp
      clear hone hmany hrest HM HP
      have hk1 : (k : Int) < (n : Int) := by omega
      have hpl : pre.length ≤ 1000 := by have := HPL.out; omega
      go_wp2_with fail
      refine (number_some hs _ HS.out.rd HO.out).mono ?_
      rintro en w2 ⟨rfl, hr2, hg2⟩
      have hS2 := HS.out.call hr2 hg2
      have HS2 : Hid (LSt w rb t a1' u5 pre w2) := hS2
      have hown := hS2.own
      have hsz := hS2.grown.size
      clear hr2 hg2 hS2
      go_wp2_with (at_builtin; refine wpList_append_own _ rfl _ _ 24 rfl w.heap.size 3 i0 (.int .i64 0) 1 8 Try.underlying24 hi hz0 hz1 hz2 rfl (by decide) _ _ _ rfl (hown.alloc _) ⟨w2.heap.size, 0, none⟩ 1 1 [.int .i64 (c : Int)] rfl rfl ?c1 ?c2 ?c3 ?c4 ?c5 ?_)
      case c1 =>
        intro j u hj
        match j, hj with
        | 0, hj => simp at hj; subst hj; simp [Addr.add]
      case c2 => intro u hu; simp at hu; subst hu; rfl
      case c3 => unfold maxLen; omega
      case c4 => omega
      case c5 => simp; omega
      intro v' w4 hown2 hgrow _
      have HS4 : Hid (LSt w rb t a1' v' (pre ++ [(c : Int)]) w4) := (HS2.out.alloc _).app hgrow hown2
      clear hown2 hgrow hown
      go_wp2
      go_roundw
      case rel => exact ⟨k + 1, a1', pre ++ [(c : Int)], r, by omega, by go_num, by have := HPL.out; simp; omega, HP1.out, HM1.out, HS4.out⟩
      case measure => simp [intOf]; omega
    · have hk1 : ¬ (k : Int) < (n : Int) := by omega
      have HE : Hid (rest = [] ∧ a' = e) := by
        have h := HM.out
        rw [show n - k = 0 by omega, Mans.rdMany] at h
        simp only [Option.some.injEq, Prod.mk.injEq] at h
        exact ⟨h.1.symm, h.2⟩
      have hpe : pre = l := by rw [← HP.out, HE.out.1]; simp
      have HPE : Hid (pre = l) := hpe
      clear hpe
      go_wp2
      go_ret
      refine ⟨u5, rfl, ?_, ?_, HS.out.grown⟩
      · rw [← HPE.out]; exact HS.out.own
      · rw [← HE.out.2]; exact HS.out.rd
set_option maxHeartbeats 1000000 in
set_option maxRecDepth 100000 in
theorem list_torn {rb : Nat} {t : ByteArray} {a M : Nat} (hM : M ≤ 1000) (hs : t.size ≤ 1048576) (w : World) (hr : Rd w rb t a) (h : Mans.TornL t a M) :
    Calls Try.prog 58 #[.pointer (some ⟨rb, 0, none⟩), .int .i64 (M : Int)] w fun en w' => en = .panicked thrown ∧ w.grownBy w' (some rb) := by
  obtain ⟨i0, hi, hz0, hz1, hz2⟩ := info_parts Try.info3
  have hlt := hr.lt
  have HR : Hid (Rd w rb t a) := hr
  clear hr
  rcases h with h | ⟨n, a0, h1, hn⟩ | ⟨n, a0, h1, hn, h2⟩
  · have H1 : Hid (_ = _) := h
    clear h
    go_enter Try.func58, Try.ntmps58
    go_wp2_with (go_at_call 67; refine (count_none hs _ HR.out H1.out).mono ?_; rintro en w1 ⟨rfl, hg1⟩)
    exact ⟨rfl, rfl, hg1⟩
  · have H1 : Hid (_ = _) := h1
    clear h1
    go_enter Try.func58, Try.ntmps58
    go_wp2_with (go_at_call 67; refine (count_over hs _ HR.out H1.out hM hn).mono ?_; rintro en w1 ⟨rfl, hg1⟩)
    exact ⟨rfl, rfl, hg1⟩
  · have H1 : Hid (_ = _) := h1
    have H2 : Hid (Mans.rdMany t n a0 = none) := h2
    clear h1 h2
    go_enter Try.func58, Try.ntmps58
    go_wp2_with (go_at_call 67; refine (count_some hs _ HR.out H1.out hM hn).mono ?_; rintro en w1 ⟨rfl, hr1, hg1⟩)
    have HS1 : Hid (LSt w rb t a0 (.slice none 0 0) [] w1) := ⟨hr1, World.ownsRow_nil _ _ _ _, hg1, hlt⟩
    clear hr1 hg1
    go_loopw [5, 9] (fun v i wr => ∃ (k a' : Nat) (pre : List Int), k ≤ n ∧ i = .int .i64 (k : Int) ∧ pre.length = k ∧ Mans.rdMany t (n - k) a' = none ∧ LSt w rb t a' v pre wr)
      (fun _ i _ => n - (intOf i).toNat)
    case atStart => exact ⟨0, a0, [], Nat.zero_le _, rfl, rfl, H2.out, HS1.out⟩
    case round =>
      obtain ⟨k, a', pre, hk, rfl, hpl0, hrd, hst⟩ := hrel
      have HS : Hid (LSt w rb t a' u5 pre wr) := hst
      have HM : Hid (Mans.rdMany t (n - k) a' = none) := hrd
      have HPL : Hid (pre.length = k) := hpl0
      clear hst hrd hpl0
      have hlt : k < n := by
        rcases Nat.lt_or_ge k n with h | h
        · exact h
        · have := HM.out
          rw [show n - k = 0 by omega, Mans.rdMany] at this
          cases this
      have hk1 : (k : Int) < (n : Int) := by omega
      have hpl : pre.length ≤ 1000 := by have := HPL.out; omega
      rcases Mans.rdMany_torn (m := n - k - 1) (by rw [show n - k - 1 + 1 = n - k by omega]; exact HM.out) with hone | ⟨c, a1', hone, hmany⟩
      · have HO : Hid (_ = _) := hone
        clear hone
        go_wp2_with fail
        refine (number_none hs _ HS.out.rd HO.out).mono ?_
        rintro en w2 ⟨rfl, hg2⟩
        exact ⟨rfl, rfl, HS.out.grown.trans hg2⟩
      · have HO : Hid (_ = _) := hone
        have HM1 : Hid (Mans.rdMany t (n - (k + 1)) a1' = none) := by rw [show n - (k + 1) = n - k - 1 by omega]; exact hmany
        clear hone hmany HM
        go_wp2_with fail
        refine (number_some hs _ HS.out.rd HO.out).mono ?_
        rintro en w2 ⟨rfl, hr2, hg2⟩
        have hS2 := HS.out.call hr2 hg2
        have HS2 : Hid (LSt w rb t a1' u5 pre w2) := hS2
        have hown := hS2.own
        have hsz := hS2.grown.size
        clear hr2 hg2 hS2
        go_wp2_with (at_builtin; refine wpList_append_own _ rfl _ _ 24 rfl w.heap.size 3 i0 (.int .i64 0) 1 8 Try.underlying24 hi hz0 hz1 hz2 rfl (by decide) _ _ _ rfl (hown.alloc _) ⟨w2.heap.size, 0, none⟩ 1 1 [.int .i64 (c : Int)] rfl rfl ?c1 ?c2 ?c3 ?c4 ?c5 ?_)
        case c1 =>
          intro j u hj
          match j, hj with
          | 0, hj => simp at hj; subst hj; simp [Addr.add]
        case c2 => intro u hu; simp at hu; subst hu; rfl
        case c3 => unfold maxLen; omega
        case c4 => omega
        case c5 => simp; omega
        intro v' w4 hown2 hgrow _
        have HS4 : Hid (LSt w rb t a1' v' (pre ++ [(c : Int)]) w4) := (HS2.out.alloc _).app hgrow hown2
        clear hown2 hgrow hown
        go_wp2
        go_roundw
        case rel => exact ⟨k + 1, a1', pre ++ [(c : Int)], by omega, by go_num, by have := HPL.out; simp; omega, HM1.out, HS4.out⟩
        case measure => simp [intOf]; omega
end Go.Proofs.Ytcmjidcdkooliaa
