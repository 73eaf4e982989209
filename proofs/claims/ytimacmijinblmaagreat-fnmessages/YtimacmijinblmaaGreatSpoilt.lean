/- A text spoilt by what is drawn, walked. -/
import Derived.Test.YtimacmijinblmaaGreatNSt
import Derived.Test.YtimacmijinblmaaGreatRegInvT
namespace Go.Proofs.YtimacmijinblmaaGreat
open Go.RowKit
set_option linter.unusedVariables false
set_option linter.unusedSimpArgs false
def StrPost (B g len cap b off : Nat) (a : Option Addr) (z : Nat → Int) (w : World) (n : Nat) (e : Ending) (w' : World) : Prop := ∃ S : ByteArray, e = .returned (.string S) ∧ S.size ≤ n ∧ Cur B w' g a len cap b off z ∧ w.grownBy w' (some g)
theorem StrPost.mk {B g len cap b off : Nat} {a : Option Addr} {z : Nat → Int} {w : World} {n : Nat} {w' : World} (S : ByteArray) (h : S.size ≤ n) (hc : Cur B w' g a len cap b off z) (hg : w.grownBy w' (some g)) : StrPost B g len cap b off a z w n (.returned (.string S)) w' := ⟨S, rfl, h, hc, hg⟩
/-- The cursor is kept. -/
def Goes (B g len cap b off : Nat) (a : Option Addr) (z : Nat → Int) (u v : World) : Prop := (Cur B u g a len cap b off z → Cur B v g a len cap b off z) ∧ u.grownBy v (some g)
def Str (n : Nat) (v : Value) : Prop := ∃ S : ByteArray, v = .string S ∧ S.size ≤ n
theorem Str.elim {n : Nat} {v : Value} {p : Prop} (h : Str n v) (k : ∀ S : ByteArray, v = .string S → S.size ≤ n → p) : p := by
  obtain ⟨S, h1, h2⟩ := h
  exact k S h1 h2
theorem Str.pay {P : Program} {o : Oper} {act : Act} {w : World} {K : Act → World → Prop} {Q : Exit → Act → World → Prop} {n : Nat} {v : Value} (h : Str n v) (k : ∀ S : ByteArray, v = .string S → S.size ≤ n → o.wp P act w K Q) : o.wp P act w K Q := by
  obtain ⟨S, h1, h2⟩ := h
  exact k S h1 h2
theorem Str.fin {Q : Exit → Act → World → Prop} {act : Act} {w : World} {n : Nat} {v : Value} (h : Str n v) (k : ∀ S : ByteArray, v = .string S → S.size ≤ n → Q .normal act w) : Q .normal act w := by
  obtain ⟨S, h1, h2⟩ := h
  exact k S h1 h2
set_option maxHeartbeats 4000000 in
set_option maxRecDepth 100000 in
theorem spoilt_any {B g len cap b off : Nat} {a : Option Addr} {z : Nat → Int} (s : ByteArray) (hs : s.size ≤ 1000000) (w : World) (hc : Cur B w g a len cap b off z) :
    Calls Tryz.prog 40 #[.pointer (some ⟨g, 0, none⟩), .string s] w (StrPost B g len cap b off a z w (s.size + 1)) := by
  have HC : Hid (Cur B w g a len cap b off z) := hc
  clear hc
  go_enter Tryz.func40, Tryz.ntmps40
  go_wp2_with fail
  refine (below_any 12 (by decide) _ HC.out).mono ?_
  rintro e w1 ⟨x, rfl, hx, hc1, hg1⟩
  have HC1 : Hid (Cur B w1 g a len cap b off z) := hc1
  have HG1 : Hid (w.grownBy w1 (some g)) := hg1
  clear hc1 hg1 hx HC
  by_cases x0 : x = 0
  · subst x0
    go_wp2_with fail
    refine (text_any 1 (by decide) _ HC1.out).mono ?_
    rintro e w2 ⟨S, rfl, hS, hc2, hg2⟩
    have hz : ¬ 9223372036854775807 < s.size + S.size := by omega
    have HP : Hid (StrPost B g len cap b off a z w (s.size + 1) (.returned (.string (s ++ S))) w2) := StrPost.mk _ (by rw [ByteArray.size_append]; omega) hc2 (HG1.out.trans hg2)
    clear hc2 hg2
    go_wp2
    go_ret
    exact HP.out
  have d0 : (x == 0) = false := beq_eq_false_iff_ne.2 x0
  by_cases x1 : x = 1
  · subst x1
    go_wp2_with fail
    refine (below_any ((s.size : Int) + 1) (by omega) _ HC1.out).mono ?_
    rintro e w2 ⟨y, rfl, hy, hc2, hg2⟩
    obtain ⟨n, rfl⟩ := Int.eq_ofNat_of_zero_le hy.1
    have hn : n ≤ s.size := by have := hy.2.2 (by omega); omega
    have HP : Hid (StrPost B g len cap b off a z w (s.size + 1) (.returned (.string (s.extract 0 n))) w2) := StrPost.mk _ (by rw [ByteArray.size_extract]; omega) hc2 (HG1.out.trans hg2)
    have h0 : (0 : Int) ≤ (n : Int) := by omega
    have h1 : (n : Int) ≤ (s.size : Int) := by omega
    clear hc2 hg2 hy
    go_wp2
    go_ret
    exact HP.out
  have d1 : (x == 1) = false := beq_eq_false_iff_ne.2 x1
  have HW : Hid (StrPost B g len cap b off a z w (s.size + 1) (.returned (.string s)) w1) := StrPost.mk _ (by omega) HC1.out HG1.out
  by_cases x23 : x = 2 ∨ x = 3
  rotate_left
  · have d2 : (x == 2) = false := beq_eq_false_iff_ne.2 (fun h => x23 (Or.inl h))
    have d3 : (x == 3) = false := beq_eq_false_iff_ne.2 (fun h => x23 (Or.inr h))
    clear x0 x1 x23
    go_wp2
    go_ret
    exact HW.out
  by_cases hl : 0 < s.size
  rotate_left
  · have hl1 : ¬ (0 : Int) < (s.size : Int) := by omega
    rcases x23 with rfl | rfl
    all_goals (
      go_wp2
      go_ret
      exact HW.out)
  have hl1 : (0 : Int) < (s.size : Int) := by omega
  clear HW
  rcases x23 with rfl | rfl
  all_goals
    go_wp2_with fail
    refine (below_any (s.size : Int) (by omega) _ HC1.out).mono ?_
    rintro e w2 ⟨y, rfl, hy, hc2, hg2⟩
    obtain ⟨n, rfl⟩ := Int.eq_ofNat_of_zero_le hy.1
    have hn : n < s.size := by have := hy.2.2 (by omega); omega
    have HC2 : Hid (Cur B w2 g a len cap b off z) := hc2
    have HG2 : Hid (w.grownBy w2 (some g)) := HG1.out.trans hg2
    have h0 : (0 : Int) ≤ (n : Int) := by omega
    have h1 : (n : Int) ≤ (s.size : Int) := by omega
    have h2 : (0 : Int) ≤ (n : Int) + 1 := by omega
    have h3 : (n : Int) + 1 ≤ (s.size : Int) := by omega
    have e1 : (s.extract 0 n).size = n := by rw [ByteArray.size_extract]; omega
    have e2 : (s.extract (n + 1) s.size).size = s.size - (n + 1) := by rw [ByteArray.size_extract]; omega
    clear hc2 hg2 hy
    go_wp2_with fail
    refine InvT.region_walk (T := Goes B g len cap b off a z) 45 (fun i v X => if i = 4 then Str 1 v else if i = 5 then Str (n + 1) v else if i = 10 ∨ i = 11 then Str (s.size + 1) v else v = [.string s, .int .i64 (n : Int), .string (s.extract 0 n), .pointer (some ⟨g, 0, none⟩), undef, undef, .string s, .int .i64 (n : Int), .int .i64 ((n : Int) + 1), .string (s.extract (n + 1) s.size), undef, undef].getD i undef) (fun p q r h k => ⟨fun x => k.1 (h.1 x), h.2.trans k.2⟩) ⟨fun x => x, grown_drew (World.grownBy.refl w2 _)⟩ rfl rfl (by kernel_rfl) (fun i v X X' h hb => h) ?_ ?_
    · refine ⟨?_, ?_, ?_, ?_, ?_, ?_, ?_, ?_, ?_, ?_, ?_, ?_, trivial⟩
      · intro f X K hb hf hd hk
        have e1 : f 1 = .string s := hf 1 rfl
        refine Inv.pay_value (v := .string s) (w' := X) ?_ ?_
        · simp [execOp, go_sem, Inv.act_get, e1]
        · exact hk (.string s) X ⟨fun x => x, World.grownBy.refl X _⟩ rfl
      · intro f X K hb hf hd hk
        have e5 : f 5 = .int .i64 (n : Int) := hf 5 rfl
        refine Inv.pay_value (v := .int .i64 (n : Int)) (w' := X) ?_ ?_
        · simp [execOp, go_sem, Inv.act_get, e5]
        · exact hk (.int .i64 (n : Int)) X ⟨fun x => x, World.grownBy.refl X _⟩ rfl
      · intro f X K hb hf hd hk
        have d0 : f 33 = .string s := hd 0 rfl
        have d1 : f 34 = .int .i64 (n : Int) := hd 1 rfl
        refine Inv.pay_value (v := .string (s.extract 0 n)) (w' := X) ?_ ?_
        · simp [execOp, go_sem, Inv.act_get, d0, d1, h0, h1]
        · exact hk (.string (s.extract 0 n)) X ⟨fun x => x, World.grownBy.refl X _⟩ rfl
      · intro f X K hb hf hd hk
        have e0 : f 0 = .pointer (some ⟨g, 0, none⟩) := hf 0 rfl
        refine Inv.pay_value (v := .pointer (some ⟨g, 0, none⟩)) (w' := X) ?_ ?_
        · simp [execOp, go_sem, Inv.act_get, e0]
        · exact hk (.pointer (some ⟨g, 0, none⟩)) X ⟨fun x => x, World.grownBy.refl X _⟩ rfl
      · intro f X K hb hf hd hk
        have d3 : f 36 = .pointer (some ⟨g, 0, none⟩) := hd 3 rfl
        refine Inv.pay_callE (f := 96) (args := #[.pointer (some ⟨g, 0, none⟩), .int .i64 1]) (R := fun v w' => Str 1 v ∧ Goes B g len cap b off a z X w') ?_ ?_ (fun v w5 hv => hk v w5 hv.2 hv.1)
        · simp [execOp, go_sem, Inv.act_get, d3]
        · refine (text_any 1 (by decide) X (hb.1 HC2.out)).mono ?_
          rintro e w' ⟨S, rfl, hS, hc, hg⟩
          exact ⟨_, rfl, ⟨S, rfl, by omega⟩, fun _ => hc, hg⟩
      · intro f X K hb hf hd hk
        have d2 : f 35 = .string (s.extract 0 n) := hd 2 rfl
        have d4 : Str 1 (f 37) := hd 4 rfl
        refine d4.pay ?_
        intro S hS1 hS2
        have hz : ¬ 9223372036854775807 < (s.extract 0 n).size + S.size := by omega
        refine Inv.pay_value (v := .string (s.extract 0 n ++ S)) (w' := X) ?_ ?_
        · simp [execOp, go_sem, Inv.act_get, d2, hS1]; omega
        · exact hk (.string (s.extract 0 n ++ S)) X ⟨fun x => x, World.grownBy.refl X _⟩ ⟨_, rfl, by rw [ByteArray.size_append]; omega⟩
      · intro f X K hb hf hd hk
        have e1 : f 1 = .string s := hf 1 rfl
        refine Inv.pay_value (v := .string s) (w' := X) ?_ ?_
        · simp [execOp, go_sem, Inv.act_get, e1]
        · exact hk (.string s) X ⟨fun x => x, World.grownBy.refl X _⟩ rfl
      · intro f X K hb hf hd hk
        have e5 : f 5 = .int .i64 (n : Int) := hf 5 rfl
        refine Inv.pay_value (v := .int .i64 (n : Int)) (w' := X) ?_ ?_
        · simp [execOp, go_sem, Inv.act_get, e5]
        · exact hk (.int .i64 (n : Int)) X ⟨fun x => x, World.grownBy.refl X _⟩ rfl
      · intro f X K hb hf hd hk
        have d7 : f 40 = .int .i64 (n : Int) := hd 7 rfl
        refine Inv.pay_value (v := .int .i64 ((n : Int) + 1)) (w' := X) ?_ ?_
        · simp [execOp, go_sem, Inv.act_get, d7]; rw [IntKind.wrap_i64]; omega
        · exact hk (.int .i64 ((n : Int) + 1)) X ⟨fun x => x, World.grownBy.refl X _⟩ rfl
      · intro f X K hb hf hd hk
        have d6 : f 39 = .string s := hd 6 rfl
        have d8 : f 41 = .int .i64 ((n : Int) + 1) := hd 8 rfl
        refine Inv.pay_value (v := .string (s.extract (n + 1) s.size)) (w' := X) ?_ ?_
        · simp [execOp, go_sem, Inv.act_get, d6, d8, h2, h3]
        · exact hk (.string (s.extract (n + 1) s.size)) X ⟨fun x => x, World.grownBy.refl X _⟩ rfl
      · intro f X K hb hf hd hk
        have d5 : Str (n + 1) (f 38) := hd 5 rfl
        have d9 : f 42 = .string (s.extract (n + 1) s.size) := hd 9 rfl
        refine d5.pay ?_
        intro S hS1 hS2
        have hz : ¬ 9223372036854775807 < S.size + (s.extract (n + 1) s.size).size := by omega
        refine Inv.pay_value (v := .string (S ++ s.extract (n + 1) s.size)) (w' := X) ?_ ?_
        · simp [execOp, go_sem, Inv.act_get, d9, hS1]; omega
        · exact hk (.string (S ++ s.extract (n + 1) s.size)) X ⟨fun x => x, World.grownBy.refl X _⟩ ⟨_, rfl, by rw [ByteArray.size_append]; omega⟩
      · intro f X K hb hf hd hk
        have d10 : Str (s.size + 1) (f 43) := hd 10 rfl
        refine Inv.pay_value (v := f 43) (w' := X) ?_ ?_
        · simp [execOp, go_sem, Inv.act_get]
        · exact hk (f 43) X ⟨fun x => x, World.grownBy.refl X _⟩ d10
    · intro f w6 hb6 hf hv
      have e4 : Str (s.size + 1) (f 4) := hv 11 (by decide)
      refine e4.fin ?_
      intro S hS1 hS2
      have hact : Inv.act 45 [] f = ⟨(f 0 :: f 1 :: f 2 :: f 3 :: f 4 :: f 5 :: f 6 :: f 7 :: f 8 :: f 9 :: f 10 :: f 11 :: f 12 :: f 13 :: f 14 :: f 15 :: f 16 :: f 17 :: f 18 :: f 19 :: f 20 :: f 21 :: f 22 :: f 23 :: f 24 :: f 25 :: f 26 :: f 27 :: f 28 :: f 29 :: f 30 :: f 31 :: f 32 :: f 33 :: f 34 :: f 35 :: f 36 :: f 37 :: f 38 :: f 39 :: f 40 :: f 41 :: f 42 :: f 43 :: f 44 :: []).toArray, []⟩ := by kernel_rfl
      rw [hact, hS1]
      have HP : Hid (StrPost B g len cap b off a z w (s.size + 1) (.returned (.string S)) w6) := StrPost.mk _ hS2 (hb6.1 HC2.out) (HG2.out.trans hb6.2)
      clear hact hf hv hb6
      go_wp2
      go_ret
      exact HP.out
end Go.Proofs.YtimacmijinblmaaGreat
