/- More that is drawn, walked: once in so many, long texts, one out of some. More that is drawn, walked: once in so many, long texts, one out of some. What is drawn of commands, walked: CommandOk, CommandText. -/
import Derived.Test.YtimacmijinblmaaGreatDraw
import Derived.Test.YtimacmijinblmaaGreatImplConf
import Derived.Test.YtimacmijinblmaaGreatSpecEntT
namespace Go.Proofs.YtimacmijinblmaaGreat
open Go.RowKit
set_option linter.unusedVariables false

set_option maxHeartbeats 400000 in
theorem once_any {B g len cap b off : Nat} {a : Option Addr} {z : Nat → Int} (n : Int) (hn : n ≤ 9223372036854775807) (w : World) (hc : Cur B w g a len cap b off z) :
    Calls Tryz.prog 112 #[.pointer (some ⟨g, 0, none⟩), .int .i64 n] w fun e w' => ∃ x : Int, e = .returned (.bool (x == 0)) ∧ Cur B w' g a len cap b off z ∧ w.grownBy w' (some g) := by
  have HC : Hid (Cur B w g a len cap b off z) := hc
  have HN : Hid (n ≤ 9223372036854775807) := hn
  clear hc hn
  go_enter Tryz.func112, Tryz.ntmps112
  go_wp2_with (go_at_call 90; refine (below_any n HN.out _ HC.out).mono ?_; rintro e w1 ⟨x, rfl, hx, hc1, hg1⟩)
  go_ret
  exact ⟨x, rfl, hc1, hg1⟩


set_option maxHeartbeats 400000 in
theorem big_no (a : Option Addr) (len cap : Nat) (h : len ≤ 1048576) (w : World) :
    Calls Tryz.prog 10 #[.slice a len cap] w fun e w' => e = .returned (.bool false) ∧ w = w' := by
  have h1 : ¬ (1048576 : Int) < (len : Int) := by omega
  go_enter Tryz.func10, Tryz.ntmps10
  go_wp2
  go_ret
  exact ⟨rfl, rfl⟩
set_option maxHeartbeats 400000 in
theorem big_yes (a : Option Addr) (len cap : Nat) (h : 1048576 < len) (w : World) :
    Calls Tryz.prog 10 #[.slice a len cap] w fun e w' => e = .returned (.bool true) ∧ w = w' := by
  have h1 : (1048576 : Int) < (len : Int) := by omega
  go_enter Tryz.func10, Tryz.ntmps10
  go_wp2
  go_ret
  exact ⟨rfl, rfl⟩
set_option maxHeartbeats 400000 in
theorem pickInt_any {B g len cap b off r n : Nat} {a : Option Addr} {z : Nat → Int} (w : World) (hc : Cur B w g a len cap b off z) (hn0 : 0 < n) (hn : n ≤ 1000) (hr : r ≠ g)
    (hcell : ∀ j, j < n → ∃ v : Int, w.cell? ⟨r, j, none⟩ = some (.int .i64 v) ∧ -9223372036854775808 ≤ v ∧ v ≤ 9223372036854775807) :
    Calls Tryz.prog 91 #[.pointer (some ⟨g, 0, none⟩), .slice (some ⟨r, 0, none⟩) n n] w fun e w' => ∃ x : Int, e = .returned (.int .i64 x) ∧ -9223372036854775808 ≤ x ∧ x ≤ 9223372036854775807 ∧ Cur B w' g a len cap b off z ∧ w.grownBy w' (some g) := by
  have HC : Hid (Cur B w g a len cap b off z) := hc
  have HR : Hid (∀ j, j < n → ∃ v : Int, w.cell? ⟨r, j, none⟩ = some (.int .i64 v) ∧ -9223372036854775808 ≤ v ∧ v ≤ 9223372036854775807) := hcell
  clear hc hcell
  go_enter Tryz.func91, Tryz.ntmps91
  go_wp2_with fail
  refine (below_any (n : Int) (by omega) _ HC.out).mono ?_
  rintro e w1 ⟨x, rfl, hx, hc1, hg1⟩
  obtain ⟨hx0, _, hx2⟩ := hx
  have hx3 := hx2 (by omega)
  obtain ⟨m, rfl⟩ := Int.eq_ofNat_of_zero_le hx0
  obtain ⟨v, hv, hv0, hv1⟩ := HR.out m (by omega)
  have hv' : w1.cell? ⟨r, m, none⟩ = some (.int .i64 v) := hg1.cell hv (by intro e; exact hr (Option.some.inj e))
  have HV0 : Hid (_ ≤ _) := hv0
  have HV1 : Hid (_ ≤ _) := hv1
  clear hx2 hv0 hv1
  go_wp2
  go_ret
  exact ⟨v, rfl, HV0.out, HV1.out, hc1, hg1⟩

theorem Cur.alloc {B g len cap b off : Nat} {a : Option Addr} {z : Nat → Int} {w : World} (hc : Cur B w g a len cap b off z) (o : Obj) : Cur B (w.alloc o) g a len cap b off z := by
  have hg := hc.lt
  obtain ⟨hB, hb, hlen, hcode, i, h, hi, hblk⟩ := hc
  exact Cur.step hB hb hlen hcode (World.grownBy_alloc w o (some g)) hi (by rw [Below.heap_alloc _ _ _ hg]; exact hblk)

theorem pickInt_new {B g len cap b off : Nat} {a : Option Addr} {z : Nat → Int} (w1 : World) (hc : Cur B w1 g a len cap b off z) (cs : Array Value) (n : Nat) (hn0 : 0 < n) (hn : n ≤ 1000)
    (hcs : ∀ j, j < n → ∃ v : Int, cs[j]? = some (.int .i64 v) ∧ -9223372036854775808 ≤ v ∧ v ≤ 9223372036854775807) :
    Calls Tryz.prog 91 #[.pointer (some ⟨g, 0, none⟩), .slice (some ⟨w1.heap.size, 0, none⟩) n n] (w1.alloc (.cells cs 3)) fun e w' => ∃ x : Int, e = .returned (.int .i64 x) ∧ -9223372036854775808 ≤ x ∧ x ≤ 9223372036854775807 ∧ Cur B w' g a len cap b off z ∧ w1.grownBy w' (some g) := by
  have hg := hc.lt
  have hg1 := World.grownBy_alloc w1 (.cells cs 3) (some g)
  refine (pickInt_any _ (hc.alloc _) hn0 hn (by omega) ?_).mono ?_
  · intro j hj
    obtain ⟨v, h1, h2⟩ := hcs j hj
    refine ⟨v, ?_, h2⟩
    rw [cell_of_row _ _ _ cs 3 (0, 0) (heap_alloc_new w1 _)]
    exact h1
  · rintro e w' ⟨x, h1, h2, h3, h4, h5⟩
    exact ⟨x, h1, h2, h3, h4, hg1.trans h5⟩

end Go.Proofs.YtimacmijinblmaaGreat
namespace Go.Proofs.YtimacmijinblmaaGreat
open Go.RowKit
set_option linter.unusedVariables false

set_option maxHeartbeats 1000000 in
set_option maxRecDepth 100000 in
theorem long_any (n : Nat) (hn : n ≤ 30000) (w : World) :
    Calls Tryz.prog 93 #[.int .i64 (n : Int), .int .u8 65] w fun e w' => ∃ S : ByteArray, e = .returned (.string S) ∧ S.size = n ∧ Below w.heap.size w w' := by
  obtain ⟨i0, hi, hz0, hz1, hz2⟩ := info_parts Tryz.info5
  go_enter Tryz.func93, Tryz.ntmps93
  go_wp2_with (at_make; refine wpList_make_full _ rfl _ _ 31 rfl w.heap.size 5 i0 (.int .u8 0) 1 Tryz.underlying31 hi hz0 hz1 _ _ _ _ n rfl rfl (by omega) (by omega) ?b2 ?b3 (Nat.le_refl _) ?_)
  case b2 => rw [hz2]; omega
  case b3 => unfold maxLen; omega
  intro w0 hown0 hgrow0
  have hbel0 : Below w.heap.size w w0 := (Below.refl _ _).grown hgrow0 (Nat.le_refl _) (by simp)
  rw [made_bytes] at hown0
  clear hgrow0
  go_wp2
  go_loopw [6] (fun i wr => ∃ (k : Nat) (pre : List UInt8), k ≤ n ∧ i = .int .i64 (k : Int) ∧ pre.length = n ∧ wr.ownsRow w.heap.size 5 1 (.slice (some ⟨w.heap.size, 0, none⟩) n n) n (cellsB pre) ∧ Below w.heap.size w wr)
    (fun i _ => n - (intOf i).toNat)
  case atStart => exact ⟨0, _, by omega, rfl, by simp, hown0, hbel0⟩
  case round =>
    obtain ⟨k, pre, hk, rfl, hlen, hown, hbel⟩ := hrel
    have HL : Hid (pre.length = n) := hlen
    clear hlen hown0 hbel0
    by_cases hlt : k < n
    · have hk0 : (0 : Int) ≤ (k : Int) := by omega
      have hk1 : (k : Int) < (n : Int) := by omega
      have hfz := hown.frozenAt k
      obtain ⟨u0, hcl⟩ : ∃ u0, wr.cell? ⟨w.heap.size, k, none⟩ = some u0 := by
        rw [hown.cellAt k (by omega)]
        exact ⟨_, List.getElem?_eq_getElem (by have := hown.1; omega)⟩
      have hst := hown.stored k (.int .u8 ((65 : UInt8).toNat : Int))
      rw [set_bytes] at hst
      have HS : Hid (_ ∧ _) := hst
      clear hst
      go_wp2
      go_roundw
      case rel => exact ⟨k + 1, pre.set k 65, by omega, by go_num, by rw [List.length_set]; exact HL.out, HS.out.1, hbel.setCell (Nat.le_refl _) _⟩
      case measure => simp [intOf]; omega
    · have hk1 : ¬ (k : Int) < (n : Int) := by omega
      have hcv := string_own (base := w.heap.size) (v := .slice (some ⟨w.heap.size, 0, none⟩) n n) (l := pre) (by rw [HL.out]; exact hown)
      go_wp2
      go_ret
      exact ⟨_, rfl, by rw [show (⟨pre.toArray⟩ : ByteArray).size = pre.length from by simp [ByteArray.size], HL.out], hbel⟩


theorem long_int (x : Int) (h0 : 0 ≤ x) (h1 : x ≤ 30000) (w : World) :
    Calls Tryz.prog 93 #[.int .i64 x, .int .u8 65] w fun e w' => ∃ S : ByteArray, e = .returned (.string S) ∧ S.size ≤ 30000 ∧ Below w.heap.size w w' := by
  have h := long_any x.toNat (by omega) w
  rw [Int.toNat_of_nonneg h0] at h
  exact h.mono fun e w' ⟨S, h1, h2, h3⟩ => ⟨S, h1, by omega, h3⟩


set_option maxHeartbeats 400000 in
/-- A text picked out of some: it is one of them. -/
theorem pick_any {B g len cap b off r n : Nat} {a : Option Addr} {z : Nat → Int} (P : ByteArray → Prop) (w : World) (hc : Cur B w g a len cap b off z) (hn0 : 0 < n) (hn : n ≤ 1000) (hr : r ≠ g)
    (hcell : ∀ j, j < n → ∃ S : ByteArray, w.cell? ⟨r, j, none⟩ = some (.string S) ∧ P S) :
    Calls Tryz.prog 130 #[.pointer (some ⟨g, 0, none⟩), .slice (some ⟨r, 0, none⟩) n n] w fun e w' => ∃ S : ByteArray, e = .returned (.string S) ∧ P S ∧ Cur B w' g a len cap b off z ∧ w.grownBy w' (some g) := by
  have HC : Hid (Cur B w g a len cap b off z) := hc
  have HR : Hid (∀ j, j < n → ∃ S : ByteArray, w.cell? ⟨r, j, none⟩ = some (.string S) ∧ P S) := hcell
  clear hc hcell
  go_enter Tryz.func130, Tryz.ntmps130
  go_wp2_with fail
  refine (below_any (n : Int) (by omega) _ HC.out).mono ?_
  rintro e w1 ⟨x, rfl, hx, hc1, hg1⟩
  obtain ⟨hx0, _, hx2⟩ := hx
  have hx3 := hx2 (by omega)
  obtain ⟨m, rfl⟩ := Int.eq_ofNat_of_zero_le hx0
  obtain ⟨v, hv, hv0⟩ := HR.out m (by omega)
  have hv' : w1.cell? ⟨r, m, none⟩ = some (.string v) := hg1.cell hv (by intro e; exact hr (Option.some.inj e))
  have HV0 : Hid (P v) := hv0
  clear hx2 hv0
  go_wp2
  go_ret
  exact ⟨v, rfl, HV0.out, hc1, hg1⟩

/-- A text picked out of a row just made. -/
theorem pick_new {B g len cap b off : Nat} {a : Option Addr} {z : Nat → Int} (P : ByteArray → Prop) (w1 : World) (hc : Cur B w1 g a len cap b off z) (cs : Array Value) (n : Nat) (hn0 : 0 < n) (hn : n ≤ 1000)
    (hcs : ∀ j, j < n → ∃ S : ByteArray, cs[j]? = some (.string S) ∧ P S) :
    Calls Tryz.prog 130 #[.pointer (some ⟨g, 0, none⟩), .slice (some ⟨w1.heap.size, 0, none⟩) n n] (w1.alloc (.cells cs 9)) fun e w' => ∃ S : ByteArray, e = .returned (.string S) ∧ P S ∧ Cur B w' g a len cap b off z ∧ w1.grownBy w' (some g) := by
  have hg := hc.lt
  have hg1 := World.grownBy_alloc w1 (.cells cs 9) (some g)
  refine (pick_any P _ (hc.alloc _) hn0 hn (by omega) ?_).mono ?_
  · intro j hj
    obtain ⟨v, h1, h2⟩ := hcs j hj
    refine ⟨v, ?_, h2⟩
    rw [cell_of_row _ _ _ cs 9 (0, 0) (heap_alloc_new w1 _)]
    exact h1
  · rintro e w' ⟨x, h1, h2, h3, h4⟩
    exact ⟨x, h1, h2, h3, hg1.trans h4⟩

end Go.Proofs.YtimacmijinblmaaGreat
namespace Go.Proofs.YtimacmijinblmaaGreat
open Go.RowKit
set_option linter.unusedVariables false
set_option linter.unusedSimpArgs false

/-- A command. -/
structure CmdL where
  op : Int
  ses : Int
  seq : Int
  key : ByteArray
  val : ByteArray
  old : ByteArray
def cmdV (c : CmdL) : Value := .agg #[.int .i64 c.op, .int .i64 c.ses, .int .i64 c.seq, .string c.key, .string c.val, .string c.old]
/-- What is drawn of commands. -/
structure CmdD (c : CmdL) : Prop where
  o1 : 1 ≤ c.op ∧ c.op ≤ 5
  o2 : 0 ≤ c.ses ∧ c.ses ≤ 100
  o3 : 0 ≤ c.seq ∧ c.seq ≤ 100
  o4 : c.key.size ≤ 9
  o5 : c.val.size ≤ 9
  o6 : c.old.size ≤ 9
  o7 : c.op = 1 → c = ⟨1, 0, 0, ⟨#[]⟩, ⟨#[]⟩, ⟨#[]⟩⟩
  o8 : c.op ≠ 1 → 1 ≤ c.key.size
theorem eq_cmd0 (w : World) : (binOp .eql 121 (.agg #[.int .i64 1, .int .i64 0, .int .i64 0, .string ⟨#[]⟩, .string ⟨#[]⟩, .string ⟨#[]⟩]) (.agg #[.int .i64 1, .int .i64 0, .int .i64 0, .string ⟨#[]⟩, .string ⟨#[]⟩, .string ⟨#[]⟩])).run Tryz.prog w = .ok (.bool true) w := by kernel_rfl
def BoolPost (w : World) (en : Ending) (w' : World) : Prop := ∃ b : Bool, en = .returned (.bool b) ∧ Below w.heap.size w w'
theorem BoolPost.mk {w w' : World} (b : Bool) (h : Below w.heap.size w w') : BoolPost w (.returned (.bool b)) w' := ⟨b, rfl, h⟩
set_option maxHeartbeats 2000000 in
set_option maxRecDepth 100000 in
theorem cmdOk_any (c : CmdL) (h : CmdD c) (w : World) : Calls Tryz.prog 129 #[cmdV c] w (BoolPost w) := by
  have HB : Hid (Below w.heap.size w (w.alloc (Obj.cells #[.int .i64 c.op, .int .i64 c.ses, .int .i64 c.seq, .string c.key, .string c.val, .string c.old] 121))) := (Below.refl _ _).alloc (Nat.le_refl _) _
  obtain ⟨o1, o2', o3', o4, o5', o6', o7, o8⟩ := h
  have hin : ∀ (x a b : Int) (W : World), a ≤ x ∧ x ≤ b → Calls Tryz.prog 36 #[.int .i64 x, .int .i64 a, .int .i64 b] W fun en w' => en = .returned (.bool true) ∧ w' = W := fun x a b W q => in_is x a b true (by simp [q]) W
  have HIN : Hid (∀ (x a b : Int) (W : World), a ≤ x ∧ x ≤ b → Calls Tryz.prog 36 #[.int .i64 x, .int .i64 a, .int .i64 b] W fun en w' => en = .returned (.bool true) ∧ w' = W) := hin
  clear hin
  unfold cmdV
  by_cases k1 : c.op = 1
  · have hc := o7 k1
    subst hc
    have q1 := eq_cmd0
    have b1 : (1 : Int) ≤ 1 ∧ (1 : Int) ≤ 5 := by omega
    have b2 : (0 : Int) ≤ 0 ∧ (0 : Int) ≤ 100000 := by omega
    clear o7 o8 o1 o2' o3' o4 o5' o6' k1
    simp only at HB ⊢
    go_enter Tryz.func129, Tryz.ntmps129
    go_wp2_with (go_at_call 36; refine Calls.mono (HIN.out _ _ _ _ (by assumption)) ?_; rintro en w2 ⟨rfl, hw2⟩; subst hw2)
    go_ret
    exact BoolPost.mk _ HB.out
  · have hks := o8 k1
    have b2 : 0 ≤ c.ses ∧ c.ses ≤ 100000 := by omega
    have b3 : 0 ≤ c.seq ∧ c.seq ≤ 100000 := by omega
    have b4 : (1 : Int) ≤ (c.key.size : Int) ∧ (c.key.size : Int) ≤ 9 := by omega
    have b5 : ¬ (12 : Int) < (c.val.size : Int) := by omega
    have b6 : ¬ (12 : Int) < (c.old.size : Int) := by omega
    have e1 : (c.op == 1) = false := by simp [k1]
    clear o7 o8 hks o2' o3'
    by_cases k2 : c.op = 2
    · have e2 : (c.op == 2) = true := by simp [k2]
      clear k1 k2
      cases hv : c.val.toList.isEmpty with
      | true =>
        go_enter Tryz.func129, Tryz.ntmps129
        go_wp2_with (go_at_call 36; refine Calls.mono (HIN.out _ _ _ _ (by assumption)) ?_; rintro en w2 ⟨rfl, hw2⟩; subst hw2)
        go_ret
        exact BoolPost.mk _ HB.out
      | false =>
        go_enter Tryz.func129, Tryz.ntmps129
        go_wp2_with (go_at_call 36; refine Calls.mono (HIN.out _ _ _ _ (by assumption)) ?_; rintro en w2 ⟨rfl, hw2⟩; subst hw2)
        go_ret
        exact BoolPost.mk _ HB.out
    · have e2 : (c.op == 2) = false := by simp [k2]
      by_cases k4 : c.op = 4
      · have e4 : (c.op == 4) = true := by simp [k4]
        clear k1 k2 k4
        cases hv : c.val.toList.isEmpty with
        | true =>
          go_enter Tryz.func129, Tryz.ntmps129
          go_wp2_with (go_at_call 36; refine Calls.mono (HIN.out _ _ _ _ (by assumption)) ?_; rintro en w2 ⟨rfl, hw2⟩; subst hw2)
          go_ret
          exact BoolPost.mk _ HB.out
        | false =>
          go_enter Tryz.func129, Tryz.ntmps129
          go_wp2_with (go_at_call 36; refine Calls.mono (HIN.out _ _ _ _ (by assumption)) ?_; rintro en w2 ⟨rfl, hw2⟩; subst hw2)
          go_ret
          exact BoolPost.mk _ HB.out
      · have e4 : (c.op == 4) = false := by simp [k4]
        by_cases k3 : c.op = 3
        · have e3 : (c.op == 3) = true := by simp [k3]
          clear k1 k2 k4 k3
          go_enter Tryz.func129, Tryz.ntmps129
          go_wp2_with (go_at_call 36; refine Calls.mono (HIN.out _ _ _ _ (by assumption)) ?_; rintro en w2 ⟨rfl, hw2⟩; subst hw2)
          go_ret
          exact BoolPost.mk _ HB.out
        · have e3 : (c.op == 3) = false := by simp [k3]
          clear k1 k2 k4 k3
          go_enter Tryz.func129, Tryz.ntmps129
          go_wp2_with (go_at_call 36; refine Calls.mono (HIN.out _ _ _ _ (by assumption)) ?_; rintro en w2 ⟨rfl, hw2⟩; subst hw2)
          go_ret
          exact BoolPost.mk _ HB.out
end Go.Proofs.YtimacmijinblmaaGreat
