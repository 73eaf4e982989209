/- The specification's ReadCommand, walked. -/
import Derived.Test.YtlmjhobijgmolaaSpecTxt
import Derived.Test.YtlmjhobijgmolaaRdCmd
import Derived.Test.YtlmjhobijgmolaaCur3
namespace Go.Proofs.Ytlmjhobijgmolaa
open Go.RowKit
open Cmds (okC Reads Got)
set_option linter.unusedVariables false
set_option linter.unusedSimpArgs false

/-- The command that is read, the result's cells and the cursor. -/
structure XS (w : World) (xb : Nat) (t : ByteArray) (A : Array Value) (a : Nat) (bad : Bool) (X : World) : Prop where
  x : X.heap[xb]? = some (.cells A 26 (0, 0))
  z : X.heap[w.heap.size]? = some (.cells zeroC 26 (0, 0))
  c : C5 X (w.heap.size + 1) t a bad
  b : Below w.heap.size w X
  n : w.heap.size + 1 < xb
theorem XS.grown {w X X' : World} {xb : Nat} {t : ByteArray} {A : Array Value} {a a' : Nat} {bad bad' : Bool} (h : XS w xb t A a bad X) (hg : X.grownBy X' (some (w.heap.size + 1))) (hc : C5 X' (w.heap.size + 1) t a' bad') : XS w xb t A a' bad' X' :=
  ⟨grown_keep h.x hg (by have := h.n; omega), grown_keep h.z hg (by omega), hc, h.b.grown hg h.b.size (fun k e => by cases e; omega), h.n⟩
theorem XS.set {w X : World} {xb : Nat} {t : ByteArray} {A : Array Value} {a : Nat} {bad : Bool} (h : XS w xb t A a bad X) (j : Nat) (v : Value) : XS w xb t (A.setIfInBounds j v) a bad (X.setCell ⟨xb, j, none⟩ v) :=
  ⟨heap_setCell_same X xb j _ 26 v h.x, set_far h.z (by have := h.n; omega) j v, h.c.far (by have := h.n; omega) j v, h.b.setCell (by show w.heap.size ≤ xb; have := h.n; omega) _, h.n⟩
theorem XS.below {w X X' : World} {xb : Nat} {t : ByteArray} {A : Array Value} {a : Nat} {bad : Bool} (h : XS w xb t A a bad X) (hb : Below X.heap.size X X') : XS w xb t A a bad X' :=
  ⟨(hb.block _ (Array.getElem?_eq_some_iff.1 h.x).1).trans h.x, (hb.block _ (Array.getElem?_eq_some_iff.1 h.z).1).trans h.z, h.c.below hb, h.b.trans (hb.mono h.b.size), h.n⟩
theorem first_byte {t : ByteArray} (h : 0 < t.size) : t.extract 0 (0 + 1) = ⟨#[t[0]]⟩ := by
  apply Batches.by_inj
  unfold Batches.by_
  rw [Words.extract_list]
  have hl : (Batches.by_ t).length = t.size := Words.size_list t
  have : Batches.by_ t = (Batches.by_ t)[0]'(by omega) :: (Batches.by_ t).drop 1 := by rw [← List.drop_eq_getElem_cons]; simp
  unfold Batches.by_ at this
  rw [this]
  simp
  rfl
theorem result13 {w : World} {g : Nat} {A C : Array Value} {R : Bool} (hg : w.heap[g]? = some (.cells C 26 (0, 0))) (hs : A.size = 6) {tmps : Array Value} (ht : tmps.getD 2 undef = .pointer (some ⟨g, 0, none⟩)) (h3 : tmps.getD 3 undef = .bool R) : (results Try.f13 tmps).run Try.prog (w.setRow g A) = .ok (.tuple #[.agg A, .bool R]) (w.setRow g A) := by
  have h := run_loadVar_agg (P := Try.prog) Try.isAgg26 Try.sizeOf26 (row_size (A := A) hg) hs
  have ht' : tmps[2]?.getD undef = .pointer (some ⟨g, 0, none⟩) := by simpa using ht
  have h3' : tmps[3]?.getD undef = .bool R := by simpa using h3
  simp [results, Try.results13, ht', h3', asAddr, h]
set_option maxHeartbeats 8000000 in
set_option maxRecDepth 100000 in
theorem specRead_is {t : ByteArray} (hs : t.size ≤ 1048576) (w : World) : Calls Try.prog 13 #[.string t] w (ReadPost w t) := by
  obtain ⟨W, hW⟩ : ∃ W, W = (w.alloc (Obj.cells #[.int .i64 0, .int .i64 0, .int .i64 0, .string ⟨#[]⟩, .string ⟨#[]⟩, .string ⟨#[]⟩] 26)).alloc (Obj.cells #[.string t, .int .i64 0, .bool false] 44) := ⟨_, rfl⟩
  have HWD : Hid ((w.alloc (Obj.cells #[.int .i64 0, .int .i64 0, .int .i64 0, .string ⟨#[]⟩, .string ⟨#[]⟩, .string ⟨#[]⟩] 26)).alloc (Obj.cells #[.string t, .int .i64 0, .bool false] 44) = W) := hW.symm
  have hb : Below w.heap.size w W := by rw [hW]; exact ((Below.refl _ _).alloc (Nat.le_refl _) _).alloc (by simp) _
  have hZ : W.heap[w.heap.size]? = some (.cells zeroC 26 (0, 0)) := by
    rw [hW, Below.heap_alloc _ _ _ (by simp)]
    exact heap_alloc_new w _
  have hC : C5 W (w.heap.size + 1) t 0 false := by
    refine ⟨?_, Nat.zero_le _⟩
    rw [hW]
    have := heap_alloc_new (w.alloc (Obj.cells #[.int .i64 0, .int .i64 0, .int .i64 0, .string ⟨#[]⟩, .string ⟨#[]⟩, .string ⟨#[]⟩] 26)) (Obj.cells #[.string t, .int .i64 0, .bool false] 44)
    simpa using this
  have HZ : Hid (W.heap[w.heap.size]? = some (.cells zeroC 26 (0, 0))) := hZ
  have HC : Hid (C5 W (w.heap.size + 1) t 0 false) := hC
  have HB : Hid (Below w.heap.size w W) := hb
  clear hW hb hZ hC
  go_enter Try.func13, Try.ntmps13
  go_wp2_with fail
  rw [HWD.out]
  clear HWD
  by_cases h0 : 0 < t.size
  rotate_left
  · refine (take_bad hs _ false HC.out (Or.inr (by omega)) (by omega)).mono ?_
    rintro en w1 ⟨rfl, hc1, hg1⟩
    have HZ1 : Hid (w1.heap[w.heap.size]? = some (.cells zeroC 26 (0, 0))) := grown_keep HZ.out hg1 (by omega)
    have HB1 : Hid (Below w.heap.size w w1) := HB.out.grown hg1 HB.out.size (fun k e => by cases e; omega)
    have c2 := hc1.c2
    clear hc1 hg1 HZ HC HB
    go_wp2_with (first | (refine wpList_storeA Try.sizeOf26 rfl _ _ rfl w.heap.size zeroC zeroC 26 rfl rfl HZ1.out rfl rfl zero_one ?_) | fail)
    refine bodyPost_ret (result13 HZ1.out rfl rfl rfl) rfl ⟨below_row HB1.out (Nat.le_refl _) _, Or.inr ⟨fun u hu => ?_, rfl⟩⟩
    obtain ⟨_, _, _, _, hu2⟩ := Cmds.got_reads hu
    exact h0 hu2.op.1
  refine (take_ok (n := 1) hs _ HC.out (by omega)).mono ?_
  rintro en w1 ⟨rfl, hc1, hg1⟩
  have HZ1 : Hid (w1.heap[w.heap.size]? = some (.cells zeroC 26 (0, 0))) := grown_keep HZ.out hg1 (by omega)
  have HB1 : Hid (Below w.heap.size w w1) := HB.out.grown hg1 HB.out.size (fun k e => by cases e; omega)
  have HC1 : Hid (C5 w1 (w.heap.size + 1) t 1 false) := hc1
  have c2 := hc1.c2
  rw [first_byte h0]
  obtain ⟨b, hb⟩ : ∃ b : UInt8, b = t[0] := ⟨_, rfl⟩
  rw [← hb]
  have HOP : Hid (∀ u : CmdL, Got t u → (b.toNat : Int) = u.op) := fun u hu => by
    obtain ⟨_, _, _, _, hu2⟩ := Cmds.got_reads hu
    obtain ⟨_, ho⟩ := hu2.op
    rw [ho, hb]
  obtain ⟨op, hop⟩ : ∃ op : Int, op = (b.toNat : Int) := ⟨_, rfl⟩
  have HWO : Hid (∀ h : 0 < (⟨#[b]⟩ : ByteArray).size, wrap64 ((((⟨#[b]⟩ : ByteArray)[0]'h).toNat : Nat) : Int) = op) := fun h => by
    show wrap64 (b.toNat : Int) = op
    rw [hop]; unfold wrap64; have := b.toNat_lt; omega
  obtain ⟨xb, hxb⟩ : ∃ xb, xb = w1.heap.size := ⟨_, rfl⟩
  have HX : Hid (XS w xb t #[.int .i64 op, .int .i64 0, .int .i64 0, .string ⟨#[]⟩, .string ⟨#[]⟩, .string ⟨#[]⟩] 1 false (w1.alloc (Obj.cells #[.int .i64 op, .int .i64 0, .int .i64 0, .string ⟨#[]⟩, .string ⟨#[]⟩, .string ⟨#[]⟩] 26))) := by
    have hl : w.heap.size + 1 < w1.heap.size := HC1.out.lt
    have hba : Below w1.heap.size w1 (w1.alloc (Obj.cells #[.int .i64 op, .int .i64 0, .int .i64 0, .string ⟨#[]⟩, .string ⟨#[]⟩, .string ⟨#[]⟩] 26)) := (Below.refl _ _).alloc (Nat.le_refl _) _
    rw [hxb]
    exact ⟨heap_alloc_new w1 _, (hba.block _ (by omega)).trans HZ1.out, ⟨(hba.block _ hl).trans HC1.out.1, HC1.out.2⟩, HB1.out.trans (hba.mono HB1.out.size), hl⟩
  clear hb hg1 hc1 HZ HC HB HZ1 HB1 HC1 h0
  go_wp2_with fail
  rw [HWO.out, ← hxb]
  clear HWO c2
  obtain ⟨X1, hX1⟩ : ∃ X1, X1 = w1.alloc (Obj.cells #[.int .i64 op, .int .i64 0, .int .i64 0, .string ⟨#[]⟩, .string ⟨#[]⟩, .string ⟨#[]⟩] 26) := ⟨_, rfl⟩
  rw [← hX1] at HX
  rw [← hX1]
  clear hX1 hxb
  rw [← hop] at HOP
  clear hop
  have HU1 : Hid (∀ u : CmdL, Got t u → ∃ a b d e, Reads t u a b d e t.size) := fun u hu => Cmds.got_reads hu
  refine (l05Var_both hs _ false HX.out.c).mono ?_
  rintro en w2 ⟨n1, a1, b1, rfl, l1, hc, hg, hq⟩
  have HQ1 : Hid (false = false → ∀ m b', Words.rd (Batches.by_ t) 1 = some (m, b') → n1 = m ∧ a1 = b' ∧ b1 = false) := hq
  have hx := HX.out.grown hg hc
  have HY : Hid (XS w xb t #[.int .i64 op, .int .i64 0, .int .i64 0, .string ⟨#[]⟩, .string ⟨#[]⟩, .string ⟨#[]⟩] a1 b1 w2) := hx
  have q1 := cell_of_row _ _ 1 _ _ _ hx.x
  have qf1 := frozen_of_row _ _ 1 _ _ hx.x
  simp at q1
  clear hc hg hq hx HX
  have HX : Hid (XS w xb t #[.int .i64 op, .int .i64 (n1 : Int), .int .i64 0, .string ⟨#[]⟩, .string ⟨#[]⟩, .string ⟨#[]⟩] a1 b1 (w2.setCell ⟨xb, 1, none⟩ (.int .i64 (n1 : Int)))) := HY.out.set 1 (.int .i64 (n1 : Int))
  go_wp2_with fail
  clear q1 qf1 HY
  obtain ⟨X2, hX2⟩ : ∃ X, X = w2.setCell ⟨xb, 1, none⟩ (.int .i64 (n1 : Int)) := ⟨_, rfl⟩
  rw [← hX2] at HX
  rw [← hX2]
  clear hX2
  refine (l05Var_both hs _ b1 HX.out.c).mono ?_
  rintro en w3 ⟨n2, a2, b2, rfl, l2, hc, hg, hq⟩
  have HQ2 : Hid (b1 = false → ∀ m b', Words.rd (Batches.by_ t) a1 = some (m, b') → n2 = m ∧ a2 = b' ∧ b2 = false) := hq
  have hx := HX.out.grown hg hc
  have HY : Hid (XS w xb t #[.int .i64 op, .int .i64 (n1 : Int), .int .i64 0, .string ⟨#[]⟩, .string ⟨#[]⟩, .string ⟨#[]⟩] a2 b2 w3) := hx
  have q2 := cell_of_row _ _ 2 _ _ _ hx.x
  have qf2 := frozen_of_row _ _ 2 _ _ hx.x
  simp at q2
  clear hc hg hq hx HX
  have HX : Hid (XS w xb t #[.int .i64 op, .int .i64 (n1 : Int), .int .i64 (n2 : Int), .string ⟨#[]⟩, .string ⟨#[]⟩, .string ⟨#[]⟩] a2 b2 (w3.setCell ⟨xb, 2, none⟩ (.int .i64 (n2 : Int)))) := HY.out.set 2 (.int .i64 (n2 : Int))
  go_wp2_with fail
  clear q2 qf2 HY
  obtain ⟨X3, hX3⟩ : ∃ X, X = w3.setCell ⟨xb, 2, none⟩ (.int .i64 (n2 : Int)) := ⟨_, rfl⟩
  rw [← hX3] at HX
  rw [← hX3]
  clear hX3
  refine (short5_both hs _ b2 HX.out.c).mono ?_
  rintro en w4 ⟨s3, a3, b3, rfl, l3, hc, hg, hq⟩
  have HQ3 : Hid (b2 = false → ∀ m b', Batches.rdShort t a2 = some (m, b') → s3 = m ∧ a3 = b' ∧ b3 = false) := hq
  have hx := HX.out.grown hg hc
  have HY : Hid (XS w xb t #[.int .i64 op, .int .i64 (n1 : Int), .int .i64 (n2 : Int), .string ⟨#[]⟩, .string ⟨#[]⟩, .string ⟨#[]⟩] a3 b3 w4) := hx
  have q3 := cell_of_row _ _ 3 _ _ _ hx.x
  have qf3 := frozen_of_row _ _ 3 _ _ hx.x
  simp at q3
  clear hc hg hq hx HX
  have HX : Hid (XS w xb t #[.int .i64 op, .int .i64 (n1 : Int), .int .i64 (n2 : Int), .string s3, .string ⟨#[]⟩, .string ⟨#[]⟩] a3 b3 (w4.setCell ⟨xb, 3, none⟩ (.string s3))) := HY.out.set 3 (.string s3)
  go_wp2_with fail
  clear q3 qf3 HY
  obtain ⟨X4, hX4⟩ : ∃ X, X = w4.setCell ⟨xb, 3, none⟩ (.string s3) := ⟨_, rfl⟩
  rw [← hX4] at HX
  rw [← hX4]
  clear hX4
  refine (short5_both hs _ b3 HX.out.c).mono ?_
  rintro en w5 ⟨s4, a4, b4, rfl, l4, hc, hg, hq⟩
  have HQ4 : Hid (b3 = false → ∀ m b', Batches.rdShort t a3 = some (m, b') → s4 = m ∧ a4 = b' ∧ b4 = false) := hq
  have hx := HX.out.grown hg hc
  have HY : Hid (XS w xb t #[.int .i64 op, .int .i64 (n1 : Int), .int .i64 (n2 : Int), .string s3, .string ⟨#[]⟩, .string ⟨#[]⟩] a4 b4 w5) := hx
  have q4 := cell_of_row _ _ 4 _ _ _ hx.x
  have qf4 := frozen_of_row _ _ 4 _ _ hx.x
  simp at q4
  clear hc hg hq hx HX
  have HX : Hid (XS w xb t #[.int .i64 op, .int .i64 (n1 : Int), .int .i64 (n2 : Int), .string s3, .string s4, .string ⟨#[]⟩] a4 b4 (w5.setCell ⟨xb, 4, none⟩ (.string s4))) := HY.out.set 4 (.string s4)
  go_wp2_with fail
  clear q4 qf4 HY
  obtain ⟨X5, hX5⟩ : ∃ X, X = w5.setCell ⟨xb, 4, none⟩ (.string s4) := ⟨_, rfl⟩
  rw [← hX5] at HX
  rw [← hX5]
  clear hX5
  refine (short5_both hs _ b4 HX.out.c).mono ?_
  rintro en w6 ⟨s5, a5, b5, rfl, l5, hc, hg, hq⟩
  have HQ5 : Hid (b4 = false → ∀ m b', Batches.rdShort t a4 = some (m, b') → s5 = m ∧ a5 = b' ∧ b5 = false) := hq
  have hx := HX.out.grown hg hc
  have HY : Hid (XS w xb t #[.int .i64 op, .int .i64 (n1 : Int), .int .i64 (n2 : Int), .string s3, .string s4, .string ⟨#[]⟩] a5 b5 w6) := hx
  have q5 := cell_of_row _ _ 5 _ _ _ hx.x
  have qf5 := frozen_of_row _ _ 5 _ _ hx.x
  simp at q5
  clear hc hg hq hx HX
  have HX : Hid (XS w xb t #[.int .i64 op, .int .i64 (n1 : Int), .int .i64 (n2 : Int), .string s3, .string s4, .string s5] a5 b5 (w6.setCell ⟨xb, 5, none⟩ (.string s5))) := HY.out.set 5 (.string s5)
  obtain ⟨x, hx⟩ : ∃ x : CmdL, x = ⟨op, (n1 : Int), (n2 : Int), s3, s4, s5⟩ := ⟨_, rfl⟩
  have HCX : Hid (#[.int .i64 op, .int .i64 (n1 : Int), .int .i64 (n2 : Int), .string s3, .string s4, .string s5] = cmdC x) := by show _ = _; rw [hx]; rfl
  have HU : Hid (∀ u : CmdL, Got t u → x = u ∧ b5 = false) := fun u hu => by
    obtain ⟨a', b', d', e', hr⟩ := Cmds.got_reads hu
    have e0 := HOP.out u hu
    obtain ⟨f1, g1, i1⟩ := HQ1.out (by first | rfl | trivial) _ _ hr.ses.1
    rw [← g1] at hr
    obtain ⟨f2, g2, i2⟩ := HQ2.out i1 _ _ hr.seq.1
    rw [← g2] at hr
    obtain ⟨f3, g3, i3⟩ := HQ3.out i2 _ _ hr.key
    rw [← g3] at hr
    obtain ⟨f4, g4, i4⟩ := HQ4.out i3 _ _ hr.val
    rw [← g4] at hr
    obtain ⟨f5, g5, i5⟩ := HQ5.out i4 _ _ hr.old
    refine ⟨?_, i5⟩
    have z1 := hr.ses.2
    have z2 := hr.seq.2
    rw [hx]
    cases u
    simp only at *
    subst e0 f3 f4 f5
    congr 1 <;> omega
  have HSZ : Hid (x.key.size ≤ 1048576 ∧ x.val.size ≤ 1048576 ∧ x.old.size ≤ 1048576) := by rw [hx]; exact ⟨by show s3.size ≤ _; omega, by show s4.size ≤ _; omega, by show s5.size ≤ _; omega⟩
  have HTX : Hid (∀ W, Calls Try.prog 11 #[.agg #[.int .i64 op, .int .i64 (n1 : Int), .int .i64 (n2 : Int), .string s3, .string s4, .string s5]] W fun en w' => en = .returned (textV x) ∧ Below W.heap.size W w') := fun W => by
    have := specTxt_is x HSZ.out W
    unfold cmdV at this
    rw [hx] at this ⊢
    exact this
  go_wp2_with (first | (refine wpList_loadA Try.isAgg26 Try.sizeOf26 rfl _ rfl xb #[.int .i64 op, .int .i64 (n1 : Int), .int .i64 (n2 : Int), .string s3, .string s4, .string s5] 26 rfl HX.out.x rfl ?_) | fail)
  clear q5 qf5 HY
  refine Calls.mono (HTX.out _) ?_
  rintro en w7 ⟨rfl, hb7⟩
  have hx7 := HX.out.below hb7
  rw [HCX.out] at hx7
  have HX7 : Hid (XS w xb t (cmdC x) a5 b5 w7) := hx7
  have c2 := hx7.c.c2
  have HONE : Hid (∀ v ∈ (cmdC x).toList, v.oneCell' = true) := cmd_one x
  clear hx7 hb7 HX HTX HCX HQ1 HQ2 HQ3 HQ4 HQ5 HU1 HOP hx
  unfold textV
  cases hok : okC x with
  | false =>
    rw [if_neg (by simp)]
    have HN : Hid (∀ u : CmdL, ¬ Got t u) := fun u hu => by
      have e := (HU.out u hu).1
      subst e
      rw [hu.2] at hok
      cases hok
    cases b5 with
    | true =>
      go_wp2_with (first | (refine wpList_storeA Try.sizeOf26 rfl _ _ rfl w.heap.size zeroC zeroC 26 rfl rfl HX7.out.z rfl rfl zero_one ?_) | fail)
      exact bodyPost_ret (result13 HX7.out.z rfl rfl rfl) rfl ⟨below_row HX7.out.b (Nat.le_refl _) _, Or.inr ⟨HN.out, rfl⟩⟩
    | false =>
      go_wp2_with (first | (refine wpList_storeA Try.sizeOf26 rfl _ _ rfl w.heap.size zeroC zeroC 26 rfl rfl HX7.out.z rfl rfl zero_one ?_) | fail)
      exact bodyPost_ret (result13 HX7.out.z rfl rfl rfl) rfl ⟨below_row HX7.out.b (Nat.le_refl _) _, Or.inr ⟨HN.out, rfl⟩⟩
  | true =>
    rw [if_pos rfl]
    cases b5 with
    | true =>
      have HN : Hid (∀ u : CmdL, ¬ Got t u) := fun u hu => by
        have e := (HU.out u hu).2
        cases e
      go_wp2_with (first | (refine wpList_storeA Try.sizeOf26 rfl _ _ rfl w.heap.size zeroC zeroC 26 rfl rfl HX7.out.z rfl rfl zero_one ?_) | fail)
      exact bodyPost_ret (result13 HX7.out.z rfl rfl rfl) rfl ⟨below_row HX7.out.b (Nat.le_refl _) _, Or.inr ⟨HN.out, rfl⟩⟩
    | false =>
      cases hst : ((Cmds.textS x).toList == t.toList) with
      | false =>
        have hst2 : ((Cmds.textS x).toList != t.toList) = true := by unfold bne; rw [hst]; rfl
        have HN : Hid (∀ u : CmdL, ¬ Got t u) := fun u hu => by
          have e := (HU.out u hu).1
          subst e
          have : Cmds.textS x = t := Batches.by_inj hu.1.symm
          rw [(same_list _ _).2 this] at hst
          cases hst
        go_wp2_with (first | (refine wpList_storeA Try.sizeOf26 rfl _ _ rfl w.heap.size zeroC zeroC 26 rfl rfl HX7.out.z rfl rfl zero_one ?_) | fail)
        exact bodyPost_ret (result13 HX7.out.z rfl rfl rfl) rfl ⟨below_row HX7.out.b (Nat.le_refl _) _, Or.inr ⟨HN.out, rfl⟩⟩
      | true =>
        have hst2 : ((Cmds.textS x).toList != t.toList) = false := by unfold bne; rw [hst]; rfl
        have HG : Hid (Got t x) := ⟨by rw [← (same_list _ _).1 hst]; rfl, hok⟩
        go_wp2_with (first | (refine wpList_loadA Try.isAgg26 Try.sizeOf26 rfl _ rfl xb (cmdC x) 26 rfl HX7.out.x rfl ?_) | (refine wpList_storeA Try.sizeOf26 rfl _ _ rfl w.heap.size (cmdC x) zeroC 26 rfl rfl HX7.out.z rfl rfl HONE.out ?_) | fail)
        exact bodyPost_ret (result13 HX7.out.z rfl rfl rfl) rfl ⟨below_row HX7.out.b (Nat.le_refl _) _, Or.inl ⟨x, HG.out, rfl⟩⟩
end Go.Proofs.Ytlmjhobijgmolaa
