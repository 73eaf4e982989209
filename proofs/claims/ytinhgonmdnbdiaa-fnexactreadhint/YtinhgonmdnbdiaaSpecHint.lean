/- The call of the specification's ReadHint, walked. -/
import Derived.Test.YtinhgonmdnbdiaaSpecCur
import Derived.Test.YtinhgonmdnbdiaaHintLaw
import Derived.Test.YtinhgonmdnbdiaaImplHint
import Derived.Deep.Cut
import Derived.Deep.CutBlock
namespace Go.Proofs.Ytinhgonmdnbdiaa
open Go.RowKit
set_option linter.unusedVariables false

theorem l05Var_both {cb : Nat} {t : ByteArray} {a : Nat} (hs : t.size ≤ 1048576) (w : World) (bad : Bool) (hc : C5 w cb t a bad) :
    Calls Try.prog 47 #[.pointer (some ⟨cb, 0, none⟩)] w fun e w' => ∃ (n a' : Nat) (bad' : Bool), e = .returned (.int .i64 (n : Int)) ∧ n ≤ 1000000000 ∧ C5 w' cb t a' bad' ∧ w.grownBy w' (some cb) ∧ (bad = false → ∀ m b, Words.rd t.data.toList a = some (m, b) → n = m ∧ a' = b ∧ bad' = false) := by
  have any : (bad = true ∨ Words.rd t.data.toList a = none) → Calls Try.prog 47 #[.pointer (some ⟨cb, 0, none⟩)] w fun e w' => ∃ (n a' : Nat) (bad' : Bool), e = .returned (.int .i64 (n : Int)) ∧ n ≤ 1000000000 ∧ C5 w' cb t a' bad' ∧ w.grownBy w' (some cb) ∧ (bad = false → ∀ m b, Words.rd t.data.toList a = some (m, b) → n = m ∧ a' = b ∧ bad' = false) := fun hh =>
    (l05Var_any hs w bad hc).mono fun e w' ⟨n, h1, h2, a', bad', h3, _, _, h4⟩ => ⟨n, a', bad', h1, h2, h3, h4, fun hb m b hr => by
      rcases hh with h | h
      · rw [h] at hb; cases hb
      · rw [h] at hr; cases hr⟩
  cases bad with
  | true => exact any (Or.inl rfl)
  | false =>
    cases h : Words.rd t.data.toList a with
    | none => rw [h] at any; exact any (Or.inr rfl)
    | some p =>
      obtain ⟨n, b⟩ := p
      exact (l05Var_ok hs w hc h).mono fun e w' ⟨h1, h2, h3⟩ => ⟨n, b, false, h1, (Batches.rd_cut h).2.2.2, h2, h3, fun _ m b' hr => by
        simp only [Option.some.injEq, Prod.mk.injEq] at hr
        exact ⟨hr.1, hr.2, rfl⟩⟩
theorem short5_both {cb : Nat} {t : ByteArray} {a : Nat} (hs : t.size ≤ 1048576) (w : World) (bad : Bool) (hc : C5 w cb t a bad) :
    Calls Try.prog 48 #[.pointer (some ⟨cb, 0, none⟩)] w fun e w' => ∃ (x : ByteArray) (a' : Nat) (bad' : Bool), e = .returned (.string x) ∧ x.size ≤ t.size ∧ C5 w' cb t a' bad' ∧ w.grownBy w' (some cb) ∧ (bad = false → ∀ y b, Batches.rdShort t a = some (y, b) → x = y ∧ a' = b ∧ bad' = false) := by
  have any : (bad = true ∨ Batches.rdShort t a = none) → Calls Try.prog 48 #[.pointer (some ⟨cb, 0, none⟩)] w fun e w' => ∃ (x : ByteArray) (a' : Nat) (bad' : Bool), e = .returned (.string x) ∧ x.size ≤ t.size ∧ C5 w' cb t a' bad' ∧ w.grownBy w' (some cb) ∧ (bad = false → ∀ y b, Batches.rdShort t a = some (y, b) → x = y ∧ a' = b ∧ bad' = false) := fun hh =>
    (short5_any hs w bad hc).mono fun e w' ⟨n, h1, h2, a', bad', h3, _, _, h4⟩ => ⟨n, a', bad', h1, h2, h3, h4, fun hb m b hr => by
      rcases hh with h | h
      · rw [h] at hb; cases hb
      · rw [h] at hr; cases hr⟩
  cases bad with
  | true => exact any (Or.inl rfl)
  | false =>
    cases h : Batches.rdShort t a with
    | none => rw [h] at any; exact any (Or.inr rfl)
    | some p =>
      obtain ⟨n, b⟩ := p
      have hc1 := Batches.rdShort_cut h
      exact (short5_ok hs w hc h).mono fun e w' ⟨h1, h2, h3⟩ => ⟨n, b, false, h1, by
        have := congrArg List.length hc1.2.2.1
        simp only [Batches.cut, Batches.short, List.length_append, List.length_take, List.length_drop, Words.size_list] at this
        omega, h2, h3, fun _ m b' hr => by
        simp only [Option.some.injEq, Prod.mk.injEq] at hr
        exact ⟨hr.1, hr.2, rfl⟩⟩
/-- What ReadHint holds: the cursor, the spots read so far. -/
structure S8 (w : World) (cb : Nat) (u : ByteArray) (a : Nat) (bad : Bool) (v : Value) (pre : List SpotL) (W : World) : Prop where
  cur : C5 W cb u a bad
  own : W.ownsRow w.heap.size 56 4 v pre.length (cellsSpot pre)
  bel : Below w.heap.size w W
  up : w.heap.size ≤ cb
section
variable {w W W' : World} {cb a a' : Nat} {u : ByteArray} {bad bad' : Bool} {v : Value} {pre : List SpotL}
theorem S8.call (h : S8 w cb u a bad v pre W) (hc : C5 W' cb u a' bad') (hg : W.grownBy W' (some cb)) : S8 w cb u a' bad' v pre W' :=
  ⟨hc, h.own.kept hg (Or.inr (own_not h.own h.cur.1 (by decide))), h.bel.grown hg h.bel.size (fun k e => by cases e; exact h.up), h.up⟩
theorem S8.same (h : S8 w cb u a bad v pre W) (hb : Below W.heap.size W W') : S8 w cb u a bad v pre W' := h.call (h.cur.below hb) (own_below' hb)
theorem S8.alloc (h : S8 w cb u a bad v pre W) (o : Obj) : S8 w cb u a bad v pre (W.alloc o) := h.same ((Below.refl _ _).alloc (Nat.le_refl _) _)
theorem S8.far (h : S8 w cb u a bad v pre W) {q : Nat} (h1 : cb < q) (h2 : ∀ g, v.ownBlock = some g → g < q) (j : Nat) (x : Value) : S8 w cb u a bad v pre (W.setCell ⟨q, j, none⟩ x) :=
  ⟨h.cur.far (by omega) _ _, own_set h.own _ _ _ (fun e => by have := h2 q e; omega), h.bel.setCell (by have := h.up; simp; omega) _, h.up⟩
theorem S8.app (h : S8 w cb u a bad v pre W) {v' : Value} {c : SpotL} (hg : W.grownBy W' v.ownBlock) (hown : W'.ownsRow w.heap.size 56 4 v' (pre.length + 1) (cellsSpot pre ++ [.string c.key, .int .i64 c.seg, .int .i64 c.pos, .int .i64 c.size])) : S8 w cb u a bad v' (pre ++ [c]) W' :=
  ⟨⟨(hg.block cb h.cur.lt (fun e => own_not h.own h.cur.1 (by decide) e.symm)).trans h.cur.1, h.cur.2⟩, ownSpot_snoc hown, h.bel.grown hg h.bel.size (fun k e => (h.own.lt k e).1), h.up⟩
end
/-- What ReadHint is to answer. -/
def ResH (t : ByteArray) (l : List SpotL) (R : Bool) : Prop := (Dirs.Got t l ∧ R = true) ∨ ((∀ m, ¬ Dirs.Got t m) ∧ l = [] ∧ R = false)
theorem resH_ex (t : ByteArray) : ∃ l R, ResH t l R := by
  by_cases h : ∃ m, Dirs.Got t m
  · obtain ⟨m, h⟩ := h
    exact ⟨m, true, Or.inl ⟨h, rfl⟩⟩
  · exact ⟨[], false, Or.inr ⟨fun m hg => h ⟨m, hg⟩, rfl, rfl⟩⟩
theorem ResH.len {t : ByteArray} {l : List SpotL} {R : Bool} (h : ResH t l R) : l.length ≤ 60 := by
  rcases h with ⟨h, _⟩ | ⟨_, rfl, _⟩
  · exact h.2.1
  · simp
def HintPost (w : World) (l : List SpotL) (R : Bool) (en : Ending) (w' : World) : Prop := ∃ v, en = .returned (.tuple #[v, .bool R]) ∧ w'.ownsRow w.heap.size 56 4 v l.length (cellsSpot l) ∧ Below w.heap.size w w'
/-- The reading follows what stands in the text: as long as it is what is looked for, it is read. -/
def Follow (t u : ByteArray) (l : List SpotL) (n k a : Nat) (bad : Bool) (pre : List SpotL) : Prop :=
  Dirs.Got t l → bad = false ∧ n = l.length ∧ ∃ rest, pre ++ rest = l ∧ Dirs.rdMany u (n - k) a = some (rest, u.size)
theorem follow_step {t u : ByteArray} {l pre : List SpotL} {n k a a4 : Nat} {bad bad4 : Bool} {c : SpotL} (hk : k < n) (h : Follow t u l n k a bad pre) (hstep : bad = false → ∀ c' b, Dirs.rdSpot u a = some (c', b) → c = c' ∧ a4 = b ∧ bad4 = false) : Follow t u l n (k + 1) a4 bad4 (pre ++ [c]) := by
  intro hg
  obtain ⟨h1, h2, rest, h3, h4⟩ := h hg
  obtain ⟨c', b, r, q1, q2, q3⟩ := Dirs.rdMany_next (m := n - k - 1) (by rw [show n - k - 1 + 1 = n - k by omega]; exact h4)
  obtain ⟨e1, e2, e3⟩ := hstep h1 c' b q1
  refine ⟨e3, h2, r, by rw [← h3, q3, e1]; simp, ?_⟩
  rw [show n - (k + 1) = n - k - 1 by omega, e2]; exact q2
theorem follow_end {t u : ByteArray} {l pre : List SpotL} {n k a : Nat} {bad : Bool} (h : Follow t u l n k a bad pre) (hend : ¬ (k < n ∧ bad = false ∧ k ≤ 60)) : Dirs.Got t l → pre = l ∧ bad = false := by
  intro hg
  obtain ⟨h1, h2, rest, h3, h4⟩ := h hg
  have hl := hg.2.1
  have hk : n - k = 0 := by
    by_cases q : k < n
    · exact absurd ⟨q, h1, by omega⟩ hend
    · omega
  rw [hk, Dirs.rdMany] at h4
  simp only [Option.some.injEq, Prod.mk.injEq] at h4
  rw [← h4.1, List.append_nil] at h3
  exact ⟨h3, h1⟩
theorem step_of {u : ByteArray} {a a1 a2 a3 a4 g p z : Nat} {A : ByteArray} {bad b1 b2 b3 b4 : Bool} (h1 : bad = false → ∀ y b, Batches.rdShort u a = some (y, b) → A = y ∧ a1 = b ∧ b1 = false)
    (h2 : b1 = false → ∀ m b, Words.rd u.data.toList a1 = some (m, b) → g = m ∧ a2 = b ∧ b2 = false) (h3 : b2 = false → ∀ m b, Words.rd u.data.toList a2 = some (m, b) → p = m ∧ a3 = b ∧ b3 = false)
    (h4 : b3 = false → ∀ m b, Words.rd u.data.toList a3 = some (m, b) → z = m ∧ a4 = b ∧ b4 = false) : bad = false → ∀ c' b, Dirs.rdSpot u a = some (c', b) → (⟨A, g, p, z⟩ : SpotL) = c' ∧ a4 = b ∧ b4 = false := by
  intro hb c' b hr
  obtain ⟨x1, x2, x3, g', p', z', r1, r2, r3, r4, e1, e2, e3⟩ := Dirs.rdSpot_parts hr
  obtain ⟨rfl, rfl, f1⟩ := h1 hb _ _ r1
  obtain ⟨rfl, rfl, f2⟩ := h2 f1 _ _ r2
  obtain ⟨rfl, rfl, f3⟩ := h3 f2 _ _ r3
  obtain ⟨rfl, rfl, f4⟩ := h4 f3 _ _ r4
  obtain ⟨k, s, q, y⟩ := c'
  simp only at e1 e2 e3
  subst e1 e2 e3
  exact ⟨rfl, rfl, f4⟩
set_option maxHeartbeats 8000000 in
set_option maxRecDepth 100000 in
theorem specRH_is {t u : ByteArray} {b0 : Bool} (hs : t.size ≤ 1048576) (hu : u.size ≤ 1048576) (w : World) (hun : ∀ w : World, Calls Try.prog 46 #[.string t] w fun e w' => e = .returned (.tuple #[.string u, .bool (!b0)]) ∧ Below w.heap.size w w')
    {l : List SpotL} {R : Bool} (hR : ResH t l R) (hgot : Dirs.Got t l → b0 = false ∧ ∃ a0, Dirs.Gets u l a0 u.size) :
    Calls Try.prog 24 #[.string t] w (HintPost w l R) := by
  have HR : Hid (ResH t l R) := hR
  have HGT : Hid (Dirs.Got t l → b0 = false ∧ ∃ a0, Dirs.Gets u l a0 u.size) := hgot
  have HUN : Hid (∀ w : World, _) := hun
  have hl := hR.len
  clear hun hR hgot
  go_enter Try.func24, Try.ntmps24
  go_wp2_with fail
  refine Calls.mono (HUN.out _) ?_
  rintro en w1 ⟨rfl, hb1⟩
  have HC0 : Hid (C5 (w1.alloc (.cells #[.string u, .int .i64 0, .bool b0] 73)) w1.heap.size u 0 b0) := ⟨heap_alloc_new w1 _, Nat.zero_le _⟩
  have HB0 : Hid (Below w.heap.size w (w1.alloc (.cells #[.string u, .int .i64 0, .bool b0] 73))) := hb1.alloc hb1.size _
  have hz1 := hb1.size
  go_wp2_with fail
  obtain ⟨W, hW⟩ : ∃ W, W = w1.alloc (.cells #[.string u, .int .i64 0, .bool b0] 73) := ⟨_, rfl⟩
  rw [← hW] at HC0 HB0 ⊢
  obtain ⟨cb, hcb⟩ : ∃ cb, cb = w1.heap.size := ⟨_, rfl⟩
  rw [← hcb] at HC0 hz1 ⊢
  clear hW hcb hb1
  refine (l05Var_both hu W b0 HC0.out).mono ?_
  rintro en w2 ⟨n, a0, bad0, rfl, hn, hc2, hg2, hf2⟩
  have HS0 : Hid (S8 w cb u a0 bad0 (.slice none 0 0) [] w2) := ⟨hc2, World.ownsRow_nil _ _ _ _, HB0.out.grown hg2 HB0.out.size (fun k e => by cases e; exact hz1), hz1⟩
  have HF0 : Hid (Follow t u l n 0 a0 bad0 []) := by
    intro hg
    obtain ⟨q1, a, q2⟩ := HGT.out hg
    obtain ⟨e1, e2, e3⟩ := hf2 q1 _ _ q2.2.1
    subst e1 e2
    exact ⟨e3, rfl, l, rfl, q2.2.2⟩
  clear hc2 hg2 hf2 HC0 HB0
  have HS1 : Hid (S8 w cb u a0 bad0 (.slice (some ⟨w2.heap.size, 0, none⟩) 0 0) [] (w2.alloc (.cells #[] 56))) := ⟨HS0.out.cur.below ((Below.refl _ _).alloc (Nat.le_refl _) _), World.ownsRow_made w2 #[] 0 HS0.out.bel.size (by unfold maxLen; omega) rfl, HS0.out.bel.alloc HS0.out.bel.size _, HS0.out.up⟩
  clear HS0
  go_upto_block 0 with fail
  go_cut [8] (fun v wx => ∃ (a : Nat) (bad : Bool) (pre : List SpotL), pre.length ≤ 61 ∧ (∀ c ∈ pre, smallSpot 2097152 c) ∧ (Dirs.Got t l → pre = l ∧ bad = false) ∧ S8 w cb u a bad v pre wx)
  case first => as_aux_lemma =>
    go_wp2_with fail
    go_loopw [8, 9] (fun v i wr => ∃ (k a : Nat) (bad : Bool) (pre : List SpotL), k ≤ 61 ∧ i = .int .i64 (k : Int) ∧ pre.length = k ∧ (∀ c ∈ pre, smallSpot 2097152 c) ∧ Follow t u l n k a bad pre ∧ S8 w cb u a bad v pre wr)
      (fun _ i _ => 61 - (intOf i).toNat)
    case atStart => exact ⟨0, a0, bad0, [], by omega, rfl, rfl, fun c hc => (List.not_mem_nil hc).elim, HF0.out, HS1.out⟩
    case round =>
      obtain ⟨k, a, bad, pre, hk, rfl, hpl0, hsm, hfo, hst⟩ := hrel
      have HS : Hid (S8 w cb u a bad u8 pre wr) := hst
      have HPL : Hid (pre.length = k) := hpl0
      have HSM : Hid (∀ c ∈ pre, smallSpot 2097152 c) := hsm
      have HF : Hid (Follow t u l n k a bad pre) := hfo
      have bad2 := HS.out.cur.c2
      have hend : ¬ (k < n ∧ bad = false ∧ k ≤ 60) → ∃ (a : Nat) (bad : Bool) (pre : List SpotL), pre.length ≤ 61 ∧ (∀ c ∈ pre, smallSpot 2097152 c) ∧ (Dirs.Got t l → pre = l ∧ bad = false) ∧ S8 w cb u a bad u8 pre wr :=
        fun hno => ⟨a, bad, pre, by rw [HPL.out]; exact hk, HSM.out, follow_end HF.out hno, HS.out⟩
      have HEND : Hid (¬ (k < n ∧ bad = false ∧ k ≤ 60) → ∃ (a : Nat) (bad : Bool) (pre : List SpotL), pre.length ≤ 61 ∧ (∀ c ∈ pre, smallSpot 2097152 c) ∧ (Dirs.Got t l → pre = l ∧ bad = false) ∧ S8 w cb u a bad u8 pre wr) := hend
      clear hst hpl0 hsm hfo hend
      by_cases h1 : k < n
      · have hk1 : (k : Int) < (n : Int) := by omega
        cases bad with
        | true =>
          have HE : Hid (∃ (a : Nat) (bad : Bool) (pre : List SpotL), pre.length ≤ 61 ∧ (∀ c ∈ pre, smallSpot 2097152 c) ∧ (Dirs.Got t l → pre = l ∧ bad = false) ∧ S8 w cb u a bad u8 pre wr) := HEND.out (fun h => by cases h.2.1)
          clear HEND
          go_wp2_with fail
          go_meet
          case rel => exact HE.out
        | false =>
          by_cases h3 : k ≤ 60
          · have hk8 : (k : Int) ≤ 60 := by omega
            obtain ⟨va, vc, hva⟩ := own_slice HS.out.own
            subst hva
            obtain ⟨q, hq⟩ : ∃ q, q = wr.heap.size := ⟨_, rfl⟩
            have hcq : cb < q := by rw [hq]; exact HS.out.cur.lt
            have hnew : ∀ g, (Value.slice va pre.length vc).ownBlock = some g → g < q := fun g e => by rw [hq]; exact (HS.out.own.lt g e).2
            obtain ⟨W3, hW3⟩ : ∃ W3, W3 = wr.alloc (Obj.cells #[Value.string ⟨#[]⟩, Value.int .i64 0, Value.int .i64 0, Value.int .i64 0] 56) := ⟨_, rfl⟩
            have HS3 : Hid (S8 w cb u a false (.slice va pre.length vc) pre W3) := by rw [hW3]; exact HS.out.alloc _
            have HX3 : Hid (W3.heap[q]? = some (.cells #[Value.string ⟨#[]⟩, Value.int .i64 0, Value.int .i64 0, Value.int .i64 0] 56 (0, 0))) := by rw [hW3, hq]; exact heap_alloc_new wr _
            clear HEND HS
            go_wp2_with fail
            rw [← hW3, ← hq]
            clear hW3 hq
            refine (short5_both hu _ false HS3.out.cur).mono ?_
            rintro en w4 ⟨A, a1, b1, rfl, hx4, hc4, hg4, hf4⟩
            have hs4 := HS3.out.call hc4 hg4
            have hX4 := grown_keep HX3.out hg4 (by omega)
            have HFO1 : Hid (_ → _) := hf4
            have HS4 : Hid (S8 w cb u a1 b1 (.slice va pre.length vc) pre (w4.setCell ⟨q, 0, none⟩ (.string A))) := hs4.far hcq hnew _ _
            have hY4 : (w4.setCell ⟨q, 0, none⟩ (.string A)).heap[q]? = some (.cells #[Value.string A, Value.int .i64 0, Value.int .i64 0, Value.int .i64 0] 56 (0, 0)) := by
              have := heap_setCell_same w4 q 0 _ 56 (.string A) hX4
              simpa using this
            have x4 := cell_of_row _ _ 0 _ _ _ hX4
            have xf4 := frozen_of_row _ _ 0 _ _ hX4
            simp at x4
            have HX4 : Hid ((w4.setCell ⟨q, 0, none⟩ (.string A)).heap[q]? = some (.cells #[Value.string A, Value.int .i64 0, Value.int .i64 0, Value.int .i64 0] 56 (0, 0))) := hY4
            clear hc4 hg4 hf4 hs4 hX4 hY4 HS3 HX3
            go_wp2_with fail
            obtain ⟨W4, hW4⟩ : ∃ W4, W4 = w4.setCell ⟨q, 0, none⟩ (.string A) := ⟨_, rfl⟩
            rw [← hW4] at HS4 HX4 ⊢
            clear hW4 x4 xf4
            refine (l05Var_both hu _ b1 HS4.out.cur).mono ?_
            rintro en w5 ⟨g, a2, b2, rfl, hx5, hc5, hg5, hf5⟩
            have hs5 := HS4.out.call hc5 hg5
            have hX5 := grown_keep HX4.out hg5 (by omega)
            have HFO2 : Hid (_ → _) := hf5
            have HS5 : Hid (S8 w cb u a2 b2 (.slice va pre.length vc) pre (w5.setCell ⟨q, 1, none⟩ (.int .i64 (g : Int)))) := hs5.far hcq hnew _ _
            have hY5 : (w5.setCell ⟨q, 1, none⟩ (.int .i64 (g : Int))).heap[q]? = some (.cells #[Value.string A, Value.int .i64 (g : Int), Value.int .i64 0, Value.int .i64 0] 56 (0, 0)) := by
              have := heap_setCell_same w5 q 1 _ 56 (.int .i64 (g : Int)) hX5
              simpa using this
            have x5 := cell_of_row _ _ 1 _ _ _ hX5
            have xf5 := frozen_of_row _ _ 1 _ _ hX5
            simp at x5
            have HX5 : Hid ((w5.setCell ⟨q, 1, none⟩ (.int .i64 (g : Int))).heap[q]? = some (.cells #[Value.string A, Value.int .i64 (g : Int), Value.int .i64 0, Value.int .i64 0] 56 (0, 0))) := hY5
            clear hc5 hg5 hf5 hs5 hX5 hY5 HS4 HX4
            go_wp2_with fail
            obtain ⟨W5, hW5⟩ : ∃ W5, W5 = w5.setCell ⟨q, 1, none⟩ (.int .i64 (g : Int)) := ⟨_, rfl⟩
            rw [← hW5] at HS5 HX5 ⊢
            clear hW5 x5 xf5
            refine (l05Var_both hu _ b2 HS5.out.cur).mono ?_
            rintro en w6 ⟨p, a3, b3, rfl, hx6, hc6, hg6, hf6⟩
            have hs6 := HS5.out.call hc6 hg6
            have hX6 := grown_keep HX5.out hg6 (by omega)
            have HFO3 : Hid (_ → _) := hf6
            have HS6 : Hid (S8 w cb u a3 b3 (.slice va pre.length vc) pre (w6.setCell ⟨q, 2, none⟩ (.int .i64 (p : Int)))) := hs6.far hcq hnew _ _
            have hY6 : (w6.setCell ⟨q, 2, none⟩ (.int .i64 (p : Int))).heap[q]? = some (.cells #[Value.string A, Value.int .i64 (g : Int), Value.int .i64 (p : Int), Value.int .i64 0] 56 (0, 0)) := by
              have := heap_setCell_same w6 q 2 _ 56 (.int .i64 (p : Int)) hX6
              simpa using this
            have x6 := cell_of_row _ _ 2 _ _ _ hX6
            have xf6 := frozen_of_row _ _ 2 _ _ hX6
            simp at x6
            have HX6 : Hid ((w6.setCell ⟨q, 2, none⟩ (.int .i64 (p : Int))).heap[q]? = some (.cells #[Value.string A, Value.int .i64 (g : Int), Value.int .i64 (p : Int), Value.int .i64 0] 56 (0, 0))) := hY6
            clear hc6 hg6 hf6 hs6 hX6 hY6 HS5 HX5
            go_wp2_with fail
            obtain ⟨W6, hW6⟩ : ∃ W6, W6 = w6.setCell ⟨q, 2, none⟩ (.int .i64 (p : Int)) := ⟨_, rfl⟩
            rw [← hW6] at HS6 HX6 ⊢
            clear hW6 x6 xf6
            refine (l05Var_both hu _ b3 HS6.out.cur).mono ?_
            rintro en w7 ⟨z, a4, b4, rfl, hx7, hc7, hg7, hf7⟩
            have hs7 := HS6.out.call hc7 hg7
            have hX7 := grown_keep HX6.out hg7 (by omega)
            have HFO4 : Hid (_ → _) := hf7
            have HS7 : Hid (S8 w cb u a4 b4 (.slice va pre.length vc) pre (w7.setCell ⟨q, 3, none⟩ (.int .i64 (z : Int)))) := hs7.far hcq hnew _ _
            have hY7 : (w7.setCell ⟨q, 3, none⟩ (.int .i64 (z : Int))).heap[q]? = some (.cells #[Value.string A, Value.int .i64 (g : Int), Value.int .i64 (p : Int), Value.int .i64 (z : Int)] 56 (0, 0)) := by
              have := heap_setCell_same w7 q 3 _ 56 (.int .i64 (z : Int)) hX7
              simpa using this
            have x7 := cell_of_row _ _ 3 _ _ _ hX7
            have xf7 := frozen_of_row _ _ 3 _ _ hX7
            simp at x7
            have y0 := cell_of_row _ _ 0 _ _ _ hY7
            have y1 := cell_of_row _ _ 1 _ _ _ hY7
            have y2 := cell_of_row _ _ 2 _ _ _ hY7
            have y3 := cell_of_row _ _ 3 _ _ _ hY7
            simp at y0 y1 y2 y3
            have HFN : Hid (Follow t u l n (k + 1) a4 b4 (pre ++ [⟨A, g, p, z⟩])) := follow_step h1 HF.out (step_of (fun _ => HFO1.out trivial) HFO2.out HFO3.out HFO4.out)
            have HSN : Hid (∀ c ∈ pre ++ [(⟨A, g, p, z⟩ : SpotL)], smallSpot 2097152 c) := fun c hc => by
              rcases List.mem_append.1 hc with hc | hc
              · exact HSM.out c hc
              · rw [List.mem_singleton.1 hc]; show A.size ≤ _; omega
            have hpl : pre.length ≤ 60 := by have := HPL.out; omega
            have hown := (HS7.out.alloc (Obj.cells #[Value.string A, Value.int .i64 (g : Int), Value.int .i64 (p : Int), Value.int .i64 (z : Int)] 56)).own
            have hbz := (HS7.out.alloc (Obj.cells #[Value.string A, Value.int .i64 (g : Int), Value.int .i64 (p : Int), Value.int .i64 (z : Int)] 56)).bel.size
            have hA7 := spotAt_new (w7.setCell ⟨q, 3, none⟩ (.int .i64 (z : Int))) ⟨A, g, p, z⟩
            have hsz7 : (w7.setCell ⟨q, 3, none⟩ (.int .i64 (z : Int))).heap.size = w7.heap.size := by simp [World.setCell]
            rw [hsz7] at hA7
            clear hc7 hg7 hf7 hs7 hX7 hY7 HS6 HX6 HFO1 HFO2 HFO3 HFO4 HF HSM
            go_wp2_with (at_builtin; refine wpList_appendSpot rfl _ _ rfl w.heap.size _ _ _ rfl hown (some ⟨w7.heap.size, 0, none⟩) w7.heap.size 0 1 [⟨A, g, p, z⟩] rfl hA7 (by simp) (by simp; omega) hbz ?_)
            intro v' w8 hown8 hgrow
            have HS9 : Hid (S8 w cb u a4 b4 v' (pre ++ [⟨A, g, p, z⟩]) w8) := (HS7.out.alloc _).app hgrow hown8
            clear hown8 hgrow hown hA7 hbz hsz7 x7 xf7 y0 y1 y2 y3 HS7
            go_wp2
            go_roundw
            case rel => exact ⟨k + 1, a4, b4, pre ++ [⟨A, g, p, z⟩], by omega, by go_num, by have := HPL.out; simp; omega, HSN.out, HFN.out, HS9.out⟩
            case measure => simp [intOf]; omega
          · have HE : Hid (∃ (a : Nat) (bad : Bool) (pre : List SpotL), pre.length ≤ 61 ∧ (∀ c ∈ pre, smallSpot 2097152 c) ∧ (Dirs.Got t l → pre = l ∧ bad = false) ∧ S8 w cb u a bad u8 pre wr) := HEND.out (fun h => h3 h.2.2)
            have hk8 : ¬ (k : Int) ≤ 60 := by omega
            clear HEND
            go_wp2_with fail
            go_meet
            case rel => exact HE.out
      · have hk1 : ¬ (k : Int) < (n : Int) := by omega
        have HE : Hid (∃ (a : Nat) (bad : Bool) (pre : List SpotL), pre.length ≤ 61 ∧ (∀ c ∈ pre, smallSpot 2097152 c) ∧ (Dirs.Got t l → pre = l ∧ bad = false) ∧ S8 w cb u a bad u8 pre wr) := HEND.out (fun h => h1 h.1)
        clear HEND
        go_wp2_with fail
        go_meet
        case rel => exact HE.out
  case rest =>
    obtain ⟨a, bad, pre, hpl, hsm, hgo, hst⟩ := hcut
    have HS : Hid (S8 w cb u a bad u8 pre wc) := hst
    have HGO : Hid (Dirs.Got t l → pre = l ∧ bad = false) := hgo
    have HSM : Hid (∀ c ∈ pre, smallSpot 2097152 c) := hsm
    obtain ⟨va, gg, vc, hva, hat⟩ := cellsSpot_slice HS.out.own
    subst hva
    have HA : Hid (SpotAt wc va gg 0 pre) := hat
    obtain ⟨T, R', hT⟩ := hint_ex pre
    have HT : Hid (HintR pre T R') := hT
    clear hst hgo hsm hat hT HF0 HS1
    obtain ⟨W2, hW2⟩ : ∃ W2, W2 = wc := ⟨_, rfl⟩
    rw [← hW2] at HS HA
    go_wp2_with fail
    rw [← hW2]
    clear hW2
    refine (specHint_any HT.out pre rfl (by omega) W2 HA.out HSM.out).mono ?_
    rintro en w3 ⟨rfl, hb3⟩
    have HS3 : Hid (S8 w cb u a bad (.slice va pre.length vc) pre w3) := HS.out.same hb3
    have c2 := HS3.out.cur.c2
    clear hb3 HS HA
    have noG : ¬ (bad = false ∧ R' = true ∧ T = t) → l = [] ∧ R = false := fun hno => by
      rcases HR.out with ⟨hg, _⟩ | ⟨_, h2, h3⟩
      · obtain ⟨e1, e2⟩ := HGO.out hg
        refine absurd ⟨e2, ?_⟩ hno
        rcases HT.out with ⟨_, q2, q3⟩ | ⟨q1, _, _⟩
        · refine ⟨q3, ?_⟩
          rw [q2, e1]
          exact Batches.by_inj (by rw [hg.1]; simp [sealedH])
        · exact absurd (by rw [e1]; exact hg.2) q1
      · exact ⟨h2, h3⟩
    have yesG : bad = false → R' = true → T = t → pre = l ∧ R = true := fun _ q1 q2 => by
      have hg : Dirs.Got t pre := by
        rcases HT.out with ⟨p1, p2, _⟩ | ⟨_, _, p3⟩
        · refine ⟨?_, p1⟩
          rw [← q2, p2]
          simp [sealedH]
        · rw [q1] at p3; cases p3
      rcases HR.out with ⟨hl', h2⟩ | ⟨h1, _, _⟩
      · exact ⟨(HGO.out hl').1, h2⟩
      · exact absurd hg (h1 _)
    have NOG : Hid (¬ (bad = false ∧ R' = true ∧ T = t) → l = [] ∧ R = false) := noG
    have YESG : Hid (bad = false → R' = true → T = t → pre = l ∧ R = true) := yesG
    clear noG yesG HT HGO HR HGT
    have fin : ∀ (_ : l = [] ∧ R = false) (w9 : World), w9 = w3.alloc (.cells #[] 56) → HintPost w l R (.returned (.tuple #[.slice (some ⟨w3.heap.size, 0, none⟩) 0 0, .bool false])) w9 := fun hh w9 h9 => by
      rw [h9, hh.1, hh.2]
      exact ⟨_, rfl, World.ownsRow_made w3 #[] 0 HS3.out.bel.size (by unfold maxLen; omega) rfl, HS3.out.bel.alloc HS3.out.bel.size _⟩
    have FIN : Hid (∀ (_ : l = [] ∧ R = false) (w9 : World), w9 = w3.alloc (.cells #[] 56) → HintPost w l R (.returned (.tuple #[.slice (some ⟨w3.heap.size, 0, none⟩) 0 0, .bool false])) w9) := fin
    clear fin
    cases bad with
    | true =>
      go_wp2
      go_ret2
      exact FIN.out (NOG.out (fun h => by cases h.1)) _ rfl
    | false =>
      cases R' with
      | false =>
        go_wp2
        go_ret2
        exact FIN.out (NOG.out (fun h => by cases h.2.1)) _ rfl
      | true =>
        by_cases hTt : T = t
        · subst hTt
          obtain ⟨e1, e2⟩ := YESG.out rfl rfl rfl
          subst e1 e2
          go_wp2
          go_ret2
          exact ⟨_, rfl, HS3.out.own, HS3.out.bel⟩
        · have hne : (T.toList == t.toList) = false := by
            cases e : (T.toList == t.toList)
            · rfl
            · exact absurd (Batches.by_inj (by have := eq_of_beq e; rw [Batches.toList_by, Batches.toList_by] at this; exact this)) hTt
          go_wp2
          go_ret2
          exact FIN.out (NOG.out (fun h => hTt h.2.2)) _ rfl
theorem specRH_any {t : ByteArray} {l : List SpotL} {R : Bool} (hR : ResH t l R) (hs : t.size ≤ 1048576) (w : World) : Calls Try.prog 24 #[.string t] w (HintPost w l R) := by
  cases hu : Sums.unsealed t.data.toList with
  | none =>
    refine specRH_is (u := ⟨#[]⟩) (b0 := true) hs (by show (0 : Nat) ≤ _; omega) w (fun w => specUnsealed_none t hs hu w) hR (fun hg => ?_)
    have := Dirs.got_unsealed hg
    simp only [Batches.by_] at this
    rw [hu] at this; cases this
  | some u =>
    refine specRH_is (u := ⟨u.toArray⟩) (b0 := false) hs (un_size hu) w (fun w => specUnsealed_some t u hu w) hR (fun hg => ⟨rfl, ?_⟩)
    have := Dirs.got_unsealed hg
    simp only [Batches.by_] at this
    rw [hu] at this
    exact Dirs.text_gets (by simpa using this) hg.2
theorem implRH_any {t : ByteArray} {l : List SpotL} {R : Bool} (hR : ResH t l R) (hs : t.size ≤ 1048576) (w : World) : Calls Try.prog 25 #[.string t] w (HintPost w l R) := by
  rcases hR with ⟨h, rfl⟩ | ⟨h, rfl, rfl⟩
  · exact implRH_yes hs w h
  · exact (implRH_no hs w h).mono fun e w' ⟨h1, h2⟩ => ⟨_, h1, World.ownsRow_nil _ _ _ _, h2⟩
end Go.Proofs.Ytinhgonmdnbdiaa
