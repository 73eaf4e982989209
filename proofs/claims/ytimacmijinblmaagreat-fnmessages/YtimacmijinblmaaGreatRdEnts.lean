/- The program's reader of a message's entries and of its conf, walked. -/
import Derived.Test.YtimacmijinblmaaGreatReader5
import Derived.Test.YtimacmijinblmaaGreatImplRE
import Derived.Test.YtimacmijinblmaaGreatLApp
namespace Go.Proofs.YtimacmijinblmaaGreat
open Go.RowKit
open Ents (okB)
open Batches (cut)
open Msgs (okM bt Got pos epos)
set_option linter.unusedVariables false
set_option linter.unusedSimpArgs false
/-- ReadEntry of the program, at every text. -/
theorem implRE_is {t : ByteArray} {i : Nat} {e : EntL} {R : Bool} (hs : t.size ≤ 1048576) (h : REIs t i e R) (w : World) :
    Calls Tryz.prog 102 #[.string t] w fun en w' => en = .returned (.tuple #[.int .i64 (i : Int), entV e, .bool R]) ∧ Below w.heap.size w w' := by
  rcases h with ⟨hg, rfl⟩ | ⟨hn, rfl, rfl, rfl⟩
  · obtain ⟨j, k, a, b, g, rfl⟩ := Ents.text_gets hg.1 hg.2
    exact implRE_got hs w g hg.2
  · rcases Ents.torn_or t with ht | ⟨i, j, k, a, b, g⟩
    · exact implRE_fails hs w (Or.inl ht)
    · by_cases hk : Ents.kindB (Ents.ent t j k b) = true
      · exact implRE_wrong hs w g hk (fun hr => hn i _ ⟨Ents.gets_text g, hr⟩)
      · exact implRE_fails hs w (Or.inr ⟨i, j, k, a, b, g, by simpa using hk⟩)
/-- What reading the entries leaves. -/
def EntsPost (w : World) (rb : Nat) (t : ByteArray) (a : Nat) (en : Ending) (w' : World) : Prop :=
  (∃ (l : List EntL) (v : Value) (b : Nat), en = .returned v ∧ l.length ≤ 4 ∧ (∀ e ∈ l, okB e = true) ∧ w'.ownsRow w.heap.size 44 3 v l.length (cellsEn l) ∧ Rd w' rb t b ∧ a ≤ b ∧ cut t a b = Words.var l.length ++ Msgs.many l ∧ (∀ m, Got t m → a = pos m 9 → l = m.ents ∧ b = pos m 10) ∧ w.grownBy w' (some rb)) ∨
  (en = .panicked thrown ∧ (∀ m, Got t m → a ≠ pos m 9) ∧ w.grownBy w' (some rb))
/-- The state of the loop. -/
structure EnS (w : World) (rb : Nat) (t : ByteArray) (v : Value) (l : List EntL) (a : Nat) (X : World) : Prop where
  cur : Rd X rb t a
  ent : X.ownsRow w.heap.size 44 3 v l.length (cellsEn l)
  gr : w.grownBy X (some rb)
theorem EnS.grown {w : World} {rb : Nat} {t : ByteArray} {v : Value} {l : List EntL} {a : Nat} {X X' : World} {a' : Nat} (h : EnS w rb t v l a X) (hg : X.grownBy X' (some rb)) (hr : Rd X' rb t a') : EnS w rb t v l a' X' :=
  ⟨hr, h.ent.kept hg (Or.inr (own_not h.ent h.cur.1 (by decide))), h.gr.trans hg⟩
theorem EnS.below {w : World} {rb : Nat} {t : ByteArray} {v : Value} {l : List EntL} {a : Nat} {X X' : World} (h : EnS w rb t v l a X) (hb : Below X.heap.size X X') : EnS w rb t v l a X' :=
  ⟨h.cur.below hb, own_kept h.ent hb, grown_below h.gr hb⟩
theorem EnS.more {w : World} {rb : Nat} {t : ByteArray} {v : Value} {l : List EntL} {a : Nat} {X X' : World} {v' : Value} {l' : List EntL} (h : EnS w rb t v l a X) (hg : X.grownBy X' v.ownBlock) (ho : X'.ownsRow w.heap.size 44 3 v' l'.length (cellsEn l')) : EnS w rb t v' l' a X' := by
  have n1 := own_not h.ent h.cur.1 (by decide)
  refine ⟨⟨grown_keep' h.cur.1 hg n1, h.cur.2⟩, ho, h.gr.andThen hg (fun r e => ?_)⟩
  rcases h.ent.2 with ⟨h1, _⟩ | ⟨g, cap, cur, h1, hbase, _⟩
  · rw [h1] at e; simp [Value.ownBlock] at e
  · rw [h1] at e
    obtain rfl : g = r := by simpa [Value.ownBlock] using e
    exact Or.inl hbase
set_option maxHeartbeats 8000000 in
set_option maxRecDepth 100000 in
theorem entries_is {rb : Nat} {t : ByteArray} {a : Nat} (hs : t.size ≤ 1048576) (w : World) (hr : Rd w rb t a) :
    Calls Tryz.prog 75 #[.pointer (some ⟨rb, 0, none⟩)] w (EntsPost w rb t a) := by
  have HR : Hid (Rd w rb t a) := hr
  clear hr
  cases hrd : Words.rd t.data.toList a with
  | none =>
    have HN : Hid (∀ m, Got t m → a ≠ pos m 9) := fun m hm e => by
      have := Msgs.at_count hm
      rw [← e] at this
      exact absurd (hrd.symm.trans this) (by simp)
    have HRN : Hid (Words.rd t.data.toList a = none) := hrd
    clear hrd
    go_enter Tryz.func75, Tryz.ntmps75
    go_wp2_with (go_at_call 101; refine (count_none hs _ HR.out HRN.out).mono ?_; rintro e w1 ⟨rfl, hg1⟩)
    exact ⟨rfl, Or.inr ⟨rfl, HN.out, hg1⟩⟩
  | some p =>
  obtain ⟨n, b0⟩ := p
  have HRD : Hid (Words.rd t.data.toList a = some (n, b0)) := hrd
  clear hrd
  by_cases hn : n ≤ 4
  rotate_left
  · have HN : Hid (∀ m, Got t m → a ≠ pos m 9) := fun m hm e => by
      have := Msgs.at_count hm
      rw [← e] at this
      have := Option.some.inj (HRD.out.symm.trans this)
      simp only [Prod.mk.injEq] at this
      have := (Msgs.fits hm.2).len
      omega
    go_enter Tryz.func75, Tryz.ntmps75
    go_wp2_with (go_at_call 101; refine (count_over hs _ HR.out HRD.out hn).mono ?_; rintro e w1 ⟨rfl, hg1⟩)
    exact ⟨rfl, Or.inr ⟨rfl, HN.out, hg1⟩⟩
  obtain ⟨k1, k2, k3, _⟩ := Batches.rd_cut HRD.out
  have HN7 : Hid (∀ m, Got t m → a = pos m 9 → n = m.ents.length ∧ b0 = epos m 0) := fun m hm e => by
    have := Msgs.at_count hm
    rw [← e] at this
    have := Option.some.inj (HRD.out.symm.trans this)
    simp only [Prod.mk.injEq] at this
    exact this
  have HCU : Hid (cut t a b0 = Words.var n) := k3
  have hab : a ≤ b0 := by omega
  clear k1 k2 k3
  go_enter Tryz.func75, Tryz.ntmps75
  go_wp2_with fail
  refine (count_some hs _ HR.out HRD.out hn).mono ?_
  rintro e w1 ⟨rfl, hr1, hg1⟩
  have HE0 : Hid (EnS w rb t (.slice none 0 0) [] b0 w1) := ⟨hr1, World.ownsRow_nil _ _ 44 3, hg1⟩
  have HS0 : Hid (cut t a b0 = Words.var n ++ Msgs.many []) := by show _ = _; rw [HCU.out]; simp [Msgs.many]
  have HP0 : Hid (∀ m, Got t m → a = pos m 9 → 0 ≤ m.ents.length ∧ b0 = epos m 0 ∧ ([] : List EntL) = m.ents.take 0) := fun m hm e => ⟨Nat.zero_le _, (HN7.out m hm e).2, by simp⟩
  clear hr1 hg1 HCU HR HRD
  go_wp2_with fail
  go_loopw [3, 4, 5, 6, 9] (fun s _ _ _ i wr => ∃ (k : Nat) (l : List EntL) (v : Value) (c : Nat), k ≤ n ∧ i = .int .i64 (k : Int) ∧ s = v ∧ l.length = k ∧ Hid (∀ e ∈ l, okB e = true) ∧ Hid (EnS w rb t v l c wr) ∧ Hid (a ≤ c ∧ cut t a c = Words.var n ++ Msgs.many l) ∧ Hid (∀ m, Got t m → a = pos m 9 → k ≤ m.ents.length ∧ c = epos m k ∧ l = m.ents.take k)) (fun _ _ _ _ i _ => n - (intOf i).toNat)
  case atStart => exact ⟨0, [], .slice none 0 0, b0, Nat.zero_le _, rfl, rfl, rfl, fun e he => (List.not_mem_nil he).elim, HE0, ⟨hab, HS0.out⟩, HP0⟩
  case round =>
    clear HE0 HS0 HP0 hab
    obtain ⟨k, l, v, c, hk, rfl, hsv, hlk, HOK, HE, HS, HP⟩ := hrel
    have hvs := hsv.symm
    clear hsv
    subst hvs
    by_cases hkn : k < n
    · have d1 : (k : Int) < (n : Int) := by omega
      cases hsh : Batches.rdShort t c with
      | none =>
        have HN : Hid (∀ m, Got t m → a ≠ pos m 9) := fun m hm e => by
          obtain ⟨p1, p2, p3⟩ := HP.out m hm e
          have hlt : k < m.ents.length := by have := (HN7.out m hm e).1; omega
          have := Msgs.at_ent hm hlt
          rw [← p2, hsh] at this
          cases this
        have HSN : Hid (Batches.rdShort t c = none) := hsh
        clear hsh
        go_wp2_with (go_at_call 83; refine (short_none hs _ HE.out.cur HSN.out).mono ?_; rintro e w2 ⟨rfl, hg2⟩)
        exact ⟨rfl, Or.inr ⟨rfl, HN.out, HE.out.gr.trans hg2⟩⟩
      | some p =>
      obtain ⟨xs, c1⟩ := p
      have HSH : Hid (Batches.rdShort t c = some (xs, c1)) := hsh
      clear hsh
      obtain ⟨s1, s2, s3, s4⟩ := Batches.rdShort_cut HSH.out
      obtain ⟨ie, e, R, hRE⟩ := re_ex xs
      have HRE : Hid (∀ X, Calls Tryz.prog 102 #[.string xs] X fun en w' => en = .returned (.tuple #[.int .i64 (ie : Int), .agg #[.int .i64 e.term, .int .i64 e.kind, .string e.data], .bool R]) ∧ Below X.heap.size X w') := fun X => implRE_is (by omega) hRE X
      have HQE : Hid (∀ m, Got t m → a = pos m 9 → R = true ∧ ie = 1 ∧ k + 1 ≤ m.ents.length ∧ c1 = epos m (k + 1) ∧ l ++ [e] = m.ents.take (k + 1)) := fun m hm ea => by
        obtain ⟨p1, p2, p3⟩ := HP.out m hm ea
        have hlt : k < m.ents.length := by have := (HN7.out m hm ea).1; omega
        have r := Msgs.at_ent hm hlt
        rw [← p2] at r
        have q := Option.some.inj (HSH.out.symm.trans r)
        simp only [Prod.mk.injEq] at q
        obtain ⟨q1, q2⟩ := q
        have hok := (Msgs.fits hm.2).ents _ (List.getElem_mem hlt)
        subst q1
        obtain ⟨u1, u2, u3⟩ := re_uniq hRE (i' := 1) (e' := m.ents[k]) ⟨rfl, hok, by decide, by decide⟩
        refine ⟨u3, u1, hlt, q2, ?_⟩
        rw [List.take_succ_eq_append_getElem hlt, ← p3, u2]
      have HSC : Hid (R = true → ie = 1 → (a ≤ c1 ∧ cut t a c1 = Words.var n ++ Msgs.many (l ++ [e])) ∧ ∀ e' ∈ l ++ [e], okB e' = true) := fun h1 h2 => by
        rcases hRE with ⟨hg, _⟩ | ⟨_, _, _, h3⟩
        · subst h2
          refine ⟨⟨by have := HS.out.1; omega, ?_⟩, fun e' he => ?_⟩
          · rw [Batches.cut_app t (b := c) HS.out.1 (by omega), HS.out.2, s3, Msgs.many_snoc, List.append_assoc]
            have hx : xs = Ents.textS 1 e := Batches.by_inj (by rw [hg.1]; rfl)
            rw [hx]
          · rcases List.mem_append.1 he with he | he
            · exact HOK.out e' he
            · rw [List.mem_singleton.1 he]; exact hg.2.1
        · rw [h1] at h3; cases h3
      clear hRE HS s1 s2 s3 s4
      go_wp2_with fail
      refine (short_some hs _ HE.out.cur HSH.out).mono ?_
      rintro en X1 ⟨rfl, hr1, hg1⟩
      have HE1 : Hid (EnS w rb t v l c1 X1) := HE.out.grown hg1 hr1
      clear hr1 hg1 HE HSH
      go_wp2_with fail
      refine (HRE.out _).mono ?_
      rintro en X2 ⟨rfl, hb2⟩
      have hE2 := HE1.out.below hb2
      obtain ⟨X3, hX3⟩ : ∃ X3, X3 = X2.alloc (Obj.cells #[.int .i64 e.term, .int .i64 e.kind, .string e.data] 44) := ⟨_, rfl⟩
      have hb3 : Below X2.heap.size X2 X3 := by rw [hX3]; exact (Below.refl _ _).alloc (Nat.le_refl _) _
      have HE3 : Hid (EnS w rb t v l c1 X3) := hE2.below hb3
      have e3 : X3.heap[X2.heap.size]? = some (.cells #[.int .i64 e.term, .int .i64 e.kind, .string e.data] 44 (0, 0)) := by rw [hX3]; exact heap_alloc_new X2 _
      have y0 := cell_of_row _ _ 0 _ _ _ e3
      have y1 := cell_of_row _ _ 1 _ _ _ e3
      have y2 := cell_of_row _ _ 2 _ _ _ e3
      simp at y0 y1 y2
      go_upto_region 5 with fail
      rw [← hX3]
      obtain ⟨eb, heb⟩ : ∃ eb, eb = X2.heap.size := ⟨_, rfl⟩
      rw [← heb] at y0 y1 y2
      rw [← heb]
      clear heb hX3 hb3 hE2 hb2 e3 HRE HE1
      by_cases hgood : R = true ∧ ie = 1
      rotate_left
      · have HN : Hid (∀ m, Got t m → a ≠ pos m 9) := fun m hm ea => hgood ⟨(HQE.out m hm ea).1, (HQE.out m hm ea).2.1⟩
        cases R with
        | false =>
          go_wp2_with (go_at_call 97; refine (need_no _ _).mono ?_; rintro e w2 ⟨rfl, rfl⟩)
          exact ⟨rfl, Or.inr ⟨rfl, HN.out, HE3.out.gr⟩⟩
        | true =>
          have hie : ((ie : Int) == 1) = false := beq_eq_false_iff_ne.2 (by have : ¬ ie = 1 := fun h => hgood ⟨rfl, h⟩; omega)
          go_wp2_with (go_at_call 97; refine (need_no _ _).mono ?_; rintro e w2 ⟨rfl, rfl⟩)
          exact ⟨rfl, Or.inr ⟨rfl, HN.out, HE3.out.gr⟩⟩
      obtain ⟨rfl, rfl⟩ := hgood
      obtain ⟨HSC2, HOK2⟩ := HSC.out rfl rfl
      have HSC3 : Hid (a ≤ c1 ∧ cut t a c1 = Words.var n ++ Msgs.many (l ++ [e])) := HSC2
      have HOK3 : Hid (∀ e' ∈ l ++ [e], okB e' = true) := HOK2
      have HQ3 : Hid (∀ m, Got t m → a = pos m 9 → k + 1 ≤ m.ents.length ∧ c1 = epos m (k + 1) ∧ l ++ [e] = m.ents.take (k + 1)) := fun m hm ea => (HQE.out m hm ea).2.2
      clear HSC HSC2 HOK2 HQE HP HOK
      have hown := HE3.out.ent
      have hsz : w.heap.size ≤ X3.heap.size := HE3.out.gr.size
      obtain ⟨va, vc, hv⟩ := own_slice hown
      subst hv
      have HX4 : Hid (Below X3.heap.size X3 (X3.alloc (Obj.cells #[.int .i64 e.term, .int .i64 e.kind, .string e.data] 44))) := (Below.refl _ _).alloc (Nat.le_refl _) _
      go_wp2_with (first | (go_at_call 97; refine (need_yes_q _ _).mono ?_; rintro en X9 ⟨rfl, hX9⟩; subst hX9) | (at_builtin; refine wpList_app_en rfl _ _ rfl w.heap.size _ l (by first | rfl | (rw [hlk]; rfl)) hown e rfl (by omega) hsz ?_; intro v' X5 hown2 hgrow; have HE5 : Hid (EnS w rb t v' (l ++ [e]) c1 X5) := EnS.more (HE3.out.below HX4.out) hgrow hown2; obtain ⟨va2, vc2, hv2⟩ := own_slice hown2; subst hv2; clear hown2 hgrow))
      have hl1 : (l ++ [e]).length = k + 1 := by rw [List.length_append, hlk]; rfl
      rw [hl1] at HE5
      go_roundw
      case rel => exact ⟨k + 1, l ++ [e], _, c1, by omega, by go_num, rfl, by rw [List.length_append, hlk]; rfl, HOK3, HE5, HSC3, HQ3⟩
      case measure => simp [intOf]; omega
    · have d1 : ¬ (k : Int) < (n : Int) := by omega
      obtain rfl : k = n := by omega
      have hend : EntsPost w rb t a (.returned v) wr := by
        refine Or.inl ⟨l, v, c, rfl, by omega, HOK.out, HE.out.ent, HE.out.cur, HS.out.1, by rw [HS.out.2, hlk], fun m hm ea => ?_, HE.out.gr⟩
        obtain ⟨p1, p2, p3⟩ := HP.out m hm ea
        have h7 := (HN7.out m hm ea).1
        subst h7
        exact ⟨by rw [p3, List.take_of_length_le (Nat.le_refl _)], by rw [p2, Msgs.epos_end]⟩
      have HEND : Hid (EntsPost w rb t a (.returned v) wr) := hend
      clear hend
      go_wp2
      go_ret
      exact HEND.out
def CfPost (w : World) (rb : Nat) (t : ByteArray) (a : Nat) (en : Ending) (w' : World) : Prop :=
  (∃ (c : List Int) (v : Value) (b : Nat), en = .returned v ∧ c.length ≤ 4 ∧ w'.ownsRow w.heap.size 3 1 v c.length (cellsI c) ∧ Rd w' rb t b ∧ a ≤ b ∧ cut t a b = Batches.short (Ents.confS c) ∧ (∀ m, Got t m → a = pos m 10 → c = m.conf ∧ b = pos m 11) ∧ w.grownBy w' (some rb)) ∨
  (en = .panicked thrown ∧ (∀ m, Got t m → a ≠ pos m 10) ∧ w.grownBy w' (some rb))
set_option maxHeartbeats 4000000 in
set_option maxRecDepth 100000 in
theorem confR_is {rb : Nat} {t : ByteArray} {a : Nat} (hs : t.size ≤ 1048576) (w : World) (hr : Rd w rb t a) :
    Calls Tryz.prog 80 #[.pointer (some ⟨rb, 0, none⟩)] w (CfPost w rb t a) := by
  have HR : Hid (Rd w rb t a) := hr
  clear hr
  cases hsh : Batches.rdShort t a with
  | none =>
    have HN : Hid (∀ m, Got t m → a ≠ pos m 10) := fun m hm e => by
      have := Msgs.at_short hm (k := 10) (Msgs.conf_small hm) rfl
      rw [← e, hsh] at this
      cases this
    have HSN : Hid (Batches.rdShort t a = none) := hsh
    clear hsh
    go_enter Tryz.func80, Tryz.ntmps80
    go_wp2_with (go_at_call 83; refine (short_none hs _ HR.out HSN.out).mono ?_; rintro e w1 ⟨rfl, hg1⟩)
    exact ⟨rfl, Or.inr ⟨rfl, HN.out, hg1⟩⟩
  | some p =>
  obtain ⟨x, b⟩ := p
  have HSH : Hid (Batches.rdShort t a = some (x, b)) := hsh
  clear hsh
  obtain ⟨s1, s2, s3, s4⟩ := Batches.rdShort_cut HSH.out
  have HX : Hid (∀ m, Got t m → a = pos m 10 → x = Ents.confS m.conf ∧ b = pos m 11) := fun m hm e => by
    have := Msgs.at_short hm (k := 10) (Msgs.conf_small hm) rfl
    rw [← e] at this
    have := Option.some.inj (HSH.out.symm.trans this)
    simp only [Prod.mk.injEq] at this
    exact this
  have HCU : Hid (a ≤ b ∧ cut t a b = Batches.short x) := ⟨by omega, s3⟩
  clear s1 s2 s3
  by_cases hx : x.size = 0
  · have hxe : x = ⟨#[]⟩ := by
      have e := Array.eq_empty_of_size_eq_zero (xs := x.data) hx
      cases x
      simp only at e
      rw [e]
    have hne : x.toList.isEmpty = true := by rw [nil_size]; exact decide_eq_true hx
    have HPO : Hid (∀ w', Rd w' rb t b → w.grownBy w' (some rb) → CfPost w rb t a (.returned (.slice none 0 0)) w') := fun w' h1 h2 => by
      refine Or.inl ⟨[], _, b, rfl, Nat.zero_le _, World.ownsRow_nil _ _ 3 1, h1, HCU.out.1, by rw [HCU.out.2, hxe]; rfl, fun m hm e => ?_, h2⟩
      obtain ⟨q1, q2⟩ := HX.out m hm e
      refine ⟨?_, q2⟩
      have h3 : (Ents.confS m.conf).size = m.conf.length := by show (Ents.confB m.conf).toArray.size = _; simp [Ents.confB]
      rw [← q1, hx] at h3
      exact (List.length_eq_zero_iff.1 h3.symm).symm
    clear hxe
    go_enter Tryz.func80, Tryz.ntmps80
    go_wp2_with (go_at_call 83; refine (short_some hs _ HR.out HSH.out).mono ?_; rintro e w1 ⟨rfl, hr1, hg1⟩)
    go_ret
    exact HPO.out _ hr1 hg1
  have hne : x.toList.isEmpty = false := by rw [nil_size]; exact decide_eq_false hx
  obtain ⟨c, R, hRC⟩ := rc_ex x
  have HRC : Hid (∀ X, Calls Tryz.prog 105 #[.string x] X (RCPost X c R)) := fun X => implReadConf_is x (by omega) c R hRC X
  have hcl := rc_len hRC
  have HQ : Hid (∀ m, Got t m → a = pos m 10 → R = true ∧ c = m.conf) := fun m hm e => by
    obtain ⟨q1, q2⟩ := HX.out m hm e
    subst q1
    have hc := rc_right hRC (Msgs.fits hm.2).conf
    refine ⟨?_, hc⟩
    rcases hRC with ⟨_, h⟩ | ⟨_, h1, _⟩
    · exact h
    · rw [← hc, h1] at hx
      exact absurd rfl hx
  have HXC : Hid (R = true → x = Ents.confS c) := fun h => by
    rcases hRC with ⟨h1, _⟩ | ⟨_, _, h1⟩
    · exact (Ents.readC_iff.1 h1).2
    · rw [h] at h1; cases h1
  clear hRC hx
  go_enter Tryz.func80, Tryz.ntmps80
  go_wp2_with fail
  refine (short_some hs _ HR.out HSH.out).mono ?_
  rintro e w1 ⟨rfl, hr1, hg1⟩
  have HR1 : Hid (Rd w1 rb t b) := hr1
  have HG1 : Hid (w.grownBy w1 (some rb)) := hg1
  clear hr1 hg1 HR HSH
  go_wp2_with fail
  refine (HRC.out _).mono ?_
  rintro e w2 ⟨v, rfl, hown, hb2⟩
  have HR2 : Hid (Rd w2 rb t b) := HR1.out.below hb2
  have HG2 : Hid (w.grownBy w2 (some rb)) := grown_below HG1.out hb2
  have HO2 : Hid (w2.ownsRow w.heap.size 3 1 v c.length (cellsI c)) := own_mono hown HG1.out.size
  obtain ⟨wa, wcap, hv⟩ := own_slice hown
  subst hv
  clear hown hb2 HRC
  cases R with
  | false =>
    go_wp2_with (go_at_call 97; refine (need_no _ _).mono ?_; rintro e w3 ⟨rfl, rfl⟩)
    exact ⟨rfl, Or.inr ⟨rfl, fun m hm e => absurd (HQ.out m hm e).1 (by decide), HG2.out⟩⟩
  | true =>
    have HPO : Hid (CfPost w rb t a (.returned (.slice wa c.length wcap)) w2) := Or.inl ⟨c, _, b, rfl, hcl, HO2.out, HR2.out, HCU.out.1, by rw [HCU.out.2, HXC.out rfl], fun m hm e => ⟨(HQ.out m hm e).2, (HX.out m hm e).2⟩, HG2.out⟩
    go_wp2_with (go_at_call 97; refine (need_yes_q _ _).mono ?_; rintro e w3 ⟨rfl, hw3⟩; subst hw3)
    go_ret
    exact HPO.out
end Go.Proofs.YtimacmijinblmaaGreat
