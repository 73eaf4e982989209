/- The law FnEntries, walked. -/
import Derived.Test.YtcnalipgfmaopaaDrawEnt
import Derived.Test.YtcnalipgfmaopaaRELaw
import Derived.Test.YtcnalipgfmaopaaMost
import Derived.Test.YtcnalipgfmaopaaConfLaws
import Derived.Laws.StructEq
namespace Go.Proofs.Ytcnalipgfmaopaa
open Go.RowKit
open Ents (okB kindB rest ent Gets Torn Got right text textS cnt mostB confS)
set_option linter.unusedVariables false
set_option linter.unusedSimpArgs false

theorem Code.up {B B' : Nat} {w : World} {a : Option Addr} {len b off : Nat} {z : Nat → Int} (h : Code B w a len b off z) (hb : B ≤ B') : Code B' w a len b off z := ⟨fun q => by have := h.1 q; omega, h.2⟩
theorem textS_size (n : Nat) (e : EntL) (hn : n ≤ 100000) (ht : e.term ≤ 100000) (hd : e.data.size ≤ 120) : (textS n e).size ≤ 1048576 := by
  show (text n e).toArray.size ≤ _
  have h1 := Words.var_len n
  have h2 := Words.var_len e.term.toNat
  have h3 : (Batches.by_ e.data).length = e.data.size := rfl
  simp only [text, List.size_toArray, List.length_cons, List.length_append]
  omega
/-- What EntryText answers, and what ReadEntry answers of it. -/
theorem ent_out (x : Int) (d : EntL) : ∃ (T : ByteArray) (O : Bool) (i : Nat) (e : EntL) (R : Bool), entTuple x d = .tuple #[.string T, .bool O] ∧ T.size ≤ 1048576 ∧ REIs T i e R ∧ (O = true → (i : Int) = x ∧ e = d ∧ R = true) := by
  unfold entTuple
  split
  · rename_i h
    obtain ⟨n, rfl⟩ := Int.eq_ofNat_of_zero_le (show 0 ≤ x by omega)
    obtain ⟨⟨t0, t1⟩, hk⟩ := Ents.okB_iff.1 h.1
    have hd := (Ents.kind_in hk).2
    exact ⟨_, _, n, d, true, rfl, textS_size _ _ (by have := h.2.2; simp; omega) t1 hd, Or.inl ⟨⟨rfl, h⟩, rfl⟩, fun _ => ⟨rfl, rfl, rfl⟩⟩
  · obtain ⟨i, e, R, h⟩ := re_ex ⟨#[]⟩
    exact ⟨_, _, i, e, R, rfl, Nat.zero_le _, h, fun q => by cases q⟩
theorem cnt_self (l : List Int) : cnt l l = l.length := by
  unfold cnt
  rw [List.filter_eq_self.2]
  intro n hn
  simpa using hn
theorem cnt_nil (l : List Int) : cnt l [] = 0 := by
  unfold cnt
  simp
theorem most_self {l : List Int} (h : Mans.confOk l = true) : mostB l l = true := by
  have := (Mans.confOk_iff.1 h).1.1
  unfold mostB
  rw [h, cnt_self]
  simp
  omega
theorem most_nil (l : List Int) : mostB l [] = false := by
  unfold mostB
  rw [cnt_nil]
  simp
theorem most_one {x : Int} {r : List Int} (h : Mans.confOk (x :: r) = true) : mostB (x :: r) [x] = decide ((x :: r).length = 1) := by
  obtain ⟨h1, h2⟩ := Mans.confOk_iff.1 h
  simp only [Mans.asc, Bool.and_eq_true, decide_eq_true_eq] at h2
  have h3 := Ents.asc_mem r _ _ h2.2
  have hc : cnt (x :: r) [x] = 1 := by
    unfold cnt
    rw [List.filter_cons_of_pos (by simp), List.filter_eq_nil_iff.2]
    · rfl
    · intro n hn
      have := h3 n hn
      simp
      omega
  unfold mostB
  rw [h, hc]
  simp only [Bool.true_and]
  apply decide_eq_decide.2
  simp only [List.length_cons]
  omega
theorem lawEnts_big {cap len : Nat} {a : Option Addr} (w : World) (h : 1048576 < len) :
    Calls Try.prog 9 #[.slice a len cap] w fun e w' => e = .returned (.bool true) ∧ Below w.heap.size w w' := by
  go_enter Try.func9, Try.ntmps9
  go_wp2_with (go_at_call 29; refine (big_yes a len cap h _).mono ?_; rintro e w' ⟨rfl, rfl⟩)
  go_ret
  exact ⟨rfl, Below.refl _ _⟩
theorem own_cap {w : World} {B n : Nat} {a : Option Addr} {c : Nat} {xs : List Value} (h : w.ownsRow B 3 1 (.slice a n c) n xs) : n ≤ c := by
  rcases h.2 with ⟨h1, h2⟩ | ⟨g, cap, cur, h1, _, _, h3⟩
  · omega
  · cases h1
    have := h3
    omega
theorem sameInts_any {a b : Option Addr} {g off cap h off' cap' : Nat} (l : List Int) (hlen : l.length ≤ 1048576) (w : World) (hf : IntAt w a g off l) (hf' : IntAt w b h off' l) :
    Calls Try.prog 33 #[.slice a l.length cap, .slice b l.length cap'] w fun e w' => e = .returned (.bool true) ∧ Below w.heap.size w w' := by
  exact (sameInts_same l hlen w hf hf').mono fun e w' q => q
set_option maxHeartbeats 4000000 in
set_option maxRecDepth 100000 in
theorem lawEnts_any {cap len b off : Nat} {a : Option Addr} {z : Nat → Int} (w : World) (hc : Code w.heap.size w a len b off z) :
    Calls Try.prog 9 #[.slice a len cap] w fun e w' => e = .returned (.bool true) ∧ Below w.heap.size w w' := by
  have HC : Hid (Code w.heap.size w a len b off z) := hc
  have hlen := hc.2.1
  clear hc
  go_enter Try.func9, Try.ntmps9
  go_wp2_with fail
  refine (big_no a len cap hlen _).mono ?_
  rintro e w0 ⟨rfl, rfl⟩
  go_wp2_with fail
  refine (drawEnt_any _ HC.out).mono ?_
  rintro e w1 ⟨x, d, rfl, hd, hb1⟩
  obtain ⟨T, O, i, e, R, hTO, hT, hRE, hOk⟩ := ent_out x d
  have HIM : Hid (∀ W, Calls Try.prog 23 #[.int .i64 x, entV d] W fun en w' => en = .returned (.tuple #[.string T, .bool O]) ∧ Below W.heap.size W w') := fun W => by rw [← hTO]; exact implEntText_is x d (by omega) W
  have HSP : Hid (∀ W, Calls Try.prog 22 #[.int .i64 x, entV d] W fun en w' => en = .returned (.tuple #[.string T, .bool O]) ∧ Below W.heap.size W w') := fun W => by rw [← hTO]; exact specEntText_is x d (by omega) W
  have HRD : Hid (∀ W, Calls Try.prog 25 #[.string T] W fun en w' => en = .returned (.tuple #[.int .i64 (i : Int), entV e, .bool R]) ∧ Below W.heap.size W w') := fun W => implRE_is hT hRE W
  unfold entV at HIM HSP HRD ⊢
  obtain ⟨W1, hW1⟩ : ∃ W1, W1 = w1.alloc (Obj.cells #[.int .i64 d.term, .int .i64 d.kind, .string d.data] 36) := ⟨_, rfl⟩
  obtain ⟨eb, heb⟩ : ∃ eb, eb = w1.heap.size := ⟨_, rfl⟩
  have HE1 : Hid (W1.heap[eb]? = some (.cells #[.int .i64 d.term, .int .i64 d.kind, .string d.data] 36 (0, 0))) := by show _ = _; rw [hW1, heb]; exact heap_alloc_new w1 _
  have HB1 : Hid (Below w.heap.size w W1) := by rw [hW1]; exact hb1.alloc hb1.size _
  clear hb1 hTO hRE hT hd
  go_wp2_with fail
  rw [← hW1, ← heb]
  clear hW1 heb
  refine Calls.mono (HIM.out _) ?_
  rintro en w3 ⟨rfl, hb3⟩
  have HB3 : Hid (Below w.heap.size w w3) := HB1.out.trans (hb3.mono HB1.out.size)
  have he3 := (hb3.block _ (Array.getElem?_eq_some_iff.1 HE1.out).1).trans HE1.out
  have HE3 : Hid (_ = _) := he3
  have x0 := cell_of_row _ _ 0 _ _ _ he3
  have x1 := cell_of_row _ _ 1 _ _ _ he3
  have x2 := cell_of_row _ _ 2 _ _ _ he3
  simp at x0 x1 x2
  clear hb3 he3 HB1 HE1
  go_wp2_with fail
  refine Calls.mono (HSP.out _) ?_
  rintro en w4 ⟨rfl, hb4⟩
  have HB4 : Hid (Below w.heap.size w w4) := HB3.out.trans (hb4.mono HB3.out.size)
  have HE4 : Hid (w4.heap[eb]? = some (.cells #[.int .i64 d.term, .int .i64 d.kind, .string d.data] 36 (0, 0))) := (hb4.block _ (Array.getElem?_eq_some_iff.1 HE3.out).1).trans HE3.out
  clear hb4 HB3 HE3 x0 x1 x2
  go_wp2_with fail
  refine Calls.mono (HRD.out _) ?_
  rintro en w5 ⟨rfl, hb5⟩
  have HB5 : Hid (Below w.heap.size w w5) := HB4.out.trans (hb5.mono HB4.out.size)
  have he5 := (hb5.block _ (Array.getElem?_eq_some_iff.1 HE4.out).1).trans HE4.out
  have hl5 : eb < w5.heap.size := (Array.getElem?_eq_some_iff.1 he5).1
  have x0 := cell_of_row _ _ 0 _ _ _ he5
  have x1 := cell_of_row _ _ 1 _ _ _ he5
  have x2 := cell_of_row _ _ 2 _ _ _ he5
  simp at x0 x1 x2
  obtain ⟨W6, hW6⟩ : ∃ W6, W6 = w5.alloc (Obj.cells #[.int .i64 e.term, .int .i64 e.kind, .string e.data] 36) := ⟨_, rfl⟩
  have HB6 : Hid (Below w.heap.size w W6) := by rw [hW6]; exact HB5.out.alloc HB5.out.size _
  clear hb5 he5 HB4 HE4 HIM HSP HRD
  cases O with
  | false =>
    clear hOk
    go_wp2_with fail
    rw [← hW6]
    clear hW6 x0 x1 x2
    refine (drawConf_any W6 ((HC.out.below HB6.out).up HB6.out.size)).mono ?_
    rintro en w7 ⟨v, l, rfl, hl, ho7, hb7⟩
    obtain ⟨va, gv, vc, hv, hi7⟩ := cellsI_slice ho7
    subst hv
    have HB7 : Hid (Below w.heap.size w w7) := HB6.out.trans (hb7.mono HB6.out.size)
    have HI7 : Hid (IntAt w7 va gv 0 l) := hi7
    have hcap := own_cap ho7
    clear ho7 hb7 hi7
    obtain ⟨T2, G, hTG, hG, hGT⟩ := conf_tuple l
    have HCT : Hid (Calls Try.prog 12 #[.slice va l.length vc] w7 fun e w' => e = .returned (.tuple #[.string T2, .bool G]) ∧ Below w7.heap.size w7 w') := by
      have q := implConfText_is (cap := vc) l (by omega) w7 HI7.out
      rw [hTG] at q
      exact q
    have HSC : Hid (∀ W, IntAt W va gv 0 l → Calls Try.prog 32 #[.slice va l.length vc] W fun e w' => e = .returned (.bool G) ∧ Below W.heap.size W w') := fun W h => specConf_is l (by omega) G hG.symm W h
    obtain ⟨l2, R2, hRC, h2⟩ : ∃ l2 R2, RCIs T2 l2 R2 ∧ (G = true → l2 = l ∧ R2 = true) := by
      cases hg : G with
      | true =>
        refine ⟨l, true, ?_, fun _ => ⟨rfl, rfl⟩⟩
        rw [hGT hg]
        exact Or.inl ⟨Ents.readC_iff.2 ⟨by rw [← hG, hg], rfl⟩, rfl⟩
      | false =>
        obtain ⟨l2, R2, q⟩ := rc_ex T2
        exact ⟨l2, R2, q, fun q => by cases q⟩
    have hT2 : T2.size ≤ 1048576 := by
      cases hg : G with
      | true =>
        rw [hGT hg]
        show (Ents.confB l).toArray.size ≤ _
        simp [Ents.confB]
        omega
      | false =>
        unfold confTuple at hTG
        rw [if_neg (by rw [← hG, hg]; decide)] at hTG
        simp at hTG
        rw [← hTG.1]
        exact Nat.zero_le _
    have HRR : Hid (∀ W, Calls Try.prog 15 #[.string T2] W (RCPost W l2 R2)) := fun W => implReadConf_is T2 hT2 l2 R2 hRC W
    have HG : Hid (G = Mans.confOk l) := hG
    clear hTG hGT hRC hT2 hG
    go_wp2_with fail
    refine Calls.mono HCT.out ?_
    rintro en w8 ⟨rfl, hb8⟩
    have HB8 : Hid (Below w.heap.size w w8) := HB7.out.trans (hb8.mono HB7.out.size)
    have HI8 : Hid (IntAt w8 va gv 0 l) := HI7.out.kept hb8
    clear hb8 HCT HI7 HB7
    go_wp2_with fail
    refine Calls.mono (HRR.out _) ?_
    rintro en w9 ⟨v2, rfl, ho9, hb9⟩
    obtain ⟨va2, gv2, vc2, hv2, hi9⟩ := cellsI_slice ho9
    subst hv2
    have HB9 : Hid (Below w.heap.size w w9) := HB8.out.trans (hb9.mono HB8.out.size)
    have HI9 : Hid (IntAt w9 va gv 0 l) := HI8.out.kept hb9
    have HJ9 : Hid (IntAt w9 va2 gv2 0 l2) := hi9
    clear hb9 ho9 hi9 HRR HI8 HB8
    go_wp2_with fail
    refine Calls.mono (HSC.out _ HI9.out) ?_
    rintro en w10 ⟨rfl, hb10⟩
    have HB10 : Hid (Below w.heap.size w w10) := HB9.out.trans (hb10.mono HB9.out.size)
    have HI10 : Hid (IntAt w10 va gv 0 l) := HI9.out.kept hb10
    have HJ10 : Hid (IntAt w10 va2 gv2 0 l2) := HJ9.out.kept hb10
    clear hb10 HSC HI9 HJ9 HB9
    cases G with
    | false =>
      clear h2
      go_wp2
      go_ret
      exact ⟨rfl, HB10.out⟩
    | true =>
      obtain ⟨rfl, rfl⟩ := h2 rfl
      clear h2
      have hok : Mans.confOk l2 = true := HG.out.symm
      obtain ⟨hl1, hl4⟩ := (Mans.confOk_iff.1 hok).1
      match l2, hok, hl1, hl4, hl, hcap, HI10, HJ10, HG with
      | [], _, hl1, _, _, _, _, _, _ => exact absurd hl1 (by simp)
      | x2 :: r, hok, hl1, hl4, hl, hcap, HI10, HJ10, HG =>
      have HM1 : Hid (∀ W, IntAt W va gv 0 (x2 :: r) → Calls Try.prog 28 #[.slice va (x2 :: r).length vc, .slice va (x2 :: r).length vc] W fun e w' => e = .returned (.bool true) ∧ W = w') := fun W h => by
        have q := implMost_is (cap := vc) (cap' := vc) (x2 :: r) (x2 :: r) (by omega) (by omega) W h h
        rw [most_self hok] at q
        exact q
      have HM2 : Hid (∀ (W : World) (q c : Nat), IntAt W va gv 0 (x2 :: r) → Calls Try.prog 28 #[.slice va (x2 :: r).length vc, .slice (some ⟨q, 0, none⟩) 0 c] W fun e w' => e = .returned (.bool false) ∧ W = w') := fun W q c h => by
        have y := implMost_is (cap := vc) (cap' := c) (b := some ⟨q, 0, none⟩) (h := 0) (off' := 0) (x2 :: r) [] (by omega) (by simp) W h ⟨fun h => absurd h (by simp), fun j hj => absurd hj (by simp)⟩
        rw [most_nil] at y
        exact y
      have HM3 : Hid (∀ (W : World) (c : Nat), IntAt W va gv 0 (x2 :: r) → Calls Try.prog 28 #[.slice va (x2 :: r).length vc, .slice va 1 c] W fun e w' => e = .returned (.bool (decide ((x2 :: r).length = 1))) ∧ W = w') := fun W c h => by
        have y := implMost_is (cap := vc) (cap' := c) (x2 :: r) [x2] (by omega) (by simp) W h ⟨fun _ => h.1 (by simp), fun j hj => by
          have h0 : j = 0 := by simp at hj; omega
          subst h0
          exact h.2 0 (by simp)⟩
        rw [most_one hok] at y
        exact y
      have HSI : Hid (Calls Try.prog 33 #[.slice va2 (x2 :: r).length vc2, .slice va (x2 :: r).length vc] w10 fun e w' => e = .returned (.bool true) ∧ Below w10.heap.size w10 w') := sameInts_any (x2 :: r) (by omega) w10 HJ10.out HI10.out
      have ea := HI10.out.1 (by omega)
      subst ea
      obtain ⟨n, hn⟩ : ∃ n, n = (x2 :: r).length := ⟨_, rfl⟩
      rw [← hn] at HM1 HM2 HM3 HSI hl1 hl4 hl hcap ⊢
      have hc1 : (1 : Int) ≤ (vc : Int) := by omega
      have hn1 : (1 : Int) ≤ (n : Int) := by omega
      clear HG hn
      go_wp2_with fail
      refine Calls.mono HSI.out ?_
      rintro en w11 ⟨rfl, hb11⟩
      have HB11 : Hid (Below w.heap.size w w11) := HB10.out.trans (hb11.mono HB10.out.size)
      have HI11 : Hid (IntAt w11 (some ⟨gv, 0, none⟩) gv 0 (x2 :: r)) := HI10.out.kept hb11
      clear hb11 HI10 HJ10 HB10 HSI
      go_wp2_with fail
      refine Calls.mono (HM1.out _ HI11.out) ?_
      rintro en w12 ⟨rfl, rfl⟩
      have HIA : Hid (IntAt (w11.alloc (Obj.cells #[] 3)) (some ⟨gv, 0, none⟩) gv 0 (x2 :: r)) := HI11.out.kept ((Below.refl _ _).alloc (Nat.le_refl _) _)
      have HBA : Hid (Below w.heap.size w (w11.alloc (Obj.cells #[] 3))) := HB11.out.alloc HB11.out.size _
      obtain ⟨WA, hWA⟩ : ∃ WA, WA = w11.alloc (Obj.cells #[] 3) := ⟨_, rfl⟩
      rw [← hWA] at HIA HBA
      go_wp2_with fail
      rw [← hWA]
      clear hWA
      refine Calls.mono (HM2.out _ _ _ HIA.out) ?_
      rintro en w14 ⟨rfl, rfl⟩
      go_wp2_with fail
      refine Calls.mono (HM3.out _ _ HIA.out) ?_
      rintro en w16 ⟨rfl, rfl⟩
      have hee : (decide (n = 1) == ((n : Int) == 1)) = true := by
        by_cases q : n = 1
        · simp [q]
        · have : ¬ (n : Int) = 1 := by omega
          simp [q, this]
      have HEE : Hid ((decide (n = 1) == ((n : Int) == 1)) = true) := hee
      obtain ⟨D1, hD1⟩ : ∃ D1, D1 = decide (n = 1) := ⟨_, rfl⟩
      rw [← hD1] at HEE ⊢
      clear hee hD1
      go_wp2
      go_ret
      exact ⟨by rw [show ((_ : Bool) == _) = true from HEE.out]; rfl, HBA.out⟩
  | true =>
    obtain ⟨h1, h2, h3⟩ := hOk rfl
    subst h1 h2 h3
    clear hOk
    go_wp2_with fail
    rw [← hW6]
    clear hW6 x0 x1 x2
    refine (drawConf_any W6 ((HC.out.below HB6.out).up HB6.out.size)).mono ?_
    rintro en w7 ⟨v, l, rfl, hl, ho7, hb7⟩
    obtain ⟨va, gv, vc, hv, hi7⟩ := cellsI_slice ho7
    subst hv
    have HB7 : Hid (Below w.heap.size w w7) := HB6.out.trans (hb7.mono HB6.out.size)
    have HI7 : Hid (IntAt w7 va gv 0 l) := hi7
    have hcap := own_cap ho7
    clear ho7 hb7 hi7
    obtain ⟨T2, G, hTG, hG, hGT⟩ := conf_tuple l
    have HCT : Hid (Calls Try.prog 12 #[.slice va l.length vc] w7 fun e w' => e = .returned (.tuple #[.string T2, .bool G]) ∧ Below w7.heap.size w7 w') := by
      have q := implConfText_is (cap := vc) l (by omega) w7 HI7.out
      rw [hTG] at q
      exact q
    have HSC : Hid (∀ W, IntAt W va gv 0 l → Calls Try.prog 32 #[.slice va l.length vc] W fun e w' => e = .returned (.bool G) ∧ Below W.heap.size W w') := fun W h => specConf_is l (by omega) G hG.symm W h
    obtain ⟨l2, R2, hRC, h2⟩ : ∃ l2 R2, RCIs T2 l2 R2 ∧ (G = true → l2 = l ∧ R2 = true) := by
      cases hg : G with
      | true =>
        refine ⟨l, true, ?_, fun _ => ⟨rfl, rfl⟩⟩
        rw [hGT hg]
        exact Or.inl ⟨Ents.readC_iff.2 ⟨by rw [← hG, hg], rfl⟩, rfl⟩
      | false =>
        obtain ⟨l2, R2, q⟩ := rc_ex T2
        exact ⟨l2, R2, q, fun q => by cases q⟩
    have hT2 : T2.size ≤ 1048576 := by
      cases hg : G with
      | true =>
        rw [hGT hg]
        show (Ents.confB l).toArray.size ≤ _
        simp [Ents.confB]
        omega
      | false =>
        unfold confTuple at hTG
        rw [if_neg (by rw [← hG, hg]; decide)] at hTG
        simp at hTG
        rw [← hTG.1]
        exact Nat.zero_le _
    have HRR : Hid (∀ W, Calls Try.prog 15 #[.string T2] W (RCPost W l2 R2)) := fun W => implReadConf_is T2 hT2 l2 R2 hRC W
    have HG : Hid (G = Mans.confOk l) := hG
    clear hTG hGT hRC hT2 hG
    go_wp2_with fail
    refine Calls.mono HCT.out ?_
    rintro en w8 ⟨rfl, hb8⟩
    have HB8 : Hid (Below w.heap.size w w8) := HB7.out.trans (hb8.mono HB7.out.size)
    have HI8 : Hid (IntAt w8 va gv 0 l) := HI7.out.kept hb8
    clear hb8 HCT HI7 HB7
    go_wp2_with fail
    refine Calls.mono (HRR.out _) ?_
    rintro en w9 ⟨v2, rfl, ho9, hb9⟩
    obtain ⟨va2, gv2, vc2, hv2, hi9⟩ := cellsI_slice ho9
    subst hv2
    have HB9 : Hid (Below w.heap.size w w9) := HB8.out.trans (hb9.mono HB8.out.size)
    have HI9 : Hid (IntAt w9 va gv 0 l) := HI8.out.kept hb9
    have HJ9 : Hid (IntAt w9 va2 gv2 0 l2) := hi9
    clear hb9 ho9 hi9 HRR HI8 HB8
    go_wp2_with fail
    refine Calls.mono (HSC.out _ HI9.out) ?_
    rintro en w10 ⟨rfl, hb10⟩
    have HB10 : Hid (Below w.heap.size w w10) := HB9.out.trans (hb10.mono HB9.out.size)
    have HI10 : Hid (IntAt w10 va gv 0 l) := HI9.out.kept hb10
    have HJ10 : Hid (IntAt w10 va2 gv2 0 l2) := HJ9.out.kept hb10
    clear hb10 HSC HI9 HJ9 HB9
    cases G with
    | false =>
      clear h2
      go_wp2
      go_ret
      exact ⟨rfl, HB10.out⟩
    | true =>
      obtain ⟨rfl, rfl⟩ := h2 rfl
      clear h2
      have hok : Mans.confOk l2 = true := HG.out.symm
      obtain ⟨hl1, hl4⟩ := (Mans.confOk_iff.1 hok).1
      match l2, hok, hl1, hl4, hl, hcap, HI10, HJ10, HG with
      | [], _, hl1, _, _, _, _, _, _ => exact absurd hl1 (by simp)
      | x2 :: r, hok, hl1, hl4, hl, hcap, HI10, HJ10, HG =>
      have HM1 : Hid (∀ W, IntAt W va gv 0 (x2 :: r) → Calls Try.prog 28 #[.slice va (x2 :: r).length vc, .slice va (x2 :: r).length vc] W fun e w' => e = .returned (.bool true) ∧ W = w') := fun W h => by
        have q := implMost_is (cap := vc) (cap' := vc) (x2 :: r) (x2 :: r) (by omega) (by omega) W h h
        rw [most_self hok] at q
        exact q
      have HM2 : Hid (∀ (W : World) (q c : Nat), IntAt W va gv 0 (x2 :: r) → Calls Try.prog 28 #[.slice va (x2 :: r).length vc, .slice (some ⟨q, 0, none⟩) 0 c] W fun e w' => e = .returned (.bool false) ∧ W = w') := fun W q c h => by
        have y := implMost_is (cap := vc) (cap' := c) (b := some ⟨q, 0, none⟩) (h := 0) (off' := 0) (x2 :: r) [] (by omega) (by simp) W h ⟨fun h => absurd h (by simp), fun j hj => absurd hj (by simp)⟩
        rw [most_nil] at y
        exact y
      have HM3 : Hid (∀ (W : World) (c : Nat), IntAt W va gv 0 (x2 :: r) → Calls Try.prog 28 #[.slice va (x2 :: r).length vc, .slice va 1 c] W fun e w' => e = .returned (.bool (decide ((x2 :: r).length = 1))) ∧ W = w') := fun W c h => by
        have y := implMost_is (cap := vc) (cap' := c) (x2 :: r) [x2] (by omega) (by simp) W h ⟨fun _ => h.1 (by simp), fun j hj => by
          have h0 : j = 0 := by simp at hj; omega
          subst h0
          exact h.2 0 (by simp)⟩
        rw [most_one hok] at y
        exact y
      have HSI : Hid (Calls Try.prog 33 #[.slice va2 (x2 :: r).length vc2, .slice va (x2 :: r).length vc] w10 fun e w' => e = .returned (.bool true) ∧ Below w10.heap.size w10 w') := sameInts_any (x2 :: r) (by omega) w10 HJ10.out HI10.out
      have ea := HI10.out.1 (by omega)
      subst ea
      obtain ⟨n, hn⟩ : ∃ n, n = (x2 :: r).length := ⟨_, rfl⟩
      rw [← hn] at HM1 HM2 HM3 HSI hl1 hl4 hl hcap ⊢
      have hc1 : (1 : Int) ≤ (vc : Int) := by omega
      have hn1 : (1 : Int) ≤ (n : Int) := by omega
      clear HG hn
      go_wp2_with fail
      refine Calls.mono HSI.out ?_
      rintro en w11 ⟨rfl, hb11⟩
      have HB11 : Hid (Below w.heap.size w w11) := HB10.out.trans (hb11.mono HB10.out.size)
      have HI11 : Hid (IntAt w11 (some ⟨gv, 0, none⟩) gv 0 (x2 :: r)) := HI10.out.kept hb11
      clear hb11 HI10 HJ10 HB10 HSI
      go_wp2_with fail
      refine Calls.mono (HM1.out _ HI11.out) ?_
      rintro en w12 ⟨rfl, rfl⟩
      have HIA : Hid (IntAt (w11.alloc (Obj.cells #[] 3)) (some ⟨gv, 0, none⟩) gv 0 (x2 :: r)) := HI11.out.kept ((Below.refl _ _).alloc (Nat.le_refl _) _)
      have HBA : Hid (Below w.heap.size w (w11.alloc (Obj.cells #[] 3))) := HB11.out.alloc HB11.out.size _
      obtain ⟨WA, hWA⟩ : ∃ WA, WA = w11.alloc (Obj.cells #[] 3) := ⟨_, rfl⟩
      rw [← hWA] at HIA HBA
      go_wp2_with fail
      rw [← hWA]
      clear hWA
      refine Calls.mono (HM2.out _ _ _ HIA.out) ?_
      rintro en w14 ⟨rfl, rfl⟩
      go_wp2_with fail
      refine Calls.mono (HM3.out _ _ HIA.out) ?_
      rintro en w16 ⟨rfl, rfl⟩
      have hee : (decide (n = 1) == ((n : Int) == 1)) = true := by
        by_cases q : n = 1
        · simp [q]
        · have : ¬ (n : Int) = 1 := by omega
          simp [q, this]
      have HEE : Hid ((decide (n = 1) == ((n : Int) == 1)) = true) := hee
      obtain ⟨D1, hD1⟩ : ∃ D1, D1 = decide (n = 1) := ⟨_, rfl⟩
      rw [← hD1] at HEE ⊢
      clear hee hD1
      go_wp2
      go_ret
      exact ⟨by rw [show ((_ : Bool) == _) = true from HEE.out]; rfl, HBA.out⟩
end Go.Proofs.Ytcnalipgfmaopaa
