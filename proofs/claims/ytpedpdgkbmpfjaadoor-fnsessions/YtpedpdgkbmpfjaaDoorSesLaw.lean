/- The law of sessions, walked. -/
import Derived.Test.YtpedpdgkbmpfjaaDoorSpecTalk
import Derived.Test.YtpedpdgkbmpfjaaDoorImplAct
import Derived.Test.YtpedpdgkbmpfjaaDoorSameMap
namespace Go.Proofs.YtpedpdgkbmpfjaaDoor
open Go.RowKit
open Cmds (okC)
open Acts (sess act nextN decS openR expR staleR gapR)
set_option linter.unusedVariables false
set_option linter.unusedSimpArgs false

theorem open_cut (D : ByteArray) : (openR ++ D).extract 0 5 = ⟨#[111, 112, 101, 110, 32]⟩ := ByteArray.extract_append_eq_left (by rfl)
theorem begins_yes (X : ByteArray) (h5 : 5 ≤ X.size) (hb : X.size ≤ 1000) (hx : X.extract 0 5 = ⟨#[111, 112, 101, 110, 32]⟩) (w : World) : Calls Tryd.prog 19 #[.string ⟨#[111, 112, 101, 110, 32]⟩, .string X] w fun e w' => e = .returned (.bool true) ∧ w' = w := by
  have h6 : (5 : Int) ≤ (X.size : Int) := by omega
  go_enter Tryd.func19, Tryd.ntmps19
  go_wp2
  go_ret
  exact ⟨rfl, rfl⟩
theorem actI {T i : Nat} {a : Option Addr} {g off cap : Nat} (m : List PairL) (c : CmdL) (hG : Acts.Good T m) (hT : T ≤ 20) (hi : i ≤ 99) (hok : okC c = true) (hv : c.val.size ≤ 5) {m' : List PairL} {r : ByteArray} (h : act m i c = (m', r)) (W : World) (hf : PairAt W a g off m) :
    Calls Tryd.prog 11 #[.slice a m.length cap, .int .i64 (i : Int), .agg #[.int .i64 c.op, .int .i64 c.ses, .int .i64 c.seq, .string c.key, .string c.val, .string c.old]] W (OutI m' r W) := by
  have q := implAct_is (cap := cap) m c hG hT hi hok hv W hf
  rw [h] at q
  exact q
theorem actI1 {T i : Nat} {a : Option Addr} {g off cap : Nat} (m : List PairL) (c : CmdL) (hG : Acts.Good T m) (hT : T ≤ 20) (hi : i + 1 ≤ 99) (hok : okC c = true) (hv : c.val.size ≤ 5) {m' : List PairL} {r : ByteArray} (h : act m (i + 1) c = (m', r)) (W : World) (hf : PairAt W a g off m) :
    Calls Tryd.prog 11 #[.slice a m.length cap, .int .i64 ((i : Int) + 1), .agg #[.int .i64 c.op, .int .i64 c.ses, .int .i64 c.seq, .string c.key, .string c.val, .string c.old]] W (OutI m' r W) := by
  have q := actI (cap := cap) m c hG hT hi hok hv h W hf
  have e : ((i + 1 : Nat) : Int) = (i : Int) + 1 := by omega
  rw [e] at q
  exact q
theorem six_cells {W : World} {g : Nat} {p q r : Int} {k v o : ByteArray} (h : W.heap[g]? = some (.cells #[.int .i64 p, .int .i64 q, .int .i64 r, .string k, .string v, .string o] 31 (0, 0))) :
    W.cell? ⟨g, 0, none⟩ = some (.int .i64 p) ∧ W.cell? ⟨g, 1, none⟩ = some (.int .i64 q) ∧ W.cell? ⟨g, 2, none⟩ = some (.int .i64 r) ∧ W.cell? ⟨g, 3, none⟩ = some (.string k) ∧ W.cell? ⟨g, 4, none⟩ = some (.string v) ∧ W.cell? ⟨g, 5, none⟩ = some (.string o) :=
  ⟨cell_of_row _ _ 0 _ _ _ h, cell_of_row _ _ 1 _ _ _ h, cell_of_row _ _ 2 _ _ _ h, cell_of_row _ _ 3 _ _ _ h, cell_of_row _ _ 4 _ _ _ h, cell_of_row _ _ 5 _ _ _ h⟩
theorem str_ne {R : ByteArray} {A : Array UInt8} (h : R ≠ ⟨A⟩) : (R.toList == A.toList) = false := by
  refine beq_eq_false_iff_ne.2 fun e => h ?_
  apply Batches.by_inj
  rw [ByteArray.toList_eq] at e
  exact e
theorem cellsPair_sliceB {w : World} {base : Nat} {v : Value} {l : List PairL} (h : w.ownsRow base 48 2 v l.length (cellsPair l)) : ∃ a g cap, v = .slice a l.length cap ∧ PairAt w a g 0 l ∧ (0 < l.length → base ≤ g) := by
  rcases h.2 with ⟨h1, h2⟩ | ⟨g, cap, cur, h1, h2, _⟩
  · exact ⟨none, 0, 0, by rw [h1, h2], ⟨fun q => by omega, fun j hj => by omega⟩, fun q => by omega⟩
  · subst h1; exact ⟨_, g, cap, rfl, cellsPair_own rfl h, fun _ => h2⟩
theorem row_set {w : World} {g : Nat} {C A : Array Value} (hg : w.heap[g]? = some (.cells C 31 (0, 0))) (hs : A.size = C.size) : (w.setRow g A).heap[g]? = some (.cells A 31 (0, 0)) := row_size hg
set_option maxHeartbeats 8000000 in
set_option maxRecDepth 100000 in
theorem lawSes_big {len cap : Nat} {a : Option Addr} (w : World) (h : 1048576 < len) : Calls Tryd.prog 4 #[.slice a len cap] w fun e w' => e = .returned (.bool true) ∧ Below w.heap.size w w' := by
  go_enter Tryd.func4, Tryd.ntmps4
  go_wp2_with (go_at_call 15; refine (big_yes _ _ _ h _).mono ?_; rintro e w1 ⟨rfl, rfl⟩)
  go_ret
  exact ⟨rfl, Below.refl _ _⟩
set_option maxHeartbeats 8000000 in
set_option maxRecDepth 100000 in
theorem lawSes_any {len cap b off : Nat} {a : Option Addr} {z : Nat → Int} (w : World) (hc : Code w.heap.size w a len b off z) : Calls Tryd.prog 4 #[.slice a len cap] w fun e w' => e = .returned (.bool true) ∧ Below w.heap.size w w' := by
  have hl : len ≤ 1048576 := hc.2.1
  have HC : Hid (Code w.heap.size w a len b off z) := hc
  clear hc
  go_enter Tryd.func4, Tryd.ntmps4
  go_wp2_with (go_at_call 15; refine (big_no _ _ _ hl _).mono ?_; rintro e w1 ⟨rfl, rfl⟩)
  refine (talk_any _ HC.out).mono ?_
  rintro e w1 ⟨T, i, m, c, v, rfl, ⟨hT, hi, hcx, ⟨hG, ma, mg, mo, mc, rfl, hp, hn⟩, hb1⟩⟩
  have hA := Acts.act_good (i := i) hG (by omega) (by omega) hcx.ok hcx.val
  have hml : m.length ≤ 60 := by have := hG.len; omega
  obtain ⟨M1, hM1⟩ : ∃ M1, M1 = (act m i c).1 := ⟨_, rfl⟩
  obtain ⟨R, hR⟩ : ∃ R, R = (act m i c).2 := ⟨_, rfl⟩
  have hact : act m i c = (M1, R) := by rw [hM1, hR]
  have hal : M1.length ≤ 60 := by rw [hM1]; have := hA.len; omega
  have HA : Hid (Acts.Good (T + 1) M1) := by rw [hM1]; exact hA
  have HG : Hid (Acts.Good T m) := hG
  have HX : Hid (CmdX c) := hcx
  have HACT : Hid (act m i c = (M1, R)) := hact
  have HAI : Hid (∀ W, PairAt W ma mg mo m → Calls Tryd.prog 11 #[.slice ma m.length mc, .int .i64 (i : Int), .agg #[.int .i64 c.op, .int .i64 c.ses, .int .i64 c.seq, .string c.key, .string c.val, .string c.old]] W (OutI M1 R W)) := fun W hW => actI m c hG (by omega) (by omega) hcx.ok hcx.val hact W hW
  have HAS : Hid (∀ W, PairAt W ma mg mo m → Calls Tryd.prog 8 #[.slice ma m.length mc, .int .i64 (i : Int), .agg #[.int .i64 c.op, .int .i64 c.ses, .int .i64 c.seq, .string c.key, .string c.val, .string c.old]] W (OutT M1 R W)) := fun W hW => by
    have q := specAct_is (i := i) (cap := mc) m c hG (by omega) (by omega) hcx.ok hcx.val ⟨by have := hcx.key; omega, by have := hcx.old; omega⟩ hn W hW
    rw [hact] at q
    exact q
  obtain ⟨W1, hW1⟩ : ∃ W1, W1 = w1.alloc (Obj.cells #[.int .i64 c.op, .int .i64 c.ses, .int .i64 c.seq, .string c.key, .string c.val, .string c.old] 31) := ⟨_, rfl⟩
  obtain ⟨g, hg⟩ : ∃ g, g = w1.heap.size := ⟨_, rfl⟩
  have HXH : Hid (W1.heap[g]? = some (.cells #[.int .i64 c.op, .int .i64 c.ses, .int .i64 c.seq, .string c.key, .string c.val, .string c.old] 31 (0, 0))) := by rw [hW1, hg]; exact heap_alloc_new w1 _
  have HK : Hid (∀ w2, Below W1.heap.size W1 w2 → w2.heap[g]? = some (.cells #[.int .i64 c.op, .int .i64 c.ses, .int .i64 c.seq, .string c.key, .string c.val, .string c.old] 31 (0, 0))) := fun w2 hb => (hb.block _ (Array.getElem?_eq_some_iff.1 HXH.out).1).trans HXH.out
  have HPM : Hid (∀ w2, Below W1.heap.size W1 w2 → PairAt w2 ma mg mo m) := fun w2 hb => (hp.kept (by rw [hW1]; exact (Below.refl _ _).alloc (Nat.le_refl _) _)).kept hb
  have HB1 : Hid (Below w.heap.size w W1) := by rw [hW1]; exact hb1.alloc hb1.size _
  unfold cmdV
  clear hp hn hb1 hcx hG hA hM1 hR hact
  go_upto_region 4 with fail
  rw [← hW1, ← hg]
  clear hW1 hg
  obtain ⟨x0, x1, x2, x3, x4, x5⟩ := six_cells HXH.out
  go_wp2_with fail
  clear x0 x1 x2 x3 x4 x5
  refine Calls.mono (HAI.out W1 (HPM.out _ (Below.refl _ _))) ?_
  rintro e w2 ⟨v2, rfl, hown2, hb2⟩
  obtain ⟨a1, g1, c1, rfl, hat1⟩ := cellsPair_slice hown2
  have HB2 : Hid (Below W1.heap.size W1 w2) := hb2
  have HP2 : Hid (PairAt w2 a1 g1 0 M1) := hat1
  clear hown2 hat1 hb2
  obtain ⟨x0, x1, x2, x3, x4, x5⟩ := six_cells (HK.out _ HB2.out)
  go_wp2_with fail
  clear x0 x1 x2 x3 x4 x5
  refine Calls.mono (HAS.out w2 (HPM.out _ HB2.out)) ?_
  rintro e w3 ⟨a3, g3, o3, c3, rfl, hp3, hb3, _⟩
  have HB3 : Hid (Below W1.heap.size W1 w3) := HB2.out.trans (hb3.mono HB2.out.size)
  have HP3 : Hid (PairAt w3 a1 g1 0 M1) := HP2.out.kept hb3
  have HQ3 : Hid (PairAt w3 a3 g3 o3 M1) := hp3
  clear hp3 hb3 HP2 HB2 HAS HAI
  go_wp2_with fail
  refine Calls.mono (sameMap_yes M1 (by omega) w3 HP3.out HQ3.out) ?_
  rintro e w4 ⟨rfl, hb4⟩
  have HB4 : Hid (Below W1.heap.size W1 w4) := HB3.out.trans (hb4.mono HB3.out.size)
  have HP4 : Hid (PairAt w4 a1 g1 0 M1) := HP3.out.kept hb4
  clear hb4 HP3 HB3 HQ3
  go_wp2_with fail
  refine Calls.mono (good_mapOk HA.out (by omega) w4 HP4.out) ?_
  rintro e w5 ⟨rfl, hb5⟩
  have HB5 : Hid (Below W1.heap.size W1 w5) := HB4.out.trans (hb5.mono HB4.out.size)
  have HP5 : Hid (PairAt w5 a1 g1 0 M1) := HP4.out.kept hb5
  clear hb5 HP4 HB4
  obtain ⟨OP, hOP⟩ : ∃ OP, OP = c.op := ⟨_, rfl⟩
  have HOP : Hid (OP = c.op) := hOP
  have x0 := cell_of_row _ _ 0 _ _ _ (HK.out _ HB5.out)
  simp only [← hOP] at x0
  clear hOP
  by_cases h1 : OP = 1
  · have hb1 : (OP == (1 : Int)) = true := by simpa using h1
    have hop1 : c.op = 1 := by rw [← HOP.out]; exact h1
    have hr : R = openR ++ decS (nextN m) := by
      have q := Acts.act_open (m := m) (i := i) hop1
      rw [HACT.out] at q
      exact q
    have hnx := (Acts.nextN_in (by omega) HG.out.enc).2.1
    have hds := Acts.decS_size (show nextN m ≤ 99 by omega)
    have hsz : R.size = 5 + (decS (nextN m)).size := by rw [hr, ByteArray.size_append]; rfl
    have hex : R.extract 0 5 = ⟨#[111, 112, 101, 110, 32]⟩ := by
      rw [hr]
      exact open_cut _
    have HBG : Hid (∀ W, Calls Tryd.prog 19 #[.string ⟨#[111, 112, 101, 110, 32]⟩, .string R] W fun e w' => e = .returned (.bool true) ∧ w' = W) := fun W => begins_yes R (by omega) (by omega) hex W
    clear hr hnx hds hsz hex
    go_wp2_with fail
    refine Calls.mono (HBG.out _) ?_
    rintro e w6 ⟨rfl, hw6⟩
    subst hw6
    go_wp2
    go_ret
    exact ⟨rfl, HB1.out.trans (HB5.out.mono HB1.out.size)⟩
  · have hb1 : (OP == (1 : Int)) = false := by simpa using h1
    go_upto_region 10 with fail
    clear x0
    have hop1 : c.op ≠ 1 := by rw [← HOP.out]; exact h1
    have HA77 : Hid (∀ W, PairAt W a1 g1 0 M1 → Calls Tryd.prog 11 #[.slice a1 M1.length c1, .int .i64 ((i : Int) + 1), .agg #[.int .i64 c.op, .int .i64 77, .int .i64 c.seq, .string c.key, .string c.val, .string c.old]] W (OutI M1 ⟨#[101, 120, 112, 105, 114, 101, 100]⟩ W)) := fun W hW => actI1 M1 ⟨c.op, 77, c.seq, c.key, c.val, c.old⟩ HA.out (by omega) (by omega) (Acts.okC_of HX.out.ok hop1 ⟨by omega, by omega⟩ (Cmds.fits HX.out.ok).seq) HX.out.val (Acts.gone_77 HA.out (by omega) c hop1 (i + 1)) W hW
    obtain ⟨W6, hW6⟩ : ∃ W6, W6 = w5.alloc (Obj.cells #[.int .i64 c.op, .int .i64 c.ses, .int .i64 c.seq, .string c.key, .string c.val, .string c.old] 31) := ⟨_, rfl⟩
    obtain ⟨yb, hyb⟩ : ∃ yb, yb = w5.heap.size := ⟨_, rfl⟩
    have HY6 : Hid (W6.heap[yb]? = some (.cells #[.int .i64 c.op, .int .i64 c.ses, .int .i64 c.seq, .string c.key, .string c.val, .string c.old] 31 (0, 0))) := by rw [hW6, hyb]; exact heap_alloc_new w5 _
    have hb6 : Below w5.heap.size w5 W6 := by rw [hW6]; exact (Below.refl _ _).alloc (Nat.le_refl _) _
    have HB6 : Hid (Below W1.heap.size W1 W6) := HB5.out.trans (hb6.mono HB5.out.size)
    have HP6 : Hid (PairAt W6 a1 g1 0 M1) := HP5.out.kept hb6
    have HNY : Hid (0 < M1.length → g1 ≠ yb) := fun hl => by have := HP5.out.lt hl; omega
    have HYW : Hid (W1.heap.size ≤ yb) := by have := HB5.out.size; show _ ≤ _; omega
    obtain ⟨x0, x1, x2, x3, x4, x5⟩ := six_cells (HK.out _ HB5.out)
    go_upto_region 11 with fail
    rw [← hW6, ← hyb]
    clear hW6 hyb hb6 x0 x1 x2 x3 x4 x5 HP5
    obtain ⟨y0, y1, y2, y3, y4, y5⟩ := six_cells HY6.out
    have yf1 := frozen_of_row _ _ 1 _ _ HY6.out
    have hy7 := heap_setCell_same W6 yb 1 _ 31 (.int .i64 77) HY6.out
    simp at hy7
    obtain ⟨W7, hW7⟩ : ∃ W7, W7 = W6.setCell ⟨yb, 1, none⟩ (.int .i64 77) := ⟨_, rfl⟩
    rw [← hW7] at hy7
    have HY7 : Hid (W7.heap[yb]? = some (.cells #[.int .i64 c.op, .int .i64 77, .int .i64 c.seq, .string c.key, .string c.val, .string c.old] 31 (0, 0))) := hy7
    have HP7 : Hid (PairAt W7 a1 g1 0 M1) := by rw [hW7]; exact pair_set HP6.out HNY.out 1 _
    have HB7 : Hid (Below W1.heap.size W1 W7) := by rw [hW7]; exact HB6.out.setCell HYW.out _
    go_upto_region 12 with fail
    rw [← hW7]
    clear hW7 hy7 yf1 y0 y1 y2 y3 y4 y5 HY6 HP6 HB6
    obtain ⟨y0, y1, y2, y3, y4, y5⟩ := six_cells HY7.out
    go_wp2_with fail
    clear y0 y1 y2 y3 y4 y5
    refine Calls.mono (HA77.out W7 HP7.out) ?_
    rintro e w8 ⟨v8, rfl, hown8, hb8⟩
    obtain ⟨a4, g4, c4, rfl, hat8⟩ := cellsPair_slice hown8
    have HB8 : Hid (Below W1.heap.size W1 w8) := HB7.out.trans (hb8.mono HB7.out.size)
    have HP8 : Hid (PairAt w8 a1 g1 0 M1) := HP7.out.kept hb8
    have HQ8 : Hid (PairAt w8 a4 g4 0 M1) := hat8
    have HY8 : Hid (w8.heap[yb]? = some (.cells #[.int .i64 c.op, .int .i64 77, .int .i64 c.seq, .string c.key, .string c.val, .string c.old] 31 (0, 0))) := (hb8.block _ (Array.getElem?_eq_some_iff.1 HY7.out).1).trans HY7.out
    clear hown8 hat8 hb8 HP7 HB7 HY7 HA77
    go_wp2_with fail
    refine Calls.mono (sameMap_yes M1 (by omega) w8 HQ8.out HP8.out) ?_
    rintro e w9 ⟨rfl, hb9⟩
    have HB9 : Hid (Below W1.heap.size W1 w9) := HB8.out.trans (hb9.mono HB8.out.size)
    have HP9 : Hid (PairAt w9 a1 g1 0 M1) := HP8.out.kept hb9
    have HY9 : Hid (w9.heap[yb]? = some (.cells #[.int .i64 c.op, .int .i64 77, .int .i64 c.seq, .string c.key, .string c.val, .string c.old] 31 (0, 0))) := (hb9.block _ (Array.getElem?_eq_some_iff.1 HY8.out).1).trans HY8.out
    clear hb9 HP8 HB8 HQ8 HY8
    have hop1 : c.op ≠ 1 := by rw [← HOP.out]; exact h1
    go_upto_region 15 with fail
    have hlft : R = expR ∨ R = staleR ∨ R = gapR → M1 = m := fun hr => by
      have q := Acts.act_left HG.out (by omega) (show i ≤ 99 by omega) HX.out.ok HX.out.val hop1 (by rw [HACT.out]; exact hr)
      rw [HACT.out] at q
      exact q
    have hhrd : ¬ (R = expR ∨ R = staleR ∨ R = gapR) → Acts.Heard M1 c R := fun hr => by
      have q := Acts.act_heard HG.out (by omega) (show i ≤ 99 by omega) HX.out.ok HX.out.val hop1 (by rw [HACT.out]; exact hr)
      rw [HACT.out] at q
      exact q
    by_cases hr : R = expR ∨ R = staleR ∨ R = gapR
    · rcases hr with hr | hr | hr
      · replace hr : R = ⟨#[101, 120, 112, 105, 114, 101, 100]⟩ := hr
        have hm : M1 = m := hlft (Or.inl hr)
        have HSM : Hid (∀ W, PairAt W a1 g1 0 M1 → PairAt W ma mg mo m → Calls Tryd.prog 17 #[.slice a1 M1.length c1, .slice ma m.length mc] W fun e w' => e = .returned (.bool true) ∧ Below W.heap.size W w') := fun W p q => by
          have h := sameMap_yes (cap := c1) (cap' := mc) M1 (by omega) W p (by rw [hm]; exact q)
          rw [hm] at h ⊢
          exact h
        clear hlft hhrd hm
        subst hr
        go_wp2_with fail
        refine Calls.mono (HSM.out _ HP9.out (HPM.out _ HB9.out)) ?_
        rintro e w10 ⟨rfl, hb10⟩
        have HF : Hid (Below w.heap.size w w10) := (HB1.out.trans (HB9.out.mono HB1.out.size)).trans (hb10.mono (HB1.out.trans (HB9.out.mono HB1.out.size)).size)
        clear hb10
        go_wp2
        go_ret
        exact ⟨rfl, HF.out⟩
      · replace hr : R = ⟨#[115, 116, 97, 108, 101]⟩ := hr
        have hm : M1 = m := hlft (Or.inr (Or.inl hr))
        have HSM : Hid (∀ W, PairAt W a1 g1 0 M1 → PairAt W ma mg mo m → Calls Tryd.prog 17 #[.slice a1 M1.length c1, .slice ma m.length mc] W fun e w' => e = .returned (.bool true) ∧ Below W.heap.size W w') := fun W p q => by
          have h := sameMap_yes (cap := c1) (cap' := mc) M1 (by omega) W p (by rw [hm]; exact q)
          rw [hm] at h ⊢
          exact h
        clear hlft hhrd hm
        subst hr
        go_wp2_with fail
        refine Calls.mono (HSM.out _ HP9.out (HPM.out _ HB9.out)) ?_
        rintro e w10 ⟨rfl, hb10⟩
        have HF : Hid (Below w.heap.size w w10) := (HB1.out.trans (HB9.out.mono HB1.out.size)).trans (hb10.mono (HB1.out.trans (HB9.out.mono HB1.out.size)).size)
        clear hb10
        go_wp2
        go_ret
        exact ⟨rfl, HF.out⟩
      · replace hr : R = ⟨#[103, 97, 112]⟩ := hr
        have hm : M1 = m := hlft (Or.inr (Or.inr hr))
        have HSM : Hid (∀ W, PairAt W a1 g1 0 M1 → PairAt W ma mg mo m → Calls Tryd.prog 17 #[.slice a1 M1.length c1, .slice ma m.length mc] W fun e w' => e = .returned (.bool true) ∧ Below W.heap.size W w') := fun W p q => by
          have h := sameMap_yes (cap := c1) (cap' := mc) M1 (by omega) W p (by rw [hm]; exact q)
          rw [hm] at h ⊢
          exact h
        clear hlft hhrd hm
        subst hr
        go_wp2_with fail
        refine Calls.mono (HSM.out _ HP9.out (HPM.out _ HB9.out)) ?_
        rintro e w10 ⟨rfl, hb10⟩
        have HF : Hid (Below w.heap.size w w10) := (HB1.out.trans (HB9.out.mono HB1.out.size)).trans (hb10.mono (HB1.out.trans (HB9.out.mono HB1.out.size)).size)
        clear hb10
        go_wp2
        go_ret
        exact ⟨rfl, HF.out⟩
    · have e1 : (R.toList == [101, 120, 112, 105, 114, 101, 100]) = false := str_ne (A := #[101, 120, 112, 105, 114, 101, 100]) fun h => hr (Or.inl h)
      have e2 : (R.toList == [115, 116, 97, 108, 101]) = false := str_ne (A := #[115, 116, 97, 108, 101]) fun h => hr (Or.inr (Or.inl h))
      have e3 : (R.toList == [103, 97, 112]) = false := str_ne (A := #[103, 97, 112]) fun h => hr (Or.inr (Or.inr h))
      have hh := hhrd hr
      have F := Cmds.fits HX.out.ok
      have hsq0 := F.seq.1
      have hsq1 := HX.out.seq
      have HAG : Hid (∀ W, PairAt W a1 g1 0 M1 → Calls Tryd.prog 11 #[.slice a1 M1.length c1, .int .i64 ((i : Int) + 1), .agg #[.int .i64 c.op, .int .i64 c.ses, .int .i64 c.seq, .string c.key, .string c.val, .string c.old]] W (OutI M1 R W)) := fun W hW => actI1 M1 c HA.out (by omega) (by omega) HX.out.ok HX.out.val (Acts.heard_again hh hop1 (i + 1)) W hW
      have HAP : Hid (∀ W, PairAt W a1 g1 0 M1 → Calls Tryd.prog 11 #[.slice a1 M1.length c1, .int .i64 ((i : Int) + 1), .agg #[.int .i64 c.op, .int .i64 c.ses, .int .i64 (c.seq + 2), .string c.key, .string c.val, .string c.old]] W (OutI M1 ⟨#[103, 97, 112]⟩ W)) := fun W hW => actI1 M1 ⟨c.op, c.ses, c.seq + 2, c.key, c.val, c.old⟩ HA.out (by omega) (by omega) (Acts.okC_of HX.out.ok hop1 F.ses ⟨by omega, by omega⟩) HX.out.val (Acts.heard_gap hh hop1 (i + 1)) W hW
      have HAL : Hid (0 ≤ c.seq - 1 → ∀ W, PairAt W a1 g1 0 M1 → Calls Tryd.prog 11 #[.slice a1 M1.length c1, .int .i64 ((i : Int) + 1), .agg #[.int .i64 c.op, .int .i64 c.ses, .int .i64 (c.seq - 1), .string c.key, .string c.val, .string c.old]] W (OutI M1 ⟨#[115, 116, 97, 108, 101]⟩ W)) := fun h0 W hW => actI1 M1 ⟨c.op, c.ses, c.seq - 1, c.key, c.val, c.old⟩ HA.out (by omega) (by omega) (Acts.okC_of HX.out.ok hop1 F.ses ⟨by omega, by omega⟩) HX.out.val (Acts.heard_stale hh hop1 (i + 1)) W hW
      have hyl : yb < w9.heap.size := (Array.getElem?_eq_some_iff.1 HY9.out).1
      clear hlft hhrd hr hh F
      go_upto_region 17 with fail
      clear e1 e2 e3
      obtain ⟨x0, x1, x2, x3, x4, x5⟩ := six_cells (HK.out _ HB9.out)
      go_wp2_with fail
      clear x0 x1 x2 x3 x4 x5
      refine Calls.mono (HAG.out w9 HP9.out) ?_
      rintro e w10 ⟨v10, rfl, hown10, hb10⟩
      obtain ⟨a5, g5, c5, rfl, hat5, hbs5⟩ := cellsPair_sliceB hown10
      have HB10 : Hid (Below W1.heap.size W1 w10) := HB9.out.trans (hb10.mono HB9.out.size)
      have HP10 : Hid (PairAt w10 a1 g1 0 M1) := HP9.out.kept hb10
      have HQ10 : Hid (PairAt w10 a5 g5 0 M1) := hat5
      have HN5 : Hid (0 < M1.length → g5 ≠ yb) := fun hl => by have := hbs5 hl; omega
      have HY10 : Hid (w10.heap[yb]? = some (.cells #[.int .i64 c.op, .int .i64 77, .int .i64 c.seq, .string c.key, .string c.val, .string c.old] 31 (0, 0))) := (hb10.block _ hyl).trans HY9.out
      clear hown10 hat5 hbs5 hb10 HP9 HB9 HY9 HAG hyl
      have HXX : Hid (w10.heap[g]? = some (.cells #[.int .i64 c.op, .int .i64 c.ses, .int .i64 c.seq, .string c.key, .string c.val, .string c.old] 31 (0, 0))) := HK.out _ HB10.out
      obtain ⟨W11, hW11⟩ : ∃ W11, W11 = w10.setRow yb #[.int .i64 c.op, .int .i64 c.ses, .int .i64 c.seq, .string c.key, .string c.val, .string c.old] := ⟨_, rfl⟩
      have HY11 : Hid (W11.heap[yb]? = some (.cells #[.int .i64 c.op, .int .i64 c.ses, .int .i64 c.seq, .string c.key, .string c.val, .string c.old] 31 (0, 0))) := by rw [hW11]; exact row_set HY10.out rfl
      have HB11 : Hid (Below W1.heap.size W1 W11) := by rw [hW11]; exact HB10.out.grown (grown_setRow w10 yb _) HB10.out.size (fun k e => by cases e; exact HYW.out)
      have HP11 : Hid (PairAt W11 a1 g1 0 M1) := by rw [hW11]; exact pair_setRow HP10.out HNY.out _
      have HQ11 : Hid (PairAt W11 a5 g5 0 M1) := by rw [hW11]; exact pair_setRow HQ10.out HN5.out _
      go_upto_region 19 with (first | (refine wpList_loadA Tryd.isAgg31' Tryd.sizeOf31' rfl _ rfl g #[.int .i64 c.op, .int .i64 c.ses, .int .i64 c.seq, .string c.key, .string c.val, .string c.old] 31 rfl HXX.out rfl ?_) | (refine wpList_storeA Tryd.sizeOf31' rfl _ _ rfl yb #[.int .i64 c.op, .int .i64 c.ses, .int .i64 c.seq, .string c.key, .string c.val, .string c.old] #[.int .i64 c.op, .int .i64 77, .int .i64 c.seq, .string c.key, .string c.val, .string c.old] 31 rfl rfl HY10.out rfl rfl (six_one _ _ _ _ _ _) ?_) | fail)
      rw [← hW11]
      clear hW11 HY10 HB10 HP10 HQ10 HXX
      have x2 := cell_of_row _ _ 2 _ _ _ (HK.out _ HB11.out)
      have y2 := cell_of_row _ _ 2 _ _ _ HY11.out
      have yf2 := frozen_of_row _ _ 2 _ _ HY11.out
      simp at x2 y2
      have hy12 := heap_setCell_same W11 yb 2 _ 31 (.int .i64 (c.seq + 2)) HY11.out
      simp at hy12
      obtain ⟨W12, hW12⟩ : ∃ W12, W12 = W11.setCell ⟨yb, 2, none⟩ (.int .i64 (c.seq + 2)) := ⟨_, rfl⟩
      rw [← hW12] at hy12
      have HY12 : Hid (W12.heap[yb]? = some (.cells #[.int .i64 c.op, .int .i64 c.ses, .int .i64 (c.seq + 2), .string c.key, .string c.val, .string c.old] 31 (0, 0))) := hy12
      have HP12 : Hid (PairAt W12 a1 g1 0 M1) := by rw [hW12]; exact pair_set HP11.out HNY.out 2 _
      have HQ12 : Hid (PairAt W12 a5 g5 0 M1) := by rw [hW12]; exact pair_set HQ11.out HN5.out 2 _
      have HB12 : Hid (Below W1.heap.size W1 W12) := by rw [hW12]; exact HB11.out.setCell HYW.out _
      go_upto_region 20 with fail
      rw [← hW12]
      clear hW12 hy12 x2 y2 yf2 HY11 HP11 HQ11 HB11
      obtain ⟨y0, y1, y2, y3, y4, y5⟩ := six_cells HY12.out
      go_wp2_with fail
      clear y0 y1 y2 y3 y4 y5
      refine Calls.mono (HAP.out W12 HP12.out) ?_
      rintro e w13 ⟨v13, rfl, hown13, hb13⟩
      obtain ⟨a6, g6, c6, rfl, hat6, hbs6⟩ := cellsPair_sliceB hown13
      have hyl : yb < W12.heap.size := (Array.getElem?_eq_some_iff.1 HY12.out).1
      have HB13 : Hid (Below W1.heap.size W1 w13) := HB12.out.trans (hb13.mono HB12.out.size)
      have HP13 : Hid (PairAt w13 a1 g1 0 M1) := HP12.out.kept hb13
      have HQ13 : Hid (PairAt w13 a5 g5 0 M1) := HQ12.out.kept hb13
      have HR13 : Hid (PairAt w13 a6 g6 0 M1) := hat6
      have HN6 : Hid (0 < M1.length → g6 ≠ yb) := fun hl => by have := hbs6 hl; omega
      have HY13 : Hid (w13.heap[yb]? = some (.cells #[.int .i64 c.op, .int .i64 c.ses, .int .i64 (c.seq + 2), .string c.key, .string c.val, .string c.old] 31 (0, 0))) := (hb13.block _ hyl).trans HY12.out
      clear hown13 hat6 hbs6 hb13 HP12 HQ12 HB12 HY12 HAP hyl
      have hy14 := heap_setCell_same w13 yb 2 _ 31 (.int .i64 (c.seq - 1)) HY13.out
      simp at hy14
      obtain ⟨W14, hW14⟩ : ∃ W14, W14 = w13.setCell ⟨yb, 2, none⟩ (.int .i64 (c.seq - 1)) := ⟨_, rfl⟩
      rw [← hW14] at hy14
      have HY14 : Hid (W14.heap[yb]? = some (.cells #[.int .i64 c.op, .int .i64 c.ses, .int .i64 (c.seq - 1), .string c.key, .string c.val, .string c.old] 31 (0, 0))) := hy14
      have HP14 : Hid (PairAt W14 a1 g1 0 M1) := by rw [hW14]; exact pair_set HP13.out HNY.out 2 _
      have HQ14 : Hid (PairAt W14 a5 g5 0 M1) := by rw [hW14]; exact pair_set HQ13.out HN5.out 2 _
      have HR14 : Hid (PairAt W14 a6 g6 0 M1) := by rw [hW14]; exact pair_set HR13.out HN6.out 2 _
      have HB14 : Hid (Below W1.heap.size W1 W14) := by rw [hW14]; exact HB13.out.setCell HYW.out _
      have x2 := cell_of_row _ _ 2 _ _ _ (HK.out _ HB13.out)
      have y2 := cell_of_row _ _ 2 _ _ _ HY13.out
      have yf2 := frozen_of_row _ _ 2 _ _ HY13.out
      simp at x2 y2
      go_upto_region 22 with fail
      rw [← hW14]
      clear hW14 hy14 x2 y2 yf2 HY13 HP13 HQ13 HR13 HB13
      obtain ⟨y0, y1, y2, y3, y4, y5⟩ := six_cells HY14.out
      by_cases h0 : c.seq - 1 < 0
      · have HF : Hid (Below w.heap.size w W14) := HB1.out.trans (HB14.out.mono HB1.out.size)
        clear y0 y1 y3 y4 y5
        go_wp2
        go_ret
        exact ⟨rfl, HF.out⟩
      · go_wp2_with fail
        clear y0 y1 y2 y3 y4 y5
        refine Calls.mono (HAL.out (by omega) W14 HP14.out) ?_
        rintro e w15 ⟨v15, rfl, hown15, hb15⟩
        obtain ⟨a7, g7, c7, rfl, hat7⟩ := cellsPair_slice hown15
        have HB15 : Hid (Below W1.heap.size W1 w15) := HB14.out.trans (hb15.mono HB14.out.size)
        have HP15 : Hid (PairAt w15 a1 g1 0 M1) := HP14.out.kept hb15
        have HQ15 : Hid (PairAt w15 a5 g5 0 M1) := HQ14.out.kept hb15
        have HR15 : Hid (PairAt w15 a6 g6 0 M1) := HR14.out.kept hb15
        have HS15 : Hid (PairAt w15 a7 g7 0 M1) := hat7
        clear hown15 hat7 hb15 HP14 HQ14 HR14 HB14 HY14
        go_wp2_with fail
        refine Calls.mono (sameMap_yes M1 (by omega) w15 HQ15.out HP15.out) ?_
        rintro e w16 ⟨rfl, hb16⟩
        have HB16 : Hid (Below W1.heap.size W1 w16) := HB15.out.trans (hb16.mono HB15.out.size)
        have HP16 : Hid (PairAt w16 a1 g1 0 M1) := HP15.out.kept hb16
        have HR16 : Hid (PairAt w16 a6 g6 0 M1) := HR15.out.kept hb16
        have HS16 : Hid (PairAt w16 a7 g7 0 M1) := HS15.out.kept hb16
        clear hb16 HP15 HQ15 HR15 HS15 HB15
        go_wp2_with fail
        refine Calls.mono (sameMap_yes M1 (by omega) w16 HR16.out HP16.out) ?_
        rintro e w17 ⟨rfl, hb17⟩
        have HB17 : Hid (Below W1.heap.size W1 w17) := HB16.out.trans (hb17.mono HB16.out.size)
        have HP17 : Hid (PairAt w17 a1 g1 0 M1) := HP16.out.kept hb17
        have HS17 : Hid (PairAt w17 a7 g7 0 M1) := HS16.out.kept hb17
        clear hb17 HP16 HR16 HS16 HB16
        go_wp2_with fail
        refine Calls.mono (sameMap_yes M1 (by omega) w17 HS17.out HP17.out) ?_
        rintro e w18 ⟨rfl, hb18⟩
        have HF : Hid (Below w.heap.size w w18) := HB1.out.trans ((HB17.out.trans (hb18.mono HB17.out.size)).mono HB1.out.size)
        clear hb18
        go_wp2
        go_ret
        exact ⟨rfl, HF.out⟩
end Go.Proofs.YtpedpdgkbmpfjaaDoor
