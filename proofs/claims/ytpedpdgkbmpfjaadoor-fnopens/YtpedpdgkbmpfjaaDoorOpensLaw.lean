/- The law of opens, walked. Made by program. -/
import Derived.Test.YtpedpdgkbmpfjaaDoorSpecTalks
import Derived.Test.YtpedpdgkbmpfjaaDoorSameAny
namespace Go.Proofs.YtpedpdgkbmpfjaaDoor
open Go.RowKit
open Cmds (okC)
open Acts (sess act nextN decS openR expR staleR gapR putR kkey get)
set_option linter.unusedVariables false
set_option linter.unusedSimpArgs false

/-- One text put behind a row of texts of the call's own. -/
theorem wpList_appendText {w : World} {ops : Array Oper} {rest : List Oper} {o : Oper} {act : Act} {Q : Exit → Act → World → Prop} (hgd : o.guard = none) (s x : Operand)
    (ho : o.op = .call { callee := .builtin .append, args := #[s, x], argTypes := #[44, 44] }) (base : Nat) (v : Value) (n : Nat) (xs : List Value) (hs : act.eval s = v) (hown : w.ownsRow base 9 1 v n xs)
    (g cap : Nat) (T : ByteArray) (hx : act.eval x = .slice (some ⟨g, 0, none⟩) 1 cap) (hf : w.cell? ⟨g, 0, none⟩ = some (.string T)) (h63 : n ≤ 1000) (hbase : base ≤ w.heap.size)
    (h : ∀ v' w', w'.ownsRow base 9 1 v' (n + 1) (xs ++ [.string T]) → w.grownBy w' v.ownBlock → wpList Tryd.prog ops Q rest (act.put o.dst v') w') : wpList Tryd.prog ops Q (o :: rest) act w := by
  obtain ⟨i0, hi, hz0, hz1, hz2⟩ := info_parts Tryd.info9
  refine wpList_append_own w hgd s x 44 ho base 9 i0 (.string ByteArray.empty) 1 16 Tryd.underlying44 hi hz0 hz1 hz2 rfl (by decide) v n xs hs hown ⟨g, 0, none⟩ 1 cap [.string T] hx rfl ?_ (fun u hu => by simp at hu; subst hu; rfl) (by simp only [maxLen]; omega) (by omega) hbase ?_
  · intro j u hu
    match j, hu with
    | 0, hu => cases hu; exact hf
  · intro v' w' h1 h2 _
    exact h v' w' h1 h2
theorem ownE_not48 {w : World} {base g n k z : Nat} {t : TypeId} {v : Value} {xs : List Value} (ht : t ≠ 48) (h : w.ownsRow base t z v k xs) (hr : R48 w g n) (hn : 0 < n) : v.ownBlock ≠ some g := by
  rcases h.2 with ⟨h1, _⟩ | ⟨q, cap, cur, h1, _, h3, _⟩
  · rw [h1]; intro e; cases e
  · rw [h1]
    intro e
    have e2 : q = g := Option.some.inj e
    subst e2
    obtain ⟨cur', h4⟩ := hr hn
    rw [h3] at h4
    cases h4
    exact ht rfl
theorem ownE_low {w : World} {base k q z : Nat} {t : TypeId} {v : Value} {xs : List Value} (h : w.ownsRow base t z v k xs) (e : v.ownBlock = some q) : base ≤ q := by
  rcases h.2 with ⟨h1, _⟩ | ⟨q', cap, cur, h1, h2, _⟩
  · rw [h1] at e; cases e
  · rw [h1] at e
    have e2 : q' = q := Option.some.inj e
    omega
theorem cm_grownO {w w' : World} {r : Option Nat} {a : Option Addr} {g off : Nat} {l : List CmdL} (h : CmAt w a g off l) (hg : w.grownBy w' r) (hne : 0 < l.length → r ≠ some g) : CmAt w' a g off l := by
  refine ⟨h.1, fun j hj => ?_⟩
  have hl := h.lt (by omega)
  have e0 : w.heap[g]? = some w.heap[g] := by simp [hl]
  have e : w'.heap[g]? = w.heap[g]? := by rw [grown_keep' e0 hg (hne (by omega)), e0]
  obtain ⟨a1, a2, a3, a4, a5, a6⟩ := h.2 j hj
  refine ⟨?_, ?_, ?_, ?_, ?_, ?_⟩
  · rw [World.cell?_of_block e]; exact a1
  · rw [World.cell?_of_block e]; exact a2
  · rw [World.cell?_of_block e]; exact a3
  · rw [World.cell?_of_block e]; exact a4
  · rw [World.cell?_of_block e]; exact a5
  · rw [World.cell?_of_block e]; exact a6
def cellsT (O : List ByteArray) : List Value := O.map .string
theorem cellsT_cell {w : World} {base q n cap : Nat} {O : List ByteArray} (h : w.ownsRow base 9 1 (.slice (some ⟨q, 0, none⟩) n cap) n (cellsT O)) {j : Nat} (hj : j < O.length) (hn : O.length = n) : w.cell? ⟨q, j, none⟩ = some (.string O[j]) := by
  rw [h.cellAt j (by omega)]
  simp [cellsT, hj]
/-- What the law holds between its rounds. -/
structure LawO (w1 : World) (la : Option Addr) (lg : Nat) (cs : List CmdL) (k : Nat) (V U : Value) (O : List ByteArray) (W : World) : Prop where
  st : ∃ m, StateV k W V m ∧ ∀ s ∈ O, ∃ n, s = openR ++ decS n ∧ n < nextN m
  cms : CmAt W la lg 0 cs
  own : W.ownsRow w1.heap.size 9 1 U O.length (cellsT O)
  len : O.length ≤ k
  bel : Below w1.heap.size w1 W
theorem LawO.below {w1 W W' : World} {lg k : Nat} {la : Option Addr} {cs : List CmdL} {V U : Value} {O : List ByteArray} (h : LawO w1 la lg cs k V U O W) (hb : Below W.heap.size W W') : LawO w1 la lg cs k V U O W' := by
  obtain ⟨⟨m, ⟨hG, a, g, o, c, rfl, hp, hn, hr⟩, hO⟩, hc, ho, hl, hbl⟩ := h
  exact ⟨⟨m, ⟨hG, a, g, o, c, rfl, hp.kept hb, hn, hr.kept hb⟩, hO⟩, hc.kept hb, own_kept ho hb, hl, hbl.trans (hb.mono hbl.size)⟩
theorem own_some {w : World} {base n c : Nat} {ua : Option Addr} {xs : List Value} (h : w.ownsRow base 9 1 (.slice ua n c) n xs) (hn : 0 < n) : ∃ q, ua = some ⟨q, 0, none⟩ := by
  rcases h.2 with ⟨_, h2⟩ | ⟨q, cap, cur, h1, _⟩
  · omega
  · exact ⟨q, by cases h1; rfl⟩
theorem own_sliceT {w : World} {base n : Nat} {v : Value} {xs : List Value} (h : w.ownsRow base 9 1 v n xs) : ∃ ua c, v = .slice ua n c := by
  rcases h.2 with ⟨h1, h2⟩ | ⟨q, cap, cur, h1, _⟩
  · exact ⟨none, 0, by rw [h1, h2]⟩
  · exact ⟨_, cap, h1⟩
theorem count_step {M : List PairL} {q : Nat} (hq : q < M.length) (hk : 0 < M[q].key.size) : ((M.take (q + 1)).filter Acts.isS).length = ((M.take q).filter Acts.isS).length + (if M[q].key[0]'hk = 115 then 1 else 0) := by
  have e : M.take (q + 1) = M.take q ++ [M[q]] := by rw [List.take_append_getElem]
  have h1 : Acts.isS M[q] = decide (M[q].key[0]'hk = 115) := by
    unfold Acts.isS
    have h2 : (Batches.by_ M[q].key).head? = some (M[q].key[0]'hk) := by
      unfold Batches.by_
      rw [List.head?_eq_getElem?]
      have h3 : 0 < M[q].key.data.toList.length := by rw [Array.length_toList]; exact hk
      rw [List.getElem?_eq_getElem h3]
      rfl
    rw [h2]
    by_cases h : M[q].key[0]'hk = 115
    · rw [h]; rfl
    · rw [decide_eq_false h]
      exact beq_eq_false_iff_ne.2 (fun e => h (Option.some.inj e))
  rw [e, List.filter_append, List.length_append]
  by_cases h : M[q].key[0]'hk = 115
  · rw [if_pos h, List.filter_cons_of_pos (by rw [h1]; exact decide_eq_true h)]; rfl
  · rw [if_neg h, List.filter_cons_of_neg (by rw [h1, decide_eq_false h]; simp)]; rfl
theorem take_le (M : List PairL) (q : Nat) : ((M.take q).filter Acts.isS).length ≤ (M.filter Acts.isS).length := ((List.take_sublist q M).filter _).length_le
set_option maxHeartbeats 8000000 in
set_option maxRecDepth 100000 in
theorem lawOpens_big {len cap : Nat} {a : Option Addr} (w : World) (h : 1048576 < len) : Calls Tryd.prog 5 #[.slice a len cap] w fun e w' => e = .returned (.bool true) ∧ Below w.heap.size w w' := by
  go_enter Tryd.func5, Tryd.ntmps5
  go_wp2_with (go_at_call 15; refine (big_yes _ _ _ h _).mono ?_; rintro e w1 ⟨rfl, rfl⟩)
  go_ret
  exact ⟨rfl, Below.refl _ _⟩
theorem get_call {k g2 c2 : Nat} {M1 : List PairL} {c : CmdL} {a2 : Option Addr} (hG : Acts.Good k M1) (hk : k ≤ 30) (hv : get M1 (kkey c.key) = some c.val) (W : World) (hW : PairAt W a2 g2 0 M1) :
    Calls Tryd.prog 21 #[.slice a2 M1.length c2, .string ((⟨#[107]⟩ : ByteArray) ++ c.key)] W fun e w' => e = .returned (.tuple #[.string c.val, .bool true]) ∧ Below W.heap.size W w' := by
  have q := getR_get (hG.right hk) (kkey c.key)
  rw [hv] at q
  exact specGet_any M1 (by have := hG.len; omega) (good_small hG) (kkey c.key) c.val true q W hW
set_option maxHeartbeats 16000000 in
set_option maxRecDepth 100000 in
theorem lawOpens_any {len cap b off : Nat} {a : Option Addr} {z : Nat → Int} (w : World) (hc : Code w.heap.size w a len b off z) : Calls Tryd.prog 5 #[.slice a len cap] w fun e w' => e = .returned (.bool true) ∧ Below w.heap.size w w' := by
  have hl : len ≤ 1048576 := hc.2.1
  have HC : Hid (Code w.heap.size w a len b off z) := hc
  clear hc
  go_enter Tryd.func5, Tryd.ntmps5
  go_wp2_with (go_at_call 15; refine (big_no _ _ _ hl _).mono ?_; rintro e w1 ⟨rfl, rfl⟩)
  refine (talks_any _ HC.out).mono ?_
  rintro e w1 ⟨v, cs, rfl, hown, hcl, hcx, hb1⟩
  obtain ⟨la, lg, lc, rfl, hat⟩ := cellsCm_slice hown
  have HCX : Hid (∀ c ∈ cs, CmdX c) := hcx
  have HB1 : Hid (Below w.heap.size w w1) := hb1
  have HL1 : Hid (CmAt w1 la lg 0 cs) := hat
  have HLG : Hid (0 < cs.length → lg < w1.heap.size) := fun hl => hat.lt hl
  obtain ⟨W2, hW2⟩ : ∃ W2, W2 = (w1.alloc (Obj.cells #[] 48)).alloc (Obj.cells #[] 9) := ⟨_, rfl⟩
  have hbb : Below w1.heap.size w1 W2 := by rw [hW2]; exact two_bel _ _
  have HF2 : Hid (LawO w1 la lg cs 0 (.slice (some ⟨w1.heap.size, 0, none⟩) 0 0) (.slice (some ⟨w1.heap.size + 1, 0, none⟩) 0 0) [] W2) := by
    have e : (w1.alloc (Obj.cells #[] 48)).heap.size = w1.heap.size + 1 := by simp
    have q := heap_alloc_new (w1.alloc (Obj.cells #[] 48)) (Obj.cells #[] 9)
    rw [e, ← hW2] at q
    exact ⟨⟨[], StateV.nil rfl, fun s h => by cases h⟩, hat.kept hbb, ⟨rfl, .inr ⟨w1.heap.size + 1, 0, #[], rfl, by omega, q, Nat.le_refl _, by decide, rfl, rfl⟩⟩, Nat.le_refl _, hbb⟩
  clear hown hcx hb1 hat hbb
  go_upto_region 6 with fail
  rw [← hW2]
  clear hW2
  go_wp2_with fail
  go_loopw [6, 4, 5] (fun i v u wr => ∃ (k : Nat) (V U : Value) (O : List ByteArray), k ≤ cs.length ∧ i = .int .i64 (k : Int) ∧ v = V ∧ U = u ∧ LawO w1 la lg cs k V U O wr)
    (fun i _ _ _ => cs.length - (intOf i).toNat)
  case atStart => exact ⟨0, _, _, [], Nat.zero_le _, rfl, rfl, rfl, HF2.out⟩
  case round =>
    obtain ⟨k, V, U, O, hk, rfl, rfl, rfl, hst⟩ := hrel
    obtain ⟨⟨m, ⟨hG, ma, mg, mo, mc, rfl, hp, hn, hr⟩, hO⟩, hcm, hown, hol, hbl⟩ := hst
    obtain ⟨ua, uc, rfl⟩ := own_sliceT hown
    have HBL : Hid (Below w1.heap.size w1 wr) := hbl
    have HP : Hid (PairAt wr ma mg mo m) := hp
    have HO : Hid (∀ s ∈ O, ∃ n, s = openR ++ decS n ∧ n < nextN m) := hO
    have HOW : Hid (wr.ownsRow w1.heap.size 9 1 (.slice ua O.length uc) O.length (cellsT O)) := hown
    have HG : Hid (Acts.Good k m) := hG
    have HCM : Hid (CmAt wr la lg 0 cs) := hcm
    by_cases hlt : k < cs.length
    · have hkk : (k : Int) < (cs.length : Int) := by omega
      have hk0 : (0 : Int) ≤ (k : Int) := by omega
      have hk9 : (k : Int) + 1 ≤ 100 := by omega
      obtain ⟨c, hc⟩ : ∃ c, c = cs[k] := ⟨_, rfl⟩
      have hx : CmdX c := by rw [hc]; exact HCX.out _ (List.getElem_mem hlt)
      have HX : Hid (CmdX c) := hx
      obtain ⟨c0, c1, c2, c3, c4, c5⟩ := hcm.2 k hlt
      have ea := hcm.1 (by omega)
      subst ea
      have HCE : Hid (c = cs[k]) := hc
      rw [← hc] at c0 c1 c2 c3 c4 c5
      rw [Nat.zero_add] at c0 c1 c2 c3 c4 c5
      have hA := Acts.act_good (i := k + 1) hG (by omega) (by omega) hx.ok hx.val
      obtain ⟨M1, hM1⟩ : ∃ M1, M1 = (act m (k + 1) c).1 := ⟨_, rfl⟩
      obtain ⟨R, hR⟩ : ∃ R, R = (act m (k + 1) c).2 := ⟨_, rfl⟩
      have hact : act m (k + 1) c = (M1, R) := by rw [hM1, hR]
      have hal : M1.length ≤ 60 := by rw [hM1]; have := hA.len; omega
      have HA : Hid (Acts.Good (k + 1) M1) := by rw [hM1]; exact hA
      have HACT : Hid (act m (k + 1) c = (M1, R)) := hact
      have HFEW : Hid ((M1.filter Acts.isS).length ≤ 3) := by show _ ≤ _; rw [Acts.count_s (by omega : k + 1 ≤ 90) M1 HA.out.enc]; exact HA.out.few
      have HNXT : Hid (nextN M1 = if c.op = 1 then nextN m + 1 else nextN m) := by
        have q := Acts.act_next hG (by omega) (show k + 1 ≤ 99 by omega) hx.ok hx.val
        rw [hact] at q
        exact q
      have HCALL : Hid (Calls Tryd.prog 11 #[.slice ma m.length mc, .int .i64 ((k : Int) + 1), .agg #[.int .i64 c.op, .int .i64 c.ses, .int .i64 c.seq, .string c.key, .string c.val, .string c.old]] wr (OutI M1 R wr)) := actI1 m c hG (by omega) (by omega) hx.ok hx.val hact wr hp
      have hmlen : m.length ≤ 60 := by have := hG.len; omega
      clear hc hx hcm hG hA hM1 hR hact hp hn hr hO hown hbl
      go_wp2_with fail
      clear c0 c1 c2 c3 c4 c5
      refine Calls.mono HCALL.out ?_
      rintro e w2 ⟨v2, rfl, hown2, hb2⟩
      obtain ⟨a2, g2, c2, rfl, hat2, hn2, hr2⟩ := cellsPair_sliceN hown2
      have HQ2 : Hid (PairAt w2 a2 g2 0 M1) := hat2
      have HR2 : Hid ((a2 = none → c2 = 0) ∧ R48 w2 g2 M1.length) := ⟨hn2, hr2⟩
      have HCM2 : Hid (CmAt w2 (some ⟨lg, 0, none⟩) lg 0 cs) := HCM.out.kept hb2
      have HOW2 : Hid (w2.ownsRow w1.heap.size 9 1 (.slice ua O.length uc) O.length (cellsT O)) := own_kept HOW.out hb2
      have HM2 : Hid (PairAt w2 ma mg mo m) := HP.out.kept hb2
      have HB2 : Hid (Below w1.heap.size w1 w2) := HBL.out.trans (hb2.mono HBL.out.size)
      clear hown2 hat2 hn2 hr2 hb2 HCALL HCM HOW HP HBL
      obtain ⟨OP, hOP⟩ : ∃ OP, OP = c.op := ⟨_, rfl⟩
      have HOP : Hid (OP = c.op) := hOP
      have d0 := (HCM2.out.2 k hlt).1
      rw [← HCE.out, Nat.zero_add, ← hOP] at d0
      clear hOP
      by_cases h1 : OP = 1
      · have hb1 : (OP == (1 : Int)) = true := by simpa using h1
        have hop1 : c.op = 1 := by rw [← HOP.out]; exact h1
        have hr : R = openR ++ decS (nextN m) := by
          have q := Acts.act_open (m := m) (i := k + 1) hop1
          rw [HACT.out] at q
          exact q
        have HRN : Hid (∀ s ∈ O, s ≠ R) := fun s hs e => by
          obtain ⟨n, e2, hlt2⟩ := HO.out s hs
          rw [e, hr] at e2
          have := Acts.openR_inj e2
          omega
        have HNP : Hid ((R.toList == [112, 117, 116]) = false) := str_ne (A := #[112, 117, 116]) (by rw [hr]; exact Acts.open_ne _)
        have HO2 : Hid (∀ s ∈ O ++ [R], ∃ n, s = openR ++ decS n ∧ n < nextN M1) := fun s hs => by
          have hnx := HNXT.out
          rw [if_pos hop1] at hnx
          rcases List.mem_append.1 hs with q | q
          · obtain ⟨n, e2, hlt2⟩ := HO.out s q
            exact ⟨n, e2, by omega⟩
          · exact ⟨nextN m, by rw [List.mem_singleton.1 q, hr], by omega⟩
        clear hr hop1
        go_wp2_with fail
        go_loopw [10] (fun x w3 => ∃ q : Nat, q ≤ O.length ∧ x = .int .i64 (q : Int) ∧ Below w2.heap.size w2 w3)
          (fun x _ => O.length - (intOf x).toNat)
        case atStart => exact ⟨0, Nat.zero_le _, rfl, Below.refl _ _⟩
        case round =>
          obtain ⟨q, hq, rfl, hbel3⟩ := hrel
          by_cases hlt3 : q < O.length
          · obtain ⟨uq, eu⟩ := own_some HOW2.out (by omega)
            subst eu
            have t0 := cellsT_cell (own_kept HOW2.out hbel3) hlt3 rfl
            have tn : (O[q].toList == R.toList) = false := beq_not (HRN.out _ (List.getElem_mem hlt3))
            obtain ⟨X, hX⟩ : ∃ X, X = O[q] := ⟨_, rfl⟩
            rw [← hX] at t0 tn
            clear hX
            have hq0 : (0 : Int) ≤ (q : Int) := by omega
            have hq1 : (q : Int) < (O.length : Int) := by omega
            go_wp2
            go_roundw
            case rel => exact ⟨q + 1, by omega, by go_num, hbel3⟩
            case measure => simp [intOf]; omega
          · have hqe : q = O.length := by omega
            subst hqe
            have hq1 : ¬ (O.length : Int) < (O.length : Int) := by omega
            obtain ⟨W4, hW4⟩ : ∃ W4, W4 = wr.alloc (Obj.cells #[.string R] 9) := ⟨_, rfl⟩
            have hb4 : Below w2.heap.size w2 W4 := by rw [hW4]; exact hbel3.alloc hbel3.size _
            have HOW4 : Hid (W4.ownsRow w1.heap.size 9 1 (.slice ua O.length uc) O.length (cellsT O)) := own_kept HOW2.out hb4
            have HRW : Hid (W4.cell? ⟨wr.heap.size, 0, none⟩ = some (.string R)) := by
              have p0 : W4.heap[wr.heap.size]? = some (.cells #[.string R] 9 (0, 0)) := by rw [hW4]; exact heap_alloc_new wr _
              exact cell_of_row _ _ 0 _ _ _ p0
            have HB4 : Hid (Below w1.heap.size w1 W4) := HB2.out.trans (hb4.mono HB2.out.size)
            have HQ4 : Hid (PairAt W4 a2 g2 0 M1) := HQ2.out.kept hb4
            have HR4 : Hid ((a2 = none → c2 = 0) ∧ R48 W4 g2 M1.length) := ⟨HR2.out.1, HR2.out.2.kept hb4⟩
            have HCM4 : Hid (CmAt W4 (some ⟨lg, 0, none⟩) lg 0 cs) := HCM2.out.kept hb4
            have hw4 : w1.heap.size ≤ W4.heap.size := HB4.out.size
            have hol2 : O.length ≤ 1000 := by omega
            clear hb4 hbel3
            have bput := HNP.out
            go_wp2_with (first | (rw [← hW4]; clear hW4; refine wpList_appendText rfl _ _ rfl w1.heap.size (.slice ua O.length uc) O.length (cellsT O) rfl HOW4.out wr.heap.size 1 R rfl HRW.out hol2 hw4 ?_; rintro v5 W8 hown5 hg5) | fail)
            have HQ8 : Hid (PairAt W8 a2 g2 0 M1) := pair_grownO HQ4.out hg5 (fun hl => ownE_not48 (by decide) HOW4.out HR4.out.2 hl)
            have hlow : ∀ r, (Value.slice ua O.length uc).ownBlock = some r → w1.heap.size ≤ r := fun r e => ownE_low HOW4.out e
            have HF8 : Hid (LawO w1 (some ⟨lg, 0, none⟩) lg cs (k + 1) (.slice a2 M1.length c2) v5 (O ++ [R]) W8) :=
              ⟨⟨M1, ⟨HA.out, a2, g2, 0, c2, rfl, HQ8.out, HR4.out.1, HR4.out.2.grown hg5 (fun hl => ownE_not48 (by decide) HOW4.out HR4.out.2 hl)⟩, HO2.out⟩, cm_grownO HCM4.out hg5 (fun hl e => by have := hlow _ e; have := HLG.out hl; omega), by simpa [cellsT] using hown5, by rw [List.length_append]; show O.length + 1 ≤ _; omega, HB4.out.grown hg5 HB4.out.size hlow⟩
            clear hown5 hg5 hlow HQ4 HR4 HCM4 HOW4 HB4 HRW hw4 hol2 HNP HRN
            go_wp2_with fail
            go_loopw [14, 13] (fun x y w9 => ∃ q : Nat, q ≤ M1.length ∧ x = .int .i64 (q : Int) ∧ y = .int .i64 (((M1.take q).filter Acts.isS).length : Int) ∧ Below W8.heap.size W8 w9)
              (fun x _ _ => M1.length - (intOf x).toNat)
            case atStart => exact ⟨0, Nat.zero_le _, rfl, rfl, Below.refl _ _⟩
            case round =>
              obtain ⟨q, hq, rfl, rfl, hbel9⟩ := hrel
              by_cases hlt9 : q < M1.length
              · obtain ⟨d0, d1⟩ := (HQ8.out.kept hbel9).2 q hlt9
                have ea9 := HQ8.out.1 (by omega)
                subst ea9
                have hks : 0 < M1[q].key.size := (HA.out.ok _ (List.getElem_mem hlt9)).1
                have HCN : Hid (((M1.take (q + 1)).filter Acts.isS).length = ((M1.take q).filter Acts.isS).length + (if M1[q].key[0]'hks = 115 then 1 else 0)) := count_step hlt9 hks
                have HC3 : Hid (((M1.take (q + 1)).filter Acts.isS).length ≤ 3) := Nat.le_trans (take_le _ _) HFEW.out
                obtain ⟨CN, hCN⟩ : ∃ CN, CN = ((M1.take q).filter Acts.isS).length := ⟨_, rfl⟩
                rw [← hCN] at HCN
                rw [← hCN]
                obtain ⟨C1, hC1⟩ : ∃ C1, C1 = ((M1.take (q + 1)).filter Acts.isS).length := ⟨_, rfl⟩
                rw [← hC1] at HCN HC3
                have HC1E : Hid (C1 = ((M1.take (q + 1)).filter Acts.isS).length) := hC1
                obtain ⟨KY, hKY⟩ : ∃ KY, KY = M1[q].key := ⟨_, rfl⟩
                have hky : 0 < KY.size := by rw [hKY]; exact hks
                have HKE : Hid (KY[0]'hky = M1[q].key[0]'hks) := by subst hKY; rfl
                have hcn3 : (CN : Int) ≤ 3 := by have := HC3.out; have := HCN.out; omega
                rw [← hKY, Nat.zero_add] at d0
                rw [← HKE.out] at HCN
                clear hCN hC1 hKY HKE hks d1
                have hq0 : (0 : Int) ≤ (q : Int) := by omega
                have hq1 : (q : Int) < (M1.length : Int) := by omega
                have hky2 : (0 : Int) < (KY.size : Int) := by omega
                by_cases h115 : KY[0]'hky = 115
                · have b115 : ((KY[0]'hky).toNat : Int) = 115 := by rw [h115]; rfl
                  have hc1 : C1 = CN + 1 := by have := HCN.out; rw [if_pos h115] at this; exact this
                  clear h115
                  go_wp2
                  go_roundw
                  case rel => exact ⟨q + 1, by omega, by go_num, by rw [← HC1E.out, hc1]; go_num, hbel9⟩
                  case measure => simp [intOf]; omega
                · have b115 : ¬ ((KY[0]'hky).toNat : Int) = 115 := fun e => h115 (by apply UInt8.toNat_inj.1; show _ = 115; omega)
                  have hc1 : C1 = CN := by have := HCN.out; rw [if_neg h115] at this; exact this
                  clear h115
                  go_wp2
                  go_roundw
                  case rel => exact ⟨q + 1, by omega, by go_num, by rw [← HC1E.out, hc1], hbel9⟩
                  case measure => simp [intOf]; omega
              · have hqe : q = M1.length := by omega
                subst hqe
                have hq1 : ¬ (M1.length : Int) < (M1.length : Int) := by omega
                have HC3 : Hid (((M1.take M1.length).filter Acts.isS).length ≤ 3) := Nat.le_trans (take_le _ _) HFEW.out
                obtain ⟨CN, hCN⟩ : ∃ CN, CN = ((M1.take M1.length).filter Acts.isS).length := ⟨_, rfl⟩
                rw [← hCN] at HC3
                rw [← hCN]
                have hc3 : ¬ (3 : Int) < (CN : Int) := by have := HC3.out; omega
                clear hCN
                have HF9 : Hid (LawO w1 (some ⟨lg, 0, none⟩) lg cs (k + 1) (.slice a2 M1.length c2) v5 (O ++ [R]) wr) := HF8.out.below hbel9
                clear hbel9
                go_wp2
                go_roundw
                case rel => exact ⟨k + 1, _, v5, (O ++ [R]), by omega, by go_num, rfl, rfl, HF9.out⟩
                case measure => simp [intOf]; omega
      · have hop1 : c.op ≠ 1 := by rw [← HOP.out]; exact h1
        have hb1 : (OP == (1 : Int)) = false := by simpa using h1
        have HO2 : Hid (∀ s ∈ O, ∃ n, s = openR ++ decS n ∧ n < nextN M1) := fun s hs => by
          have hnx := HNXT.out
          rw [if_neg hop1] at hnx
          obtain ⟨n, e2, hlt2⟩ := HO.out s hs
          exact ⟨n, e2, by omega⟩
        by_cases hput : R = putR
        · have bput : (R.toList == [112, 117, 116]) = true := by rw [hput, ByteArray.toList_eq]; rfl
          have HGT : Hid (M1 ≠ m → get M1 (kkey c.key) = some c.val) := fun hne => by
            have q := Acts.act_put HG.out (by omega) (show k + 1 ≤ 99 by omega) HX.out.ok HX.out.val (by rw [HACT.out]; exact hput) (by rw [HACT.out]; exact hne)
            rw [HACT.out] at q
            exact q
          clear hput hop1
          go_wp2_with fail
          clear d0
          refine Calls.mono (sameMap_any M1 m (by omega) w2 HQ2.out HM2.out) ?_
          rintro e w3 ⟨R', rfl, hne, hb3⟩
          have HQ3 : Hid (PairAt w3 a2 g2 0 M1) := HQ2.out.kept hb3
          have HR3 : Hid ((a2 = none → c2 = 0) ∧ R48 w3 g2 M1.length) := ⟨HR2.out.1, HR2.out.2.kept hb3⟩
          have HCM3 : Hid (CmAt w3 (some ⟨lg, 0, none⟩) lg 0 cs) := HCM2.out.kept hb3
          have HOW3 : Hid (w3.ownsRow w1.heap.size 9 1 (.slice ua O.length uc) O.length (cellsT O)) := own_kept HOW2.out hb3
          have HB3 : Hid (Below w1.heap.size w1 w3) := HB2.out.trans (hb3.mono HB2.out.size)
          clear hb3 HQ2 HR2 HCM2 HOW2 HB2 HM2
          cases R' with
          | true =>
            have HQ8 := HQ3
            have HF8 : Hid (LawO w1 (some ⟨lg, 0, none⟩) lg cs (k + 1) (.slice a2 M1.length c2) (.slice ua O.length uc) O w3) := ⟨⟨M1, ⟨HA.out, a2, g2, 0, c2, rfl, HQ3.out, HR3.out.1, HR3.out.2⟩, HO2.out⟩, HCM3.out, HOW3.out, by omega, HB3.out⟩
            clear hne HGT HQ3 HR3 HCM3 HOW3 HB3
            go_wp2_with fail
            go_loopw [14, 13] (fun x y w9 => ∃ q : Nat, q ≤ M1.length ∧ x = .int .i64 (q : Int) ∧ y = .int .i64 (((M1.take q).filter Acts.isS).length : Int) ∧ Below w3.heap.size w3 w9)
              (fun x _ _ => M1.length - (intOf x).toNat)
            case atStart => exact ⟨0, Nat.zero_le _, rfl, rfl, Below.refl _ _⟩
            case round =>
              obtain ⟨q, hq, rfl, rfl, hbel9⟩ := hrel
              by_cases hlt9 : q < M1.length
              · obtain ⟨d0, d1⟩ := (HQ8.out.kept hbel9).2 q hlt9
                have ea9 := HQ8.out.1 (by omega)
                subst ea9
                have hks : 0 < M1[q].key.size := (HA.out.ok _ (List.getElem_mem hlt9)).1
                have HCN : Hid (((M1.take (q + 1)).filter Acts.isS).length = ((M1.take q).filter Acts.isS).length + (if M1[q].key[0]'hks = 115 then 1 else 0)) := count_step hlt9 hks
                have HC3 : Hid (((M1.take (q + 1)).filter Acts.isS).length ≤ 3) := Nat.le_trans (take_le _ _) HFEW.out
                obtain ⟨CN, hCN⟩ : ∃ CN, CN = ((M1.take q).filter Acts.isS).length := ⟨_, rfl⟩
                rw [← hCN] at HCN
                rw [← hCN]
                obtain ⟨C1, hC1⟩ : ∃ C1, C1 = ((M1.take (q + 1)).filter Acts.isS).length := ⟨_, rfl⟩
                rw [← hC1] at HCN HC3
                have HC1E : Hid (C1 = ((M1.take (q + 1)).filter Acts.isS).length) := hC1
                obtain ⟨KY, hKY⟩ : ∃ KY, KY = M1[q].key := ⟨_, rfl⟩
                have hky : 0 < KY.size := by rw [hKY]; exact hks
                have HKE : Hid (KY[0]'hky = M1[q].key[0]'hks) := by subst hKY; rfl
                have hcn3 : (CN : Int) ≤ 3 := by have := HC3.out; have := HCN.out; omega
                rw [← hKY, Nat.zero_add] at d0
                rw [← HKE.out] at HCN
                clear hCN hC1 hKY HKE hks d1
                have hq0 : (0 : Int) ≤ (q : Int) := by omega
                have hq1 : (q : Int) < (M1.length : Int) := by omega
                have hky2 : (0 : Int) < (KY.size : Int) := by omega
                by_cases h115 : KY[0]'hky = 115
                · have b115 : ((KY[0]'hky).toNat : Int) = 115 := by rw [h115]; rfl
                  have hc1 : C1 = CN + 1 := by have := HCN.out; rw [if_pos h115] at this; exact this
                  clear h115
                  go_wp2
                  go_roundw
                  case rel => exact ⟨q + 1, by omega, by go_num, by rw [← HC1E.out, hc1]; go_num, hbel9⟩
                  case measure => simp [intOf]; omega
                · have b115 : ¬ ((KY[0]'hky).toNat : Int) = 115 := fun e => h115 (by apply UInt8.toNat_inj.1; show _ = 115; omega)
                  have hc1 : C1 = CN := by have := HCN.out; rw [if_neg h115] at this; exact this
                  clear h115
                  go_wp2
                  go_roundw
                  case rel => exact ⟨q + 1, by omega, by go_num, by rw [← HC1E.out, hc1], hbel9⟩
                  case measure => simp [intOf]; omega
              · have hqe : q = M1.length := by omega
                subst hqe
                have hq1 : ¬ (M1.length : Int) < (M1.length : Int) := by omega
                have HC3 : Hid (((M1.take M1.length).filter Acts.isS).length ≤ 3) := Nat.le_trans (take_le _ _) HFEW.out
                obtain ⟨CN, hCN⟩ : ∃ CN, CN = ((M1.take M1.length).filter Acts.isS).length := ⟨_, rfl⟩
                rw [← hCN] at HC3
                rw [← hCN]
                have hc3 : ¬ (3 : Int) < (CN : Int) := by have := HC3.out; omega
                clear hCN
                have HF9 : Hid (LawO w1 (some ⟨lg, 0, none⟩) lg cs (k + 1) (.slice a2 M1.length c2) (.slice ua O.length uc) O wr) := HF8.out.below hbel9
                clear hbel9
                go_wp2
                go_roundw
                case rel => exact ⟨k + 1, _, (.slice ua O.length uc), O, by omega, by go_num, rfl, rfl, HF9.out⟩
                case measure => simp [intOf]; omega
          | false =>
            have hget := HGT.out (hne rfl)
            have HGET : Hid (∀ W, PairAt W a2 g2 0 M1 → Calls Tryd.prog 21 #[.slice a2 M1.length c2, .string ((⟨#[107]⟩ : ByteArray) ++ c.key)] W fun e w' => e = .returned (.tuple #[.string c.val, .bool true]) ∧ Below W.heap.size W w') := fun W hW => get_call HA.out (by omega) hget W hW
            have hkz := HX.out.key
            have z1 : ¬ 9223372036854775807 < 1 + c.key.size := by omega
            obtain ⟨e0, e1, e2, e3, e4, e5⟩ := HCM3.out.2 k hlt
            rw [← HCE.out, Nat.zero_add] at e3
            clear hne HGT hget e0 e1 e2 e4 e5
            go_wp2_with fail
            clear e3
            refine Calls.mono (HGET.out w3 HQ3.out) ?_
            rintro e w4 ⟨rfl, hb4⟩
            have HQ8 : Hid (PairAt w4 a2 g2 0 M1) := HQ3.out.kept hb4
            have HF8 : Hid (LawO w1 (some ⟨lg, 0, none⟩) lg cs (k + 1) (.slice a2 M1.length c2) (.slice ua O.length uc) O w4) := ⟨⟨M1, ⟨HA.out, a2, g2, 0, c2, rfl, HQ8.out, HR3.out.1, HR3.out.2.kept hb4⟩, HO2.out⟩, HCM3.out.kept hb4, own_kept HOW3.out hb4, by omega, HB3.out.trans (hb4.mono HB3.out.size)⟩
            obtain ⟨e0, e1, e2, e3, e4, e5⟩ := (HCM3.out.kept hb4).2 k hlt
            rw [← HCE.out, Nat.zero_add] at e4
            clear e0 e1 e2 e3 e5 hb4 HGET HQ3 HR3 HCM3 HOW3 HB3 hkz z1
            go_wp2_with fail
            go_loopw [14, 13] (fun x y w9 => ∃ q : Nat, q ≤ M1.length ∧ x = .int .i64 (q : Int) ∧ y = .int .i64 (((M1.take q).filter Acts.isS).length : Int) ∧ Below w4.heap.size w4 w9)
              (fun x _ _ => M1.length - (intOf x).toNat)
            case atStart => exact ⟨0, Nat.zero_le _, rfl, rfl, Below.refl _ _⟩
            case round =>
              obtain ⟨q, hq, rfl, rfl, hbel9⟩ := hrel
              by_cases hlt9 : q < M1.length
              · obtain ⟨d0, d1⟩ := (HQ8.out.kept hbel9).2 q hlt9
                have ea9 := HQ8.out.1 (by omega)
                subst ea9
                have hks : 0 < M1[q].key.size := (HA.out.ok _ (List.getElem_mem hlt9)).1
                have HCN : Hid (((M1.take (q + 1)).filter Acts.isS).length = ((M1.take q).filter Acts.isS).length + (if M1[q].key[0]'hks = 115 then 1 else 0)) := count_step hlt9 hks
                have HC3 : Hid (((M1.take (q + 1)).filter Acts.isS).length ≤ 3) := Nat.le_trans (take_le _ _) HFEW.out
                obtain ⟨CN, hCN⟩ : ∃ CN, CN = ((M1.take q).filter Acts.isS).length := ⟨_, rfl⟩
                rw [← hCN] at HCN
                rw [← hCN]
                obtain ⟨C1, hC1⟩ : ∃ C1, C1 = ((M1.take (q + 1)).filter Acts.isS).length := ⟨_, rfl⟩
                rw [← hC1] at HCN HC3
                have HC1E : Hid (C1 = ((M1.take (q + 1)).filter Acts.isS).length) := hC1
                obtain ⟨KY, hKY⟩ : ∃ KY, KY = M1[q].key := ⟨_, rfl⟩
                have hky : 0 < KY.size := by rw [hKY]; exact hks
                have HKE : Hid (KY[0]'hky = M1[q].key[0]'hks) := by subst hKY; rfl
                have hcn3 : (CN : Int) ≤ 3 := by have := HC3.out; have := HCN.out; omega
                rw [← hKY, Nat.zero_add] at d0
                rw [← HKE.out] at HCN
                clear hCN hC1 hKY HKE hks d1
                have hq0 : (0 : Int) ≤ (q : Int) := by omega
                have hq1 : (q : Int) < (M1.length : Int) := by omega
                have hky2 : (0 : Int) < (KY.size : Int) := by omega
                by_cases h115 : KY[0]'hky = 115
                · have b115 : ((KY[0]'hky).toNat : Int) = 115 := by rw [h115]; rfl
                  have hc1 : C1 = CN + 1 := by have := HCN.out; rw [if_pos h115] at this; exact this
                  clear h115
                  go_wp2
                  go_roundw
                  case rel => exact ⟨q + 1, by omega, by go_num, by rw [← HC1E.out, hc1]; go_num, hbel9⟩
                  case measure => simp [intOf]; omega
                · have b115 : ¬ ((KY[0]'hky).toNat : Int) = 115 := fun e => h115 (by apply UInt8.toNat_inj.1; show _ = 115; omega)
                  have hc1 : C1 = CN := by have := HCN.out; rw [if_neg h115] at this; exact this
                  clear h115
                  go_wp2
                  go_roundw
                  case rel => exact ⟨q + 1, by omega, by go_num, by rw [← HC1E.out, hc1], hbel9⟩
                  case measure => simp [intOf]; omega
              · have hqe : q = M1.length := by omega
                subst hqe
                have hq1 : ¬ (M1.length : Int) < (M1.length : Int) := by omega
                have HC3 : Hid (((M1.take M1.length).filter Acts.isS).length ≤ 3) := Nat.le_trans (take_le _ _) HFEW.out
                obtain ⟨CN, hCN⟩ : ∃ CN, CN = ((M1.take M1.length).filter Acts.isS).length := ⟨_, rfl⟩
                rw [← hCN] at HC3
                rw [← hCN]
                have hc3 : ¬ (3 : Int) < (CN : Int) := by have := HC3.out; omega
                clear hCN
                have HF9 : Hid (LawO w1 (some ⟨lg, 0, none⟩) lg cs (k + 1) (.slice a2 M1.length c2) (.slice ua O.length uc) O wr) := HF8.out.below hbel9
                clear hbel9
                go_wp2
                go_roundw
                case rel => exact ⟨k + 1, _, (.slice ua O.length uc), O, by omega, by go_num, rfl, rfl, HF9.out⟩
                case measure => simp [intOf]; omega
        · have bput : (R.toList == [112, 117, 116]) = false := str_ne (A := #[112, 117, 116]) hput
          have HQ8 := HQ2
          have HF8 : Hid (LawO w1 (some ⟨lg, 0, none⟩) lg cs (k + 1) (.slice a2 M1.length c2) (.slice ua O.length uc) O w2) := ⟨⟨M1, ⟨HA.out, a2, g2, 0, c2, rfl, HQ2.out, HR2.out.1, HR2.out.2⟩, HO2.out⟩, HCM2.out, HOW2.out, by omega, HB2.out⟩
          clear hput hop1 HQ2 HR2 HCM2 HOW2 HB2 HM2
          go_wp2_with fail
          go_loopw [14, 13] (fun x y w9 => ∃ q : Nat, q ≤ M1.length ∧ x = .int .i64 (q : Int) ∧ y = .int .i64 (((M1.take q).filter Acts.isS).length : Int) ∧ Below w2.heap.size w2 w9)
            (fun x _ _ => M1.length - (intOf x).toNat)
          case atStart => exact ⟨0, Nat.zero_le _, rfl, rfl, Below.refl _ _⟩
          case round =>
            obtain ⟨q, hq, rfl, rfl, hbel9⟩ := hrel
            by_cases hlt9 : q < M1.length
            · obtain ⟨d0, d1⟩ := (HQ8.out.kept hbel9).2 q hlt9
              have ea9 := HQ8.out.1 (by omega)
              subst ea9
              have hks : 0 < M1[q].key.size := (HA.out.ok _ (List.getElem_mem hlt9)).1
              have HCN : Hid (((M1.take (q + 1)).filter Acts.isS).length = ((M1.take q).filter Acts.isS).length + (if M1[q].key[0]'hks = 115 then 1 else 0)) := count_step hlt9 hks
              have HC3 : Hid (((M1.take (q + 1)).filter Acts.isS).length ≤ 3) := Nat.le_trans (take_le _ _) HFEW.out
              obtain ⟨CN, hCN⟩ : ∃ CN, CN = ((M1.take q).filter Acts.isS).length := ⟨_, rfl⟩
              rw [← hCN] at HCN
              rw [← hCN]
              obtain ⟨C1, hC1⟩ : ∃ C1, C1 = ((M1.take (q + 1)).filter Acts.isS).length := ⟨_, rfl⟩
              rw [← hC1] at HCN HC3
              have HC1E : Hid (C1 = ((M1.take (q + 1)).filter Acts.isS).length) := hC1
              obtain ⟨KY, hKY⟩ : ∃ KY, KY = M1[q].key := ⟨_, rfl⟩
              have hky : 0 < KY.size := by rw [hKY]; exact hks
              have HKE : Hid (KY[0]'hky = M1[q].key[0]'hks) := by subst hKY; rfl
              have hcn3 : (CN : Int) ≤ 3 := by have := HC3.out; have := HCN.out; omega
              rw [← hKY, Nat.zero_add] at d0
              rw [← HKE.out] at HCN
              clear hCN hC1 hKY HKE hks d1
              have hq0 : (0 : Int) ≤ (q : Int) := by omega
              have hq1 : (q : Int) < (M1.length : Int) := by omega
              have hky2 : (0 : Int) < (KY.size : Int) := by omega
              by_cases h115 : KY[0]'hky = 115
              · have b115 : ((KY[0]'hky).toNat : Int) = 115 := by rw [h115]; rfl
                have hc1 : C1 = CN + 1 := by have := HCN.out; rw [if_pos h115] at this; exact this
                clear h115
                go_wp2
                go_roundw
                case rel => exact ⟨q + 1, by omega, by go_num, by rw [← HC1E.out, hc1]; go_num, hbel9⟩
                case measure => simp [intOf]; omega
              · have b115 : ¬ ((KY[0]'hky).toNat : Int) = 115 := fun e => h115 (by apply UInt8.toNat_inj.1; show _ = 115; omega)
                have hc1 : C1 = CN := by have := HCN.out; rw [if_neg h115] at this; exact this
                clear h115
                go_wp2
                go_roundw
                case rel => exact ⟨q + 1, by omega, by go_num, by rw [← HC1E.out, hc1], hbel9⟩
                case measure => simp [intOf]; omega
            · have hqe : q = M1.length := by omega
              subst hqe
              have hq1 : ¬ (M1.length : Int) < (M1.length : Int) := by omega
              have HC3 : Hid (((M1.take M1.length).filter Acts.isS).length ≤ 3) := Nat.le_trans (take_le _ _) HFEW.out
              obtain ⟨CN, hCN⟩ : ∃ CN, CN = ((M1.take M1.length).filter Acts.isS).length := ⟨_, rfl⟩
              rw [← hCN] at HC3
              rw [← hCN]
              have hc3 : ¬ (3 : Int) < (CN : Int) := by have := HC3.out; omega
              clear hCN
              have HF9 : Hid (LawO w1 (some ⟨lg, 0, none⟩) lg cs (k + 1) (.slice a2 M1.length c2) (.slice ua O.length uc) O wr) := HF8.out.below hbel9
              clear hbel9
              go_wp2
              go_roundw
              case rel => exact ⟨k + 1, _, (.slice ua O.length uc), O, by omega, by go_num, rfl, rfl, HF9.out⟩
              case measure => simp [intOf]; omega
    · have hkk : ¬ (k : Int) < (cs.length : Int) := by omega
      have HF : Hid (Below w.heap.size w wr) := HB1.out.trans (HBL.out.mono HB1.out.size)
      clear hG hp hn hr hO hcm hown hbl
      go_wp2
      go_ret
      exact ⟨rfl, HF.out⟩
end Go.Proofs.YtpedpdgkbmpfjaaDoor
