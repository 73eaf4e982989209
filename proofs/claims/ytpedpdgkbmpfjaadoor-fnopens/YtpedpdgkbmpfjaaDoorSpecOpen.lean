/- The specification's l15Open, walked. Made by program. -/
import Derived.Test.YtpedpdgkbmpfjaaDoorSpecOp
namespace Go.Proofs.YtpedpdgkbmpfjaaDoor
open Go.RowKit
open Acts (decS skey sval nkey kkey sess parse Enc get nextN least pickL findS leftM openM openR)
set_option linter.unusedVariables false
set_option linter.unusedSimpArgs false
/-- All sessions of a state, by their numbers. -/
structure AllS (m : List PairL) (L : List Ses) : Prop where
  mem : ∀ s, s ∈ L ↔ s ∈ sess m
  len : L.length = (sess m).length
  asc : ∀ p q (hp : p < L.length) (hq : q < L.length), p < q → L[p].id < L[q].id
theorem all_least {T : Nat} {m : List PairL} (hT : T ≤ 90) (h : Maps.Asc m) (he : ∀ p ∈ m, Enc T p) {L : List Ses} (hA : AllS m L) {j : Nat} (hj : j < L.length) (hm : ∀ q (hq : q < L.length), L[j].at_ < L[q].at_ ∨ (L[j].at_ = L[q].at_ ∧ j ≤ q)) : least (sess m) = L[j] := by
  refine Acts.least_is ((hA.mem _).1 (List.getElem_mem hj)) (fun x hx => ?_) (fun x hx e => Acts.sess_one hT h he hx ((hA.mem _).1 (List.getElem_mem hj)) e)
  obtain ⟨q, hq, rfl⟩ := List.mem_iff_getElem.1 ((hA.mem x).2 hx)
  rcases hm q hq with c | ⟨c, d⟩
  · exact Or.inl c
  · refine Or.inr ⟨c, ?_⟩
    rcases Nat.lt_or_ge j q with e | e
    · exact Nat.le_of_lt (hA.asc j q hj hq e)
    · have : j = q := by omega
      subst this; exact Nat.le_refl _
/-- A row's block is one of pairs. -/
def R48 (w : World) (g n : Nat) : Prop := 0 < n → ∃ cur, w.heap[g]? = some (.cells cur 48 (0, 0))
theorem R48.kept {w w' : World} {g n : Nat} (h : R48 w g n) (hb : Below w.heap.size w w') : R48 w' g n := fun hn => by
  obtain ⟨cur, e⟩ := h hn
  exact ⟨cur, (hb.block _ (Array.getElem?_eq_some_iff.1 e).1).trans e⟩
/-- A state that is answered with a text and true. -/
def OutT (m : List PairL) (r : ByteArray) (w : World) (e : Ending) (w' : World) : Prop := ∃ a g off cap, e = .returned (.tuple #[.slice a m.length cap, .string r, .bool true]) ∧ PairAt w' a g off m ∧ Below w.heap.size w w' ∧ (a = none → cap = 0) ∧ R48 w' g m.length
theorem cellsPair_sliceN {w : World} {base : Nat} {v : Value} {l : List PairL} (h : w.ownsRow base 48 2 v l.length (cellsPair l)) : ∃ a g cap, v = .slice a l.length cap ∧ PairAt w a g 0 l ∧ (a = none → cap = 0) ∧ R48 w g l.length := by
  rcases h.2 with ⟨h1, h2⟩ | ⟨g, cap, cur, h1, _, h3, _⟩
  · exact ⟨none, 0, 0, by rw [h1, h2], ⟨fun q => by omega, fun j hj => by omega⟩, fun _ => rfl, fun q => by omega⟩
  · subst h1; exact ⟨_, g, cap, rfl, cellsPair_own rfl h, (fun e => by cases e), fun _ => ⟨cur, h3⟩⟩
theorem putK_len (m : List PairL) (k v : ByteArray) : (Maps.putK m k v).length ≤ m.length + 1 := Acts.put_len m k v
set_option maxHeartbeats 4000000 in
set_option maxRecDepth 100000 in
theorem specOpen_is {T i : Nat} {a b : Option Addr} {g off cap h off2 cap2 : Nat} (m : List PairL) (L : List Ses) (hG : Acts.Good T m) (hT : T ≤ 30) (hi : i ≤ 99) (hA : AllS m L) (w : World) (hf : PairAt w a g off m) (hL : SpeAt w b h off2 L) :
    Calls Tryd.prog 26 #[.slice a m.length cap, .int .i64 (i : Int), .slice b L.length cap2] w (OutT (openM m i) (openR ++ decS (nextN m)) w) := by
  have hml : m.length ≤ 60 := by have := hG.len; omega
  obtain ⟨n1, n2, _⟩ := Acts.nextN_in (by omega) hG.enc
  have HNX : Hid (Calls Tryd.prog 51 #[.slice a m.length cap] w fun e w' => e = .returned (.tuple #[.int .i64 (nextN m : Int), .bool true]) ∧ Below w.heap.size w w') := specNext_is m hG hT w hf
  obtain ⟨N, hN⟩ : ∃ N, N = nextN m := ⟨_, rfl⟩
  have HF : Hid (PairAt w a g off m) := hf
  have HL : Hid (SpeAt w b h off2 L) := hL
  have HK : Hid (∀ n : Nat, n ≤ 1000000000 → ∀ W, Calls Tryd.prog 29 #[.int .i64 (n : Int)] W fun e w' => e = .returned (.string (skey n)) ∧ Below W.heap.size W w') := fun n hn W => specKey_is n hn W
  have HT : Hid (∀ W, Calls Tryd.prog 30 #[.agg #[.int .i64 0, .int .i64 0, .int .i64 (i : Int), .string ⟨#[]⟩]] W fun e w' => e = .returned (.string (sval ⟨N, 0, i, ⟨#[]⟩⟩)) ∧ Below W.heap.size W w') := fun W => specText_is ⟨0, 0, i, ⟨#[]⟩⟩ ⟨by show 0 ≤ _; omega, by show 0 ≤ _; omega, by show i ≤ _; omega⟩ (Nat.zero_le _) W
  have HD : Hid (∀ W, Calls Tryd.prog 53 #[.int .i64 (N : Int)] W fun e w' => e = .returned (.string (decS N)) ∧ Below W.heap.size W w') := fun W => specDec_nat N (by omega) W
  have HD1 : Hid (∀ W, Calls Tryd.prog 53 #[.int .i64 ((N : Int) + 1)] W fun e w' => e = .returned (.string (decS (N + 1))) ∧ Below W.heap.size W w') := fun W => specDec_nat (N + 1) (by omega) W
  have HPUT : Hid (∀ (M : List PairL) (K V : ByteArray) (a' : Option Addr) (g' o' c' : Nat) (W : World), M.length ≤ 200 → PairAt W a' g' o' M → Calls Tryd.prog 28 #[.slice a' M.length c', .string K, .string V] W fun e w' => ∃ v, e = .returned v ∧ w'.ownsRow W.heap.size 48 2 v (Maps.putK M K V).length (cellsPair (Maps.putK M K V)) ∧ Below W.heap.size W w') := fun M K V a' g' o' c' W hl hp => l06Put_is M hl K V W hp
  have HCUT : Hid (∀ (K : ByteArray) (W : World), PairAt W a g off m → Calls Tryd.prog 52 #[.slice a m.length cap, .string K] W fun e w' => ∃ v, e = .returned v ∧ w'.ownsRow W.heap.size 48 2 v (Maps.cutK m K).length (cellsPair (Maps.cutK m K)) ∧ Below W.heap.size W w') := fun K W hp => l06Cut_is m (by omega) K W hp
  have hnz := decS_small (show N ≤ 1000000000 by omega)
  have z1 : ¬ 9223372036854775807 < 5 + (decS N).size := by omega
  have HN : Hid (N ≤ 31 ∧ nextN m = N) := ⟨by omega, hN.symm⟩
  have hn31 : (N : Int) ≤ 31 := by omega
  have HOM : Hid (openM m i = Maps.putK (Maps.putK (leftM m) (skey N) (sval ⟨N, 0, i, ⟨#[]⟩⟩)) nkey (decS (N + 1))) := by
    show _ = _
    unfold Acts.openM
    rw [← hN]
    exact Acts.put_comm (Acts.n_lt_s N)
  rw [← hN] at HNX
  have hLL : L.length ≤ 3 := by rw [hA.len]; exact hG.few
  have HA : Hid (AllS m L) := hA
  have HG : Hid (Acts.Good T m) := hG
  rw [← hN]
  clear hf hL hA hG hN n1 n2 hnz
  go_enter Tryd.func26, Tryd.ntmps26
  go_wp2_with fail
  refine Calls.mono HNX.out ?_
  rintro e w1 ⟨rfl, hb1⟩
  have HB1 : Hid (Below w.heap.size w w1) := hb1
  clear hb1 HNX
  by_cases h3 : 3 ≤ L.length
  · have HLM : Hid (leftM m = Maps.cutK m (skey (least (sess m)).id)) := by
      show _ = _
      unfold Acts.leftM
      rw [if_pos (by rw [← HA.out.len]; exact h3)]
    have h3' : (3 : Int) ≤ (L.length : Int) := by omega
    have HL1 : Hid (SpeAt w1 b h off2 L) := HL.out.kept HB1.out
    go_wp2
    go_loopw [11, 12] (fun x y wr => ∃ j k : Nat, j < L.length ∧ j < k ∧ k ≤ L.length ∧ x = .int .i64 (j : Int) ∧ y = .int .i64 (k : Int) ∧ Hid (∀ q (hj : j < L.length) (hq : q < L.length), q < k → L[j].at_ < L[q].at_ ∨ (L[j].at_ = L[q].at_ ∧ j ≤ q)) ∧ Below w1.heap.size w1 wr)
      (fun _ y _ => L.length - (intOf y).toNat)
    case atStart =>
      refine ⟨0, 1, by omega, by omega, by omega, rfl, rfl, fun q hj hq hk => ?_, Below.refl _ _⟩
      have e : q = 0 := by omega
      subst e
      exact Or.inr ⟨rfl, Nat.le_refl _⟩
    case round =>
      obtain ⟨j, k, hj, hk1, hk, rfl, rfl, HM, hbel⟩ := hrel
      have hj0 : (0 : Int) ≤ (j : Int) := by omega
      have hj1 : (j : Int) < (L.length : Int) := by omega
      by_cases hlt : k < L.length
      · obtain ⟨c0, c1, c2, c3⟩ := (HL1.out.kept hbel).2 k hlt
        obtain ⟨d0, d1, d2, d3⟩ := (HL1.out.kept hbel).2 j hj
        have ea := HL1.out.1 (by omega)
        subst ea
        obtain ⟨A, hA⟩ : ∃ A, A = L[k].at_ := ⟨_, rfl⟩
        obtain ⟨B, hB⟩ : ∃ B, B = L[j].at_ := ⟨_, rfl⟩
        rw [← hA] at c2
        rw [← hB] at d2
        have HAE : Hid (A = L[k].at_) := hA
        have HBE : Hid (B = L[j].at_) := hB
        clear hA hB c0 c1 c3 d0 d1 d3
        have hk0 : (0 : Int) ≤ (k : Int) := by omega
        have hk2 : (k : Int) < (L.length : Int) := by omega
        go_wp2
        have NE := Abv.ne wr
        have C2 := fun x : Abv wr => x.cell c2
        have D2 := fun x : Abv wr => x.cell d2
        by_cases hab : A < B
        · have t1 : decide ((A : Int) < (B : Int)) = true := decide_eq_true (by omega)
          have t2 : (A : Int) < (B : Int) := by omega
          refine wp_region_above (by kernel_rfl) (by kernel_rfl) ?_
          repeat (go_big_quiet_step (fail))
          refine wpQuiet_nil ?_
          rintro w2 ⟨⟨_, hb2⟩, rfl⟩
          clear NE C2 D2 t1
          go_wp2
          go_roundw
          case rel =>
            refine ⟨k, k + 1, hlt, by omega, by omega, by go_num, by go_num, fun q hk' hq hqk => ?_, hbel.trans (hb2.mono hbel.size)⟩
            by_cases e : q = k
            · subst e; exact Or.inr ⟨rfl, Nat.le_refl _⟩
            · have h1 := HAE.out
              have h2 := HBE.out
              rcases HM.out q hj hq (by omega) with x | ⟨x, _⟩
              · exact Or.inl (by omega)
              · exact Or.inl (by omega)
          case measure => simp [intOf]; omega
        · have t1 : decide ((A : Int) < (B : Int)) = false := decide_eq_false (by omega)
          have t2 : ¬ (A : Int) < (B : Int) := by omega
          refine wp_region_above (by kernel_rfl) (by kernel_rfl) ?_
          repeat (go_big_quiet_step (fail))
          refine wpQuiet_nil ?_
          rintro w2 ⟨⟨_, hb2⟩, rfl⟩
          clear NE C2 D2 t1
          go_wp2
          go_roundw
          case rel =>
            refine ⟨j, k + 1, hj, by omega, by omega, by go_num, by go_num, fun q hk' hq hqk => ?_, hbel.trans (hb2.mono hbel.size)⟩
            by_cases e : q = k
            · subst e
              have h1 := HAE.out
              have h2 := HBE.out
              rcases Nat.lt_or_ge L[j].at_ L[q].at_ with x | x
              · exact Or.inl x
              · exact Or.inr ⟨by omega, by omega⟩
            · exact HM.out q hj hq (by omega)
          case measure => simp [intOf]; omega
      · have hkl : k = L.length := by omega
        subst hkl
        have hk2 : ¬ (L.length : Int) < (L.length : Int) := by omega
        have HLE : Hid (least (sess m) = L[j]) := all_least (by omega) HG.out.asc HG.out.enc HA.out hj (fun q hq => HM.out q hj hq hq)
        have HSM : Hid (L[j].id ≤ 1000000000) := by
          show _ ≤ _
          have := Acts.mem_sess (by omega : T ≤ 90) HG.out.enc ((HA.out.mem _).1 (List.getElem_mem hj))
          omega
        have HBR : Hid (Below w.heap.size w wr) := HB1.out.trans (hbel.mono HB1.out.size)
        obtain ⟨d0, d1, d2, d3⟩ := (HL1.out.kept hbel).2 j hj
        have ea := HL1.out.1 (by omega)
        subst ea
        obtain ⟨Y, hY⟩ : ∃ Y, Y = L[j].id := ⟨_, rfl⟩
        rw [← hY] at d0 HSM
        have HYE : Hid (Y = L[j].id) := hY
        clear hY d1 d2 d3 HM
        go_wp2_with fail
        refine Calls.mono (HK.out Y HSM.out _) ?_
        rintro e w2 ⟨rfl, hb2⟩
        have HB2 : Hid (Below w.heap.size w w2) := HBR.out.trans (hb2.mono HBR.out.size)
        have HF2 : Hid (PairAt w2 a g off m) := HF.out.kept HB2.out
        clear hb2 d0 HBR hbel
        go_wp2_with fail
        refine Calls.mono (HCUT.out _ w2 HF2.out) ?_
        rintro e w3 ⟨v3, rfl, hown3, hb3⟩
        obtain ⟨a3, g3, c3, rfl, hat3⟩ := cellsPair_slice hown3
        have HB3 : Hid (Below w.heap.size w w3) := HB2.out.trans (hb3.mono HB2.out.size)
        have HP3 : Hid (PairAt w3 a3 g3 0 (Maps.cutK m (skey Y))) := hat3
        have HML : Hid ((Maps.cutK m (skey Y)).length ≤ 60) := Nat.le_trans (Acts.cut_len m _) hml
        clear hown3 hb3 hat3 HB2 HF2
        rw [HLE.out, ← HYE.out] at HLM
        go_wp2_with fail
        refine Calls.mono (HK.out N (by have := HN.out.1; omega) _) ?_
        rintro e w4 ⟨rfl, hb4⟩
        go_wp2_with fail
        refine Calls.mono (HT.out _) ?_
        rintro e w5 ⟨rfl, hb5⟩
        have HB5 : Hid (Below w.heap.size w w5) := HB3.out.trans ((hb4.trans (hb5.mono hb4.size)).mono HB3.out.size)
        have HP5 : Hid (PairAt w5 a3 g3 0 (Maps.cutK m (skey Y))) := (HP3.out.kept hb4).kept hb5
        clear hb4 hb5 HB3 HP3
        go_wp2_with fail
        refine Calls.mono (HPUT.out (Maps.cutK m (skey Y)) _ _ _ _ _ _ w5 (by have := HML.out; omega) HP5.out) ?_
        rintro e w6 ⟨v6, rfl, hown6, hb6⟩
        obtain ⟨a6, g6, c6, rfl, hat6⟩ := cellsPair_slice hown6
        have HB6 : Hid (Below w.heap.size w w6) := HB5.out.trans (hb6.mono HB5.out.size)
        have HP6 : Hid (PairAt w6 a6 g6 0 (Maps.putK (Maps.cutK m (skey Y)) (skey N) (sval ⟨N, 0, i, ⟨#[]⟩⟩))) := hat6
        clear hown6 hb6 hat6 HB5 HP5
        go_wp2_with fail
        refine Calls.mono (HD1.out _) ?_
        rintro e w7 ⟨rfl, hb7⟩
        have HB7 : Hid (Below w.heap.size w w7) := HB6.out.trans (hb7.mono HB6.out.size)
        have HP7 : Hid (PairAt w7 a6 g6 0 (Maps.putK (Maps.cutK m (skey Y)) (skey N) (sval ⟨N, 0, i, ⟨#[]⟩⟩))) := HP6.out.kept hb7
        clear hb7 HB6 HP6
        go_wp2_with fail
        refine Calls.mono (HPUT.out _ _ _ _ _ _ _ w7 (by have := HML.out; have := putK_len (Maps.cutK m (skey Y)) (skey N) (sval ⟨N, 0, i, ⟨#[]⟩⟩); omega) HP7.out) ?_
        rintro e w8 ⟨v8, rfl, hown8, hb8⟩
        obtain ⟨a8, g8, c8, rfl, hat8, hn8⟩ := cellsPair_sliceN hown8
        have HN8 : Hid ((a8 = none → c8 = 0) ∧ R48 w8 g8 (Maps.putK (Maps.putK (Maps.cutK m (skey Y)) (skey N) (sval ⟨N, 0, i, ⟨#[]⟩⟩)) nkey (decS (N + 1))).length) := hn8
        clear hn8
        have HB8 : Hid (Below w.heap.size w w8) := HB7.out.trans (hb8.mono HB7.out.size)
        have HP8 : Hid (PairAt w8 a8 g8 0 (Maps.putK (Maps.putK (Maps.cutK m (skey Y)) (skey N) (sval ⟨N, 0, i, ⟨#[]⟩⟩)) nkey (decS (N + 1)))) := hat8
        clear hown8 hb8 hat8 HB7 HP7
        go_wp2_with fail
        refine Calls.mono (HD.out _) ?_
        rintro e w9 ⟨rfl, hb9⟩
        have HB9 : Hid (Below w.heap.size w w9) := HB8.out.trans (hb9.mono HB8.out.size)
        have HP9 : Hid (PairAt w9 a8 g8 0 (Maps.putK (Maps.putK (Maps.cutK m (skey Y)) (skey N) (sval ⟨N, 0, i, ⟨#[]⟩⟩)) nkey (decS (N + 1)))) := HP8.out.kept hb9
        have HN9 : Hid ((a8 = none → c8 = 0) ∧ R48 w9 g8 (Maps.putK (Maps.putK (Maps.cutK m (skey Y)) (skey N) (sval ⟨N, 0, i, ⟨#[]⟩⟩)) nkey (decS (N + 1))).length) := ⟨HN8.out.1, HN8.out.2.kept hb9⟩
        clear hb9 HB8 HP8
        go_wp2
        refine bodyPost_ret (v := .tuple #[.slice a8 (Maps.putK (Maps.putK (Maps.cutK m (skey Y)) (skey N) (sval ⟨N, 0, i, ⟨#[]⟩⟩)) nkey (decS (N + 1))).length c8, .string (openR ++ decS N), .bool true]) (by simp [results, Tryd.results26, go_sem]; exact ⟨rfl, rfl⟩) rfl ⟨a8, g8, 0, c8, by rw [HOM.out, HLM.out], by rw [HOM.out, HLM.out]; exact HP9.out, HB9.out, HN9.out.1, by rw [HOM.out, HLM.out]; exact HN9.out.2⟩
  · have HLM : Hid (leftM m = m) := by
      show _ = _
      unfold Acts.leftM
      rw [if_neg (by rw [← HA.out.len]; exact h3)]
    have h3' : ¬ (3 : Int) ≤ (L.length : Int) := by omega
    have HB3 : Hid (Below w.heap.size w w1) := HB1.out
    have HP3 : Hid (PairAt w1 a g off m) := HF.out.kept HB1.out
    have HML : Hid (m.length ≤ 60) := hml
    clear HB1
    go_wp2_with fail
    refine Calls.mono (HK.out N (by have := HN.out.1; omega) _) ?_
    rintro e w4 ⟨rfl, hb4⟩
    go_wp2_with fail
    refine Calls.mono (HT.out _) ?_
    rintro e w5 ⟨rfl, hb5⟩
    have HB5 : Hid (Below w.heap.size w w5) := HB3.out.trans ((hb4.trans (hb5.mono hb4.size)).mono HB3.out.size)
    have HP5 : Hid (PairAt w5 a g off m) := (HP3.out.kept hb4).kept hb5
    clear hb4 hb5 HB3 HP3
    go_wp2_with fail
    refine Calls.mono (HPUT.out m _ _ _ _ _ _ w5 (by have := HML.out; omega) HP5.out) ?_
    rintro e w6 ⟨v6, rfl, hown6, hb6⟩
    obtain ⟨a6, g6, c6, rfl, hat6⟩ := cellsPair_slice hown6
    have HB6 : Hid (Below w.heap.size w w6) := HB5.out.trans (hb6.mono HB5.out.size)
    have HP6 : Hid (PairAt w6 a6 g6 0 (Maps.putK m (skey N) (sval ⟨N, 0, i, ⟨#[]⟩⟩))) := hat6
    clear hown6 hb6 hat6 HB5 HP5
    go_wp2_with fail
    refine Calls.mono (HD1.out _) ?_
    rintro e w7 ⟨rfl, hb7⟩
    have HB7 : Hid (Below w.heap.size w w7) := HB6.out.trans (hb7.mono HB6.out.size)
    have HP7 : Hid (PairAt w7 a6 g6 0 (Maps.putK m (skey N) (sval ⟨N, 0, i, ⟨#[]⟩⟩))) := HP6.out.kept hb7
    clear hb7 HB6 HP6
    go_wp2_with fail
    refine Calls.mono (HPUT.out _ _ _ _ _ _ _ w7 (by have := HML.out; have := putK_len m (skey N) (sval ⟨N, 0, i, ⟨#[]⟩⟩); omega) HP7.out) ?_
    rintro e w8 ⟨v8, rfl, hown8, hb8⟩
    obtain ⟨a8, g8, c8, rfl, hat8, hn8⟩ := cellsPair_sliceN hown8
    have HN8 : Hid ((a8 = none → c8 = 0) ∧ R48 w8 g8 (Maps.putK (Maps.putK m (skey N) (sval ⟨N, 0, i, ⟨#[]⟩⟩)) nkey (decS (N + 1))).length) := hn8
    clear hn8
    have HB8 : Hid (Below w.heap.size w w8) := HB7.out.trans (hb8.mono HB7.out.size)
    have HP8 : Hid (PairAt w8 a8 g8 0 (Maps.putK (Maps.putK m (skey N) (sval ⟨N, 0, i, ⟨#[]⟩⟩)) nkey (decS (N + 1)))) := hat8
    clear hown8 hb8 hat8 HB7 HP7
    go_wp2_with fail
    refine Calls.mono (HD.out _) ?_
    rintro e w9 ⟨rfl, hb9⟩
    have HB9 : Hid (Below w.heap.size w w9) := HB8.out.trans (hb9.mono HB8.out.size)
    have HP9 : Hid (PairAt w9 a8 g8 0 (Maps.putK (Maps.putK m (skey N) (sval ⟨N, 0, i, ⟨#[]⟩⟩)) nkey (decS (N + 1)))) := HP8.out.kept hb9
    have HN9 : Hid ((a8 = none → c8 = 0) ∧ R48 w9 g8 (Maps.putK (Maps.putK m (skey N) (sval ⟨N, 0, i, ⟨#[]⟩⟩)) nkey (decS (N + 1))).length) := ⟨HN8.out.1, HN8.out.2.kept hb9⟩
    clear hb9 HB8 HP8
    go_wp2
    refine bodyPost_ret (v := .tuple #[.slice a8 (Maps.putK (Maps.putK m (skey N) (sval ⟨N, 0, i, ⟨#[]⟩⟩)) nkey (decS (N + 1))).length c8, .string (openR ++ decS N), .bool true]) (by simp [results, Tryd.results26, go_sem]; exact ⟨rfl, rfl⟩) rfl ⟨a8, g8, 0, c8, by rw [HOM.out, HLM.out], by rw [HOM.out, HLM.out]; exact HP9.out, HB9.out, HN9.out.1, by rw [HOM.out, HLM.out]; exact HN9.out.2⟩
end Go.Proofs.YtpedpdgkbmpfjaaDoor
