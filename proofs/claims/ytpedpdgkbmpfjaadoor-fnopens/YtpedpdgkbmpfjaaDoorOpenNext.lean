/- The program's openNext, walked. -/
import Derived.Test.YtpedpdgkbmpfjaaDoorAskedAll
namespace Go.Proofs.YtpedpdgkbmpfjaaDoor
open Go.RowKit
open Acts (decS skey sval nkey kkey sess parse Enc get nextN least pickL findS opC opR opM doneM openM leftM act)
set_option linter.unusedVariables false
set_option linter.unusedSimpArgs false

def Same (W w' : World) : Prop := w' = W
theorem two_changes {w : World} (p q : ChangeL) : ChangeAt (w.alloc (Obj.cells #[.string p.key, .string p.value, .bool p.gone, .string q.key, .string q.value, .bool q.gone] 100)) (some ⟨w.heap.size, 0, none⟩) w.heap.size 0 [p, q] := by
  have h := heap_alloc_new w (Obj.cells #[.string p.key, .string p.value, .bool p.gone, .string q.key, .string q.value, .bool q.gone] 100)
  refine ⟨fun _ => rfl, fun j hj => ?_⟩
  have : j = 0 ∨ j = 1 := by simp at hj; omega
  rcases this with rfl | rfl
  · exact ⟨cell_of_row _ _ 0 _ _ _ h, cell_of_row _ _ 1 _ _ _ h, cell_of_row _ _ 2 _ _ _ h⟩
  · exact ⟨cell_of_row _ _ 3 _ _ _ h, cell_of_row _ _ 4 _ _ _ h, cell_of_row _ _ 5 _ _ _ h⟩
theorem row_changes {X : World} {gq : Nat} (p q : ChangeL) (h : X.heap[gq]? = some (.cells #[.string p.key, .string p.value, .bool p.gone, .string q.key, .string q.value, .bool q.gone] 100 (0, 0))) : ChangeAt X (some ⟨gq, 0, none⟩) gq 0 [p, q] := by
  refine ⟨fun _ => rfl, fun j hj => ?_⟩
  have : j = 0 ∨ j = 1 := by simp at hj; omega
  rcases this with rfl | rfl
  · exact ⟨cell_of_row _ _ 0 _ _ _ h, cell_of_row _ _ 1 _ _ _ h, cell_of_row _ _ 2 _ _ _ h⟩
  · exact ⟨cell_of_row _ _ 3 _ _ _ h, cell_of_row _ _ 4 _ _ _ h, cell_of_row _ _ 5 _ _ _ h⟩
/-- What is put when a session is opened. -/
theorem open_do {T i : Nat} {m : List PairL} (hG : Acts.Good T m) (hT : T ≤ 20) (hi : i ≤ 99) : DoR (leftM m) 0 [⟨nkey, decS (nextN m + 1), false⟩, ⟨skey (nextN m), sval ⟨nextN m, 0, i, ⟨#[]⟩⟩, false⟩] (openM m i) true := by
  have hP := Acts.left_part (hG.part (Nat.le_refl T))
  have hl := Acts.left_len m
  have hlm := hG.len
  obtain ⟨n1, n2, _⟩ := Acts.nextN_in (by omega) hG.enc
  have hO := Acts.open_good hG (by omega) hi
  have hz : (⟨#[]⟩ : ByteArray).size = 0 := rfl
  have d1 := Acts.decS_size (show nextN m + 1 ≤ 99 by omega)
  have s1 := Acts.skey_size (show nextN m ≤ 99 by omega)
  have v1 := Acts.sval_size (s := ⟨nextN m, 0, i, ⟨#[]⟩⟩) (by show 0 ≤ 99; omega) hi
  simp only [hz] at v1
  have := doR_fold (m := leftM m) (cs := [⟨nkey, decS (nextN m + 1), false⟩, ⟨skey (nextN m), sval ⟨nextN m, 0, i, ⟨#[]⟩⟩, false⟩]) ((Maps.ok_iff _).2 ⟨by omega, hP.ok, hP.asc⟩) (fun c hc => by
    simp only [List.mem_cons, List.not_mem_nil, or_false] at hc
    rcases hc with rfl | rfl
    · exact ⟨by show 1 ≤ nkey.size; decide, by show nkey.size ≤ 10; decide, by show (decS _).size ≤ 40; omega, fun h => by cases h⟩
    · exact ⟨by show 1 ≤ (skey _).size; omega, by show (skey _).size ≤ 10; omega, by show (sval _).size ≤ 40; omega, fun h => by cases h⟩) (List.pairwise_pair.2 (Acts.n_lt_s (nextN m))) (by show (2 : Nat) ≤ 60; omega) (hO.right (by omega))
  exact this
set_option maxHeartbeats 4000000 in
set_option maxRecDepth 100000 in
theorem openNext_is {T : Nat} {a b : Option Addr} {g off cap capb g2 off2 i : Nat} (m : List PairL) (hG : Acts.Good T m) (hT : T ≤ 20) (hi : i ≤ 99) (w : World) (hfm : PairAt w a g off m) (hf : SesAt w b g2 off2 (sess m)) :
    Calls Tryd.prog 36 #[.slice a m.length cap, .int .i64 (i : Int), .slice b (sess m).length capb] w fun e w' => ∃ v, e = .returned (.tuple #[v, .string (Acts.openR ++ decS (nextN m)), .bool true]) ∧ w'.ownsRow w.heap.size 48 2 v (openM m i).length (cellsPair (openM m i)) ∧ Below w.heap.size w w' := by
  obtain ⟨n1, n2, _⟩ := Acts.nextN_in (by omega) hG.enc
  have HDO := open_do (i := i) hG hT hi
  have hP := Acts.left_part (hG.part (Nat.le_refl T))
  have hll := Acts.left_len m
  have hlm := hG.len
  have HNX : Hid (Calls Tryd.prog 58 #[.slice a m.length cap] w fun e w' => e = .returned (.tuple #[.int .i64 (nextN m : Int), .bool true]) ∧ Below w.heap.size w w') := next_is m hG (by omega) w hfm
  obtain ⟨ch, hch⟩ : ∃ ch : ChangeL, ch = ⟨skey (nextN m), sval ⟨nextN m, 0, i, ⟨#[]⟩⟩, false⟩ := ⟨_, rfl⟩
  have HPU : Hid (∀ W, Calls Tryd.prog 63 #[.agg #[.int .i64 (nextN m : Int), .int .i64 0, .int .i64 (i : Int), .string ⟨#[]⟩]] W fun e w' => e = .returned (.agg #[.string ch.key, .string ch.value, .bool ch.gone]) ∧ Below W.heap.size W w') := fun W => by
    rw [hch]
    exact putting_is ⟨nextN m, 0, i, ⟨#[]⟩⟩ (by show nextN m ≤ 99; omega) (by show 0 ≤ 99; omega) hi (by show (0 : Nat) ≤ 1000; omega) W
  have HD : Hid (∀ W, Calls Tryd.prog 62 #[.int .i64 (nextN m : Int)] W fun e w' => e = .returned (.string (decS (nextN m))) ∧ Same W w') := fun W => implDec_is (nextN m) (by omega) W
  have HD1 : Hid (∀ W, Calls Tryd.prog 62 #[.int .i64 ((nextN m : Int) + 1)] W fun e w' => e = .returned (.string (decS (nextN m + 1))) ∧ Same W w') := fun W => implDec_is (nextN m + 1) (by omega) W
  obtain ⟨TX, hTX⟩ : ∃ TX, TX = Acts.openR ++ decS (nextN m) := ⟨_, rfl⟩
  have hdz := Acts.decS_size (show nextN m ≤ 99 by omega)
  have hs1 := Acts.skey_size (show nextN m ≤ 99 by omega)
  have hd2 := Acts.decS_size (show nextN m + 1 ≤ 99 by omega)
  have hv1 := Acts.sval_size (s := ⟨nextN m, 0, i, ⟨#[]⟩⟩) (by show 0 ≤ 99; omega) hi
  have HRE : Hid (∀ (la : Option Addr) (lg lo lc gq : Nat) (X : World), PairAt X la lg lo (leftM m) → X.heap[gq]? = some (.cells #[.string nkey, .string (decS (nextN m + 1)), .bool false, .string ch.key, .string ch.value, .bool ch.gone] 100 (0, 0)) → Calls Tryd.prog 38 #[.slice la (leftM m).length lc, .slice (some ⟨gq, 0, none⟩) 2 2, .string TX] X fun e w' => ∃ u, e = .returned u ∧ (∃ v, u = .tuple #[v, .string TX, .bool true] ∧ w'.ownsRow X.heap.size 48 2 v (openM m i).length (cellsPair (openM m i))) ∧ Below X.heap.size X w') := fun la lg lo lc gq X hW hX => by
    rw [← hch] at HDO
    exact (replied_is (leftM m) (by omega) (ok_small hP.ok) [⟨nkey, decS (nextN m + 1), false⟩, ch] (by show (2 : Nat) ≤ _; omega) (fun c hc => by
      simp only [List.mem_cons, List.not_mem_nil, or_false] at hc
      rcases hc with rfl | rfl
      · exact pair_small (by show nkey.size ≤ 10; decide) (by omega) false
      · rw [hch]; exact pair_small (by omega) (by show (sval _).size ≤ 40; have hz : (⟨#[]⟩ : ByteArray).size = 0 := rfl; simp only [hz] at hv1; omega) false) (openM m i) HDO TX X hW (row_changes ⟨nkey, decS (nextN m + 1), false⟩ ch hX)).mono fun e w' ⟨v, x, y, z⟩ => ⟨_, x, ⟨v, rfl, y⟩, z⟩
  obtain ⟨N, hN⟩ : ∃ N, N = nextN m := ⟨_, rfl⟩
  obtain ⟨D, hD⟩ : ∃ D, D = decS (nextN m) := ⟨_, rfl⟩
  obtain ⟨D1, hD1⟩ : ∃ D1, D1 = decS (nextN m + 1) := ⟨_, rfl⟩
  rw [← hD1] at HRE HD1
  rw [← hD] at HD hTX hdz
  rw [← hN] at HNX HPU HD HD1
  rw [← hD, ← hTX]
  have z1 : ¬ 9223372036854775807 < 5 + D.size := by omega
  have HTX : Hid (TX = Acts.openR ++ D) := hTX
  have hN99 : (N : Int) ≤ 50 := by omega
  have henter : ∀ (u : Array Value) (W : World), (callFunc 63 u).run Tryd.prog W = .ok (.enter 63 u) W := fun _ _ => by kernel_rfl
  have henter2 : ∀ (u : Array Value) (W : World), (callFunc 62 u).run Tryd.prog W = .ok (.enter 62 u) W := fun _ _ => by kernel_rfl
  have henter3 : ∀ (u : Array Value) (W : World), (callFunc 38 u).run Tryd.prog W = .ok (.enter 38 u) W := fun _ _ => by kernel_rfl
  have HFM : Hid (PairAt w a g off m) := hfm
  have HF : Hid (SesAt w b g2 off2 (sess m)) := hf
  have HG : Hid (Acts.Good T m) := hG
  clear hfm hf HDO hP hch hN hD hD1 hTX hs1 hd2 hv1 n1 n2 hG
  have HLM0 : Hid (leftM m = if 3 ≤ (sess m).length then Maps.cutK m (skey (least (sess m)).id) else m) := rfl
  obtain ⟨LM, hLM⟩ : ∃ LM, LM = leftM m := ⟨_, rfl⟩
  obtain ⟨OM, hOM⟩ : ∃ OM, OM = openM m i := ⟨_, rfl⟩
  simp only [← hLM, ← hOM] at HLM0 HRE hll ⊢
  clear hLM hOM
  by_cases h3 : 3 ≤ (sess m).length
  · have h3' : (3 : Int) ≤ ((sess m).length : Int) := by omega
    have hle : LM = Maps.cutK m (skey (least (sess m)).id) := by have q := HLM0.out; rwa [if_pos h3] at q
    have h0 : 0 < (sess m).length := by omega
    have HLS : Hid (∀ W, SesAt W b g2 off2 (sess m) → Calls Tryd.prog 60 #[.slice b (sess m).length capb] W fun e w' => e = .returned (sesV (least (sess m))) ∧ Below W.heap.size W w') := fun W hW => least_go (sess m) (by have := HG.out.few; omega) h0 W hW
    obtain ⟨ls1, ls2⟩ := Acts.least_mem h0
    obtain ⟨_, lsid, _, _, _⟩ := Acts.mem_sess (by omega) HG.out.enc ls1
    have HKY : Hid (∀ W, Calls Tryd.prog 61 #[sesV (least (sess m))] W fun e w' => e = .returned (.string (skey (least (sess m)).id)) ∧ Below W.heap.size W w') := fun W => sesKey_is (least (sess m)) (by omega) W
    have ksz := Acts.skey_size (show (least (sess m)).id ≤ 99 by omega)
    have HCT : Hid (∀ (gq : Nat) (W : World), PairAt W a g off m → W.heap[gq]? = some (.cells #[.string (skey (least (sess m)).id), .string ⟨#[]⟩, .bool true] 100 (0, 0)) → Calls Tryd.prog 59 #[.slice a m.length cap, .agg #[.int .i64 0, .slice (some ⟨gq, 0, none⟩) 1 1]] W fun e w' => ∃ v, e = .returned (.tuple #[v, .bool true]) ∧ w'.ownsRow W.heap.size 48 2 v LM.length (cellsPair LM) ∧ Below W.heap.size W w') := fun gq W hW hX => by
      have hc : Batches.changeOk (⟨skey (least (sess m)).id, ⟨#[]⟩, true⟩ : ChangeL) := ⟨by show 1 ≤ (skey _).size; omega, by show (skey _).size ≤ 10; omega, by show (0 : Nat) ≤ 40; omega, fun _ => rfl⟩
      have hlc := Acts.cut_len m (skey (least (sess m)).id)
      have hP2 := (HG.out.part (Nat.le_refl T)).cut (skey (least (sess m)).id)
      have hd : DoR m 0 [(⟨skey (least (sess m)).id, ⟨#[]⟩, true⟩ : ChangeL)] LM true := by
        rw [hle]
        exact doR_fold (m := m) (cs := [⟨skey (least (sess m)).id, ⟨#[]⟩, true⟩]) (HG.out.right (by omega)) (fun c hcm => by
          simp only [List.mem_singleton] at hcm
          subst hcm
          exact hc) (List.pairwise_singleton _ _) (by show (1 : Nat) ≤ 60; omega) ((Maps.ok_iff _).2 ⟨Nat.le_trans hlc (by omega), hP2.ok, hP2.asc⟩)
      refine implDo_at (gB := gq) (offB := 0) m (by omega) (ok_small fun p hp => HG.out.ok p hp) 0 [(⟨skey (least (sess m)).id, ⟨#[]⟩, true⟩ : ChangeL)] (by show (1 : Nat) ≤ _; omega) (fun c hcm => ?_) LM true hd W hW ?_
      · simp only [List.mem_singleton] at hcm
        subst hcm
        exact ⟨by show (skey _).size ≤ _; omega, Nat.zero_le _⟩
      · refine ⟨fun _ => rfl, fun j hj => ?_⟩
        have : j = 0 := by simp at hj; omega
        subst this
        exact ⟨cell_of_row _ _ 0 _ _ _ hX, cell_of_row _ _ 1 _ _ _ hX, cell_of_row _ _ 2 _ _ _ hX⟩
    obtain ⟨LS, hLS⟩ : ∃ LS, LS = least (sess m) := ⟨_, rfl⟩
    rw [← hLS] at HLS HKY HCT
    obtain ⟨KK, hKK⟩ : ∃ KK, KK = skey LS.id := ⟨_, rfl⟩
    rw [← hKK] at HKY HCT
    unfold sesV at HLS HKY
    clear h3 hle HLM0 ls1 ls2 lsid ksz h0 hLS hKK
    go_enter Tryd.func36, Tryd.ntmps36
    go_wp2_with fail
    refine Calls.mono HNX.out ?_
    rintro e u3 ⟨rfl, hb3⟩
    have HU3 : Hid (Below w.heap.size w u3) := hb3
    clear hb3
    go_wp2_with fail
    refine Calls.mono (HLS.out _ (HF.out.kept HU3.out)) ?_
    rintro e u4 ⟨rfl, hb4⟩
    have HU4 : Hid (Below w.heap.size w u4) := HU3.out.trans (hb4.mono HU3.out.size)
    clear hb4
    go_wp2_with fail
    refine Calls.mono (HKY.out _) ?_
    rintro e u5 ⟨rfl, hb5⟩
    have HU5 : Hid (Below w.heap.size w u5) := HU4.out.trans (hb5.mono HU4.out.size)
    clear hb5 HU3 HU4
    obtain ⟨U6, hU6⟩ : ∃ U6, U6 = u5.alloc (Obj.cells #[.string KK, .string ⟨#[]⟩, .bool true] 100) := ⟨_, rfl⟩
    have HU6 : Hid (Below w.heap.size w U6) := by rw [hU6]; exact HU5.out.alloc HU5.out.size _
    have HX6 : Hid (U6.heap[u5.heap.size]? = some (.cells #[.string KK, .string ⟨#[]⟩, .bool true] 100 (0, 0))) := by rw [hU6]; exact heap_alloc_new u5 _
    go_wp2_with (first | (rw [← hU6]; clear hU6) | fail)
    refine Calls.mono (HCT.out u5.heap.size U6 (HFM.out.kept HU6.out) HX6.out) ?_
    rintro e w3 ⟨v7, rfl, hown7, hb7⟩
    obtain ⟨la, lg, lc, rfl, hat7⟩ := cellsPair_slice hown7
    obtain ⟨lo, hlo⟩ : ∃ lo : Nat, lo = 0 := ⟨_, rfl⟩
    have HB3 : Hid (Below w.heap.size w w3) := HU6.out.trans (hb7.mono HU6.out.size)
    have HM3 : Hid (PairAt w3 la lg lo LM) := by rw [hlo]; exact hat7
    have HRE : Hid (∀ (gq : Nat) (X : World), PairAt X la lg lo LM → X.heap[gq]? = some (.cells #[.string ⟨#[110]⟩, .string D1, .bool false, .string ch.key, .string ch.value, .bool ch.gone] 100 (0, 0)) → Calls Tryd.prog 38 #[.slice la LM.length lc, .slice (some ⟨gq, 0, none⟩) 2 2, .string ((⟨#[111, 112, 101, 110, 32]⟩ : ByteArray) ++ D)] X fun e w' => ∃ u, e = .returned u ∧ (∃ v, u = .tuple #[v, .string ((⟨#[111, 112, 101, 110, 32]⟩ : ByteArray) ++ D), .bool true] ∧ w'.ownsRow X.heap.size 48 2 v OM.length (cellsPair OM)) ∧ Below X.heap.size X w') := fun gq X h h' => by have q := HRE.out la lg lo lc gq X h h'; rw [HTX.out] at q; exact q
    clear hown7 hat7 hb7 hlo HU5 HU6 HX6 HCT HLS HKY
    go_wp2_with fail
    refine Calls.mono (HD1.out _) ?_
    rintro e w4 ⟨rfl, hw4⟩
    have hw4' : w4 = w3 := hw4
    subst hw4'
    go_wp2_with fail
    obtain ⟨W4, hW4⟩ : ∃ W4, W4 = (w4.alloc (Obj.cells #[.string ⟨#[110]⟩, .string D1, .bool false] 100)).alloc (Obj.cells #[.int .i64 (N : Int), .int .i64 0, .int .i64 (i : Int), .string ⟨#[]⟩] 92) := ⟨_, rfl⟩
    have hb4 : Below w4.heap.size w4 W4 := by rw [hW4]; exact two_bel _ _
    have hc4 : W4.heap[w4.heap.size]? = some (.cells #[.string ⟨#[110]⟩, .string D1, .bool false] 100 (0, 0)) := by rw [hW4, Below.heap_alloc _ _ _ (by simp)]; exact heap_alloc_new w4 _
    have hn4 : W4.heap[w4.heap.size + 1]? = some (.cells #[.int .i64 (N : Int), .int .i64 0, .int .i64 (i : Int), .string ⟨#[]⟩] 92 (0, 0)) := by
      have p := heap_alloc_new (w4.alloc (Obj.cells #[.string ⟨#[110]⟩, .string D1, .bool false] 100)) (Obj.cells #[.int .i64 (N : Int), .int .i64 0, .int .i64 (i : Int), .string ⟨#[]⟩] 92)
      have e : (w4.alloc (Obj.cells #[.string ⟨#[110]⟩, .string D1, .bool false] 100)).heap.size = w4.heap.size + 1 := by simp
      rw [e] at p
      rw [hW4]
      exact p
    have HB4 : Hid (Below w.heap.size w W4) := HB3.out.trans (hb4.mono HB3.out.size)
    have HM4 : Hid (PairAt W4 la lg lo LM) := HM3.out.kept hb4
    obtain ⟨cb, hcb⟩ : ∃ cb, cb = w4.heap.size := ⟨_, rfl⟩
    rw [← hcb] at hc4 hn4
    rw [← hW4, ← hcb]
    have n0 := cell_of_row _ _ 0 _ _ _ hn4
    have n1 := cell_of_row _ _ 1 _ _ _ hn4
    have n2 := cell_of_row _ _ 2 _ _ _ hn4
    have n3 := cell_of_row _ _ 3 _ _ _ hn4
    have k0 := cell_of_row _ _ 0 _ _ _ hc4
    have k1 := cell_of_row _ _ 1 _ _ _ hc4
    have k2 := cell_of_row _ _ 2 _ _ _ hc4
    simp at n0 n1 n2 n3 k0 k1 k2
    have HCK : Hid (∀ W, Below W4.heap.size W4 W → W.heap[cb]? = some (.cells #[.string ⟨#[110]⟩, .string D1, .bool false] 100 (0, 0))) := fun W hb => (hb.block _ (Array.getElem?_eq_some_iff.1 hc4).1).trans hc4
    have HNK : Hid (∀ W, Below W4.heap.size W4 W → W.heap[cb + 1]? = some (.cells #[.int .i64 (N : Int), .int .i64 0, .int .i64 (i : Int), .string ⟨#[]⟩] 92 (0, 0))) := fun W hb => (hb.block _ (Array.getElem?_eq_some_iff.1 hn4).1).trans hn4
    have HMK : Hid (∀ W, Below W4.heap.size W4 W → PairAt W la lg lo LM) := fun W hb => HM4.out.kept hb
    obtain ⟨TXT, hTXT⟩ : ∃ TXT, (⟨#[111, 112, 101, 110, 32]⟩ : ByteArray) ++ D = TXT := ⟨_, rfl⟩
    rw [hTXT] at HRE
    have HT2 : Hid (TX = TXT) := by show _ = _; rw [HTX.out, ← hTXT]; rfl
    clear hW4 hb4 hcb hc4 hn4 HB3 HM3 n0 n1 n2 n3 k0 k1 k2
    rename_i K0 hK0
    refine Inv.region_walk 55 (fun jj v W => if jj = 4 then (∃ gq, v = .slice (some ⟨gq, 0, none⟩) 2 2 ∧ W.heap[gq]? = some (.cells #[.string ⟨#[110]⟩, .string D1, .bool false, .string ch.key, .string ch.value, .bool ch.gone] 100 (0, 0))) else if jj = 8 then (∃ vz, v = .tuple #[vz, .string TXT, .bool true] ∧ W.ownsRow w.heap.size 48 2 vz OM.length (cellsPair OM)) else if jj = 9 ∨ jj = 12 then W.ownsRow w.heap.size 48 2 v OM.length (cellsPair OM) else v = [.slice la LM.length lc, .agg #[.string ⟨#[110]⟩, .string D1, .bool false], .agg #[.int .i64 (N : Int), .int .i64 0, .int .i64 (i : Int), .string ⟨#[]⟩], .agg #[.string ch.key, .string ch.value, .bool ch.gone], undef, .int .i64 (N : Int), .string D, .string TXT, undef, undef, .string TXT, .bool true, undef, .string TXT, .bool true].getD jj undef) rfl (by kernel_rfl) (by kernel_rfl) ?_ ⟨?_, ?_, ?_, ?_, ?_, ?_, ?_, ?_, ?_, ?_, ?_, ?_, ?_, ?_, ?_, trivial⟩ ?_
    · intro jj v X X' h hb
      by_cases h4 : jj = 4
      · simp only [h4, if_true] at h ⊢
        obtain ⟨gq, x, y⟩ := h
        exact ⟨gq, x, (hb.block _ (Array.getElem?_eq_some_iff.1 y).1).trans y⟩
      · by_cases h8 : jj = 8
        · simp only [h8] at h ⊢
          obtain ⟨vz, x, y⟩ := h
          exact ⟨vz, x, own_kept y hb⟩
        · by_cases h9 : jj = 9 ∨ jj = 12
          · simp only [h4, h8, h9, if_true, if_false] at h ⊢
            exact own_kept h hb
          · simp only [h4, h8, h9, if_false] at h ⊢
            exact h
    · intro f X K hb hf hd hk
      have e : f 11 = .slice la LM.length lc := hf 11 rfl
      refine Inv.pay_value (v := .slice la LM.length lc) (w' := X) ?_ ?_
      · simp [execOp, go_sem, Inv.act_get, e]
      · exact hk (.slice la LM.length lc) X (Below.refl _ _) rfl
    · intro f X K hb hf hd hk
      have e : f 12 = .pointer (some ⟨cb, 0, none⟩) := hf 12 rfl
      have hl := run_load_agg (P := Tryd.prog) Tryd.isAgg100 Tryd.sizeOf100 (HCK.out X hb) rfl
      refine Inv.pay_value (v := .agg #[.string ⟨#[110]⟩, .string D1, .bool false]) (w' := X) ?_ ?_
      · simp [execOp, Inv.act_eval, e, hl, Result.andThen]
      · exact hk (.agg #[.string ⟨#[110]⟩, .string D1, .bool false]) X (Below.refl _ _) rfl
    · intro f X K hb hf hd hk
      have e : f 13 = .pointer (some ⟨cb + 1, 0, none⟩) := hf 13 rfl
      have hl := run_load_agg (P := Tryd.prog) Tryd.isAgg92 Tryd.sizeOf92 (HNK.out X hb) rfl
      refine Inv.pay_value (v := .agg #[.int .i64 (N : Int), .int .i64 0, .int .i64 (i : Int), .string ⟨#[]⟩]) (w' := X) ?_ ?_
      · simp [execOp, Inv.act_eval, e, hl, Result.andThen]
      · exact hk (.agg #[.int .i64 (N : Int), .int .i64 0, .int .i64 (i : Int), .string ⟨#[]⟩]) X (Below.refl _ _) rfl
    · intro f X K hb hf hd hk
      have d : f 45 = .agg #[.int .i64 (N : Int), .int .i64 0, .int .i64 (i : Int), .string ⟨#[]⟩] := hd 2 rfl
      refine Inv.pay_call (f := 63) (args := #[.agg #[.int .i64 (N : Int), .int .i64 0, .int .i64 (i : Int), .string ⟨#[]⟩]]) (u := .agg #[.string ch.key, .string ch.value, .bool ch.gone]) (R := fun w' => Below X.heap.size X w') ?_ (HPU.out X) (fun w5 hb5 => hk (.agg #[.string ch.key, .string ch.value, .bool ch.gone]) w5 hb5 rfl)
      simp [execOp, go_sem, Inv.act_get, d]
    · intro f X K hb hf hd hk
      have d1 : f 44 = .agg #[.string ⟨#[110]⟩, .string D1, .bool false] := hd 1 rfl
      have d3 : f 46 = .agg #[.string ch.key, .string ch.value, .bool ch.gone] := hd 3 rfl
      refine Inv.pay_value (v := .slice (some ⟨X.heap.size, 0, none⟩) 2 2) (w' := X.alloc (Obj.cells #[.string ⟨#[110]⟩, .string D1, .bool false, .string ch.key, .string ch.value, .bool ch.gone] 100)) ?_ ?_
      · simp [execOp, go_sem, Inv.act_get, d1, d3]
      · exact hk (.slice (some ⟨X.heap.size, 0, none⟩) 2 2) _ ((Below.refl _ _).alloc (Nat.le_refl _) _) ⟨X.heap.size, rfl, heap_alloc_new X _⟩
    · intro f X K hb hf hd hk
      have e : f 9 = .int .i64 (N : Int) := hf 9 rfl
      refine Inv.pay_value (v := .int .i64 (N : Int)) (w' := X) ?_ ?_
      · simp [execOp, go_sem, Inv.act_get, e]
      · exact hk (.int .i64 (N : Int)) X (Below.refl _ _) rfl
    · intro f X K hb hf hd hk
      have d : f 48 = .int .i64 (N : Int) := hd 5 rfl
      refine Inv.pay_call (f := 62) (args := #[.int .i64 (N : Int)]) (u := .string D) (R := fun w' => w' = X) ?_ (HD.out X) (fun w5 hb5 => hk (.string D) w5 (by rw [hb5]; exact Below.refl _ _) rfl)
      simp [execOp, go_sem, Inv.act_get, d]
    · intro f X K hb hf hd hk
      have d : f 49 = .string D := hd 6 rfl
      refine Inv.pay_value (v := .string TXT) (w' := X) ?_ ?_
      · simp [execOp, go_sem, Inv.act_get, d, z1, hTXT]
      · exact hk (.string TXT) X (Below.refl _ _) rfl
    · intro f X K hb hf hd hk
      have d0 : f 43 = .slice la LM.length lc := hd 0 rfl
      obtain ⟨gq, d4, hq⟩ : ∃ gq, f 47 = .slice (some ⟨gq, 0, none⟩) 2 2 ∧ X.heap[gq]? = some (.cells #[.string ⟨#[110]⟩, .string D1, .bool false, .string ch.key, .string ch.value, .bool ch.gone] 100 (0, 0)) := hd 4 rfl
      have d7 : f 50 = .string TXT := hd 7 rfl
      refine Inv.pay_callE (f := 38) (args := #[.slice la LM.length lc, .slice (some ⟨gq, 0, none⟩) 2 2, .string TXT]) (R := fun u w' => (∃ v, u = .tuple #[v, .string TXT, .bool true] ∧ w'.ownsRow X.heap.size 48 2 v OM.length (cellsPair OM)) ∧ Below X.heap.size X w') ?_ (HRE.out gq X (HMK.out X hb) hq) ?_
      · simp [execOp, go_sem, Inv.act_get, d0, d4, d7]
      rintro u w5 ⟨⟨v, rfl, y⟩, hb5⟩
      refine hk _ w5 hb5 ⟨v, rfl, own_mono y ?_⟩
      have := HB4.out.size
      have := hb.size
      omega
    · intro f X K hb hf hd hk
      have h8 : ∃ vz, f 51 = .tuple #[vz, .string TXT, .bool true] ∧ X.ownsRow w.heap.size 48 2 vz OM.length (cellsPair OM) := hd 8 rfl
      cases h8 with | intro vz hvz =>
      have d8 := hvz.1
      have hz := hvz.2
      clear hvz
      refine Inv.pay_value (v := vz) (w' := X) ?_ ?_
      · simp [execOp, go_sem, Inv.act_get, d8]
      · exact hk (vz) X (Below.refl _ _) hz
    · intro f X K hb hf hd hk
      have h8 : ∃ vz, f 51 = .tuple #[vz, .string TXT, .bool true] ∧ X.ownsRow w.heap.size 48 2 vz OM.length (cellsPair OM) := hd 8 rfl
      cases h8 with | intro vz hvz =>
      have d8 := hvz.1
      have hz := hvz.2
      clear hvz
      refine Inv.pay_value (v := .string TXT) (w' := X) ?_ ?_
      · simp [execOp, go_sem, Inv.act_get, d8]
      · exact hk (.string TXT) X (Below.refl _ _) rfl
    · intro f X K hb hf hd hk
      have h8 : ∃ vz, f 51 = .tuple #[vz, .string TXT, .bool true] ∧ X.ownsRow w.heap.size 48 2 vz OM.length (cellsPair OM) := hd 8 rfl
      cases h8 with | intro vz hvz =>
      have d8 := hvz.1
      have hz := hvz.2
      clear hvz
      refine Inv.pay_value (v := .bool true) (w' := X) ?_ ?_
      · simp [execOp, go_sem, Inv.act_get, d8]
      · exact hk (.bool true) X (Below.refl _ _) rfl
    · intro f X K hb hf hd hk
      have d : X.ownsRow w.heap.size 48 2 (f 52) OM.length (cellsPair OM) := hd 9 rfl
      refine Inv.pay_value (v := f 52) (w' := X) ?_ ?_
      · simp [execOp, go_sem, Inv.act_get]
      · exact hk (f 52) X (Below.refl _ _) d
    · intro f X K hb hf hd hk
      have d : f 53 = .string TXT := hd 10 rfl
      refine Inv.pay_value (v := .string TXT) (w' := X) ?_ ?_
      · simp [execOp, go_sem, Inv.act_get, d]
      · exact hk (.string TXT) X (Below.refl _ _) rfl
    · intro f X K hb hf hd hk
      have d : f 54 = .bool true := hd 11 rfl
      refine Inv.pay_value (v := .bool true) (w' := X) ?_ ?_
      · simp [execOp, go_sem, Inv.act_get, d]
      · exact hk (.bool true) X (Below.refl _ _) rfl
    · intro f w5 hb5 hf hv
      have d12 : w5.ownsRow w.heap.size 48 2 (f 6) OM.length (cellsPair OM) := hv 12 (by decide)
      have d13 : f 7 = .string TXT := hv 13 (by decide)
      have d14 : f 8 = .bool true := hv 14 (by decide)
      have HF5 : Hid (Below w.heap.size w w5) := HB4.out.trans (hb5.mono HB4.out.size)
      have HD12 : Hid (w5.ownsRow w.heap.size 48 2 (f 6) OM.length (cellsPair OM)) := d12
      clear hf hv d12
      show K0 (Inv.act 55 [] f) _
      refine hK0 _ _ ?_
      go_wp2
      exact bodyPost_ret (v := .tuple #[f 6, .string TXT, .bool true]) (by simp [results, Tryd.results36, go_sem, Inv.act_get, d13, d14]) rfl ⟨f 6, by rw [HT2.out], HD12.out, HF5.out⟩
  · have h3' : ¬ (3 : Int) ≤ ((sess m).length : Int) := by omega
    have hle : LM = m := by have q := HLM0.out; rwa [if_neg h3] at q
    clear h3
    go_enter Tryd.func36, Tryd.ntmps36
    go_wp2_with fail
    refine Calls.mono HNX.out ?_
    rintro e w3 ⟨rfl, hb3⟩
    have HB3 : Hid (Below w.heap.size w w3) := hb3
    obtain ⟨la, lg, lo, lc, hla, HM3⟩ : ∃ (la : Option Addr) (lg lo lc : Nat), (Value.slice a m.length cap) = .slice la LM.length lc ∧ Hid (PairAt w3 la lg lo LM) := ⟨a, g, off, cap, by rw [hle], by rw [hle]; exact HFM.out.kept hb3⟩
    have HRE : Hid (∀ (gq : Nat) (X : World), PairAt X la lg lo LM → X.heap[gq]? = some (.cells #[.string ⟨#[110]⟩, .string D1, .bool false, .string ch.key, .string ch.value, .bool ch.gone] 100 (0, 0)) → Calls Tryd.prog 38 #[.slice la LM.length lc, .slice (some ⟨gq, 0, none⟩) 2 2, .string ((⟨#[111, 112, 101, 110, 32]⟩ : ByteArray) ++ D)] X fun e w' => ∃ u, e = .returned u ∧ (∃ v, u = .tuple #[v, .string ((⟨#[111, 112, 101, 110, 32]⟩ : ByteArray) ++ D), .bool true] ∧ w'.ownsRow X.heap.size 48 2 v OM.length (cellsPair OM)) ∧ Below X.heap.size X w') := fun gq X h h' => by have q := HRE.out la lg lo lc gq X h h'; rw [HTX.out] at q; exact q
    clear hb3
    rw [hla]
    clear hla hle
    go_wp2_with fail
    refine Calls.mono (HD1.out _) ?_
    rintro e w4 ⟨rfl, hw4⟩
    have hw4' : w4 = w3 := hw4
    subst hw4'
    go_wp2_with fail
    obtain ⟨W4, hW4⟩ : ∃ W4, W4 = (w4.alloc (Obj.cells #[.string ⟨#[110]⟩, .string D1, .bool false] 100)).alloc (Obj.cells #[.int .i64 (N : Int), .int .i64 0, .int .i64 (i : Int), .string ⟨#[]⟩] 92) := ⟨_, rfl⟩
    have hb4 : Below w4.heap.size w4 W4 := by rw [hW4]; exact two_bel _ _
    have hc4 : W4.heap[w4.heap.size]? = some (.cells #[.string ⟨#[110]⟩, .string D1, .bool false] 100 (0, 0)) := by rw [hW4, Below.heap_alloc _ _ _ (by simp)]; exact heap_alloc_new w4 _
    have hn4 : W4.heap[w4.heap.size + 1]? = some (.cells #[.int .i64 (N : Int), .int .i64 0, .int .i64 (i : Int), .string ⟨#[]⟩] 92 (0, 0)) := by
      have p := heap_alloc_new (w4.alloc (Obj.cells #[.string ⟨#[110]⟩, .string D1, .bool false] 100)) (Obj.cells #[.int .i64 (N : Int), .int .i64 0, .int .i64 (i : Int), .string ⟨#[]⟩] 92)
      have e : (w4.alloc (Obj.cells #[.string ⟨#[110]⟩, .string D1, .bool false] 100)).heap.size = w4.heap.size + 1 := by simp
      rw [e] at p
      rw [hW4]
      exact p
    have HB4 : Hid (Below w.heap.size w W4) := HB3.out.trans (hb4.mono HB3.out.size)
    have HM4 : Hid (PairAt W4 la lg lo LM) := HM3.out.kept hb4
    obtain ⟨cb, hcb⟩ : ∃ cb, cb = w4.heap.size := ⟨_, rfl⟩
    rw [← hcb] at hc4 hn4
    rw [← hW4, ← hcb]
    have n0 := cell_of_row _ _ 0 _ _ _ hn4
    have n1 := cell_of_row _ _ 1 _ _ _ hn4
    have n2 := cell_of_row _ _ 2 _ _ _ hn4
    have n3 := cell_of_row _ _ 3 _ _ _ hn4
    have k0 := cell_of_row _ _ 0 _ _ _ hc4
    have k1 := cell_of_row _ _ 1 _ _ _ hc4
    have k2 := cell_of_row _ _ 2 _ _ _ hc4
    simp at n0 n1 n2 n3 k0 k1 k2
    have HCK : Hid (∀ W, Below W4.heap.size W4 W → W.heap[cb]? = some (.cells #[.string ⟨#[110]⟩, .string D1, .bool false] 100 (0, 0))) := fun W hb => (hb.block _ (Array.getElem?_eq_some_iff.1 hc4).1).trans hc4
    have HNK : Hid (∀ W, Below W4.heap.size W4 W → W.heap[cb + 1]? = some (.cells #[.int .i64 (N : Int), .int .i64 0, .int .i64 (i : Int), .string ⟨#[]⟩] 92 (0, 0))) := fun W hb => (hb.block _ (Array.getElem?_eq_some_iff.1 hn4).1).trans hn4
    have HMK : Hid (∀ W, Below W4.heap.size W4 W → PairAt W la lg lo LM) := fun W hb => HM4.out.kept hb
    obtain ⟨TXT, hTXT⟩ : ∃ TXT, (⟨#[111, 112, 101, 110, 32]⟩ : ByteArray) ++ D = TXT := ⟨_, rfl⟩
    rw [hTXT] at HRE
    have HT2 : Hid (TX = TXT) := by show _ = _; rw [HTX.out, ← hTXT]; rfl
    clear hW4 hb4 hcb hc4 hn4 HB3 HM3 n0 n1 n2 n3 k0 k1 k2
    rename_i K0 hK0
    refine Inv.region_walk 55 (fun jj v W => if jj = 4 then (∃ gq, v = .slice (some ⟨gq, 0, none⟩) 2 2 ∧ W.heap[gq]? = some (.cells #[.string ⟨#[110]⟩, .string D1, .bool false, .string ch.key, .string ch.value, .bool ch.gone] 100 (0, 0))) else if jj = 8 then (∃ vz, v = .tuple #[vz, .string TXT, .bool true] ∧ W.ownsRow w.heap.size 48 2 vz OM.length (cellsPair OM)) else if jj = 9 ∨ jj = 12 then W.ownsRow w.heap.size 48 2 v OM.length (cellsPair OM) else v = [.slice la LM.length lc, .agg #[.string ⟨#[110]⟩, .string D1, .bool false], .agg #[.int .i64 (N : Int), .int .i64 0, .int .i64 (i : Int), .string ⟨#[]⟩], .agg #[.string ch.key, .string ch.value, .bool ch.gone], undef, .int .i64 (N : Int), .string D, .string TXT, undef, undef, .string TXT, .bool true, undef, .string TXT, .bool true].getD jj undef) rfl (by kernel_rfl) (by kernel_rfl) ?_ ⟨?_, ?_, ?_, ?_, ?_, ?_, ?_, ?_, ?_, ?_, ?_, ?_, ?_, ?_, ?_, trivial⟩ ?_
    · intro jj v X X' h hb
      by_cases h4 : jj = 4
      · simp only [h4, if_true] at h ⊢
        obtain ⟨gq, x, y⟩ := h
        exact ⟨gq, x, (hb.block _ (Array.getElem?_eq_some_iff.1 y).1).trans y⟩
      · by_cases h8 : jj = 8
        · simp only [h8] at h ⊢
          obtain ⟨vz, x, y⟩ := h
          exact ⟨vz, x, own_kept y hb⟩
        · by_cases h9 : jj = 9 ∨ jj = 12
          · simp only [h4, h8, h9, if_true, if_false] at h ⊢
            exact own_kept h hb
          · simp only [h4, h8, h9, if_false] at h ⊢
            exact h
    · intro f X K hb hf hd hk
      have e : f 11 = .slice la LM.length lc := hf 11 rfl
      refine Inv.pay_value (v := .slice la LM.length lc) (w' := X) ?_ ?_
      · simp [execOp, go_sem, Inv.act_get, e]
      · exact hk (.slice la LM.length lc) X (Below.refl _ _) rfl
    · intro f X K hb hf hd hk
      have e : f 12 = .pointer (some ⟨cb, 0, none⟩) := hf 12 rfl
      have hl := run_load_agg (P := Tryd.prog) Tryd.isAgg100 Tryd.sizeOf100 (HCK.out X hb) rfl
      refine Inv.pay_value (v := .agg #[.string ⟨#[110]⟩, .string D1, .bool false]) (w' := X) ?_ ?_
      · simp [execOp, Inv.act_eval, e, hl, Result.andThen]
      · exact hk (.agg #[.string ⟨#[110]⟩, .string D1, .bool false]) X (Below.refl _ _) rfl
    · intro f X K hb hf hd hk
      have e : f 13 = .pointer (some ⟨cb + 1, 0, none⟩) := hf 13 rfl
      have hl := run_load_agg (P := Tryd.prog) Tryd.isAgg92 Tryd.sizeOf92 (HNK.out X hb) rfl
      refine Inv.pay_value (v := .agg #[.int .i64 (N : Int), .int .i64 0, .int .i64 (i : Int), .string ⟨#[]⟩]) (w' := X) ?_ ?_
      · simp [execOp, Inv.act_eval, e, hl, Result.andThen]
      · exact hk (.agg #[.int .i64 (N : Int), .int .i64 0, .int .i64 (i : Int), .string ⟨#[]⟩]) X (Below.refl _ _) rfl
    · intro f X K hb hf hd hk
      have d : f 45 = .agg #[.int .i64 (N : Int), .int .i64 0, .int .i64 (i : Int), .string ⟨#[]⟩] := hd 2 rfl
      refine Inv.pay_call (f := 63) (args := #[.agg #[.int .i64 (N : Int), .int .i64 0, .int .i64 (i : Int), .string ⟨#[]⟩]]) (u := .agg #[.string ch.key, .string ch.value, .bool ch.gone]) (R := fun w' => Below X.heap.size X w') ?_ (HPU.out X) (fun w5 hb5 => hk (.agg #[.string ch.key, .string ch.value, .bool ch.gone]) w5 hb5 rfl)
      simp [execOp, go_sem, Inv.act_get, d]
    · intro f X K hb hf hd hk
      have d1 : f 44 = .agg #[.string ⟨#[110]⟩, .string D1, .bool false] := hd 1 rfl
      have d3 : f 46 = .agg #[.string ch.key, .string ch.value, .bool ch.gone] := hd 3 rfl
      refine Inv.pay_value (v := .slice (some ⟨X.heap.size, 0, none⟩) 2 2) (w' := X.alloc (Obj.cells #[.string ⟨#[110]⟩, .string D1, .bool false, .string ch.key, .string ch.value, .bool ch.gone] 100)) ?_ ?_
      · simp [execOp, go_sem, Inv.act_get, d1, d3]
      · exact hk (.slice (some ⟨X.heap.size, 0, none⟩) 2 2) _ ((Below.refl _ _).alloc (Nat.le_refl _) _) ⟨X.heap.size, rfl, heap_alloc_new X _⟩
    · intro f X K hb hf hd hk
      have e : f 9 = .int .i64 (N : Int) := hf 9 rfl
      refine Inv.pay_value (v := .int .i64 (N : Int)) (w' := X) ?_ ?_
      · simp [execOp, go_sem, Inv.act_get, e]
      · exact hk (.int .i64 (N : Int)) X (Below.refl _ _) rfl
    · intro f X K hb hf hd hk
      have d : f 48 = .int .i64 (N : Int) := hd 5 rfl
      refine Inv.pay_call (f := 62) (args := #[.int .i64 (N : Int)]) (u := .string D) (R := fun w' => w' = X) ?_ (HD.out X) (fun w5 hb5 => hk (.string D) w5 (by rw [hb5]; exact Below.refl _ _) rfl)
      simp [execOp, go_sem, Inv.act_get, d]
    · intro f X K hb hf hd hk
      have d : f 49 = .string D := hd 6 rfl
      refine Inv.pay_value (v := .string TXT) (w' := X) ?_ ?_
      · simp [execOp, go_sem, Inv.act_get, d, z1, hTXT]
      · exact hk (.string TXT) X (Below.refl _ _) rfl
    · intro f X K hb hf hd hk
      have d0 : f 43 = .slice la LM.length lc := hd 0 rfl
      obtain ⟨gq, d4, hq⟩ : ∃ gq, f 47 = .slice (some ⟨gq, 0, none⟩) 2 2 ∧ X.heap[gq]? = some (.cells #[.string ⟨#[110]⟩, .string D1, .bool false, .string ch.key, .string ch.value, .bool ch.gone] 100 (0, 0)) := hd 4 rfl
      have d7 : f 50 = .string TXT := hd 7 rfl
      refine Inv.pay_callE (f := 38) (args := #[.slice la LM.length lc, .slice (some ⟨gq, 0, none⟩) 2 2, .string TXT]) (R := fun u w' => (∃ v, u = .tuple #[v, .string TXT, .bool true] ∧ w'.ownsRow X.heap.size 48 2 v OM.length (cellsPair OM)) ∧ Below X.heap.size X w') ?_ (HRE.out gq X (HMK.out X hb) hq) ?_
      · simp [execOp, go_sem, Inv.act_get, d0, d4, d7]
      rintro u w5 ⟨⟨v, rfl, y⟩, hb5⟩
      refine hk _ w5 hb5 ⟨v, rfl, own_mono y ?_⟩
      have := HB4.out.size
      have := hb.size
      omega
    · intro f X K hb hf hd hk
      have h8 : ∃ vz, f 51 = .tuple #[vz, .string TXT, .bool true] ∧ X.ownsRow w.heap.size 48 2 vz OM.length (cellsPair OM) := hd 8 rfl
      cases h8 with | intro vz hvz =>
      have d8 := hvz.1
      have hz := hvz.2
      clear hvz
      refine Inv.pay_value (v := vz) (w' := X) ?_ ?_
      · simp [execOp, go_sem, Inv.act_get, d8]
      · exact hk (vz) X (Below.refl _ _) hz
    · intro f X K hb hf hd hk
      have h8 : ∃ vz, f 51 = .tuple #[vz, .string TXT, .bool true] ∧ X.ownsRow w.heap.size 48 2 vz OM.length (cellsPair OM) := hd 8 rfl
      cases h8 with | intro vz hvz =>
      have d8 := hvz.1
      have hz := hvz.2
      clear hvz
      refine Inv.pay_value (v := .string TXT) (w' := X) ?_ ?_
      · simp [execOp, go_sem, Inv.act_get, d8]
      · exact hk (.string TXT) X (Below.refl _ _) rfl
    · intro f X K hb hf hd hk
      have h8 : ∃ vz, f 51 = .tuple #[vz, .string TXT, .bool true] ∧ X.ownsRow w.heap.size 48 2 vz OM.length (cellsPair OM) := hd 8 rfl
      cases h8 with | intro vz hvz =>
      have d8 := hvz.1
      have hz := hvz.2
      clear hvz
      refine Inv.pay_value (v := .bool true) (w' := X) ?_ ?_
      · simp [execOp, go_sem, Inv.act_get, d8]
      · exact hk (.bool true) X (Below.refl _ _) rfl
    · intro f X K hb hf hd hk
      have d : X.ownsRow w.heap.size 48 2 (f 52) OM.length (cellsPair OM) := hd 9 rfl
      refine Inv.pay_value (v := f 52) (w' := X) ?_ ?_
      · simp [execOp, go_sem, Inv.act_get]
      · exact hk (f 52) X (Below.refl _ _) d
    · intro f X K hb hf hd hk
      have d : f 53 = .string TXT := hd 10 rfl
      refine Inv.pay_value (v := .string TXT) (w' := X) ?_ ?_
      · simp [execOp, go_sem, Inv.act_get, d]
      · exact hk (.string TXT) X (Below.refl _ _) rfl
    · intro f X K hb hf hd hk
      have d : f 54 = .bool true := hd 11 rfl
      refine Inv.pay_value (v := .bool true) (w' := X) ?_ ?_
      · simp [execOp, go_sem, Inv.act_get, d]
      · exact hk (.bool true) X (Below.refl _ _) rfl
    · intro f w5 hb5 hf hv
      have d12 : w5.ownsRow w.heap.size 48 2 (f 6) OM.length (cellsPair OM) := hv 12 (by decide)
      have d13 : f 7 = .string TXT := hv 13 (by decide)
      have d14 : f 8 = .bool true := hv 14 (by decide)
      have HF5 : Hid (Below w.heap.size w w5) := HB4.out.trans (hb5.mono HB4.out.size)
      have HD12 : Hid (w5.ownsRow w.heap.size 48 2 (f 6) OM.length (cellsPair OM)) := d12
      clear hf hv d12
      show K0 (Inv.act 55 [] f) _
      refine hK0 _ _ ?_
      go_wp2
      exact bodyPost_ret (v := .tuple #[f 6, .string TXT, .bool true]) (by simp [results, Tryd.results36, go_sem, Inv.act_get, d13, d14]) rfl ⟨f 6, by rw [HT2.out], HD12.out, HF5.out⟩
end Go.Proofs.YtpedpdgkbmpfjaaDoor
