/- The program's ReadLog, walked. -/
import Derived.Test.YtahpoemmlpbgdaaGreatImplTake
import Derived.Test.YtahpoemmlpbgdaaGreatRLogA
namespace Go.Proofs.YtahpoemmlpbgdaaGreat
open Go.RowKit
open Logs (okL)
set_option linter.unusedVariables false
set_option linter.unusedSimpArgs false

theorem own_keepH {w w' : World} {B : Nat} {e : TypeId} {k : Nat} {v : Value} {n : Nat} {xs : List Value} (h : w.ownsRow B e k v n xs) (hk : ∀ q o, v.ownBlock = some q → w.heap[q]? = some o → w'.heap[q]? = some o) : w'.ownsRow B e k v n xs := by
  refine ⟨h.1, ?_⟩
  rcases h.2 with h1 | ⟨g, cap, cur, h2, hg, hh, h3⟩
  · exact .inl h1
  · exact .inr ⟨g, cap, cur, h2, hg, hk g _ (by rw [h2]; rfl) hh, h3⟩
theorem own_apart2 {W : World} {b b' k k' n n' : Nat} {e t : TypeId} {v u : Value} {xs ys : List Value} (h : W.ownsRow b e k v n xs) (h' : W.ownsRow b' t k' u n' ys) (hne : e ≠ t) (q : Nat) (hq : u.ownBlock = some q) : v.ownBlock ≠ some q := by
  rcases h'.2 with ⟨rfl, _⟩ | ⟨g, cap, cur, rfl, _, hh, _⟩
  · cases hq
  · obtain rfl : g = q := by simpa [Value.ownBlock] using hq
    exact own_not h hh hne
theorem result28 {w : World} {g : Nat} {A C : Array Value} {b : Bool} {x : Int} (hg : w.heap[g]? = some (.cells C 26 (0, 0))) (hs : A.size = 3) {tmps : Array Value} (ht : tmps.getD 2 undef = .pointer (some ⟨g, 0, none⟩)) (hx : tmps.getD 3 undef = .int .i64 x) (hb : tmps.getD 4 undef = .bool b) : (results Tryz.f7 tmps).run Tryz.prog (w.setRow g A) = .ok (.tuple #[.agg A, .int .i64 x, .bool b]) (w.setRow g A) := by
  have h := run_loadVar_agg (P := Tryz.prog) Tryz.isAgg26 Tryz.sizeOf26 (row_size (A := A) hg) hs
  have ht' : tmps[2]?.getD undef = .pointer (some ⟨g, 0, none⟩) := by simpa using ht
  have hx' : tmps[3]?.getD undef = .int .i64 x := by simpa using hx
  have hb' : tmps[4]?.getD undef = .bool b := by simpa using hb
  simp [results, Tryz.results7, ht', hb', hx', asAddr, h]
/-- What told and the log are worth behind k records. -/
def ToldIs (ps : List (List UInt8)) (r : Option LogL) (told : Bool) (m : LogL) : Prop := (told = true ∧ Reads12 ps false m r) ∨ (told = false ∧ r = none)
set_option maxHeartbeats 8000000 in
set_option maxRecDepth 100000 in
theorem implRead12_is (s : ByteArray) {ps : List (List UInt8)} {z : Nat} (hu : ∀ W : World, Calls Tryz.prog 24 #[.string s] W fun e w' => ∃ v, e = .returned (unT v z) ∧ w'.ownsRow W.heap.size 9 1 v ps.length (cellsS ps) ∧ Below W.heap.size W w') (hpl : ps.length ≤ 20000) (hps : ∀ p ∈ ps, p.length ≤ 9000)
    {l : LogL} {e : Nat} {R : Bool} (hR : RLIs ps z l e R) (w : World) : Calls Tryz.prog 7 #[.string s] w (RLPost w l e R) := by
  obtain ⟨r, hr, hans⟩ := hR
  obtain ⟨W, hW⟩ : ∃ W, W = w.alloc (Obj.cells #[.int .i64 0, .int .i64 0, .slice none 0 0] 26) := ⟨_, rfl⟩
  have hb : Below w.heap.size w W := by rw [hW]; exact (Below.refl _ _).alloc (Nat.le_refl _) _
  have hz : W.heap[w.heap.size]? = some (.cells #[.int .i64 0, .int .i64 0, .slice none 0 0] 26 (0, 0)) := by rw [hW]; exact heap_alloc_new w _
  have HPS : Hid (∀ p ∈ ps, p.length ≤ 9000) := hps
  have HU : Hid (Calls Tryz.prog 24 #[.string s] W fun e w' => ∃ v, e = .returned (unT v z) ∧ w'.ownsRow W.heap.size 9 1 v ps.length (cellsS ps) ∧ Below W.heap.size W w') := hu W
  have HRD : Hid (Reads12 ps true ⟨0, 0, []⟩ r) := hr
  have HAN : Hid ((∃ m, r = some m ∧ ps ≠ [] ∧ okL m = true ∧ l = m ∧ e = z ∧ R = true) ∨ ((∀ m, r = some m → ps ≠ [] → okL m = false) ∧ l = ⟨0, 0, []⟩ ∧ e = 0 ∧ R = false)) := hans
  have HB : Hid (Below w.heap.size w W) := hb
  have HZ : Hid (W.heap[w.heap.size]? = some (.cells #[.int .i64 0, .int .i64 0, .slice none 0 0] 26 (0, 0))) := hz
  clear hu hr hans hb hz hps
  obtain ⟨q, hq⟩ : ∃ q, q = w.heap.size := ⟨_, rfl⟩
  have HQ : Hid (q = w.heap.size) := hq
  go_enter Tryz.func7, Tryz.ntmps7
  go_wp2_with fail
  rw [← hW, ← hq]
  clear hW hq
  refine Calls.mono HU.out ?_
  rintro en w2 ⟨lv, rfl, hown, hb2⟩
  obtain ⟨va, vc, rfl⟩ := own_slice hown
  unfold unT
  have hz2 := (hb2.block _ (Array.getElem?_eq_some_iff.1 HZ.out).1).trans HZ.out
  have HZ2 : Hid (w2.heap[q]? = some (.cells #[.int .i64 0, .int .i64 0, .slice none 0 0] 26 (0, 0))) := by rw [HQ.out]; exact hz2
  have HBW2 : Hid (Below w.heap.size w w2) := HB.out.trans (hb2.mono HB.out.size)
  have HO2 : Hid (w2.ownsRow w.heap.size 9 1 (.slice va ps.length vc) ps.length (cellsS ps)) := own_mono hown HB.out.size
  clear hown hb2 hz2 HB HZ HU
  by_cases c0 : ps.length = 0
  · have hpn : ps = [] := List.length_eq_zero_iff.1 c0
    obtain ⟨rfl, rfl, rfl⟩ : l = ⟨0, 0, []⟩ ∧ e = 0 ∧ R = false := by
      rcases HAN.out with ⟨m', _, h, _⟩ | ⟨_, h⟩
      · exact absurd hpn h
      · exact h
    have hz0 : ((ps.length : Int) == 0) = true := by simp [hpn]
    clear hpn c0
    go_wp2_with (first | (refine wpList_storeA Tryz.sizeOf26 rfl _ _ rfl q #[.int .i64 0, .int .i64 0, .slice none 0 0] #[.int .i64 0, .int .i64 0, .slice none 0 0] 26 rfl rfl HZ2.out rfl rfl (log_one _ _ _ _ _) ?_) | fail)
    exact bodyPost_ret (result28 HZ2.out rfl rfl rfl rfl) rfl ⟨none, 0, rfl, World.ownsRow_nil _ _ _ _, below_setRow HBW2.out (by have := HQ.out; omega) _⟩
  · obtain ⟨ga, hga⟩ : ∃ ga : Nat, va = some ⟨ga, 0, none⟩ := by
      rcases HO2.out.2 with ⟨h1, h2⟩ | ⟨g, c, cur, h1, _⟩
      · omega
      · simp at h1; exact ⟨g, h1.1⟩
    subst hga
    have hvc : ps.length ≤ vc := by
      rcases HO2.out.2 with ⟨h1, h2⟩ | ⟨g, c, cur, h1, _, _, h2, _⟩
      · omega
      · simp at h1; omega
    have hz0 : ((ps.length : Int) == 0) = false := by simp; intro h; exact c0 (by rw [h]; rfl)
    have hlt0 : 0 < ps.length := by omega
    have ct := cell_at HO2.out 0 hlt0
    obtain ⟨p0, hp0⟩ : ∃ p0, p0 = ps[0] := ⟨_, rfl⟩
    have HP0 : Hid (ps = p0 :: ps.drop 1) := by show _ = _; rw [hp0]; exact (List.drop_eq_getElem_cons hlt0).symm ▸ (List.drop_zero).symm
    have HPL0 : Hid (p0.length ≤ 9000) := by rw [hp0]; exact HPS.out _ (List.getElem_mem _)
    obtain ⟨t, ht⟩ : ∃ t, t = tx p0 := ⟨_, rfl⟩
    have hts : t.size ≤ 1048576 := by rw [ht]; have := HPL0.out; show p0.toArray.size ≤ _; simp; omega
    have ct2 : w2.cell? ⟨ga, 0, none⟩ = some (.string t) := by rw [ht, hp0]; simpa [tx] using ct
    have hrd := HRD.out
    rw [HP0.out] at hrd
    obtain ⟨i, j, R1, n, e1, Q, hst, hre, hcs⟩ := hrd
    rw [← ht] at hst
    have HC1 : Hid (∀ X, Calls Tryz.prog 25 #[.string t] X fun en w' => en = .returned (.tuple #[.agg #[.int .i64 (i : Int), .int .i64 (j : Int), .slice none 0 0], .bool R1]) ∧ Below X.heap.size X w') := fun X => readStart_is hts hst X
    have HTD : Hid (ToldIs (ps.drop 1) r R1 ⟨(i : Int), (j : Int), []⟩) := by
      rcases hcs with ⟨h1, h2⟩ | ⟨_, h2, _⟩ | ⟨h1, _, h2⟩
      · exact Or.inl ⟨h1, h2⟩
      · cases h2.1
      · exact Or.inr ⟨h1, h2⟩
    have HI1 : Hid ((i : Int) ≤ 1000000000) := by
      rcases hst with ⟨h, _⟩ | ⟨_, h, _⟩
      · have := h.2.1; show _ ≤ _; omega
      · show _ ≤ _; omega
    clear hst hre hcs ct ht hp0
    have z1 : (0 : Int) < (ps.length : Int) := by omega
    go_wp2_with fail
    refine Calls.mono (HC1.out _) ?_
    rintro en w4 ⟨rfl, hb4⟩
    obtain ⟨W5, hW5⟩ : ∃ W5, W5 = w4.alloc (Obj.cells #[.int .i64 (i : Int), .int .i64 (j : Int), .slice none 0 0] 26) := ⟨_, rfl⟩
    have hb5 : Below w4.heap.size w4 W5 := by rw [hW5]; exact (Below.refl _ _).alloc (Nat.le_refl _) _
    have hb45 : Below w2.heap.size w2 W5 := hb4.trans (hb5.mono hb4.size)
    obtain ⟨lb, hlb⟩ : ∃ lb, lb = w4.heap.size := ⟨_, rfl⟩
    have HLB : Hid (w.heap.size ≤ lb) := by show _ ≤ _; rw [hlb]; exact Nat.le_trans HBW2.out.size hb4.size
    have HLQ : Hid (q ≠ lb) := by
      have h1 := (Array.getElem?_eq_some_iff.1 HZ2.out).1
      have h2 := hb4.size
      show _ ≠ _
      omega
    have HS0 : Hid (RS w lb (.slice (some ⟨ga, 0, none⟩) ps.length vc) ps ⟨(i : Int), (j : Int), []⟩ none 0 W5) := by
      refine ⟨?_, ?_, World.ownsRow_nil _ _ _ _, own_kept HO2.out hb45, HBW2.out.trans (hb45.mono HBW2.out.size)⟩
      · have h1 := HZ2.out
        rw [HQ.out] at h1
        exact (hb45.block _ (Array.getElem?_eq_some_iff.1 h1).1).trans h1
      · rw [hlb, hW5]; exact heap_alloc_new w4 _
    clear hb4 hb5 hb45 ct2 HC1 HZ2 HBW2 HO2
    have z2 : (1 : Int) ≤ (ps.length : Int) := by omega
    obtain ⟨ra, hra⟩ : ∃ ra : Option Addr, ra = if vc = 1 then some ⟨ga, 0, none⟩ else some ⟨ga, 1, none⟩ := ⟨_, rfl⟩
    have HRA : Hid (1 < ps.length → ra = some ⟨ga, 1, none⟩) := fun h => by rw [hra, if_neg (by omega)]
    obtain ⟨n1, hn1⟩ : ∃ n1, n1 = ps.length - 1 := ⟨_, rfl⟩
    have hsl : ∀ X : World, (Instr.slice 60 (.slice (some ⟨ga, 0, none⟩) ps.length vc) (some (.int .i64 1)) none none).run Tryz.prog X = .ok (.slice ra n1 (vc - 1)) X := fun X => by
      have h0 := run_slice_l (P := Tryz.prog) X 60 (some ⟨ga, 0, none⟩) ps.length vc Tryz.underlying60 .i64 1 (by omega) (by omega)
      rw [h0, hra, hn1]
      by_cases h1 : vc = 1
      · simp [go_sem, sliced, h1]
      · simp [go_sem, sliced, h1, Addr.add]
    have HN1 : Hid (n1 + 1 = ps.length) := by show _ = _; omega
    clear hra hn1
    go_wp2_with fail
    rw [← hW5, ← hlb]
    clear hW5 hlb hsl
    go_loopw [8, 10, 30] (fun told _ i wr => ∃ (k : Nat) (m : LogL) (a : Option Addr) (cap : Nat) (td : Bool), k ≤ n1 ∧ i = .int .i64 (k : Int) ∧ told = .bool td ∧ m.ents.length ≤ k ∧ 0 ≤ m.start ∧ m.start ≤ 1000000000 ∧ Hid (ToldIs (ps.drop (k + 1)) r td m) ∧ Hid (∀ e ∈ m.ents, e.data.size ≤ 1048576) ∧ Hid (RS w lb (.slice (some ⟨ga, 0, none⟩) ps.length vc) ps m a cap wr)) (fun _ _ i _ => n1 - (intOf i).toNat)
    case atStart => exact ⟨0, ⟨(i : Int), (j : Int), []⟩, none, 0, R1, Nat.zero_le _, rfl, rfl, Nat.zero_le _, by show (0 : Int) ≤ (i : Int); omega, HI1.out, HTD, fun e he => absurd he (by simp), HS0⟩
    case round =>
      obtain ⟨k, m, a, cap, td, hk, rfl, rfl, hmk, ms0, ms1, HT, HD, HS⟩ := hrel
      clear HS0 HTD HI1
      by_cases hlt : k < n1
      · have hk1 : k + 1 < ps.length := by have := HN1.out; omega
        have hra := HRA.out (by omega)
        subst hra
        have hk0 : (0 : Int) ≤ (k : Int) := by omega
        have hk2 : (k : Int) < (n1 : Int) := by omega
        have ct := cell_at HS.out.lst (k + 1) hk1
        have HP : Hid (ps[k + 1].length ≤ 9000) := HPS.out _ (List.getElem_mem _)
        obtain ⟨t2, ht2⟩ : ∃ t2, t2 = tx ps[k + 1] := ⟨_, rfl⟩
        have hts2 : t2.size ≤ 1048576 := by rw [ht2]; have := HP.out; show ps[k + 1].toArray.size ≤ _; simp; omega
        have ct2 : wr.cell? ⟨ga, 1 + k, none⟩ = some (.string t2) := by rw [ht2, Nat.add_comm 1 k]; simpa [tx] using ct
        have HDR : Hid (ps.drop (k + 1) = ps[k + 1] :: ps.drop (k + 1 + 1)) := List.drop_eq_getElem_cons hk1
        clear ct
        cases td with
        | false =>
          have HT2 : Hid (ToldIs (ps.drop (k + 1 + 1)) r false m) := by
            rcases HT.out with ⟨h, _⟩ | ⟨_, h⟩
            · cases h
            · exact Or.inr ⟨rfl, h⟩
          clear HT ht2
          go_wp2
          go_roundw
          case rel => exact ⟨k + 1, m, a, cap, false, by omega, by go_num, rfl, by omega, ms0, ms1, HT2, HD, HS⟩
          case measure => simp [intOf]; omega
        | true =>
          have hrd : Reads12 (ps.drop (k + 1)) false m r := by
            rcases HT.out with ⟨_, h⟩ | ⟨h, _⟩
            · exact h
            · cases h
          rw [HDR.out] at hrd
          obtain ⟨i2, j2, R2, n2, e2, Q2, hst, hre, hcs⟩ := hrd
          rw [← ht2] at hst hre
          obtain ⟨m', ok, hm', hto, hlen, hs0, hs1, hdat⟩ : ∃ (m' : LogL) (ok : Bool), ((R2 = true ∧ m' = ⟨(i2 : Int), (j2 : Int), []⟩ ∧ ok = true) ∨ (R2 = false ∧ Takes false Q2 m n2 ∧ m' = put12 m n2 e2 ∧ ok = true) ∨ (R2 = false ∧ ¬ Takes false Q2 m n2 ∧ m' = m ∧ ok = false)) ∧ ToldIs (ps.drop (k + 1 + 1)) r ok m' ∧ m'.ents.length ≤ k + 1 ∧ 0 ≤ m'.start ∧ m'.start ≤ 1000000000 ∧ ∀ e ∈ m'.ents, e.data.size ≤ 1048576 := by
            rcases hcs with ⟨h1, h2⟩ | ⟨h1, h2, h3⟩ | ⟨h1, h2, h3⟩
            · refine ⟨_, true, Or.inl ⟨h1, rfl, rfl⟩, Or.inl ⟨rfl, h2⟩, Nat.zero_le _, by show (0 : Int) ≤ (i2 : Int); omega, ?_, fun e he => absurd he (by simp)⟩
              rcases hst with ⟨h, _⟩ | ⟨_, h, _⟩
              · have := h.2.1; show (i2 : Int) ≤ _; omega
              · show (i2 : Int) ≤ _; omega
            · refine ⟨_, true, Or.inr (Or.inl ⟨h1, h2, rfl, rfl⟩), Or.inl ⟨rfl, h3⟩, ?_, ms0, ms1, fun e he => ?_⟩
              · show (m.ents.take _ ++ [e2]).length ≤ k + 1
                rw [List.length_append, List.length_take]
                simp
                omega
              · rcases List.mem_append.1 he with he | he
                · exact HD.out e (List.mem_of_mem_take he)
                · simp at he
                  rw [he]
                  exact re_small hre hts2
            · exact ⟨m, false, Or.inr (Or.inr ⟨h1, h2, rfl, rfl⟩), Or.inr ⟨rfl, h3⟩, by omega, ms0, ms1, HD.out⟩
          have hS := HS.out
          have HCT : Hid (Calls Tryz.prog 26 #[.pointer (some ⟨lb, 0, none⟩), .string t2] wr (TkPost wr w.heap.size lb (Value.slice a m.ents.length cap).ownBlock m' ok)) := take_is hts2 hst hre hm' (by have := HN1.out; omega) ms0 ms1 wr HLB.out hS.bel.size hS.log hS.own
          have HTO : Hid (ToldIs (ps.drop (k + 1 + 1)) r ok m') := hto
          have HDA : Hid (∀ e ∈ m'.ents, e.data.size ≤ 1048576) := hdat
          have HLE : Hid (m'.ents.length ≤ k + 1 ∧ 0 ≤ m'.start ∧ m'.start ≤ 1000000000) := ⟨hlen, hs0, hs1⟩
          clear hst hre hcs hm' hto hdat hlen hs0 hs1 hS ht2 HT HD
          go_wp2_with fail
          refine Calls.mono HCT.out ?_
          rintro en w6 ⟨rfl, a', cap', hl6, ho6, hk6, hb6⟩
          have HS6 : Hid (RS w lb (.slice (some ⟨ga, 0, none⟩) ps.length vc) ps m' a' cap' w6) := by
            have hS := HS.out
            have hq2 := HQ.out
            have hlq := HLQ.out
            exact ⟨hk6 _ _ hS.zero (by omega) (own_not hS.own hS.zero (by decide)), hl6, ho6, own_keepH hS.lst (fun q o hq hh => hk6 q o hh (fun e => own_not hS.lst hS.log (by decide) (by rw [hq, e])) (own_apart2 hS.own hS.lst (by decide) q hq)), hS.bel.trans hb6⟩
          clear hl6 ho6 hk6 hb6 ct2 HCT
          go_wp2
          go_roundw
          case rel => exact ⟨k + 1, m', a', cap', ok, by omega, by go_num, rfl, HLE.out.1, HLE.out.2.1, HLE.out.2.2, HTO, HDA, HS6⟩
          case measure => simp [intOf]; omega
      · have hge : ¬ (k : Int) < (n1 : Int) := by omega
        have hkn : k + 1 = ps.length := by have := HN1.out; omega
        have HTE : Hid (ToldIs [] r td m) := by
          have := HT.out
          rwa [List.drop_of_length_le (by omega)] at this
        have hS := HS.out
        have HPN : Hid (ps ≠ []) := fun h => by rw [h] at hkn; simp at hkn
        have HZ9 : Hid (wr.heap[q]? = some (.cells #[.int .i64 0, .int .i64 0, .slice none 0 0] 26 (0, 0))) := by rw [HQ.out]; exact hS.zero
        have HB9 : Hid (Below w.heap.size w wr) := hS.bel
        clear HT hkn
        cases td with
        | false =>
          have hrn : r = none := by
            rcases HTE.out with ⟨h, _⟩ | ⟨_, h⟩
            · cases h
            · exact h
          obtain ⟨rfl, rfl, rfl⟩ : l = ⟨0, 0, []⟩ ∧ e = 0 ∧ R = false := by
            rcases HAN.out with ⟨m', h, _⟩ | ⟨_, h⟩
            · rw [hrn] at h; cases h
            · exact h
          clear hS hrn
          go_wp2_with (first | (refine wpList_storeA Tryz.sizeOf26 rfl _ _ rfl q #[.int .i64 0, .int .i64 0, .slice none 0 0] #[.int .i64 0, .int .i64 0, .slice none 0 0] 26 rfl rfl HZ9.out rfl rfl (log_one _ _ _ _ _) ?_) | fail)
          exact bodyPost_ret (result28 HZ9.out rfl rfl rfl rfl) rfl ⟨none, 0, rfl, World.ownsRow_nil _ _ _ _, below_setRow HB9.out (by have := HQ.out; omega) _⟩
        | true =>
          have hrm : r = some m := by
            rcases HTE.out with ⟨_, h⟩ | ⟨h, _⟩
            · exact h
            · cases h
          have l0 := cell_of_row _ _ 0 _ _ _ hS.log
          have l1 := cell_of_row _ _ 1 _ _ _ hS.log
          have l2 := cell_of_row _ _ 2 _ _ _ hS.log
          simp at l0 l1 l2
          obtain ⟨a2, g2, cap2, hsl2, hen⟩ := cellsEn_slice hS.own
          simp only [Value.slice.injEq] at hsl2
          obtain ⟨rfl, _, rfl⟩ := hsl2
          obtain ⟨O, hO⟩ : ∃ O, O = okL m := ⟨_, rfl⟩
          have HC3 : Hid (Calls Tryz.prog 21 #[.agg #[.int .i64 m.start, .int .i64 m.sterm, .slice a m.ents.length cap]] wr fun en w' => en = .returned (.bool O) ∧ Below wr.heap.size wr w') := by rw [hO]; exact implLogOk_is m (by have := HN1.out; omega) HD.out wr hen
          have HO : Hid (O = okL m) := hO
          have HRM : Hid (r = some m) := hrm
          clear hS hrm hen hO HZ9 HB9 HTE
          go_wp2_with fail
          refine Calls.mono HC3.out ?_
          rintro en w8 ⟨rfl, hb8⟩
          have hS8 := HS.out.same hb8
          have HS8 : Hid (RS w lb (.slice (some ⟨ga, 0, none⟩) ps.length vc) ps m a cap w8) := hS8
          have HZ9 : Hid (w8.heap[q]? = some (.cells #[.int .i64 0, .int .i64 0, .slice none 0 0] 26 (0, 0))) := by rw [HQ.out]; exact hS8.zero
          have HB9 : Hid (Below w.heap.size w w8) := hS8.bel
          clear hb8 hS8 l0 l1 l2 HC3
          cases O with
          | false =>
            obtain ⟨rfl, rfl, rfl⟩ : l = ⟨0, 0, []⟩ ∧ e = 0 ∧ R = false := by
              rcases HAN.out with ⟨m', h1, _, h2, _⟩ | ⟨_, h⟩
              · rw [HRM.out] at h1; cases h1; rw [← HO.out] at h2; cases h2
              · exact h
            go_wp2_with (first | (refine wpList_storeA Tryz.sizeOf26 rfl _ _ rfl q #[.int .i64 0, .int .i64 0, .slice none 0 0] #[.int .i64 0, .int .i64 0, .slice none 0 0] 26 rfl rfl HZ9.out rfl rfl (log_one _ _ _ _ _) ?_) | fail)
            exact bodyPost_ret (result28 HZ9.out rfl rfl rfl rfl) rfl ⟨none, 0, rfl, World.ownsRow_nil _ _ _ _, below_setRow HB9.out (by have := HQ.out; omega) _⟩
          | true =>
            obtain ⟨rfl, rfl, rfl⟩ : m = l ∧ e = z ∧ R = true := by
              rcases HAN.out with ⟨m', h1, _, _, h2, h3, h4⟩ | ⟨h, _⟩
              · rw [HRM.out] at h1; cases h1; exact ⟨h2.symm, h3, h4⟩
              · have := h m HRM.out HPN.out; rw [← HO.out] at this; cases this
            go_wp2_with (first | (refine wpList_loadA Tryz.isAgg26 Tryz.sizeOf26 rfl _ rfl lb #[.int .i64 m.start, .int .i64 m.sterm, .slice a m.ents.length cap] 26 rfl HS8.out.log rfl ?_) | (refine wpList_storeA Tryz.sizeOf26 rfl _ _ rfl q #[.int .i64 m.start, .int .i64 m.sterm, .slice a m.ents.length cap] #[.int .i64 0, .int .i64 0, .slice none 0 0] 26 rfl rfl HZ9.out rfl rfl (log_one _ _ _ _ _) ?_) | fail)
            exact bodyPost_ret (result28 HZ9.out rfl rfl rfl rfl) rfl ⟨a, cap, rfl, own_row HS8.out.own _ _ (own_not HS8.out.own HZ9.out (by decide)), below_setRow HB9.out (by have := HQ.out; omega) _⟩
end Go.Proofs.YtahpoemmlpbgdaaGreat
