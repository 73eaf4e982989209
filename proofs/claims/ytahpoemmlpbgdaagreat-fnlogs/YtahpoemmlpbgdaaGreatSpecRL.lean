/- The specification's ReadLog, walked. -/
import Derived.Test.YtahpoemmlpbgdaaGreatRLogA
import Derived.Test.YtahpoemmlpbgdaaGreatRegLast
import Derived.Test.YtahpoemmlpbgdaaGreatAgg
import Derived.Deep.RegionLaw
namespace Go.Proofs.YtahpoemmlpbgdaaGreat
open Go.RowKit
open Logs (okL)
set_option linter.unusedVariables false
set_option linter.unusedSimpArgs false

/-- Entries put behind an empty row of the call's own, as a step of a region that draws its order. -/
theorem step_app0 {w : World} {ops : Array Oper} {o : Oper} {act : Act} {K : Act → World → Prop} {Q : Exit → Act → World → Prop} {E : Prop} (hgd : o.guard = none) (s x : Operand)
    (ho : o.op = .call { callee := .builtin .append, args := #[s, x], argTypes := #[24, 24] }) (base EB : Nat) (hs : act.eval s = .slice (some ⟨EB, 0, none⟩) 0 0) (hown : w.ownsRow base 51 3 (.slice (some ⟨EB, 0, none⟩) 0 0) 0 [])
    (a : Option Addr) (g off nn cap : Nat) (l : List EntL) (hnn : l.length = nn) (hx : act.eval x = .slice a nn cap) (hf : EnAt w a g off l) (hnil : a = none → cap = 0) (h63 : nn ≤ 1048576) (hbase : base ≤ w.heap.size)
    (h : ∀ a' cap' w', w'.ownsRow base 51 3 (.slice a' nn cap') nn (cellsEn l) → w.grownBy w' (some EB) → K (act.put o.dst (.slice a' nn cap')) w') : if Region.wanted o (yielded ops act.tmps) = true then Oper.wp Tryz.prog o act w K Q else E := by
  have hw : Region.wanted o (yielded ops act.tmps) = true := by simp [Region.wanted, hgd]
  rw [if_pos hw]
  obtain ⟨i0, hi, hz0, hz1, hz2⟩ := info_parts Tryz.info51
  subst hnn
  cases a with
  | none =>
    have hl : l = [] := by
      cases l with
      | nil => rfl
      | cons f r => have := hf.1 (by simp); cases this
    subst hl
    rw [hnil rfl] at hx
    have hrun := run_append_owned_none (P := Tryz.prog) (w := w) base 24 o.type 51 i0 3 Tryz.underlying24 hi _ 0 [] hown
    have hk := h _ _ w hown (World.grownBy.refl _ _)
    unfold Oper.wp
    simp [execOp, ho, resolve, invoke, builtin, hs, hx, hrun, Result.andThen]
    exact hk
  | some ad =>
    have had : 0 < l.length → ad = ⟨g, off, none⟩ := fun hp => Option.some.inj (hf.1 hp)
    refine wp_append_own w s x 24 ho base 51 i0 (.agg #[.int .i64 0, .int .i64 0, .string ByteArray.empty]) 3 32 Tryz.underlying24 hi hz0 hz1 hz2 rfl (by decide) _ 0 [] hs hown ad l.length cap (cellsEn l) hx (cellsEn_len l) ?_ cellsEn_one (by unfold maxLen; omega) (by omega) hbase ?_
    · intro j u hu
      have hp : 0 < l.length := by
        have := (List.getElem?_eq_some_iff.1 hu).1
        rw [cellsEn_len] at this
        omega
      rw [had hp]
      exact hf.cellsAll j u hu
    · intro v' w' h1 h2 _
      rw [Nat.zero_add] at h1
      obtain ⟨a', cap', rfl⟩ := own_slice h1
      exact h _ _ w' (by simpa using h1) h2
theorem result23 {w : World} {g : Nat} {A C : Array Value} {b : Bool} {x : Int} (hg : w.heap[g]? = some (.cells C 26 (0, 0))) (hs : A.size = 3) {tmps : Array Value} (ht : tmps.getD 2 undef = .pointer (some ⟨g, 0, none⟩)) (hx : tmps.getD 3 undef = .int .i64 x) (hb : tmps.getD 4 undef = .bool b) : (results Tryz.f30 tmps).run Tryz.prog (w.setRow g A) = .ok (.tuple #[.agg A, .int .i64 x, .bool b]) (w.setRow g A) := by
  have h := run_loadVar_agg (P := Tryz.prog) Tryz.isAgg26 Tryz.sizeOf26 (row_size (A := A) hg) hs
  have ht' : tmps[2]?.getD undef = .pointer (some ⟨g, 0, none⟩) := by simpa using ht
  have hx' : tmps[3]?.getD undef = .int .i64 x := by simpa using hx
  have hb' : tmps[4]?.getD undef = .bool b := by simpa using hb
  simp [results, Tryz.results30, ht', hb', hx', asAddr, h]
set_option maxHeartbeats 8000000 in
set_option maxRecDepth 100000 in
theorem specRead12_is (s : ByteArray) {ps : List (List UInt8)} {z : Nat} (hu0 : ∀ W : World, Calls Tryz.prog 66 #[.string s] W fun e w' => ∃ v, e = .returned (unT v z) ∧ w'.ownsRow W.heap.size 9 1 v ps.length (cellsS ps) ∧ Below W.heap.size W w') (hpl : ps.length ≤ 20000) (hps : ∀ p ∈ ps, p.length ≤ 9000) {l : LogL} {e : Nat} {R : Bool} (hR : RLIs ps z l e R) (w : World) :
    Calls Tryz.prog 30 #[.string s] w (RLPost w l e R) := by
  obtain ⟨r, hr, hans⟩ := hR
  obtain ⟨W, hW⟩ : ∃ W, W = w.alloc (Obj.cells #[.int .i64 0, .int .i64 0, .slice none 0 0] 26) := ⟨_, rfl⟩
  have hb : Below w.heap.size w W := by rw [hW]; exact (Below.refl _ _).alloc (Nat.le_refl _) _
  have hz : W.heap[w.heap.size]? = some (.cells #[.int .i64 0, .int .i64 0, .slice none 0 0] 26 (0, 0)) := by rw [hW]; exact heap_alloc_new w _
  have hu := hu0 W
  have HPS : Hid (∀ p ∈ ps, p.length ≤ 9000) := hps
  clear hu0 hps
  have HU : Hid (Calls Tryz.prog 66 #[.string s] W fun e w' => ∃ v, e = .returned (unT v z) ∧ w'.ownsRow W.heap.size 9 1 v ps.length (cellsS ps) ∧ Below W.heap.size W w') := hu
  have HRD : Hid (Reads12 ps true ⟨0, 0, []⟩ r) := hr
  have HAN : Hid ((∃ m, r = some m ∧ ps ≠ [] ∧ okL m = true ∧ l = m ∧ e = z ∧ R = true) ∨ ((∀ m, r = some m → ps ≠ [] → okL m = false) ∧ l = ⟨0, 0, []⟩ ∧ e = 0 ∧ R = false)) := hans
  have HB : Hid (Below w.heap.size w W) := hb
  have HZ : Hid (W.heap[w.heap.size]? = some (.cells #[.int .i64 0, .int .i64 0, .slice none 0 0] 26 (0, 0))) := hz
  clear hu hr hans hb hz
  obtain ⟨q, hq⟩ : ∃ q, q = w.heap.size := ⟨_, rfl⟩
  have HQ : Hid (q = w.heap.size) := hq
  go_enter Tryz.func30, Tryz.ntmps30
  go_wp2_with fail
  rw [← hW, ← hq]
  clear hW hq
  refine Calls.mono HU.out ?_
  rintro en w2 ⟨lv, rfl, hown, hb2⟩
  obtain ⟨va, vc, rfl⟩ := own_slice hown
  unfold unT
  obtain ⟨W3, hW3⟩ : ∃ W3, W3 = w2.alloc (Obj.cells #[.int .i64 0, .int .i64 0, .slice none 0 0] 26) := ⟨_, rfl⟩
  have hb3 : Below w2.heap.size w2 W3 := by rw [hW3]; exact (Below.refl _ _).alloc (Nat.le_refl _) _
  have hbw : Below w.heap.size w W3 := (HB.out.trans (hb2.mono HB.out.size)).trans (hb3.mono (HB.out.trans (hb2.mono HB.out.size)).size)
  have HS0 : Hid (RS w w2.heap.size (.slice va ps.length vc) ps ⟨0, 0, []⟩ none 0 W3) := by
    refine ⟨?_, ?_, World.ownsRow_nil _ _ _ _, own_kept (own_mono hown HB.out.size) hb3, hbw⟩
    · have h2 := (hb2.block _ (Array.getElem?_eq_some_iff.1 HZ.out).1).trans HZ.out
      exact (hb3.block _ (Array.getElem?_eq_some_iff.1 h2).1).trans h2
    · rw [hW3]; exact heap_alloc_new w2 _
  obtain ⟨lb, hlb⟩ : ∃ lb, lb = w2.heap.size := ⟨_, rfl⟩
  have HLQ : Hid (q ≠ lb) := by
    have := (Array.getElem?_eq_some_iff.1 ((hb2.block _ (Array.getElem?_eq_some_iff.1 HZ.out).1).trans HZ.out)).1
    have := HQ.out
    show _ ≠ _
    omega
  have HLB : Hid (w.heap.size ≤ lb) := by show _ ≤ _; have := HQ.out; have h1 := (HB.out.trans (hb2.mono HB.out.size)).size; omega
  rw [← hlb] at HS0
  clear hown hb2 hb3 hbw HB HZ HU
  go_wp2_with fail
  rw [← hW3, ← hlb]
  clear hW3 hlb
  go_loopw [8, 9, 10, 11, 12, 13] (fun i _ _ _ _ _ wr => ∃ (k : Nat) (m : LogL) (a : Option Addr) (cap : Nat), k ≤ ps.length ∧ i = .int .i64 (k : Int) ∧ m.ents.length ≤ k ∧ 0 ≤ m.start ∧ m.start ≤ 1000000000 ∧ Hid (Reads12 (ps.drop k) (k == 0) m r) ∧ Hid (∀ e ∈ m.ents, e.data.size ≤ 1048576) ∧ Hid (RS w lb (.slice va ps.length vc) ps m a cap wr)) (fun i _ _ _ _ _ _ => ps.length - (intOf i).toNat)
  case atStart => exact ⟨0, ⟨0, 0, []⟩, none, 0, Nat.zero_le _, rfl, Nat.zero_le _, by simp, by simp, HRD, fun e he => absurd he (by simp), HS0⟩
  case round =>
    obtain ⟨k, m, a, cap, hk, rfl, hmk, ms0, ms1, HR, HD, HS⟩ := hrel
    clear HS0 HRD
    by_cases hlt : k < ps.length
    · obtain ⟨ga, hga⟩ : ∃ ga : Nat, va = some ⟨ga, 0, none⟩ := by
        rcases HS.out.lst.2 with ⟨h1, h2⟩ | ⟨g, c, cur, h1, _⟩
        · omega
        · simp at h1; exact ⟨g, h1.1⟩
      subst hga
      have ct := cell_at HS.out.lst k hlt
      have HP : Hid (ps[k].length ≤ 9000) := HPS.out _ (List.getElem_mem _)
      have hrd := HR.out
      rw [List.drop_eq_getElem_cons hlt] at hrd
      obtain ⟨i, j, R1, n, e1, Q, hst, hre, hcs⟩ := hrd
      obtain ⟨t, ht⟩ : ∃ t, t = tx ps[k] := ⟨_, rfl⟩
      have hts : t.size ≤ 1048576 := by rw [ht]; have := HP.out; show ps[k].toArray.size ≤ _; simp; omega
      have HT : Hid (t.size ≤ 9000) := by rw [ht]; have := HP.out; show ps[k].toArray.size ≤ _; simpa using this
      rw [← ht] at hst hre
      have ct2 : wr.cell? ⟨ga, k, none⟩ = some (.string t) := by rw [ht]; simpa [tx] using ct
      have HC1 : Hid (∀ X, Calls Tryz.prog 67 #[.string t] X fun en w' => en = .returned (.tuple #[.agg #[.int .i64 (i : Int), .int .i64 (j : Int), .slice none 0 0], .bool R1]) ∧ Below X.heap.size X w') := fun X => specStart_is hts hst X
      have HC2 : Hid (∀ X, Calls Tryz.prog 68 #[.string t] X fun en w' => en = .returned (.tuple #[.int .i64 (n : Int), .agg #[.int .i64 e1.term, .int .i64 e1.kind, .string e1.data], .bool Q]) ∧ Below X.heap.size X w') := fun X => specRE_is hts hre X
      have HCS : Hid ((R1 = true ∧ Reads12 (ps.drop (k + 1)) false ⟨(i : Int), (j : Int), []⟩ r) ∨ (R1 = false ∧ Takes (k == 0) Q m n ∧ Reads12 (ps.drop (k + 1)) false (put12 m n e1) r) ∨ (R1 = false ∧ ¬ Takes (k == 0) Q m n ∧ r = none)) := hcs
      have HE1 : Hid (e1.data.size ≤ 1048576) := re_small hre (by have := HT.out; omega)
      have HI1 : Hid ((i : Int) ≤ 1000000000) := by
        rcases hst with ⟨h, _⟩ | ⟨_, h, _⟩
        · have := h.2.1; show _ ≤ _; omega
        · show _ ≤ _; omega
      have hk0 : (0 : Int) ≤ (k : Int) := by omega
      have hk1 : (k : Int) < (ps.length : Int) := by omega
      have HKT : Hid (∀ X, Below wr.heap.size wr X → X.cell? ⟨ga, k, none⟩ = some (.string t)) := fun X h => (h.cell (p := ⟨ga, k, none⟩) (World.block_lt_of_cell? _ _ ct2)).trans ct2
      clear ct ht hst hre hcs
      go_wp2_with fail
      refine Calls.mono (HC1.out _) ?_
      rintro en w4 ⟨rfl, hb4⟩
      obtain ⟨W5, hW5⟩ : ∃ W5, W5 = w4.alloc (Obj.cells #[.int .i64 (i : Int), .int .i64 (j : Int), .slice none 0 0] 26) := ⟨_, rfl⟩
      have hb5 : Below w4.heap.size w4 W5 := by rw [hW5]; exact (Below.refl _ _).alloc (Nat.le_refl _) _
      have hb45 : Below wr.heap.size wr W5 := hb4.trans (hb5.mono hb4.size)
      have HS5 : Hid (RS w lb (.slice (some ⟨ga, 0, none⟩) ps.length vc) ps m a cap W5) := HS.out.same hb45
      have c5 := HKT.out _ hb45
      have HN5 : Hid (W5.heap[w4.heap.size]? = some (.cells #[.int .i64 (i : Int), .int .i64 (j : Int), .slice none 0 0] 26 (0, 0))) := by show _ = _; rw [hW5]; exact heap_alloc_new w4 _
      have HK5 : Hid (Below wr.heap.size wr W5) := hb45
      obtain ⟨nb, hnb⟩ : ∃ nb, nb = w4.heap.size := ⟨_, rfl⟩
      rw [← hnb] at HN5
      clear hb4 hb5 hb45 ct2
      cases R1 with
      | true =>
        have hnx : Reads12 (ps.drop (k + 1)) false ⟨(i : Int), (j : Int), []⟩ r := by
          rcases HCS.out with ⟨_, h⟩ | ⟨h, _⟩ | ⟨h, _⟩
          · exact h
          · cases h
          · cases h
        have HNX : Hid (Reads12 (ps.drop (k + 1)) ((k + 1) == 0) ⟨(i : Int), (j : Int), []⟩ r) := hnx
        clear hnx HCS c5
        subst hW5 hnb
        go_wp2_with (first | (refine wpList_loadA Tryz.isAgg26 Tryz.sizeOf26 rfl _ rfl w4.heap.size #[.int .i64 (i : Int), .int .i64 (j : Int), .slice none 0 0] 26 rfl HN5.out rfl ?_) | (refine wpList_storeA Tryz.sizeOf26 rfl _ _ rfl lb #[.int .i64 (i : Int), .int .i64 (j : Int), .slice none 0 0] #[.int .i64 m.start, .int .i64 m.sterm, .slice a m.ents.length cap] 26 rfl rfl HS5.out.log rfl rfl (log_one _ _ _ _ _) ?_) | fail)
        go_roundw
        case rel =>
          refine ⟨k + 1, ⟨(i : Int), (j : Int), []⟩, none, 0, by omega, by go_num, Nat.zero_le _, by show (0 : Int) ≤ (i : Int); omega, HI1.out, HNX, fun e he => absurd he (by simp), ?_⟩
          have hq2 := HQ.out
          have hlq := HLQ.out
          refine ⟨?_, row_size HS5.out.log, World.ownsRow_nil _ _ _ _, own_row HS5.out.lst _ _ (own_not HS5.out.lst HS5.out.log (by decide)), below_setRow HS5.out.bel HLB.out _⟩
          exact row_far HS5.out.zero (by omega) _
        case measure => simp [intOf]; omega
      | false =>
        have hcs : (Takes (k == 0) Q m n ∧ Reads12 (ps.drop (k + 1)) false (put12 m n e1) r) ∨ (¬ Takes (k == 0) Q m n ∧ r = none) := by
          rcases HCS.out with ⟨h, _⟩ | ⟨_, h⟩ | ⟨_, h⟩
          · cases h
          · exact Or.inl h
          · exact Or.inr h
        have HCT : Hid ((Takes (k == 0) Q m n ∧ Reads12 (ps.drop (k + 1)) false (put12 m n e1) r) ∨ (¬ Takes (k == 0) Q m n ∧ r = none)) := hcs
        clear hcs HCS HN5
        subst hW5 hnb
        go_wp2_with fail
        refine Calls.mono (HC2.out _) ?_
        rintro en w6 ⟨rfl, hb6⟩
        obtain ⟨W7, hW7⟩ : ∃ W7, W7 = w6.alloc (Obj.cells #[.int .i64 e1.term, .int .i64 e1.kind, .string e1.data] 51) := ⟨_, rfl⟩
        have hb7 : Below w6.heap.size w6 W7 := by rw [hW7]; exact (Below.refl _ _).alloc (Nat.le_refl _) _
        have hS7 : RS w lb (.slice (some ⟨ga, 0, none⟩) ps.length vc) ps m a cap W7 := (HS5.out.same hb6).same hb7
        have HS7 : Hid (RS w lb (.slice (some ⟨ga, 0, none⟩) ps.length vc) ps m a cap W7) := hS7
        have HE7 : Hid (W7.heap[w6.heap.size]? = some (.cells #[.int .i64 e1.term, .int .i64 e1.kind, .string e1.data] 51 (0, 0))) := by show _ = _; rw [hW7]; exact heap_alloc_new w6 _
        obtain ⟨eb, heb⟩ : ∃ eb, eb = w6.heap.size := ⟨_, rfl⟩
        rw [← heb] at HE7
        have l0 := cell_of_row _ _ 0 _ _ _ hS7.log
        have l1 := cell_of_row _ _ 1 _ _ _ hS7.log
        have l2 := cell_of_row _ _ 2 _ _ _ hS7.log
        simp at l0 l1 l2
        clear hb6 hb7 hS7 HC1 HC2 HK5 HS5 HKT c5
        have HLA : Hid (∀ X, Calls Tryz.prog 41 #[.agg #[.int .i64 m.start, .int .i64 m.sterm, .slice a m.ents.length cap]] X fun en w' => en = .returned (.int .i64 (m.start + (m.ents.length : Int))) ∧ Below X.heap.size X w') := fun X => by
          have := specLastI_is (a := a) (cap := cap) m (by omega) X
          have h2 : lastI m = m.start + (m.ents.length : Int) := by unfold lastI wrap64; omega
          rw [h2] at this
          exact this
        rcases HCT.out with ⟨⟨t1, t2, t3, t4⟩, hnx⟩ | ⟨hnt, hrn⟩
        · have HNX : Hid (Reads12 (ps.drop (k + 1)) ((k + 1) == 0) (put12 m n e1) r) := hnx
          have hkz : ((k : Int) == 0) = false := by simp at t1 ⊢; omega
          subst t2
          have u3 : ¬ (n : Int) ≤ m.start := by omega
          have u4 : ¬ (m.start + (m.ents.length : Int) + 1 < (n : Int)) := by omega
          have v4 : (n : Int) ≤ m.start + (m.ents.length : Int) + 1 := t4
          clear hnx HCT
          rw [hW7] at l0 l1 l2
          rw [heb] at HE7
          subst hW7 
          go_wp2_with fail
          refine Calls.mono (HLA.out _) ?_
          rintro en w8 ⟨rfl, hb8⟩
          have hS8 := HS7.out.same hb8
          have hE8 := (hb8.block _ (Array.getElem?_eq_some_iff.1 HE7.out).1).trans HE7.out
          have HS8 : Hid (RS w lb (.slice (some ⟨ga, 0, none⟩) ps.length vc) ps m a cap w8) := hS8
          have HE8 : Hid (w8.heap[w6.heap.size]? = some (.cells #[.int .i64 e1.term, .int .i64 e1.kind, .string e1.data] 51 (0, 0))) := hE8
          clear hb8 l0 l1 l2 HS7 HE7
          have l0 := cell_of_row _ _ 0 _ _ _ hS8.log
          have l2 := cell_of_row _ _ 2 _ _ _ hS8.log
          have x0 := cell_of_row _ _ 0 _ _ _ hE8
          have x1_ := cell_of_row _ _ 1 _ _ _ hE8
          have x2_ := cell_of_row _ _ 2 _ _ _ hE8
          simp at l0 l2 x0 x1_ x2_
          clear hS8 hE8
          obtain ⟨k2, hk2⟩ : ∃ k2 : Nat, (n : Int) - m.start - 1 = (k2 : Int) := ⟨((n : Int) - m.start - 1).toNat, by omega⟩
          have hk2l : k2 ≤ m.ents.length := by omega
          have HPUT : Hid (put12 m n e1 = ⟨m.start, m.sterm, m.ents.take k2 ++ [e1]⟩) := by show _ = _; unfold put12; rw [hk2]; rfl
          obtain ⟨X1, hX1⟩ : ∃ X1 : Int, X1 = (n : Int) - m.start := ⟨_, rfl⟩
          have hn5 : (n : Int) ≤ 1000100000 := by omega
          have x1 : IntKind.i64.wrap ((n : Int) - m.start) = X1 := by rw [hX1, IntWalk.i64_in _ (by omega)]
          have x2 : IntKind.i64.wrap (X1 - 1) = (k2 : Int) := by rw [hX1, IntWalk.i64_in _ (by omega)]; omega
          have HTL : Hid ((m.ents.take k2).length = k2) := by show _ = _; rw [List.length_take]; omega
          have hk20 : (0 : Int) ≤ (k2 : Int) := by omega
          have f2 := frozen_of_row _ _ 2 _ _ HS8.out.log
          obtain ⟨eb, heb⟩ : ∃ eb, eb = w6.heap.size := ⟨_, rfl⟩
          rw [← heb] at x0 x1_ x2_ HE8
          rw [← heb]
          have HKE : Hid (k2 + 1 ≤ k + 1 ∧ k2 ≤ 1048576) := ⟨by omega, by omega⟩
          have HNL : Hid ((put12 m n e1).ents.length ≤ k + 1 ∧ 0 ≤ (put12 m n e1).start ∧ (put12 m n e1).start ≤ 1000000000) := by rw [HPUT.out]; refine ⟨?_, ms0, ms1⟩; show (m.ents.take k2 ++ [e1]).length ≤ k + 1; rw [List.length_append, HTL.out]; simp; omega
          have HND : Hid (∀ e ∈ (put12 m n e1).ents, e.data.size ≤ 1048576) := fun e he => by
            rw [HPUT.out] at he
            rcases List.mem_append.1 he with he | he
            · exact HD.out e (List.mem_of_mem_take he)
            · simp at he; rw [he]; exact HE1.out
          clear hX1 hk2 hn5 heb v4 t3 t4
          obtain ⟨NO, hNO⟩ : ∃ NO, NO = Obj.cells #[.int .i64 e1.term, .int .i64 e1.kind, .string e1.data] 51 := ⟨_, rfl⟩
          obtain ⟨pa, hpa⟩ : ∃ pa : Option Addr, pa = if cap = 0 then a else a.map (·.add (0 * 3)) := ⟨_, rfl⟩
          have hcap : k2 ≤ cap := by
            rcases HS8.out.own.2 with ⟨h1, h2⟩ | ⟨g, c, cur, h1, _, _, h2, _⟩
            · omega
            · simp at h1; omega
          obtain ⟨gE, HEN8⟩ : ∃ gE, Hid (EnAt w8 pa gE 0 (m.ents.take k2)) := by
            obtain ⟨a3, g3, c3, e3, h3⟩ := cellsEn_slice HS8.out.own
            simp only [Value.slice.injEq] at e3
            obtain ⟨rfl, _, rfl⟩ := e3
            refine ⟨g3, fun hp => ?_, fun j hj => ?_⟩
            · have hk0 : 0 < k2 := by rw [List.length_take] at hp; omega
              rw [hpa, if_neg (by omega), h3.1 (by omega)]
              simp [Addr.add_lit]
            · have hj2 : j < m.ents.length := by rw [List.length_take] at hj; omega
              rw [List.getElem_take]
              exact h3.2 j hj2
          have HNIL : Hid (pa = none → cap = 0) := fun h => by
            rcases HS8.out.own.2 with ⟨h1, h2⟩ | ⟨g, c, cur, h1, _, _, h2, _⟩
            · simp at h1; exact h1.2.2
            · simp at h1
              rw [hpa, h1.1] at h
              split at h
              · rename_i h0; exact h0
              · cases h
          have hsl : ∀ X : World, (Instr.slice 24 (.slice a m.ents.length cap) none (some (.int .i64 (k2 : Int))) none).run Tryz.prog X = .ok (.slice pa k2 cap) X := fun X => by
            have h0 := run_slice_h (P := Tryz.prog) X 24 a m.ents.length cap Tryz.underlying24 .i64 (k2 : Int) (by omega) (by omega)
            rw [h0, hpa]
            simp [go_sem, sliced]
          clear hpa
          have HEB : Hid (∀ Y, Below w8.heap.size w8 Y → (Y.cell? ⟨lb, 0, none⟩ = some (.int .i64 m.start) ∧ Y.cell? ⟨lb, 2, none⟩ = some (.slice a m.ents.length cap)) ∧ Y.cell? ⟨eb, 0, none⟩ = some (.int .i64 e1.term) ∧ Y.cell? ⟨eb, 1, none⟩ = some (.int .i64 e1.kind) ∧ Y.cell? ⟨eb, 2, none⟩ = some (.string e1.data)) := fun Y h => ⟨⟨(h.cell (p := ⟨lb, 0, none⟩) (World.block_lt_of_cell? _ _ l0)).trans l0, (h.cell (p := ⟨lb, 2, none⟩) (World.block_lt_of_cell? _ _ l2)).trans l2⟩, (h.cell (p := ⟨eb, 0, none⟩) (World.block_lt_of_cell? _ _ x0)).trans x0, (h.cell (p := ⟨eb, 1, none⟩) (World.block_lt_of_cell? _ _ x1_)).trans x1_, (h.cell (p := ⟨eb, 2, none⟩) (World.block_lt_of_cell? _ _ x2_)).trans x2_⟩
          have bA : Below w8.heap.size w8 (w8.alloc (Obj.cells #[] 51)) := ((Below.refl _ _).alloc (Nat.le_refl _) _)
          obtain ⟨⟨l0A, l2A⟩, y0A, y1A, y2A⟩ := HEB.out _ bA
          have BA : Hid (Below w8.heap.size w8 (w8.alloc (Obj.cells #[] 51)).drew) := bA.drew
          have bN : Below w8.heap.size w8 (w8.alloc (Obj.cells #[.int .i64 e1.term, .int .i64 e1.kind, .string e1.data] 51)) := ((Below.refl _ _).alloc (Nat.le_refl _) _)
          obtain ⟨⟨l0N, l2N⟩, y0N, y1N, y2N⟩ := HEB.out _ bN
          have BN : Hid (Below w8.heap.size w8 (w8.alloc (Obj.cells #[.int .i64 e1.term, .int .i64 e1.kind, .string e1.data] 51)).drew) := bN.drew
          have bAN : Below w8.heap.size w8 ((w8.alloc (Obj.cells #[] 51)).alloc (Obj.cells #[.int .i64 e1.term, .int .i64 e1.kind, .string e1.data] 51)) := (((Below.refl _ _).alloc (Nat.le_refl _) _).alloc (by simp) _)
          obtain ⟨⟨l0AN, l2AN⟩, y0AN, y1AN, y2AN⟩ := HEB.out _ bAN
          have BAN : Hid (Below w8.heap.size w8 ((w8.alloc (Obj.cells #[] 51)).alloc (Obj.cells #[.int .i64 e1.term, .int .i64 e1.kind, .string e1.data] 51)).drew) := bAN.drew
          have bNA : Below w8.heap.size w8 ((w8.alloc (Obj.cells #[.int .i64 e1.term, .int .i64 e1.kind, .string e1.data] 51)).alloc (Obj.cells #[] 51)) := (((Below.refl _ _).alloc (Nat.le_refl _) _).alloc (by simp) _)
          obtain ⟨⟨l0NA, l2NA⟩, y0NA, y1NA, y2NA⟩ := HEB.out _ bNA
          have BNA : Hid (Below w8.heap.size w8 ((w8.alloc (Obj.cells #[.int .i64 e1.term, .int .i64 e1.kind, .string e1.data] 51)).alloc (Obj.cells #[] 51)).drew) := bNA.drew
          have ho1 := World.ownsRow_made (base := w8.heap.size) (e := 51) (size := 3) w8 #[] 0 (Nat.le_refl _) (by unfold maxLen; omega) rfl
          have ho3 := World.ownsRow_made (base := w8.heap.size) (e := 51) (size := 3) (w8.alloc (Obj.cells #[.int .i64 e1.term, .int .i64 e1.kind, .string e1.data] 51)) #[] 0 (by simp) (by unfold maxLen; omega) rfl
          have hs3 : (w8.alloc (Obj.cells #[.int .i64 e1.term, .int .i64 e1.kind, .string e1.data] 51)).heap.size = w8.heap.size + 1 := by simp
          rw [hs3] at ho3
          have O1 : Hid ((w8.alloc (Obj.cells #[] 51)).drew.ownsRow w8.heap.size 51 3 (.slice (some ⟨w8.heap.size, 0, none⟩) 0 0) 0 []) := ho1.drew
          have O2 : Hid (((w8.alloc (Obj.cells #[] 51)).alloc (Obj.cells #[.int .i64 e1.term, .int .i64 e1.kind, .string e1.data] 51)).drew.ownsRow w8.heap.size 51 3 (.slice (some ⟨w8.heap.size, 0, none⟩) 0 0) 0 []) := (ho1.alloc _).drew
          have O3 : Hid (((w8.alloc (Obj.cells #[.int .i64 e1.term, .int .i64 e1.kind, .string e1.data] 51)).alloc (Obj.cells #[] 51)).drew.ownsRow w8.heap.size 51 3 (.slice (some ⟨w8.heap.size + 1, 0, none⟩) 0 0) 0 []) := ho3.drew
          have hn2 := heap_alloc_new (w8.alloc (Obj.cells #[] 51)) (Obj.cells #[.int .i64 e1.term, .int .i64 e1.kind, .string e1.data] 51)
          have hs2 : (w8.alloc (Obj.cells #[] 51)).heap.size = w8.heap.size + 1 := by simp
          rw [hs2] at hn2
          have N2 : Hid (((w8.alloc (Obj.cells #[] 51)).alloc (Obj.cells #[.int .i64 e1.term, .int .i64 e1.kind, .string e1.data] 51)).drew.heap[w8.heap.size + 1]? = some (.cells #[.int .i64 e1.term, .int .i64 e1.kind, .string e1.data] 51 (0, 0))) := hn2
          have N3 : Hid (((w8.alloc (Obj.cells #[.int .i64 e1.term, .int .i64 e1.kind, .string e1.data] 51)).alloc (Obj.cells #[] 51)).drew.heap[w8.heap.size]? = some (.cells #[.int .i64 e1.term, .int .i64 e1.kind, .string e1.data] 51 (0, 0))) := by show _ = _; exact (Below.heap_alloc _ _ _ (by simp)).trans (heap_alloc_new w8 _)
          have EA : Hid (EnAt (w8.alloc (Obj.cells #[] 51)).drew pa gE 0 (m.ents.take k2)) := HEN8.out.kept bA.drew
          have SA : Hid (w8.heap.size ≤ (w8.alloc (Obj.cells #[] 51)).drew.heap.size) := BA.out.size
          have EAN : Hid (EnAt ((w8.alloc (Obj.cells #[] 51)).alloc (Obj.cells #[.int .i64 e1.term, .int .i64 e1.kind, .string e1.data] 51)).drew pa gE 0 (m.ents.take k2)) := HEN8.out.kept bAN.drew
          have SAN : Hid (w8.heap.size ≤ ((w8.alloc (Obj.cells #[] 51)).alloc (Obj.cells #[.int .i64 e1.term, .int .i64 e1.kind, .string e1.data] 51)).drew.heap.size) := BAN.out.size
          have ENA : Hid (EnAt ((w8.alloc (Obj.cells #[.int .i64 e1.term, .int .i64 e1.kind, .string e1.data] 51)).alloc (Obj.cells #[] 51)).drew pa gE 0 (m.ents.take k2)) := HEN8.out.kept bNA.drew
          have SNA : Hid (w8.heap.size ≤ ((w8.alloc (Obj.cells #[.int .i64 e1.term, .int .i64 e1.kind, .string e1.data] 51)).alloc (Obj.cells #[] 51)).drew.heap.size) := BNA.out.size
          clear ho1 ho3 hs3 hs2 hn2 bA bN bAN bNA
          go_wp2_with fail
          have hS0 : Below w8.heap.size w8 w8.drew := (Below.refl _ _).drew
          refine wp_region_last (S := fun X => Below w8.heap.size w8 X) (by kernel_rfl) (by kernel_rfl) hS0 (fun _ => ?_)
          simp only [List.dropLast, List.length_cons, List.length_nil, Nat.zero_add, Nat.reduceAdd, Nat.add_one_sub_one, Nat.reduceSub]
          refine wpAnyH_take (i := 1) (v := .pointer (some ⟨lb, 2, none⟩)) rfl (by kernel_rfl) (by kernel_rfl) (by kernel_rfl) (fun _ _ _ h => h) (Or.inl ⟨by rfl, fun X hX => by go_simp⟩) hS0 ?_
          try simp only [Act.put, List.setIfInBounds_toArray, List.set_cons_zero, List.set_cons_succ, List.getElem_toArray, List.getElem_cons_zero, List.getElem_cons_succ]
          refine wpAnyH_take (i := 2) (v := .slice a m.ents.length cap) rfl (by kernel_rfl) (by kernel_rfl) (by kernel_rfl) (fun _ _ _ h => h) (Or.inl ⟨by rfl, fun X hX => by obtain ⟨⟨z0, z2⟩, z3, z4, z5⟩ := HEB.out X hX; go_simp⟩) hS0 ?_
          try simp only [Act.put, List.setIfInBounds_toArray, List.set_cons_zero, List.set_cons_succ, List.getElem_toArray, List.getElem_cons_zero, List.getElem_cons_succ]
          refine wpAnyH_take (i := 3) (v := .int .i64 (n : Int)) rfl (by kernel_rfl) (by kernel_rfl) (by kernel_rfl) (fun _ _ _ h => h) (Or.inl ⟨by rfl, fun X hX => by go_simp⟩) hS0 ?_
          try simp only [Act.put, List.setIfInBounds_toArray, List.set_cons_zero, List.set_cons_succ, List.getElem_toArray, List.getElem_cons_zero, List.getElem_cons_succ]
          refine wpAnyH_take (i := 4) (v := .pointer (some ⟨lb, 0, none⟩)) rfl (by kernel_rfl) (by kernel_rfl) (by kernel_rfl) (fun _ _ _ h => h) (Or.inl ⟨by rfl, fun X hX => by go_simp⟩) hS0 ?_
          try simp only [Act.put, List.setIfInBounds_toArray, List.set_cons_zero, List.set_cons_succ, List.getElem_toArray, List.getElem_cons_zero, List.getElem_cons_succ]
          refine wpAnyH_take (i := 5) (v := .int .i64 m.start) rfl (by kernel_rfl) (by kernel_rfl) (by kernel_rfl) (fun _ _ _ h => h) (Or.inl ⟨by rfl, fun X hX => by obtain ⟨⟨z0, z2⟩, z3, z4, z5⟩ := HEB.out X hX; go_simp⟩) hS0 ?_
          try simp only [Act.put, List.setIfInBounds_toArray, List.set_cons_zero, List.set_cons_succ, List.getElem_toArray, List.getElem_cons_zero, List.getElem_cons_succ]
          refine wpAnyH_take (i := 6) (v := .int .i64 X1) rfl (by kernel_rfl) (by kernel_rfl) (by kernel_rfl) (fun _ _ _ h => h) (Or.inl ⟨by rfl, fun X hX => by go_simp⟩) hS0 ?_
          try simp only [Act.put, List.setIfInBounds_toArray, List.set_cons_zero, List.set_cons_succ, List.getElem_toArray, List.getElem_cons_zero, List.getElem_cons_succ]
          refine wpAnyH_take (i := 7) (v := .int .i64 (k2 : Int)) rfl (by kernel_rfl) (by kernel_rfl) (by kernel_rfl) (fun _ _ _ h => h) (Or.inl ⟨by rfl, fun X hX => by go_simp⟩) hS0 ?_
          try simp only [Act.put, List.setIfInBounds_toArray, List.set_cons_zero, List.set_cons_succ, List.getElem_toArray, List.getElem_cons_zero, List.getElem_cons_succ]
          refine wpAnyH_take (i := 8) (v := .slice pa k2 cap) rfl (by kernel_rfl) (by kernel_rfl) (by kernel_rfl) (fun _ _ _ h => h) (Or.inl ⟨by rfl, fun X hX => by go_simp⟩) hS0 ?_
          try simp only [Act.put, List.setIfInBounds_toArray, List.set_cons_zero, List.set_cons_succ, List.getElem_toArray, List.getElem_cons_zero, List.getElem_cons_succ]
          refine wpAnyH_take (i := 10) (v := .agg #[.int .i64 e1.term, .int .i64 e1.kind, .string e1.data]) rfl (by kernel_rfl) (by kernel_rfl) (by kernel_rfl) (fun _ _ _ h => h) (Or.inl ⟨by rfl, fun X hX => by obtain ⟨⟨z0, z2⟩, z3, z4, z5⟩ := HEB.out X hX; go_simp⟩) hS0 ?_
          try simp only [Act.put, List.setIfInBounds_toArray, List.set_cons_zero, List.set_cons_succ, List.getElem_toArray, List.getElem_cons_zero, List.getElem_cons_succ]
          refine wpAnyH_ready (rs := [0, 11]) (by kernel_rfl) (by simp) ?_
          refine AllReadyH.cons rfl (fun K hK => ?_) ?_
          · go_simp
            refine hK.out _ _ BA.out (fun _ => ?_)
            clear hK K
            refine wpAnyH_ready (rs := [9, 11]) (by kernel_rfl) (by simp) ?_
            refine AllReadyH.cons rfl (fun K hK => ?_) ?_
            · refine step_app0 (by with_unfolding_all rfl) _ _ (by with_unfolding_all rfl) w8.heap.size w8.heap.size (by with_unfolding_all rfl) O1.out pa gE 0 k2 cap (m.ents.take k2) HTL.out (by with_unfolding_all rfl) EA.out HNIL.out HKE.out.2 SA.out ?_
              intro a9 cap9 w9 hown9 hg9
              have HB9 : Hid (Below w8.heap.size w8 w9) := BA.out.grown hg9 SA.out (fun q hq => by cases hq; omega)
              have HO9 : Hid (w9.ownsRow w8.heap.size 51 3 (.slice a9 k2 cap9) k2 (cellsEn (m.ents.take k2))) := hown9
              have HTN9 : Hid (EntL2 (w9.alloc (Obj.cells #[.int .i64 e1.term, .int .i64 e1.kind, .string e1.data] 51)) w8.heap.size a9 k2 cap9 (m.ents.take k2)) := ⟨HTL.out, Or.inl (hown9.alloc _)⟩
              clear hown9 hg9
              refine hK.out _ _ HB9.out (fun _ => ?_)
              clear hK K
              try simp only [Act.put, List.setIfInBounds_toArray, List.set_cons_zero, List.set_cons_succ, List.getElem_toArray, List.getElem_cons_zero, List.getElem_cons_succ]
              refine wpAnyH_ready (rs := [11]) (by kernel_rfl) (by simp) ?_
              refine AllReadyH.cons rfl (fun K hK => ?_) AllReadyH.nil
              go_simp
              refine hK.out _ _ (HB9.out.alloc HB9.out.size _) (fun _ => ?_)
              clear hK K
              refine wpAnyH_ready (rs := [12]) (by kernel_rfl) (by simp) ?_
              refine AllReadyH.cons rfl (fun K hK => ?_) AllReadyH.nil
              refine step_app1 (by with_unfolding_all rfl) _ _ (by with_unfolding_all rfl) w8.heap.size a9 k2 cap9 w9.heap.size (m.ents.take k2) e1 (by with_unfolding_all rfl) (by with_unfolding_all rfl) HTN9.out (Nat.le_trans HB9.out.size (by simp)) HKE.out.2 (heap_alloc_new w9 _) ?_
              intro a10 cap10 w10 hown10 hg10
              have HB10 : Hid (Below w8.heap.size w8 w10) := (HB9.out.alloc HB9.out.size _).grown hg10 (Nat.le_trans HB9.out.size (by simp)) (fun q hq => (HO9.out.lt q hq).1)
              have hl10 := (HB10.out.block _ (Array.getElem?_eq_some_iff.1 HS8.out.log).1).trans HS8.out.log
              have z2 := cell_of_row _ _ 2 _ _ _ hl10
              have zf := frozen_of_row _ _ 2 _ _ hl10
              simp at z2
              have HO10 : Hid (w10.ownsRow w8.heap.size 51 3 (.slice a10 (k2 + 1) cap10) (k2 + 1) (cellsEn (m.ents.take k2 ++ [e1]))) := hown10
              clear hown10 hg10 hl10
              refine hK.out _ _ HB10.out (fun _ => ?_)
              clear hK K
              try simp only [Act.put, List.setIfInBounds_toArray, List.set_cons_zero, List.set_cons_succ, List.getElem_toArray, List.getElem_cons_zero, List.getElem_cons_succ]
              refine wpAnyH_take (i := 13) (v := .pointer (some ⟨lb, 2, none⟩)) rfl (by kernel_rfl) (by kernel_rfl) (by kernel_rfl) (fun _ _ _ h => h) (Or.inl ⟨by rfl, fun X hX => by go_simp⟩) HB10.out ?_
              try simp only [Act.put, List.setIfInBounds_toArray, List.set_cons_zero, List.set_cons_succ, List.getElem_toArray, List.getElem_cons_zero, List.getElem_cons_succ]
              refine wpAnyH_done (by kernel_rfl) ?_ _
              dsimp only [NX]
              refine wpOp_step rfl (fun K hK => ?_)
              go_simp
              refine hK _ _ ?_
              clear hK K
              have hR10 := HS8.out.same HB10.out
              have hne10 := own_not HO10.out hR10.log (by decide)
              have hl9 := heap_setCell_same w10 lb 2 _ 26 (.slice a10 (k2 + 1) cap10) hR10.log
              simp at hl9
              have HR11 : Hid (RS w lb (.slice (some ⟨ga, 0, none⟩) ps.length vc) ps (put12 m n e1) a10 cap10 (w10.setCell ⟨lb, 2, none⟩ (.slice a10 (k2 + 1) cap10))) := by
                have hpe : (put12 m n e1).ents = m.ents.take k2 ++ [e1] := by rw [HPUT.out]
                have hpl : (put12 m n e1).ents.length = k2 + 1 := by rw [hpe, List.length_append, HTL.out]; rfl
                have hps : (put12 m n e1).start = m.start ∧ (put12 m n e1).sterm = m.sterm := by rw [HPUT.out]; exact ⟨rfl, rfl⟩
                have hq2 := HQ.out
                have hlq := HLQ.out
                refine ⟨set_far hR10.zero (by omega) _ _, ?_, ?_, own_set hR10.lst _ _ _ (own_not hR10.lst hR10.log (by decide)), hR10.bel.setCell HLB.out _⟩
                · rw [hpl, hps.1, hps.2]; exact hl9
                · rw [hpl, hpe]; exact own_mono (own_set HO10.out lb 2 _ hne10) HS8.out.bel.size
              clear hR10 hne10 hl9 HO10 z2 zf
              go_wp2
              go_roundw
              case rel => exact ⟨k + 1, put12 m n e1, a10, cap10, by omega, by go_num, HNL.out.1, HNL.out.2.1, HNL.out.2.2, HNX, HND, HR11⟩
              case measure => simp [intOf]; omega
            refine AllReadyH.cons rfl (fun K hK => ?_) AllReadyH.nil
            go_simp
            refine hK.out _ _ BAN.out (fun _ => ?_)
            clear hK K
            refine wpAnyH_ready (rs := [9]) (by kernel_rfl) (by simp) ?_
            refine AllReadyH.cons rfl (fun K hK => ?_) AllReadyH.nil
            refine step_app0 (by with_unfolding_all rfl) _ _ (by with_unfolding_all rfl) w8.heap.size w8.heap.size (by with_unfolding_all rfl) O2.out pa gE 0 k2 cap (m.ents.take k2) HTL.out (by with_unfolding_all rfl) EAN.out HNIL.out HKE.out.2 SAN.out ?_
            intro a9 cap9 w9 hown9 hg9
            have HB9 : Hid (Below w8.heap.size w8 w9) := BAN.out.grown hg9 SAN.out (fun q hq => by cases hq; omega)
            have HO9 : Hid (w9.ownsRow w8.heap.size 51 3 (.slice a9 k2 cap9) k2 (cellsEn (m.ents.take k2))) := hown9
            have HT9 : Hid (EntL2 w9 w8.heap.size a9 k2 cap9 (m.ents.take k2)) := ⟨HTL.out, Or.inl hown9⟩
            have N9 : Hid (w9.heap[w8.heap.size + 1]? = some (.cells #[.int .i64 e1.term, .int .i64 e1.kind, .string e1.data] 51 (0, 0))) := grown_keep' N2.out hg9 (by simp)
            clear hown9 hg9
            refine hK.out _ _ HB9.out (fun _ => ?_)
            clear hK K
            try simp only [Act.put, List.setIfInBounds_toArray, List.set_cons_zero, List.set_cons_succ, List.getElem_toArray, List.getElem_cons_zero, List.getElem_cons_succ]
            refine wpAnyH_ready (rs := [12]) (by kernel_rfl) (by simp) ?_
            refine AllReadyH.cons rfl (fun K hK => ?_) AllReadyH.nil
            refine step_app1 (by with_unfolding_all rfl) _ _ (by with_unfolding_all rfl) w8.heap.size a9 k2 cap9 (w8.heap.size + 1) (m.ents.take k2) e1 (by with_unfolding_all rfl) (by with_unfolding_all rfl) HT9.out HB9.out.size HKE.out.2 N9.out ?_
            intro a10 cap10 w10 hown10 hg10
            have HB10 : Hid (Below w8.heap.size w8 w10) := (HB9.out).grown hg10 HB9.out.size (fun q hq => (HO9.out.lt q hq).1)
            have hl10 := (HB10.out.block _ (Array.getElem?_eq_some_iff.1 HS8.out.log).1).trans HS8.out.log
            have z2 := cell_of_row _ _ 2 _ _ _ hl10
            have zf := frozen_of_row _ _ 2 _ _ hl10
            simp at z2
            have HO10 : Hid (w10.ownsRow w8.heap.size 51 3 (.slice a10 (k2 + 1) cap10) (k2 + 1) (cellsEn (m.ents.take k2 ++ [e1]))) := hown10
            clear hown10 hg10 hl10
            refine hK.out _ _ HB10.out (fun _ => ?_)
            clear hK K
            try simp only [Act.put, List.setIfInBounds_toArray, List.set_cons_zero, List.set_cons_succ, List.getElem_toArray, List.getElem_cons_zero, List.getElem_cons_succ]
            refine wpAnyH_take (i := 13) (v := .pointer (some ⟨lb, 2, none⟩)) rfl (by kernel_rfl) (by kernel_rfl) (by kernel_rfl) (fun _ _ _ h => h) (Or.inl ⟨by rfl, fun X hX => by go_simp⟩) HB10.out ?_
            try simp only [Act.put, List.setIfInBounds_toArray, List.set_cons_zero, List.set_cons_succ, List.getElem_toArray, List.getElem_cons_zero, List.getElem_cons_succ]
            refine wpAnyH_done (by kernel_rfl) ?_ _
            dsimp only [NX]
            refine wpOp_step rfl (fun K hK => ?_)
            go_simp
            refine hK _ _ ?_
            clear hK K
            have hR10 := HS8.out.same HB10.out
            have hne10 := own_not HO10.out hR10.log (by decide)
            have hl9 := heap_setCell_same w10 lb 2 _ 26 (.slice a10 (k2 + 1) cap10) hR10.log
            simp at hl9
            have HR11 : Hid (RS w lb (.slice (some ⟨ga, 0, none⟩) ps.length vc) ps (put12 m n e1) a10 cap10 (w10.setCell ⟨lb, 2, none⟩ (.slice a10 (k2 + 1) cap10))) := by
              have hpe : (put12 m n e1).ents = m.ents.take k2 ++ [e1] := by rw [HPUT.out]
              have hpl : (put12 m n e1).ents.length = k2 + 1 := by rw [hpe, List.length_append, HTL.out]; rfl
              have hps : (put12 m n e1).start = m.start ∧ (put12 m n e1).sterm = m.sterm := by rw [HPUT.out]; exact ⟨rfl, rfl⟩
              have hq2 := HQ.out
              have hlq := HLQ.out
              refine ⟨set_far hR10.zero (by omega) _ _, ?_, ?_, own_set hR10.lst _ _ _ (own_not hR10.lst hR10.log (by decide)), hR10.bel.setCell HLB.out _⟩
              · rw [hpl, hps.1, hps.2]; exact hl9
              · rw [hpl, hpe]; exact own_mono (own_set HO10.out lb 2 _ hne10) HS8.out.bel.size
            clear hR10 hne10 hl9 HO10 z2 zf
            go_wp2
            go_roundw
            case rel => exact ⟨k + 1, put12 m n e1, a10, cap10, by omega, by go_num, HNL.out.1, HNL.out.2.1, HNL.out.2.2, HNX, HND, HR11⟩
            case measure => simp [intOf]; omega
          refine AllReadyH.cons rfl (fun K hK => ?_) AllReadyH.nil
          go_simp
          refine hK.out _ _ BN.out (fun _ => ?_)
          clear hK K
          refine wpAnyH_ready (rs := [0]) (by kernel_rfl) (by simp) ?_
          refine AllReadyH.cons rfl (fun K hK => ?_) AllReadyH.nil
          go_simp
          refine hK.out _ _ BNA.out (fun _ => ?_)
          clear hK K
          refine wpAnyH_ready (rs := [9]) (by kernel_rfl) (by simp) ?_
          refine AllReadyH.cons rfl (fun K hK => ?_) AllReadyH.nil
          refine step_app0 (by with_unfolding_all rfl) _ _ (by with_unfolding_all rfl) w8.heap.size (w8.heap.size + 1) (by with_unfolding_all rfl) O3.out pa gE 0 k2 cap (m.ents.take k2) HTL.out (by with_unfolding_all rfl) ENA.out HNIL.out HKE.out.2 SNA.out ?_
          intro a9 cap9 w9 hown9 hg9
          have HB9 : Hid (Below w8.heap.size w8 w9) := BNA.out.grown hg9 SNA.out (fun q hq => by cases hq; omega)
          have HO9 : Hid (w9.ownsRow w8.heap.size 51 3 (.slice a9 k2 cap9) k2 (cellsEn (m.ents.take k2))) := hown9
          have HT9 : Hid (EntL2 w9 w8.heap.size a9 k2 cap9 (m.ents.take k2)) := ⟨HTL.out, Or.inl hown9⟩
          have N9 : Hid (w9.heap[w8.heap.size]? = some (.cells #[.int .i64 e1.term, .int .i64 e1.kind, .string e1.data] 51 (0, 0))) := grown_keep' N3.out hg9 (by simp)
          clear hown9 hg9
          refine hK.out _ _ HB9.out (fun _ => ?_)
          clear hK K
          try simp only [Act.put, List.setIfInBounds_toArray, List.set_cons_zero, List.set_cons_succ, List.getElem_toArray, List.getElem_cons_zero, List.getElem_cons_succ]
          refine wpAnyH_ready (rs := [12]) (by kernel_rfl) (by simp) ?_
          refine AllReadyH.cons rfl (fun K hK => ?_) AllReadyH.nil
          refine step_app1 (by with_unfolding_all rfl) _ _ (by with_unfolding_all rfl) w8.heap.size a9 k2 cap9 w8.heap.size (m.ents.take k2) e1 (by with_unfolding_all rfl) (by with_unfolding_all rfl) HT9.out HB9.out.size HKE.out.2 N9.out ?_
          intro a10 cap10 w10 hown10 hg10
          have HB10 : Hid (Below w8.heap.size w8 w10) := (HB9.out).grown hg10 HB9.out.size (fun q hq => (HO9.out.lt q hq).1)
          have hl10 := (HB10.out.block _ (Array.getElem?_eq_some_iff.1 HS8.out.log).1).trans HS8.out.log
          have z2 := cell_of_row _ _ 2 _ _ _ hl10
          have zf := frozen_of_row _ _ 2 _ _ hl10
          simp at z2
          have HO10 : Hid (w10.ownsRow w8.heap.size 51 3 (.slice a10 (k2 + 1) cap10) (k2 + 1) (cellsEn (m.ents.take k2 ++ [e1]))) := hown10
          clear hown10 hg10 hl10
          refine hK.out _ _ HB10.out (fun _ => ?_)
          clear hK K
          try simp only [Act.put, List.setIfInBounds_toArray, List.set_cons_zero, List.set_cons_succ, List.getElem_toArray, List.getElem_cons_zero, List.getElem_cons_succ]
          refine wpAnyH_take (i := 13) (v := .pointer (some ⟨lb, 2, none⟩)) rfl (by kernel_rfl) (by kernel_rfl) (by kernel_rfl) (fun _ _ _ h => h) (Or.inl ⟨by rfl, fun X hX => by go_simp⟩) HB10.out ?_
          try simp only [Act.put, List.setIfInBounds_toArray, List.set_cons_zero, List.set_cons_succ, List.getElem_toArray, List.getElem_cons_zero, List.getElem_cons_succ]
          refine wpAnyH_done (by kernel_rfl) ?_ _
          dsimp only [NX]
          refine wpOp_step rfl (fun K hK => ?_)
          go_simp
          refine hK _ _ ?_
          clear hK K
          have hR10 := HS8.out.same HB10.out
          have hne10 := own_not HO10.out hR10.log (by decide)
          have hl9 := heap_setCell_same w10 lb 2 _ 26 (.slice a10 (k2 + 1) cap10) hR10.log
          simp at hl9
          have HR11 : Hid (RS w lb (.slice (some ⟨ga, 0, none⟩) ps.length vc) ps (put12 m n e1) a10 cap10 (w10.setCell ⟨lb, 2, none⟩ (.slice a10 (k2 + 1) cap10))) := by
            have hpe : (put12 m n e1).ents = m.ents.take k2 ++ [e1] := by rw [HPUT.out]
            have hpl : (put12 m n e1).ents.length = k2 + 1 := by rw [hpe, List.length_append, HTL.out]; rfl
            have hps : (put12 m n e1).start = m.start ∧ (put12 m n e1).sterm = m.sterm := by rw [HPUT.out]; exact ⟨rfl, rfl⟩
            have hq2 := HQ.out
            have hlq := HLQ.out
            refine ⟨set_far hR10.zero (by omega) _ _, ?_, ?_, own_set hR10.lst _ _ _ (own_not hR10.lst hR10.log (by decide)), hR10.bel.setCell HLB.out _⟩
            · rw [hpl, hps.1, hps.2]; exact hl9
            · rw [hpl, hpe]; exact own_mono (own_set HO10.out lb 2 _ hne10) HS8.out.bel.size
          clear hR10 hne10 hl9 HO10 z2 zf
          go_wp2
          go_roundw
          case rel => exact ⟨k + 1, put12 m n e1, a10, cap10, by omega, by go_num, HNL.out.1, HNL.out.2.1, HNL.out.2.2, HNX, HND, HR11⟩
          case measure => simp [intOf]; omega
          
        · obtain ⟨rfl, rfl, rfl⟩ : l = ⟨0, 0, []⟩ ∧ e = 0 ∧ R = false := by
            rcases HAN.out with ⟨m', h, _⟩ | ⟨_, h⟩
            · rw [hrn] at h; cases h
            · exact h
          have HNT : Hid (¬ Takes (k == 0) Q m n) := hnt
          clear hnt HCT HAN
          have HZ9 : Hid (W7.heap[q]? = some (.cells #[.int .i64 0, .int .i64 0, .slice none 0 0] 26 (0, 0))) := by rw [HQ.out]; exact HS7.out.zero
          have HB9 : Hid (Below w.heap.size w W7) := HS7.out.bel
          rw [hW7] at l0 l1 l2
          rw [heb] at HE7
          by_cases c1 : k = 0
          · have hkz : ((k : Int) == 0) = true := by simp [c1]
            clear c1
            subst hW7
            go_wp2_with (first | (refine wpList_storeA Tryz.sizeOf26 rfl _ _ rfl q #[.int .i64 0, .int .i64 0, .slice none 0 0] #[.int .i64 0, .int .i64 0, .slice none 0 0] 26 rfl rfl HZ9.out rfl rfl (log_one _ _ _ _ _) ?_) | fail)
            exact bodyPost_ret (result23 HZ9.out rfl rfl rfl rfl) rfl ⟨none, 0, rfl, World.ownsRow_nil _ _ _ _, below_setRow HB9.out (by have := HQ.out; omega) _⟩
          · have hkz : ((k : Int) == 0) = false := by simp; omega
            cases Q with
            | false =>
              subst hW7
              go_wp2_with (first | (refine wpList_storeA Tryz.sizeOf26 rfl _ _ rfl q #[.int .i64 0, .int .i64 0, .slice none 0 0] #[.int .i64 0, .int .i64 0, .slice none 0 0] 26 rfl rfl HZ9.out rfl rfl (log_one _ _ _ _ _) ?_) | fail)
              exact bodyPost_ret (result23 HZ9.out rfl rfl rfl rfl) rfl ⟨none, 0, rfl, World.ownsRow_nil _ _ _ _, below_setRow HB9.out (by have := HQ.out; omega) _⟩
            | true =>
              by_cases c3 : (n : Int) ≤ m.start
              · subst hW7
                go_wp2_with (first | (refine wpList_storeA Tryz.sizeOf26 rfl _ _ rfl q #[.int .i64 0, .int .i64 0, .slice none 0 0] #[.int .i64 0, .int .i64 0, .slice none 0 0] 26 rfl rfl HZ9.out rfl rfl (log_one _ _ _ _ _) ?_) | fail)
                exact bodyPost_ret (result23 HZ9.out rfl rfl rfl rfl) rfl ⟨none, 0, rfl, World.ownsRow_nil _ _ _ _, below_setRow HB9.out (by have := HQ.out; omega) _⟩
              · have c4 : m.start + (m.ents.length : Int) + 1 < (n : Int) := by
                  rcases Int.lt_or_le (m.start + (m.ents.length : Int) + 1) (n : Int) with h | h
                  · exact h
                  · exact absurd ⟨by simp; omega, rfl, by omega, h⟩ HNT.out
                have HS7b := HS7
                clear HZ9 HB9
                subst hW7
                go_wp2_with fail
                refine Calls.mono (HLA.out _) ?_
                rintro en w8 ⟨rfl, hb8⟩
                have hS8 := HS7.out.same hb8
                have HZ9 : Hid (w8.heap[q]? = some (.cells #[.int .i64 0, .int .i64 0, .slice none 0 0] 26 (0, 0))) := by rw [HQ.out]; exact hS8.zero
                have HB9 : Hid (Below w.heap.size w w8) := hS8.bel
                clear hb8 hS8 l0 l1 l2
                go_wp2_with (first | (refine wpList_storeA Tryz.sizeOf26 rfl _ _ rfl q #[.int .i64 0, .int .i64 0, .slice none 0 0] #[.int .i64 0, .int .i64 0, .slice none 0 0] 26 rfl rfl HZ9.out rfl rfl (log_one _ _ _ _ _) ?_) | fail)
                exact bodyPost_ret (result23 HZ9.out rfl rfl rfl rfl) rfl ⟨none, 0, rfl, World.ownsRow_nil _ _ _ _, below_setRow HB9.out (by have := HQ.out; omega) _⟩
    · have hrd := HR.out
      rw [List.drop_of_length_le (by omega)] at hrd
      have hrm : r = some m := hrd
      have hS := HS.out
      have HZ9 : Hid (wr.heap[q]? = some (.cells #[.int .i64 0, .int .i64 0, .slice none 0 0] 26 (0, 0))) := by rw [HQ.out]; exact hS.zero
      have HB9 : Hid (Below w.heap.size w wr) := hS.bel
      have hge : ¬ (k : Int) < (ps.length : Int) := by omega
      by_cases c0 : ps.length = 0
      · have hpn : ps = [] := List.length_eq_zero_iff.1 c0
        obtain ⟨rfl, rfl, rfl⟩ : l = ⟨0, 0, []⟩ ∧ e = 0 ∧ R = false := by
          rcases HAN.out with ⟨m', _, h, _⟩ | ⟨_, h⟩
          · exact absurd hpn h
          · exact h
        have hz0 : ((ps.length : Int) == 0) = true := by simp [hpn]
        clear hS hrd hrm hpn c0
        go_wp2_with (first | (refine wpList_storeA Tryz.sizeOf26 rfl _ _ rfl q #[.int .i64 0, .int .i64 0, .slice none 0 0] #[.int .i64 0, .int .i64 0, .slice none 0 0] 26 rfl rfl HZ9.out rfl rfl (log_one _ _ _ _ _) ?_) | fail)
        exact bodyPost_ret (result23 HZ9.out rfl rfl rfl rfl) rfl ⟨none, 0, rfl, World.ownsRow_nil _ _ _ _, below_setRow HB9.out (by have := HQ.out; omega) _⟩
      · have hz0 : ((ps.length : Int) == 0) = false := by simp; intro h; exact c0 (by rw [h]; rfl)
        have hpn : ps ≠ [] := fun h => c0 (by rw [h]; rfl)
        have l0 := cell_of_row _ _ 0 _ _ _ hS.log
        have l1 := cell_of_row _ _ 1 _ _ _ hS.log
        have l2 := cell_of_row _ _ 2 _ _ _ hS.log
        simp at l0 l1 l2
        obtain ⟨a2, g2, cap2, hsl, hen⟩ := cellsEn_slice hS.own
        simp only [Value.slice.injEq] at hsl
        obtain ⟨rfl, _, rfl⟩ := hsl
        obtain ⟨O, hO⟩ : ∃ O, O = okL m := ⟨_, rfl⟩
        have HC3 : Hid (Calls Tryz.prog 15 #[.agg #[.int .i64 m.start, .int .i64 m.sterm, .slice a m.ents.length cap]] wr fun en w' => en = .returned (.bool O) ∧ Below wr.heap.size wr w') := by rw [hO]; exact specLogOk_is m (by omega) HD.out wr hen
        have HO : Hid (O = okL m) := hO
        have HRM : Hid (r = some m) := hrm
        have HPN : Hid (ps ≠ []) := hpn
        clear hS hrd hrm hpn hen hO c0 HZ9 HB9
        go_wp2_with fail
        refine Calls.mono HC3.out ?_
        rintro en w8 ⟨rfl, hb8⟩
        have hS8 := HS.out.same hb8
        have HS8 : Hid (RS w lb (.slice va ps.length vc) ps m a cap w8) := hS8
        have HZ9 : Hid (w8.heap[q]? = some (.cells #[.int .i64 0, .int .i64 0, .slice none 0 0] 26 (0, 0))) := by rw [HQ.out]; exact hS8.zero
        have HB9 : Hid (Below w.heap.size w w8) := hS8.bel
        clear hb8 hS8 l0 l1 l2 HC3
        cases O with
        | false =>
          obtain ⟨rfl, rfl, rfl⟩ : l = ⟨0, 0, []⟩ ∧ e = 0 ∧ R = false := by
            rcases HAN.out with ⟨m', h1, _, h2, _⟩ | ⟨_, h⟩
            · rw [HRM.out] at h1; cases h1; rw [← HO.out] at h2; cases h2
            · exact h
          go_wp2_with (first | (refine wpList_storeA Tryz.sizeOf26 rfl _ _ rfl q #[.int .i64 0, .int .i64 0, .slice none 0 0] #[.int .i64 0, .int .i64 0, .slice none 0 0] 26 rfl rfl HZ9.out rfl rfl (log_one _ _ _ _ _) ?_) | fail)
          exact bodyPost_ret (result23 HZ9.out rfl rfl rfl rfl) rfl ⟨none, 0, rfl, World.ownsRow_nil _ _ _ _, below_setRow HB9.out (by have := HQ.out; omega) _⟩
        | true =>
          obtain ⟨rfl, rfl, rfl⟩ : m = l ∧ e = z ∧ R = true := by
            rcases HAN.out with ⟨m', h1, _, _, h2, h3, h4⟩ | ⟨h, _⟩
            · rw [HRM.out] at h1; cases h1; exact ⟨h2.symm, h3, h4⟩
            · have := h m HRM.out HPN.out; rw [← HO.out] at this; cases this
          go_wp2_with (first | (refine wpList_loadA Tryz.isAgg26 Tryz.sizeOf26 rfl _ rfl lb #[.int .i64 m.start, .int .i64 m.sterm, .slice a m.ents.length cap] 26 rfl HS8.out.log rfl ?_) | (refine wpList_storeA Tryz.sizeOf26 rfl _ _ rfl q #[.int .i64 m.start, .int .i64 m.sterm, .slice a m.ents.length cap] #[.int .i64 0, .int .i64 0, .slice none 0 0] 26 rfl rfl HZ9.out rfl rfl (log_one _ _ _ _ _) ?_) | fail)
          exact bodyPost_ret (result23 HZ9.out rfl rfl rfl rfl) rfl ⟨a, cap, rfl, own_row HS8.out.own _ _ (own_not HS8.out.own HZ9.out (by decide)), below_setRow HB9.out (by have := HQ.out; omega) _⟩
end Go.Proofs.YtahpoemmlpbgdaaGreat
