/- The program's (*Log).take, walked. -/
import Derived.Test.YtahpoemmlpbgdaaGreatRLogA
import Derived.Test.YtahpoemmlpbgdaaGreatRdStart
import Derived.Test.YtahpoemmlpbgdaaGreatRdEntA
import Derived.Test.YtahpoemmlpbgdaaGreatImplFile
import Derived.Deep.RegionLaw
import Derived.Deep.RegionHeld3
namespace Go.Proofs.YtahpoemmlpbgdaaGreat
open Go.RowKit
open Logs (okL)
open Ents (okB kindB rest ent Gets Torn Got right text textS)
set_option linter.unusedVariables false
set_option linter.unusedSimpArgs false

theorem implRE_is {t : ByteArray} {i : Nat} {e : EntL} {R : Bool} (hs : t.size ≤ 1048576) (h : REIs t i e R) (w : World) :
    Calls Tryz.prog 62 #[.string t] w fun en w' => en = .returned (.tuple #[.int .i64 (i : Int), entV e, .bool R]) ∧ Below w.heap.size w w' := by
  have no : (∀ i' e', ¬ Got t i' e') → Calls Tryz.prog 62 #[.string t] w (fun en w' => en = .returned reNo ∧ Below w.heap.size w w') → Calls Tryz.prog 62 #[.string t] w fun en w' => en = .returned (.tuple #[.int .i64 (i : Int), entV e, .bool R]) ∧ Below w.heap.size w w' := fun hn hc => by
    obtain ⟨rfl, rfl, rfl⟩ := re_none h hn
    exact hc
  rcases Ents.torn_or t with ht | ⟨i', j, k, a, b, hg⟩
  · exact no (Ents.torn_not ht) (implRE_fails hs w (Or.inl ht))
  · cases hk : kindB (ent t j k b) with
    | false =>
      refine no (fun i2 e2 hgot => ?_) (implRE_fails hs w (Or.inr ⟨_, _, _, _, _, hg, hk⟩))
      obtain ⟨_, rfl⟩ := Ents.got_of hg hgot
      have := (Ents.okB_iff.1 hgot.2.1).2
      rw [hk] at this
      cases this
    | true =>
      by_cases hr : right (i' : Int) (ent t j k b)
      · obtain ⟨h1, h2, h3⟩ := re_uniq h ((Ents.gets_got hg).2 hr)
        subst h1 h2 h3
        exact implRE_got hs w hg hr
      · refine no (fun i2 e2 hgot => ?_) (implRE_wrong hs w hg hk hr)
        obtain ⟨rfl, rfl⟩ := Ents.got_of hg hgot
        exact hr hgot.2

theorem EntL2.kept {w w' : World} {base : Nat} {ao : Option Addr} {n cap : Nat} {l : List EntL} (h : EntL2 w base ao n cap l) (hb : Below w.heap.size w w') : EntL2 w' base ao n cap l := by
  refine ⟨h.1, ?_⟩
  rcases h.2 with h | ⟨h1, h2, g, off, h3⟩
  · exact Or.inl (own_kept h hb)
  · exact Or.inr ⟨h1, h2, g, off, h3.kept hb⟩
def SameRow (u v : Value) : Prop := u.ownBlock = v.ownBlock
theorem EntL2.cut {X : World} {B : Nat} {a : Option Addr} {cap : Nat} {l : List EntL} (h : X.ownsRow B 51 3 (.slice a l.length cap) l.length (cellsEn l)) (k : Nat) (hk : k ≤ l.length) : EntL2 X B (if k = 0 then a else a.map (·.add (0 * 3))) k k (l.take k) := by
  obtain ⟨a2, g, cap2, hsl, hen⟩ := cellsEn_slice h
  simp only [Value.slice.injEq] at hsl
  obtain ⟨rfl, _, _⟩ := hsl
  refine ⟨by simp; omega, Or.inr ⟨rfl, fun hn => ?_, g, 0, ?_⟩⟩
  · by_cases h0 : k = 0
    · exact h0
    · rw [if_neg h0] at hn
      have := hen.1 (by omega)
      rw [this] at hn
      cases hn
  · by_cases h0 : k = 0
    · subst h0
      exact ⟨fun hp => by simp at hp, fun j hj => by simp at hj⟩
    · have ha := hen.1 (by omega)
      rw [if_neg h0, ha]
      refine ⟨fun _ => by simp [Addr.add_lit], fun j hj => ?_⟩
      have hj2 : j < k := by simp at hj; omega
      have := hen.2 j (by omega)
      rw [List.getElem_take]
      exact this
theorem cut_row (a : Option Addr) (k n c : Nat) : SameRow (.slice (if k = 0 then a else a.map (·.add (0 * 3))) k k) (.slice a n c) := by
  unfold SameRow
  cases a with
  | none => split <;> rfl
  | some ad =>
    split
    · rfl
    · obtain ⟨b, o, sp⟩ := ad
      cases sp <;> simp [Value.ownBlock, Addr.add]
/-- What take leaves. -/
def TkPost (w : World) (B lb : Nat) (row : Option Nat) (m' : LogL) (ok : Bool) (en : Ending) (w' : World) : Prop := en = .returned (.bool ok) ∧ ∃ a' cap', w'.heap[lb]? = some (.cells #[.int .i64 m'.start, .int .i64 m'.sterm, .slice a' m'.ents.length cap'] 26 (0, 0)) ∧ w'.ownsRow B 51 3 (.slice a' m'.ents.length cap') m'.ents.length (cellsEn m'.ents) ∧ (∀ q o, w.heap[q]? = some o → q ≠ lb → row ≠ some q → w'.heap[q]? = some o) ∧ Below B w w'
set_option maxHeartbeats 8000000 in
set_option maxRecDepth 100000 in
theorem take_is {B lb : Nat} {m m' : LogL} {a : Option Addr} {cap : Nat} {t : ByteArray} {i j n : Nat} {e : EntL} {R Q ok : Bool} (hs : t.size ≤ 1048576) (hst : StIs t i j R) (hre : REIs t n e Q)
    (hcs : (R = true ∧ m' = ⟨(i : Int), (j : Int), []⟩ ∧ ok = true) ∨ (R = false ∧ Takes false Q m n ∧ m' = put12 m n e ∧ ok = true) ∨ (R = false ∧ ¬ Takes false Q m n ∧ m' = m ∧ ok = false))
    (hml : m.ents.length ≤ 20000) (ms0 : 0 ≤ m.start) (ms1 : m.start ≤ 1000000000) (w : World) (hB : B ≤ lb) (hBw : B ≤ w.heap.size) (hlog : w.heap[lb]? = some (.cells #[.int .i64 m.start, .int .i64 m.sterm, .slice a m.ents.length cap] 26 (0, 0)))
    (hown : w.ownsRow B 51 3 (.slice a m.ents.length cap) m.ents.length (cellsEn m.ents)) :
    Calls Tryz.prog 26 #[.pointer (some ⟨lb, 0, none⟩), .string t] w (TkPost w B lb (Value.slice a m.ents.length cap).ownBlock m' ok) := by
  have HC1 : Hid (∀ X, Calls Tryz.prog 25 #[.string t] X fun en w' => en = .returned (.tuple #[.agg #[.int .i64 (i : Int), .int .i64 (j : Int), .slice none 0 0], .bool R]) ∧ Below X.heap.size X w') := fun X => readStart_is hs hst X
  have HC2 : Hid (∀ X, Calls Tryz.prog 62 #[.string t] X fun en w' => en = .returned (.tuple #[.int .i64 (n : Int), .agg #[.int .i64 e.term, .int .i64 e.kind, .string e.data], .bool Q]) ∧ Below X.heap.size X w') := fun X => implRE_is hs hre X
  have HLOG : Hid (w.heap[lb]? = some (.cells #[.int .i64 m.start, .int .i64 m.sterm, .slice a m.ents.length cap] 26 (0, 0))) := hlog
  have HOWN : Hid (w.ownsRow B 51 3 (.slice a m.ents.length cap) m.ents.length (cellsEn m.ents)) := hown
  have hne : (Value.slice a m.ents.length cap).ownBlock ≠ some lb := own_not hown hlog (by decide)
  have HNE : Hid ((Value.slice a m.ents.length cap).ownBlock ≠ some lb) := hne
  have hll : lb < w.heap.size := (Array.getElem?_eq_some_iff.1 hlog).1
  have HN1 : Hid (Q = true → n ≤ 100000) := fun hq => by
    rcases hre with ⟨h, _⟩ | ⟨_, _, _, h⟩
    · have := h.2.2.2; omega
    · rw [hq] at h; cases h
  have HN20 : Hid (∀ k : Nat, k ≤ m.ents.length → k ≤ 1048576) := fun k hk => by omega
  clear hst hre hlog hown hne
  go_enter Tryz.func26, Tryz.ntmps26
  go_wp2_with fail
  refine Calls.mono (HC1.out _) ?_
  rintro en w1 ⟨rfl, hb1⟩
  obtain ⟨W2, hW2⟩ : ∃ W2, W2 = w1.alloc (Obj.cells #[.int .i64 (i : Int), .int .i64 (j : Int), .slice none 0 0] 26) := ⟨_, rfl⟩
  have hb2 : Below w.heap.size w W2 := by rw [hW2]; exact hb1.alloc hb1.size _
  have HB2 : Hid (Below w.heap.size w W2) := hb2
  have hlg2 := (hb2.block _ hll).trans HLOG.out
  have HLG2 : Hid (W2.heap[lb]? = some (.cells #[.int .i64 m.start, .int .i64 m.sterm, .slice a m.ents.length cap] 26 (0, 0))) := hlg2
  have hx2 : W2.heap[w1.heap.size]? = some (.cells #[.int .i64 (i : Int), .int .i64 (j : Int), .slice none 0 0] 26 (0, 0)) := by rw [hW2]; exact heap_alloc_new w1 _
  have HX2 : Hid (W2.heap[w1.heap.size]? = some (.cells #[.int .i64 (i : Int), .int .i64 (j : Int), .slice none 0 0] 26 (0, 0))) := hx2
  clear hb1 hb2 hlg2 hx2
  rcases hcs with ⟨rfl, rfl, rfl⟩ | hcs
  · subst hW2
    go_wp2_with (first | (refine wpList_loadA Tryz.isAgg26 Tryz.sizeOf26 rfl _ rfl w1.heap.size #[.int .i64 (i : Int), .int .i64 (j : Int), .slice none 0 0] 26 rfl HX2.out rfl ?_) | (refine wpList_storeA Tryz.sizeOf26 rfl _ _ rfl lb #[.int .i64 (i : Int), .int .i64 (j : Int), .slice none 0 0] #[.int .i64 m.start, .int .i64 m.sterm, .slice a m.ents.length cap] 26 rfl rfl HLG2.out rfl rfl (log_one _ _ _ _ _) ?_) | fail)
    go_ret
    exact ⟨rfl, none, 0, row_size HLG2.out, World.ownsRow_nil _ _ _ _, fun q o hq n1 _ => row_far ((HB2.out.block _ (Array.getElem?_eq_some_iff.1 hq).1).trans hq) n1 _, below_setRow (HB2.out.mono hBw) hB _⟩
  · obtain rfl : R = false := by rcases hcs with ⟨h, _⟩ | ⟨h, _⟩ <;> exact h
    have hcs2 : (Takes false Q m n ∧ m' = put12 m n e ∧ ok = true) ∨ (¬ Takes false Q m n ∧ m' = m ∧ ok = false) := by
      rcases hcs with ⟨_, h⟩ | ⟨_, h⟩
      · exact Or.inl h
      · exact Or.inr h
    have HCS : Hid ((Takes false Q m n ∧ m' = put12 m n e ∧ ok = true) ∨ (¬ Takes false Q m n ∧ m' = m ∧ ok = false)) := hcs2
    have HLA : Hid (∀ X, Below w.heap.size w X → Calls Tryz.prog 63 #[.agg #[.int .i64 m.start, .int .i64 m.sterm, .slice a m.ents.length cap]] X fun en w' => en = .returned (.tuple #[.int .i64 (m.start + (m.ents.length : Int)), .int .i64 (Logs.lastT m)]) ∧ Below X.heap.size X w') := fun X h => by
      obtain ⟨a2, g2, cap2, hsl, hen⟩ := cellsEn_slice (own_kept HOWN.out h)
      simp only [Value.slice.injEq] at hsl
      obtain ⟨rfl, _, rfl⟩ := hsl
      have := implLast_is (a := a) (cap := cap) m (by omega) X hen
      have h2 : (if m.ents.length = 0 then m.start else lastI m) = m.start + (m.ents.length : Int) := by
        split
        · rename_i h0; omega
        · unfold lastI wrap64; omega
      rw [h2] at this
      exact this
    obtain ⟨TL, hTL⟩ : ∃ TL, TL = Logs.lastT m := ⟨_, rfl⟩
    rw [← hTL] at HLA
    clear hcs hcs2 HC1 HX2 HLG2 hTL
    subst hW2
    go_wp2_with fail
    refine Calls.mono (HC2.out _) ?_
    rintro en w3 ⟨rfl, hb3⟩
    have hb3' : Below w.heap.size w w3 := HB2.out.trans (hb3.mono HB2.out.size)
    obtain ⟨W4, hW4⟩ : ∃ W4, W4 = w3.alloc (Obj.cells #[.int .i64 e.term, .int .i64 e.kind, .string e.data] 51) := ⟨_, rfl⟩
    have hb4 : Below w.heap.size w W4 := by rw [hW4]; exact hb3'.alloc hb3'.size _
    have HB4 : Hid (Below w.heap.size w W4) := hb4
    have hlg4 := (hb4.block _ hll).trans HLOG.out
    have HX4 : Hid (W4.heap[w3.heap.size]? = some (.cells #[.int .i64 e.term, .int .i64 e.kind, .string e.data] 51 (0, 0))) := by show _ = _; rw [hW4]; exact heap_alloc_new w3 _
    obtain ⟨eb, heb⟩ : ∃ eb, eb = w3.heap.size := ⟨_, rfl⟩
    have HEL : Hid (w.heap.size ≤ eb) := by show _ ≤ _; rw [heb]; exact hb3'.size
    rw [← heb] at HX4
    have l0 := cell_of_row _ _ 0 _ _ _ hlg4
    have l1 := cell_of_row _ _ 1 _ _ _ hlg4
    have l2 := cell_of_row _ _ 2 _ _ _ hlg4
    simp at l0 l1 l2
    rw [hW4] at l0 l1 l2
    clear hb3 hb3' hb4 hlg4 HC2 HB2
    go_wp2_with fail
    rw [← hW4, ← heb]
    clear hW4 heb l0 l1 l2
    refine Calls.mono (HLA.out _ HB4.out) ?_
    rintro en w5 ⟨rfl, hb5⟩
    have hb5' : Below w.heap.size w w5 := HB4.out.trans (hb5.mono HB4.out.size)
    have HB5 : Hid (Below w.heap.size w w5) := hb5'
    have hlg5 := (hb5'.block _ hll).trans HLOG.out
    have HLG5 : Hid (w5.heap[lb]? = some (.cells #[.int .i64 m.start, .int .i64 m.sterm, .slice a m.ents.length cap] 26 (0, 0))) := hlg5
    have HX5 : Hid (w5.heap[eb]? = some (.cells #[.int .i64 e.term, .int .i64 e.kind, .string e.data] 51 (0, 0))) := (hb5.block _ (Array.getElem?_eq_some_iff.1 HX4.out).1).trans HX4.out
    have HO5 : Hid (w5.ownsRow B 51 3 (.slice a m.ents.length cap) m.ents.length (cellsEn m.ents)) := own_kept HOWN.out hb5'
    have l0 := cell_of_row _ _ 0 _ _ _ hlg5
    have l2 := cell_of_row _ _ 2 _ _ _ hlg5
    have f2 := frozen_of_row _ _ 2 _ _ hlg5
    simp at l0 l2
    have HKEEP : Hid (∀ q o, w.heap[q]? = some o → w5.heap[q]? = some o) := fun q o hq => (hb5'.block _ (Array.getElem?_eq_some_iff.1 hq).1).trans hq
    clear hb5 hb5' hlg5 HLA HX4 HB4 HOWN HLOG
    rcases HCS.out with ⟨⟨_, rfl, t3, t4⟩, rfl, rfl⟩ | ⟨hnt, hme, rfl⟩
    · have hn1 : n ≤ 100000 := HN1.out rfl
      have u3 : ¬ (n : Int) ≤ m.start := by omega
      have u4 : ¬ (m.start + (m.ents.length : Int) + 1 < (n : Int)) := by omega
      obtain ⟨k, hk⟩ : ∃ k : Nat, (n : Int) - m.start - 1 = (k : Int) := ⟨((n : Int) - m.start - 1).toNat, by omega⟩
      have HPUT : Hid (put12 m n e = ⟨m.start, m.sterm, m.ents.take k ++ [e]⟩) := by show _ = _; unfold put12; rw [hk]; rfl
      have hkl : k ≤ m.ents.length := by omega
      have HHK : Hid ((n : Int) - m.start - 1 = (k : Int)) := hk
      clear hk
      by_cases hle : (n : Int) ≤ m.start + (m.ents.length : Int)
      · have hcap : m.ents.length ≤ cap := by
          rcases HO5.out.2 with ⟨h1, h2⟩ | ⟨g, c, cur, h1, _, _, h2, _⟩
          · omega
          · simp at h1; omega
        obtain ⟨pa, hpa⟩ : ∃ pa, pa = if k = 0 then a else a.map (·.add (0 * 3)) := ⟨_, rfl⟩
        have HROW : Hid (SameRow (.slice pa k k) (.slice a m.ents.length cap)) := by rw [hpa]; exact cut_row a k m.ents.length cap
        have HPA : Hid (∀ X, Calls Tryz.prog 53 #[.slice a m.ents.length cap, .int .i64 0, .int .i64 (k : Int)] X fun en w' => en = .returned (.slice pa k k) ∧ w' = X) := fun X => by rw [hpa]; exact partOf_is a m.ents.length cap 0 k (Nat.zero_le _) (by omega) X
        have HCF : Hid (∀ X : World, (callFunc 53 #[.slice a m.ents.length cap, .int .i64 0, .int .i64 (k : Int)]).run Tryz.prog X = .ok (.enter 53 #[.slice a m.ents.length cap, .int .i64 0, .int .i64 (k : Int)]) X) := fun _ => by kernel_rfl
        have HENA : Hid (∀ X, X.ownsRow B 51 3 (.slice a m.ents.length cap) m.ents.length (cellsEn m.ents) → EntL2 X B pa k k (m.ents.take k)) := fun X h => by rw [hpa]; exact EntL2.cut h k hkl
        obtain ⟨X1, hX1⟩ : ∃ X1 : Int, X1 = (n : Int) - m.start := ⟨_, rfl⟩
        have x1 : IntKind.i64.wrap ((n : Int) - m.start) = X1 := by rw [hX1, IntWalk.i64_in _ (by omega)]
        have x2 : IntKind.i64.wrap (X1 - 1) = (k : Int) := by have := HHK.out; rw [hX1, IntWalk.i64_in _ (by omega)]; omega
        clear hX1 hpa hcap
        go_wp2_with fail
        go_region_law (first | (refine step_call3 (by rfl) 53 _ _ _ _ _ _ (by rfl) (.slice a m.ents.length cap) (.int .i64 0) (.int .i64 (k : Int)) (by rfl) (by rfl) (by rfl) (.slice pa k k) _ HCF.out (HPA.out _) ?_; intro w6 hw6; subst hw6) | fail)
        all_goals
          obtain ⟨WT, hWT⟩ : ∃ WT, WT = (w5.setCell ⟨lb, 2, none⟩ (.slice pa k k)).drew := ⟨_, rfl⟩
          have hlt5 := heap_setCell_same w5 lb 2 _ 26 (.slice pa k k) HLG5.out
          simp at hlt5
          have HLGT : Hid (WT.heap[lb]? = some (.cells #[.int .i64 m.start, .int .i64 m.sterm, .slice pa k k] 26 (0, 0))) := by rw [hWT]; exact hlt5
          have HXT : Hid (WT.heap[eb]? = some (.cells #[.int .i64 e.term, .int .i64 e.kind, .string e.data] 51 (0, 0))) := by rw [hWT]; exact set_far HX5.out (by have := HEL.out; omega) _ _
          have HENT : Hid (EntL2 WT B pa k k (m.ents.take k)) := by rw [hWT]; exact HENA.out _ (own_set HO5.out lb 2 _ HNE.out).drew
          have HKPT : Hid (∀ q o, w.heap[q]? = some o → q ≠ lb → WT.heap[q]? = some o) := fun q o hq n1 => by rw [hWT]; exact set_far (HKEEP.out q o hq) n1 _ _
          have HBBT : Hid (Below B w WT) := by rw [hWT]; exact ((HB5.out.mono hBw).setCell hB _).drew
          have cl2 := cell_of_row _ _ 2 _ _ _ HLGT.out
          simp at cl2
          rw [← hWT]
          clear hWT hlt5 l0 l2 f2 x1 x2
          go_wp2_with fail
          have e0 := cell_of_row _ _ 0 _ _ _ HXT.out
          have e1 := cell_of_row _ _ 1 _ _ _ HXT.out
          have e2 := cell_of_row _ _ 2 _ _ _ HXT.out
          simp at e0 e1 e2
          have hba : Below WT.heap.size WT (WT.alloc (Obj.cells #[.int .i64 e.term, .int .i64 e.kind, .string e.data] 51)) := (Below.refl _ _).alloc (Nat.le_refl _) _
          have HBA : Hid (Below WT.heap.size WT (WT.alloc (Obj.cells #[.int .i64 e.term, .int .i64 e.kind, .string e.data] 51)).drew) := hba.drew
          have HA0 : Hid ((WT.alloc (Obj.cells #[.int .i64 e.term, .int .i64 e.kind, .string e.data] 51)).drew.heap[WT.heap.size]? = some (.cells #[.int .i64 e.term, .int .i64 e.kind, .string e.data] 51 (0, 0))) := heap_alloc_new WT _
          have HA1 : Hid (EntL2 (WT.alloc (Obj.cells #[.int .i64 e.term, .int .i64 e.kind, .string e.data] 51)).drew B pa k k (m.ents.take k)) := HENT.out.kept hba.drew
          have HA2 : Hid (B ≤ (WT.alloc (Obj.cells #[.int .i64 e.term, .int .i64 e.kind, .string e.data] 51)).drew.heap.size) := by show _ ≤ _; have h1 := hba.drew.size; have h2 := HBBT.out.size; omega
          have hla := (hba.block _ (Array.getElem?_eq_some_iff.1 HLGT.out).1).trans HLGT.out
          have HLA : Hid ((WT.alloc (Obj.cells #[.int .i64 e.term, .int .i64 e.kind, .string e.data] 51)).drew.heap[lb]? = some (.cells #[.int .i64 m.start, .int .i64 m.sterm, .slice pa k k] 26 (0, 0))) := hla
          have cla := cell_of_row _ _ 2 _ _ _ hla
          simp at cla
          clear hba hla
          go_region_law (first | (refine step_app1 (by rfl) _ _ (by rfl) B pa k k WT.heap.size (m.ents.take k) e (by rfl) (by rfl) HA1.out HA2.out (HN20.out _ hkl) HA0.out ?_; intro a2 cap2 w8 hown8 hg8; have HL8 : Hid (w8.heap[lb]? = some (.cells #[.int .i64 m.start, .int .i64 m.sterm, .slice pa k k] 26 (0, 0))) := grown_keep' HLA.out hg8 (fun x => HNE.out (HROW.out.symm.trans x)); have cl8 := cell_of_row _ _ 2 _ _ _ HL8.out; have fl8 := frozen_of_row _ _ 2 _ _ HL8.out; simp at cl8) | fail)
          all_goals
            have hne8 := own_not hown8 HL8.out (by decide)
            have hL9 := heap_setCell_same w8 lb 2 _ 26 (.slice a2 (k + 1) cap2) HL8.out
            simp at hL9
            have HL9 : Hid (_ = _) := hL9
            have HO9 : Hid ((w8.setCell ⟨lb, 2, none⟩ (.slice a2 (k + 1) cap2)).ownsRow B 51 3 (.slice a2 (k + 1) cap2) (k + 1) (cellsEn (m.ents.take k ++ [e]))) := own_set hown8 lb 2 _ hne8
            have HK9 : Hid (∀ q o, w.heap[q]? = some o → q ≠ lb → (Value.slice a m.ents.length cap).ownBlock ≠ some q → (w8.setCell ⟨lb, 2, none⟩ (.slice a2 (k + 1) cap2)).heap[q]? = some o) := fun q o hq n1 n2 => set_far (grown_keep' ((HBA.out.block _ (Array.getElem?_eq_some_iff.1 (HKPT.out q o hq n1)).1).trans (HKPT.out q o hq n1)) hg8 (fun x => n2 (HROW.out.symm.trans x))) n1 _ _
            have HB9 : Hid (Below B w (w8.setCell ⟨lb, 2, none⟩ (.slice a2 (k + 1) cap2))) := ((HBBT.out.trans (HBA.out.mono (Nat.le_trans hBw HBBT.out.size))).grown hg8 (by have h1 := HBA.out.size; have h2 := HBBT.out.size; omega) (fun q hq => (HO5.out.lt q (HROW.out.symm.trans hq)).1)).setCell hB _
            have HLN : Hid ((m.ents.take k ++ [e]).length = k + 1) := by show _ = _; simp; omega
            clear hne8 hL9 hown8 hg8 HL8 cl8 fl8
            go_wp2
            go_ret
            rw [HPUT.out]
            refine ⟨rfl, a2, cap2, ?_, ?_, HK9.out, HB9.out⟩
            · show _ = some (Obj.cells #[.int .i64 m.start, .int .i64 m.sterm, .slice a2 (m.ents.take k ++ [e]).length cap2] 26 (0, 0))
              rw [HLN.out]
              exact HL9.out
            · show World.ownsRow _ _ _ _ (.slice a2 (m.ents.take k ++ [e]).length cap2) (m.ents.take k ++ [e]).length (cellsEn (m.ents.take k ++ [e]))
              rw [HLN.out]
              exact HO9.out
      · obtain rfl : k = m.ents.length := by have := HHK.out; omega
        have HENT : Hid (EntL2 w5 B a m.ents.length cap m.ents) := ⟨rfl, Or.inl HO5.out⟩
        have HLEN : Hid (m.ents.take m.ents.length ++ [e] = m.ents ++ [e]) := by show _ = _; rw [List.take_length]
        rw [HLEN.out] at HPUT
        have HROW : Hid (SameRow (.slice a m.ents.length cap) (.slice a m.ents.length cap)) := rfl
        have HKP5 : Hid (∀ q o, w.heap[q]? = some o → q ≠ lb → w5.heap[q]? = some o) := fun q o hq _ => HKEEP.out q o hq
        have HBB5 : Hid (Below B w w5) := HB5.out.mono hBw
        go_wp2_with fail
        have e0 := cell_of_row _ _ 0 _ _ _ HX5.out
        have e1 := cell_of_row _ _ 1 _ _ _ HX5.out
        have e2 := cell_of_row _ _ 2 _ _ _ HX5.out
        simp at e0 e1 e2
        have hba : Below w5.heap.size w5 (w5.alloc (Obj.cells #[.int .i64 e.term, .int .i64 e.kind, .string e.data] 51)) := (Below.refl _ _).alloc (Nat.le_refl _) _
        have HBA : Hid (Below w5.heap.size w5 (w5.alloc (Obj.cells #[.int .i64 e.term, .int .i64 e.kind, .string e.data] 51)).drew) := hba.drew
        have HA0 : Hid ((w5.alloc (Obj.cells #[.int .i64 e.term, .int .i64 e.kind, .string e.data] 51)).drew.heap[w5.heap.size]? = some (.cells #[.int .i64 e.term, .int .i64 e.kind, .string e.data] 51 (0, 0))) := heap_alloc_new w5 _
        have HA1 : Hid (EntL2 (w5.alloc (Obj.cells #[.int .i64 e.term, .int .i64 e.kind, .string e.data] 51)).drew B a m.ents.length cap m.ents) := HENT.out.kept hba.drew
        have HA2 : Hid (B ≤ (w5.alloc (Obj.cells #[.int .i64 e.term, .int .i64 e.kind, .string e.data] 51)).drew.heap.size) := by show _ ≤ _; have h1 := hba.drew.size; have h2 := HB5.out.size; omega
        have hla := (hba.block _ (Array.getElem?_eq_some_iff.1 HLG5.out).1).trans HLG5.out
        have HLA : Hid ((w5.alloc (Obj.cells #[.int .i64 e.term, .int .i64 e.kind, .string e.data] 51)).drew.heap[lb]? = some (.cells #[.int .i64 m.start, .int .i64 m.sterm, .slice a m.ents.length cap] 26 (0, 0))) := hla
        have cla := cell_of_row _ _ 2 _ _ _ hla
        simp at cla
        clear hba hla
        go_region_law (first | (refine step_app1 (by rfl) _ _ (by rfl) B a m.ents.length cap w5.heap.size m.ents e (by rfl) (by rfl) HA1.out HA2.out (HN20.out _ (Nat.le_refl _)) HA0.out ?_; intro a2 cap2 w8 hown8 hg8; have HL8 : Hid (w8.heap[lb]? = some (.cells #[.int .i64 m.start, .int .i64 m.sterm, .slice a m.ents.length cap] 26 (0, 0))) := grown_keep' HLA.out hg8 HNE.out; have cl8 := cell_of_row _ _ 2 _ _ _ HL8.out; have fl8 := frozen_of_row _ _ 2 _ _ HL8.out; simp at cl8) | fail)
        all_goals
          have hne8 := own_not hown8 HL8.out (by decide)
          have hL9 := heap_setCell_same w8 lb 2 _ 26 (.slice a2 (m.ents.length + 1) cap2) HL8.out
          simp at hL9
          have HL9 : Hid (_ = _) := hL9
          have HO9 : Hid ((w8.setCell ⟨lb, 2, none⟩ (.slice a2 (m.ents.length + 1) cap2)).ownsRow B 51 3 (.slice a2 (m.ents.length + 1) cap2) (m.ents.length + 1) (cellsEn (m.ents ++ [e]))) := own_set hown8 lb 2 _ hne8
          have HK9 : Hid (∀ q o, w.heap[q]? = some o → q ≠ lb → (Value.slice a m.ents.length cap).ownBlock ≠ some q → (w8.setCell ⟨lb, 2, none⟩ (.slice a2 (m.ents.length + 1) cap2)).heap[q]? = some o) := fun q o hq n1 n2 => set_far (grown_keep' ((HBA.out.block _ (Array.getElem?_eq_some_iff.1 (HKP5.out q o hq n1)).1).trans (HKP5.out q o hq n1)) hg8 (fun x => n2 (HROW.out.symm.trans x))) n1 _ _
          have HB9 : Hid (Below B w (w8.setCell ⟨lb, 2, none⟩ (.slice a2 (m.ents.length + 1) cap2))) := ((HBB5.out.trans (HBA.out.mono (Nat.le_trans hBw HBB5.out.size))).grown hg8 (by have h1 := HBA.out.size; have h2 := HBB5.out.size; omega) (fun q hq => (HO5.out.lt q (HROW.out.symm.trans hq)).1)).setCell hB _
          have HLN : Hid ((m.ents ++ [e]).length = m.ents.length + 1) := by show _ = _; simp
          clear hne8 hL9 hown8 hg8 HL8 cl8 fl8
          go_wp2
          go_ret
          rw [HPUT.out]
          refine ⟨rfl, a2, cap2, ?_, ?_, HK9.out, HB9.out⟩
          · show _ = some (Obj.cells #[.int .i64 m.start, .int .i64 m.sterm, .slice a2 (m.ents ++ [e]).length cap2] 26 (0, 0))
            rw [HLN.out]
            exact HL9.out
          · show World.ownsRow _ _ _ _ (.slice a2 (m.ents ++ [e]).length cap2) (m.ents ++ [e]).length (cellsEn (m.ents ++ [e]))
            rw [HLN.out]
            exact HO9.out
    · have hme2 := hme.symm
      clear hme HCS
      subst hme2
      have HNT : Hid (¬ Takes false Q m n) := hnt
      clear hnt
      cases Q with
      | false =>
        go_wp2
        go_ret
        exact ⟨rfl, a, cap, HLG5.out, HO5.out, fun q o hq _ _ => HKEEP.out q o hq, HB5.out.mono hBw⟩
      | true =>
        by_cases c3 : (n : Int) ≤ m.start
        · go_wp2
          go_ret
          exact ⟨rfl, a, cap, HLG5.out, HO5.out, fun q o hq _ _ => HKEEP.out q o hq, HB5.out.mono hBw⟩
        · have c4 : m.start + (m.ents.length : Int) + 1 < (n : Int) := by
            rcases Int.lt_or_le (m.start + (m.ents.length : Int) + 1) (n : Int) with h | h
            · exact h
            · exact absurd ⟨rfl, rfl, by omega, h⟩ HNT.out
          go_wp2
          go_ret
          exact ⟨rfl, a, cap, HLG5.out, HO5.out, fun q o hq _ _ => HKEEP.out q o hq, HB5.out.mono hBw⟩
end Go.Proofs.YtahpoemmlpbgdaaGreat
