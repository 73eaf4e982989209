/- The program's copied and LogBehind, walked. -/
import Derived.Test.YtahpoemmlpbgdaaImplFile
import Derived.Test.YtahpoemmlpbgdaaSealA
namespace Go.Proofs.Ytahpoemmlpbgdaa
open Go.RowKit
open Ents (okB)
open Logs (okL)
set_option linter.unusedVariables false
set_option linter.unusedSimpArgs false

set_option maxHeartbeats 4000000 in
set_option maxRecDepth 100000 in
theorem copied_is {a : Option Addr} {g off cap : Nat} (l : List EntL) (hlen : l.length ≤ 1048576) (hd : ∀ e ∈ l, e.data.size ≤ 1048576) (w : World) (hf : EnAt w a g off l) :
    Calls Try.prog 27 #[.slice a l.length cap] w fun en w' => ∃ v, en = .returned v ∧ w'.ownsRow w.heap.size 46 3 v l.length (cellsEn l) ∧ Below w.heap.size w w' := by
  obtain ⟨i0, hi, hz0, hz1, hz2⟩ := info_parts Try.info46
  have HEN : Hid (∀ W', Below w.heap.size w W' → EnAt W' a g off l) := fun W' h => hf.kept h
  have HD : Hid (∀ e ∈ l, e.data.size ≤ 1048576) := hd
  clear hf hd
  go_enter Try.func27, Try.ntmps27
  go_wp2_with (at_make; refine wpList_make_own _ rfl _ _ 27 rfl w.heap.size 46 i0 (.agg #[.int .i64 0, .int .i64 0, .string ByteArray.empty]) 3 Try.underlying27 hi hz0 hz1 _ _ _ l.length rfl rfl rfl ?b2 ?b3 (Nat.le_refl _) ?_)
  case b2 => rw [hz2]; omega
  case b3 => unfold maxLen; omega
  intro w0 hown0 hgrow0
  have HB0 : Hid (Below w.heap.size w w0) := (Below.refl _ _).grown hgrow0 (Nat.le_refl _) (by simp)
  have HO0 : Hid (w0.ownsRow w.heap.size 46 3 (.slice (some ⟨w.heap.size, 0, none⟩) 0 l.length) 0 (cellsEn (l.take 0))) := hown0
  clear hgrow0 hown0
  go_wp2
  go_loopw [3, 5, 11] (fun v _ i wr => ∃ (k : Nat), k ≤ l.length ∧ i = .int .i64 (k : Int) ∧ Hid (wr.ownsRow w.heap.size 46 3 v k (cellsEn (l.take k))) ∧ Hid (Below w.heap.size w wr)) (fun _ _ i _ => l.length - (intOf i).toNat)
  case atStart => exact ⟨0, Nat.zero_le _, rfl, HO0, HB0⟩
  case round =>
    clear HO0 HB0
    obtain ⟨k, hk, rfl, HO, HBW⟩ := hrel
    obtain ⟨va, vc, hv⟩ := own_slice HO.out
    subst hv
    by_cases hlt : k < l.length
    · have hA := HEN.out _ HBW.out
      have ea := hA.1 (by omega)
      obtain ⟨d0, d1, d2⟩ := hA.2 k hlt
      have HDK : Hid (l[k].data.size ≤ 1048576) := HD.out _ (List.getElem_mem _)
      have HTK : Hid (l.take (k + 1) = l.take k ++ [l[k]]) := by show _ = _; rw [List.take_succ_eq_append_getElem hlt]
      obtain ⟨e, he⟩ : ∃ e, e = l[k] := ⟨_, rfl⟩
      rw [← he] at d0 d1 d2 HDK HTK
      subst ea
      have hk0 : (0 : Int) ≤ (k : Int) := by omega
      have hk1 : (k : Int) < (l.length : Int) := by omega
      have HE : Hid (∀ W, Calls Try.prog 44 #[.string e.data] W fun en w' => en = .returned (.string e.data) ∧ Below W.heap.size W w') := fun W => clone_any e.data (by have := HDK.out; omega) W
      clear hA he
      obtain ⟨W2, hW2⟩ : ∃ W2, W2 = wr.alloc (Obj.cells #[.int .i64 e.term, .int .i64 e.kind, .string e.data] 46) := ⟨_, rfl⟩
      have hb2 : Below wr.heap.size wr W2 := by rw [hW2]; exact (Below.refl _ _).alloc (Nat.le_refl _) _
      have hr2 : W2.heap[wr.heap.size]? = some (.cells #[.int .i64 e.term, .int .i64 e.kind, .string e.data] 46 (0, 0)) := by rw [hW2]; exact heap_alloc_new wr _
      have HR2 : Hid (W2.heap[wr.heap.size]? = some (.cells #[.int .i64 e.term, .int .i64 e.kind, .string e.data] 46 (0, 0))) := hr2
      have HB2 : Hid (Below wr.heap.size wr W2) := hb2
      clear hb2 hr2
      obtain ⟨q, hq⟩ : ∃ q, q = wr.heap.size := ⟨_, rfl⟩
      have HQ : Hid (q = wr.heap.size) := hq
      go_wp2_with fail
      rw [← hW2, ← hq]
      refine Calls.mono (HE.out _) ?_
      rintro en w5 ⟨rfl, hb5⟩
      have hr5 := (hb5.block _ (Array.getElem?_eq_some_iff.1 HR2.out).1).trans HR2.out
      have hb5' : Below wr.heap.size wr w5 := HB2.out.trans (hb5.mono HB2.out.size)
      have ho5 := own_kept HO.out hb5'
      have hne : (Value.slice va k vc).ownBlock ≠ some q := fun h => by have := (HO.out.lt q h).2; have := HQ.out; omega
      have hlt5 : q < w5.heap.size := by rw [HQ.out]; exact (Array.getElem?_eq_some_iff.1 hr5).1
      rw [← HQ.out] at hr5
      have ho6 := own_set ho5 q 2 (.string e.data) hne
      have hr6 := heap_setCell_same w5 q 2 _ 46 (.string e.data) hr5
      simp at hr6
      obtain ⟨X, hX⟩ : ∃ X, X = w5.setCell ⟨q, 2, none⟩ (.string e.data) := ⟨_, rfl⟩
      rw [← hX] at ho6 hr6
      have hbX : Below w.heap.size w X := by rw [hX]; exact (HBW.out.trans (hb5'.mono HBW.out.size)).setCell (by show w.heap.size ≤ q; have := HQ.out; have := HBW.out.size; omega) _
      have hXs : X.heap.size = w5.heap.size := by rw [hX]; simp
      have ho7 : (X.alloc (Obj.cells #[.int .i64 e.term, .int .i64 e.kind, .string e.data] 46)).ownsRow w.heap.size 46 3 (.slice va k vc) k (cellsEn (l.take k)) := ho6.alloc _
      have hr7 : (X.alloc (Obj.cells #[.int .i64 e.term, .int .i64 e.kind, .string e.data] 46)).heap[w5.heap.size]? = some (.cells #[.int .i64 e.term, .int .i64 e.kind, .string e.data] 46 (0, 0)) := by rw [← hXs]; exact heap_alloc_new X _
      have HEA : Hid (EnAt (X.alloc (Obj.cells #[.int .i64 e.term, .int .i64 e.kind, .string e.data] 46)) (some ⟨w5.heap.size, 0, none⟩) w5.heap.size 0 [e]) := by
        refine ⟨fun _ => rfl, fun j hj => ?_⟩
        have hj0 : j = 0 := by simpa using hj
        subst hj0
        exact ⟨cell_of_row _ _ 0 _ _ _ hr7, cell_of_row _ _ 1 _ _ _ hr7, cell_of_row _ _ 2 _ _ _ hr7⟩
      have HB7 : Hid (Below w.heap.size w (X.alloc (Obj.cells #[.int .i64 e.term, .int .i64 e.kind, .string e.data] 46))) := hbX.alloc hbX.size _
      have HO7 : Hid ((X.alloc (Obj.cells #[.int .i64 e.term, .int .i64 e.kind, .string e.data] 46)).ownsRow w.heap.size 46 3 (.slice va k vc) k (cellsEn (l.take k))) := ho7
      have x2 := cell_of_row _ _ 2 _ _ _ hr5
      have f2 := frozen_of_row _ _ 2 _ _ hr5
      have y0 : X.cell? ⟨q, 0, none⟩ = some (.int .i64 e.term) := cell_of_row _ _ 0 _ _ _ hr6
      have y1 : X.cell? ⟨q, 1, none⟩ = some (.int .i64 e.kind) := cell_of_row _ _ 1 _ _ _ hr6
      have y2 : X.cell? ⟨q, 2, none⟩ = some (.string e.data) := cell_of_row _ _ 2 _ _ _ hr6
      simp at x2
      have HKK : Hid (k + 1 ≤ 2097152) := by show _ ≤ _; omega
      have HSZ : Hid (w.heap.size ≤ (X.alloc (Obj.cells #[.int .i64 e.term, .int .i64 e.kind, .string e.data] 46)).heap.size) := HB7.out.size
      rw [hX] at y0 y1 y2
      clear hXs hr6 hr7 ho6 ho7 ho5 hb5 hb5' hbX hr5 d0 d1 d2 hW2 hq hlt5 hne HE
      subst hX
      go_wp2_with (at_builtin; refine wpList_appendEn rfl _ _ rfl w.heap.size _ k (cellsEn (l.take k)) rfl HO7.out (some ⟨w5.heap.size, 0, none⟩) w5.heap.size 0 1 [e] rfl HEA.out (fun h => by cases h) HKK.out HSZ.out ?_)
      intro v' w8 hown' hgrow
      have HB8 : Hid (Below w.heap.size w w8) := HB7.out.grown hgrow HB7.out.size (fun k h => (HO7.out.lt k h).1)
      have HO8 : Hid (w8.ownsRow w.heap.size 46 3 v' (k + 1) (cellsEn (l.take (k + 1)))) := by
        show World.ownsRow _ _ _ _ _ _ _
        rw [HTK.out, cellsEn_app]
        exact hown'
      clear hown' hgrow HB7 HO7 HEA x2 f2 y0 y1 y2
      go_wp2
      go_roundw
      case rel => exact ⟨k + 1, by omega, by go_num, HO8, HB8⟩
      case measure => simp [intOf]; omega
    · have hk1 : ¬ (k : Int) < (l.length : Int) := by omega
      obtain rfl : k = l.length := by omega
      have HO9 : Hid (wr.ownsRow w.heap.size 46 3 (.slice va l.length vc) l.length (cellsEn l)) := by have := HO.out; rwa [List.take_length] at this
      clear HO
      go_wp2
      go_ret
      exact ⟨_, rfl, HO9.out, HBW.out⟩
theorem result15 {w : World} {g : Nat} {A C : Array Value} (hg : w.heap[g]? = some (.cells C 29 (0, 0))) (hs : A.size = 3) {tmps : Array Value} (ht : tmps.getD 6 undef = .pointer (some ⟨g, 0, none⟩)) : (results Try.f12 tmps).run Try.prog (w.setRow g A) = .ok (.agg A) (w.setRow g A) := by
  have h := run_loadVar_agg (P := Try.prog) Try.isAgg29 Try.sizeOf29 (row_size (A := A) hg) hs
  have ht' : tmps[6]?.getD undef = .pointer (some ⟨g, 0, none⟩) := by simpa using ht
  simp [results, Try.results12, ht', asAddr, h]
theorem term_range {l : LogL} (hf : okL l = true) (i : Int) : termI l i = -1 ↔ ¬ (l.start ≤ i ∧ i ≤ lastI l) := by
  obtain ⟨hfit, hris⟩ := Logs.okL_iff.1 hf
  have hL := term_in (l := l) (i := i) hfit.s0 (by have := hfit.s1; omega) (by have := hfit.n; omega)
  unfold termI
  have t0 := hfit.t0
  split
  · rename_i h; omega
  · split
    · rename_i h0 h; omega
    · rename_i h0 h
      have hk : (i - l.start - 1).toNat < l.ents.length := by omega
      rw [List.getElem?_eq_getElem hk]
      simp only [Option.map_some, Option.getD_some]
      have := (Logs.rises_mem _ _ hris _ (List.getElem_mem hk)).2
      omega
set_option maxHeartbeats 8000000 in
set_option maxRecDepth 100000 in
theorem implBehind_is {a : Option Addr} {g off cap : Nat} (l : LogL) (hlen : l.ents.length ≤ 1048576) (hcap : l.ents.length ≤ cap) (hd : ∀ e ∈ l.ents, e.data.size ≤ 1048576) (base term : Int) (hbr : -9223372036854775808 ≤ base ∧ base ≤ 9223372036854775807) (w : World) (hf : EnAt w a g off l.ents) :
    Calls Try.prog 12 #[logV l a cap, .int .i64 base, .int .i64 term] w (BehindPost w base term (behindL l base term)) := by
  obtain ⟨W, hW, hb, h0, h1, h2⟩ := behind_start w #[.int .i64 l.start, .int .i64 l.sterm, .slice a l.ents.length cap] #[.int .i64 base, .int .i64 term, .slice none 0 0]
  have HB : Hid (Below w.heap.size w W) := hb
  have HZ : Hid (W.heap[w.heap.size + 1]? = some (.cells #[.int .i64 0, .int .i64 0, .slice none 0 0] 29 (0, 0))) := h1
  have HO : Hid (W.heap[w.heap.size + 1 + 1]? = some (.cells #[.int .i64 base, .int .i64 term, .slice none 0 0] 29 (0, 0))) := h2
  have HL : Hid (W.heap[w.heap.size]? = some (.cells #[.int .i64 l.start, .int .i64 l.sterm, .slice a l.ents.length cap] 29 (0, 0))) := h0
  have HEN : Hid (∀ W', Below W.heap.size W W' → EnAt W' a g off l.ents) := fun W' h => (hf.kept hb).kept h
  obtain ⟨O1, hO1⟩ : ∃ O1, O1 = okL l := ⟨_, rfl⟩
  obtain ⟨TI, hTI⟩ : ∃ TI, TI = termI l base := ⟨_, rfl⟩
  have HC1 : Hid (∀ X, EnAt X a g off l.ents → Calls Try.prog 19 #[.agg #[.int .i64 l.start, .int .i64 l.sterm, .slice a l.ents.length cap]] X fun en w' => en = .returned (.bool O1) ∧ Below X.heap.size X w') := fun X h => by rw [hO1]; exact implLogOk_is (cap := cap) l hlen hd X h
  have HC4 : Hid (O1 = true → ∀ X, EnAt X a g off l.ents → Calls Try.prog 9 #[.agg #[.int .i64 l.start, .int .i64 l.sterm, .slice a l.ents.length cap], .int .i64 base] X fun en w' => en = .returned (.int .i64 TI) ∧ Below X.heap.size X w') := fun hq X h => by rw [hTI]; have hfit := (Logs.okL_iff.1 (by rw [← hO1]; exact hq)).1; exact implTerm_is (cap := cap) l hlen hfit.s0 (by have := hfit.s1; omega) base hbr X h
  obtain ⟨r, hr⟩ : ∃ r, r = behindL l base term := ⟨_, rfl⟩
  rw [← hr]
  have HR : Hid ((term == -1) = true ∧ r = [] ∨ (term == -1) = false ∧ ((O1 = true ∧ (TI == term) = true ∧ ∃ d : Nat, d ≤ l.ents.length ∧ base - l.start = (d : Int) ∧ r = l.ents.drop d) ∨ (r = [] ∧ (O1 = false ∨ (O1 = true ∧ (TI == term) = false))))) := by
    unfold behindL at hr
    rw [← hO1, ← hTI] at hr
    by_cases hm : term = -1
    · left
      refine ⟨by simp [hm], ?_⟩
      rw [if_neg] at hr
      · exact hr
      · rintro ⟨x1, x2, x3⟩
        rw [hTI, hm] at x3
        exact (term_range (by rw [← hO1]; exact x1) base).1 x3 x2
    · right
      refine ⟨by simp [hm], ?_⟩
      by_cases hq1 : O1 = true
      · by_cases hq2 : TI = term
        · left
          have hfit := (Logs.okL_iff.1 (by rw [← hO1]; exact hq1)).1
          have hL := term_in (l := l) (i := base) hfit.s0 (by have := hfit.s1; omega) hlen
          have hin : l.start ≤ base ∧ base ≤ lastI l := by
            rcases Classical.em (l.start ≤ base ∧ base ≤ lastI l) with h | h
            · exact h
            · have := (term_range (by rw [← hO1]; exact hq1) base).2 h
              omega
          rw [if_pos ⟨hq1, hin, hq2⟩] at hr
          refine ⟨hq1, by simp [hq2], (base - l.start).toNat, by omega, by omega, hr⟩
        · right
          rw [if_neg (fun h => hq2 h.2.2)] at hr
          exact ⟨hr, Or.inr ⟨hq1, by simp [hq2]⟩⟩
      · right
        rw [if_neg (fun h => hq1 h.1)] at hr
        exact ⟨hr, Or.inl (by simpa using hq1)⟩
  have HCD : Hid (∀ (d : Nat), d ≤ l.ents.length → ∀ X, Below W.heap.size W X → Calls Try.prog 27 #[.slice (if l.ents.length = d then a else a.map (·.add (d * 3))) (l.ents.length - d) (l.ents.length - d)] X fun en w' => ∃ v, en = .returned v ∧ w'.ownsRow X.heap.size 46 3 v (l.ents.drop d).length (cellsEn (l.ents.drop d)) ∧ Below X.heap.size X w') := fun d hdl X h => by
    obtain ⟨g', off', hp⟩ := (HEN.out X h).part d hdl
    have := copied_is (cap := l.ents.length - d) (l.ents.drop d) (by rw [List.length_drop]; omega) (fun e he => hd e (List.mem_of_mem_drop he)) X hp
    rw [List.length_drop] at this ⊢
    exact this
  unfold logV
  clear hf hb h0 h1 h2 hO1 hTI hr hd
  obtain ⟨q, hq⟩ : ∃ q, q = w.heap.size := ⟨_, rfl⟩
  have c0 := cell_of_row _ _ 0 _ _ _ HL.out
  have c1 := cell_of_row _ _ 1 _ _ _ HL.out
  have c2 := cell_of_row _ _ 2 _ _ _ HL.out
  simp at c0 c1 c2
  rw [← hq] at c0 c1 c2 HZ HO
  have HQ : Hid (q = w.heap.size) := hq
  have HK : Hid (∀ X, Below W.heap.size W X → X.cell? ⟨q, 0, none⟩ = some (.int .i64 l.start) ∧ X.cell? ⟨q, 1, none⟩ = some (.int .i64 l.sterm) ∧ X.cell? ⟨q, 2, none⟩ = some (.slice a l.ents.length cap)) := fun X h => ⟨(h.cell (p := ⟨q, 0, none⟩) (World.block_lt_of_cell? _ _ c0)).trans c0, (h.cell (p := ⟨q, 1, none⟩) (World.block_lt_of_cell? _ _ c1)).trans c1, (h.cell (p := ⟨q, 2, none⟩) (World.block_lt_of_cell? _ _ c2)).trans c2⟩
  have HEND : Hid (∀ X, Below W.heap.size W X → X.heap[q + 1]? = some (.cells #[.int .i64 0, .int .i64 0, .slice none 0 0] 29 (0, 0)) ∧ X.heap[q + 1 + 1]? = some (.cells #[.int .i64 base, .int .i64 term, .slice none 0 0] 29 (0, 0)) ∧ Below w.heap.size w X) := fun X h => ⟨(h.block _ (Array.getElem?_eq_some_iff.1 HZ.out).1).trans HZ.out, (h.block _ (Array.getElem?_eq_some_iff.1 HO.out).1).trans HO.out, HB.out.trans (h.mono HB.out.size)⟩
  go_enter Try.func12, Try.ntmps12
  rcases HR.out with ⟨hm, rfl⟩ | ⟨hm, hR2⟩
  · clear HR HCD c0 c1 c2
    obtain rfl : term = -1 := by simpa using hm
    go_wp2
    refine bodyPost_ret (v := .agg #[.int .i64 base, .int .i64 (-1), .slice none 0 0]) (by simp [results, Try.results12, go_sem]) rfl ⟨.slice none 0 0, rfl, World.ownsRow_nil _ _ _ _, ?_⟩
    exact (((Below.refl _ _).alloc (Nat.le_refl _) _).alloc (by simp) _).alloc (by simp; omega) _
  · replace hm : ¬ term = -1 := by simpa using hm
    rcases hR2 with ⟨rfl, hti, d, hdl, hde, hrd⟩ | ⟨rfl, rfl | ⟨rfl, hti⟩⟩
    · have HRD : Hid (r = l.ents.drop d) := hrd
      have HCC : Hid (∀ X, Below W.heap.size W X → Calls Try.prog 27 #[.slice (if l.ents.length = d then a else a.map (·.add (d * 3))) (l.ents.length - d) (l.ents.length - d)] X fun en w' => ∃ v, en = .returned v ∧ w'.ownsRow X.heap.size 46 3 v (l.ents.drop d).length (cellsEn (l.ents.drop d)) ∧ Below X.heap.size X w') := fun X h => HCD.out d hdl X h
      have HPA : Hid (∀ X, Calls Try.prog 28 #[.slice a l.ents.length cap, .int .i64 (d : Int), .int .i64 (l.ents.length : Int)] X fun en w' => en = .returned (.slice (if l.ents.length = d then a else a.map (·.add (d * 3))) (l.ents.length - d) (l.ents.length - d)) ∧ w' = X) := fun X => partOf_is a l.ents.length cap d l.ents.length hdl hcap X
      obtain ⟨pa, hpa⟩ : ∃ pa, pa = if l.ents.length = d then a else a.map (·.add (d * 3)) := ⟨_, rfl⟩
      rw [← hpa] at HCC HPA
      have v1 : -9223372036854775808 ≤ base - l.start := by omega
      have v2 : base - l.start ≤ 9223372036854775807 := by omega
      have HDE : Hid (base - l.start = (d : Int)) := hde
      rw [← hde] at HPA
      have HLE : Hid (l.ents.length - d = (l.ents.drop d).length) := by show _ = _; rw [List.length_drop]
      obtain ⟨n, hn⟩ : ∃ n, n = l.ents.length - d := ⟨_, rfl⟩
      rw [← hn] at HCC HPA HLE
      clear HR HCD hpa hrd hde hn
      go_wp2_with fail
      rw [← hW, ← hq]
      clear hW hq c0 c1 c2
      refine Calls.mono (HC1.out _ (HEN.out _ (Below.refl _ _))) ?_
      rintro en w3 ⟨rfl, hb3⟩
      have HB3 : Hid (Below W.heap.size W w3) := hb3
      obtain ⟨c0, c1, c2⟩ := HK.out _ hb3
      clear hb3
      go_wp2_with fail
      refine Calls.mono (HC4.out (by trivial) _ (HEN.out _ HB3.out)) ?_
      rintro en w4 ⟨rfl, hb4⟩
      have HB4 : Hid (Below W.heap.size W w4) := HB3.out.trans (hb4.mono HB3.out.size)
      clear c0 c1 c2 hb4 HB3
      obtain ⟨c0, c1, c2⟩ := HK.out _ HB4.out
      go_wp2_with fail
      refine Calls.mono (HPA.out _) ?_
      rintro en w5 ⟨rfl, hw5⟩
      subst hw5
      go_wp2_with fail
      refine Calls.mono (HCC.out _ HB4.out) ?_
      rintro en w6 ⟨v, rfl, hown, hb6⟩
      have hB6 := HB4.out.trans (hb6.mono HB4.out.size)
      obtain ⟨z1, z2, z3⟩ := HEND.out w6 hB6
      obtain ⟨va, vc, hv⟩ := own_slice hown
      subst hv
      have hown2 := own_mono hown (show w.heap.size ≤ w5.heap.size from Nat.le_trans HB.out.size HB4.out.size)
      obtain ⟨m, hm2⟩ : ∃ m, m = (l.ents.drop d).length := ⟨_, rfl⟩
      rw [← hm2] at hown2
      have HM : Hid (m = (l.ents.drop d).length) := hm2
      rw [← hm2]
      have HW8 : Hid (w6.ownsRow w.heap.size 46 3 (.slice va m vc) m (cellsEn (l.ents.drop d))) := hown2
      have HO8 : Hid (w6.heap[q + 1 + 1]? = some (.cells #[.int .i64 base, .int .i64 term, .slice none 0 0] 29 (0, 0))) := z2
      have HZ8 : Hid (w6.heap[q + 1]? = some (.cells #[.int .i64 0, .int .i64 0, .slice none 0 0] 29 (0, 0))) := z1
      have HB8 : Hid (Below w.heap.size w w6) := z3
      have o2 := cell_of_row _ _ 2 _ _ _ z2
      have of2 := frozen_of_row _ _ 2 _ _ z2
      simp at o2
      have HO9 : Hid ((w6.setCell ⟨q + 1 + 1, 2, none⟩ (.slice va m vc)).heap[q + 1 + 1]? = some (.cells #[.int .i64 base, .int .i64 term, .slice va m vc] 29 (0, 0))) := by
        show _ = _
        have := heap_setCell_same w6 (q + 1 + 1) 2 _ 29 (.slice va m vc) HO8.out
        simpa using this
      have HZ9 : Hid ((w6.setCell ⟨q + 1 + 1, 2, none⟩ (.slice va m vc)).heap[q + 1]? = some (.cells #[.int .i64 0, .int .i64 0, .slice none 0 0] 29 (0, 0))) := set_far HZ8.out (by omega) _ _
      clear c0 c1 c2 hown hown2 hb6 hB6 z1 z2 z3 hm2
      go_wp2_with (first | (refine wpList_loadA Try.isAgg29 Try.sizeOf29 rfl _ rfl (q + 1 + 1) #[.int .i64 base, .int .i64 term, .slice va m vc] 29 rfl HO9.out rfl ?_) | (refine wpList_storeA Try.sizeOf29 rfl _ _ rfl (q + 1) #[.int .i64 base, .int .i64 term, .slice va m vc] #[.int .i64 0, .int .i64 0, .slice none 0 0] 29 rfl rfl HZ9.out rfl rfl (log_one _ _ _ _ _) ?_) | fail)
      have hq2 := HQ.out
      refine bodyPost_ret (result15 HZ9.out rfl rfl) rfl ⟨.slice va m vc, rfl, ?_, below_setRow (HB8.out.setCell (by show w.heap.size ≤ q + 1 + 1; omega) _) (by omega) _⟩
      have hw := HW8.out
      rw [HRD.out, ← HM.out]
      have n1 := own_not hw HO8.out (by decide)
      have n2 := own_not hw HZ8.out (by decide)
      exact own_row (own_set hw _ _ _ n1) _ _ n2
    · clear HR HCD
      go_wp2_with fail
      rw [← hW, ← hq]
      clear hW hq c0 c1 c2
      refine Calls.mono (HC1.out _ (HEN.out _ (Below.refl _ _))) ?_
      rintro en w3 ⟨rfl, hb3⟩
      obtain ⟨z1, z2, z3⟩ := HEND.out w3 hb3
      have HO8 : Hid (w3.heap[q + 1 + 1]? = some (.cells #[.int .i64 base, .int .i64 term, .slice none 0 0] 29 (0, 0))) := z2
      have HZ8 : Hid (w3.heap[q + 1]? = some (.cells #[.int .i64 0, .int .i64 0, .slice none 0 0] 29 (0, 0))) := z1
      have HB8 : Hid (Below w.heap.size w w3) := z3
      clear z1 z2 z3 hb3
      go_wp2_with (first | (refine wpList_loadA Try.isAgg29 Try.sizeOf29 rfl _ rfl (q + 1 + 1) #[.int .i64 base, .int .i64 term, .slice none 0 0] 29 rfl HO8.out rfl ?_) | (refine wpList_storeA Try.sizeOf29 rfl _ _ rfl (q + 1) #[.int .i64 base, .int .i64 term, .slice none 0 0] #[.int .i64 0, .int .i64 0, .slice none 0 0] 29 rfl rfl HZ8.out rfl rfl (log_one _ _ _ _ _) ?_) | fail)
      exact bodyPost_ret (result15 HZ8.out rfl rfl) rfl ⟨.slice none 0 0, rfl, World.ownsRow_nil _ _ _ _, below_setRow HB8.out (by have := HQ.out; omega) _⟩
    · clear HR HCD
      go_wp2_with fail
      rw [← hW, ← hq]
      clear hW hq c0 c1 c2
      refine Calls.mono (HC1.out _ (HEN.out _ (Below.refl _ _))) ?_
      rintro en w3 ⟨rfl, hb3⟩
      have HB3 : Hid (Below W.heap.size W w3) := hb3
      obtain ⟨c0, c1, c2⟩ := HK.out _ hb3
      clear hb3
      go_wp2_with fail
      refine Calls.mono (HC4.out (by trivial) _ (HEN.out _ HB3.out)) ?_
      rintro en w4 ⟨rfl, hb4⟩
      obtain ⟨z1, z2, z3⟩ := HEND.out w4 (HB3.out.trans (hb4.mono HB3.out.size))
      have HO8 : Hid (w4.heap[q + 1 + 1]? = some (.cells #[.int .i64 base, .int .i64 term, .slice none 0 0] 29 (0, 0))) := z2
      have HZ8 : Hid (w4.heap[q + 1]? = some (.cells #[.int .i64 0, .int .i64 0, .slice none 0 0] 29 (0, 0))) := z1
      have HB8 : Hid (Below w.heap.size w w4) := z3
      clear z1 z2 z3 hb4 c0 c1 c2
      go_wp2_with (first | (refine wpList_loadA Try.isAgg29 Try.sizeOf29 rfl _ rfl (q + 1 + 1) #[.int .i64 base, .int .i64 term, .slice none 0 0] 29 rfl HO8.out rfl ?_) | (refine wpList_storeA Try.sizeOf29 rfl _ _ rfl (q + 1) #[.int .i64 base, .int .i64 term, .slice none 0 0] #[.int .i64 0, .int .i64 0, .slice none 0 0] 29 rfl rfl HZ8.out rfl rfl (log_one _ _ _ _ _) ?_) | fail)
      exact bodyPost_ret (result15 HZ8.out rfl rfl) rfl ⟨.slice none 0 0, rfl, World.ownsRow_nil _ _ _ _, below_setRow HB8.out (by have := HQ.out; omega) _⟩
end Go.Proofs.Ytahpoemmlpbgdaa
