/- The program's copied and LogBehind, walked. -/
import Derived.Test.YtiifjhalkihlbaaImplPart
import Derived.Test.YtiifjhalkihlbaaCopied
import Derived.Test.YtiifjhalkihlbaaSealA
namespace Go.Proofs.Ytiifjhalkihlbaa
open Go.RowKit
open Ents (okB)
open Logs (okL)
set_option linter.unusedVariables false
set_option linter.unusedSimpArgs false

theorem result15 {w : World} {g : Nat} {A C : Array Value} (hg : w.heap[g]? = some (.cells C 33 (0, 0))) (hs : A.size = 3) {tmps : Array Value} (ht : tmps.getD 6 undef = .pointer (some ⟨g, 0, none⟩)) : (results Try.f50 tmps).run Try.prog (w.setRow g A) = .ok (.agg A) (w.setRow g A) := by
  have h := run_loadVar_agg (P := Try.prog) Try.isAgg33 Try.sizeOf33 (row_size (A := A) hg) hs
  have ht' : tmps[6]?.getD undef = .pointer (some ⟨g, 0, none⟩) := by simpa using ht
  simp [results, Try.results50, ht', asAddr, h]
theorem term_range {l : LogL} (hf : okL l = true) (i : Int) : termI l i = -1 ↔ ¬ (l.start ≤ i ∧ i ≤ lastI l) := by
  obtain ⟨hfit, hris⟩ := Logs.okL_iff.1 hf
  have hL := term_in (l := l) (i := i) hfit.s0 (by have := hfit.s1; omega) (by have := hfit.n; omega)
  unfold termI
  have t0 := hfit.t0
  split
  · rename_i h; omega
  · split
    · rename_i h0 h; omega
    · rename_i h0 h
      have hk : (i - l.start - 1).toNat < l.ents.length := by omega
      rw [List.getElem?_eq_getElem hk]
      simp only [Option.map_some, Option.getD_some]
      have := (Logs.rises_mem _ _ hris _ (List.getElem_mem hk)).2
      omega
set_option maxHeartbeats 8000000 in
set_option maxRecDepth 100000 in
theorem implBehind_is {a : Option Addr} {g off cap : Nat} (l : LogL) (hlen : l.ents.length ≤ 1048576) (hcap : l.ents.length ≤ cap) (hd : ∀ e ∈ l.ents, e.data.size ≤ 1048576) (base term : Int) (hbr : -9223372036854775808 ≤ base ∧ base ≤ 9223372036854775807) (w : World) (hf : EnAt w a g off l.ents) :
    Calls Try.prog 50 #[logV l a cap, .int .i64 base, .int .i64 term] w (BehindPost w base term (behindL l base term)) := by
  obtain ⟨W, hW, hb, h0, h1, h2⟩ := behind_start w #[.int .i64 l.start, .int .i64 l.sterm, .slice a l.ents.length cap] #[.int .i64 base, .int .i64 term, .slice none 0 0]
  have HB : Hid (Below w.heap.size w W) := hb
  have HZ : Hid (W.heap[w.heap.size + 1]? = some (.cells #[.int .i64 0, .int .i64 0, .slice none 0 0] 33 (0, 0))) := h1
  have HO : Hid (W.heap[w.heap.size + 1 + 1]? = some (.cells #[.int .i64 base, .int .i64 term, .slice none 0 0] 33 (0, 0))) := h2
  have HL : Hid (W.heap[w.heap.size]? = some (.cells #[.int .i64 l.start, .int .i64 l.sterm, .slice a l.ents.length cap] 33 (0, 0))) := h0
  have HEN : Hid (∀ W', Below W.heap.size W W' → EnAt W' a g off l.ents) := fun W' h => (hf.kept hb).kept h
  obtain ⟨O1, hO1⟩ : ∃ O1, O1 = okL l := ⟨_, rfl⟩
  obtain ⟨TI, hTI⟩ : ∃ TI, TI = termI l base := ⟨_, rfl⟩
  have HC1 : Hid (∀ X, EnAt X a g off l.ents → Calls Try.prog 34 #[.agg #[.int .i64 l.start, .int .i64 l.sterm, .slice a l.ents.length cap]] X fun en w' => en = .returned (.bool O1) ∧ Below X.heap.size X w') := fun X h => by rw [hO1]; exact implLogOk_is (cap := cap) l hlen hd X h
  have HC4 : Hid (O1 = true → ∀ X, EnAt X a g off l.ents → Calls Try.prog 51 #[.agg #[.int .i64 l.start, .int .i64 l.sterm, .slice a l.ents.length cap], .int .i64 base] X fun en w' => en = .returned (.int .i64 TI) ∧ Below X.heap.size X w') := fun hq X h => by rw [hTI]; have hfit := (Logs.okL_iff.1 (by rw [← hO1]; exact hq)).1; exact implTerm_is (cap := cap) l hlen hfit.s0 (by have := hfit.s1; omega) base hbr X h
  obtain ⟨r, hr⟩ : ∃ r, r = behindL l base term := ⟨_, rfl⟩
  rw [← hr]
  have HR : Hid ((term == -1) = true ∧ r = [] ∨ (term == -1) = false ∧ ((O1 = true ∧ (TI == term) = true ∧ ∃ d : Nat, d ≤ l.ents.length ∧ base - l.start = (d : Int) ∧ r = l.ents.drop d) ∨ (r = [] ∧ (O1 = false ∨ (O1 = true ∧ (TI == term) = false))))) := by
    unfold behindL at hr
    rw [← hO1, ← hTI] at hr
    by_cases hm : term = -1
    · left
      refine ⟨by simp [hm], ?_⟩
      rw [if_neg] at hr
      · exact hr
      · rintro ⟨x1, x2, x3⟩
        rw [hTI, hm] at x3
        exact (term_range (by rw [← hO1]; exact x1) base).1 x3 x2
    · right
      refine ⟨by simp [hm], ?_⟩
      by_cases hq1 : O1 = true
      · by_cases hq2 : TI = term
        · left
          have hfit := (Logs.okL_iff.1 (by rw [← hO1]; exact hq1)).1
          have hL := term_in (l := l) (i := base) hfit.s0 (by have := hfit.s1; omega) hlen
          have hin : l.start ≤ base ∧ base ≤ lastI l := by
            rcases Classical.em (l.start ≤ base ∧ base ≤ lastI l) with h | h
            · exact h
            · have := (term_range (by rw [← hO1]; exact hq1) base).2 h
              omega
          rw [if_pos ⟨hq1, hin, hq2⟩] at hr
          refine ⟨hq1, by simp [hq2], (base - l.start).toNat, by omega, by omega, hr⟩
        · right
          rw [if_neg (fun h => hq2 h.2.2)] at hr
          exact ⟨hr, Or.inr ⟨hq1, by simp [hq2]⟩⟩
      · right
        rw [if_neg (fun h => hq1 h.1)] at hr
        exact ⟨hr, Or.inl (by simpa using hq1)⟩
  have HCD : Hid (∀ (d : Nat), d ≤ l.ents.length → ∀ X, Below W.heap.size W X → Calls Try.prog 67 #[.slice (if l.ents.length = d then a else a.map (·.add (d * 3))) (l.ents.length - d) (l.ents.length - d)] X fun en w' => ∃ v, en = .returned v ∧ w'.ownsRow X.heap.size 74 3 v (l.ents.drop d).length (cellsEn (l.ents.drop d)) ∧ Below X.heap.size X w') := fun d hdl X h => by
    obtain ⟨g', off', hp⟩ := (HEN.out X h).part d hdl
    have := copied_is (cap := l.ents.length - d) (l.ents.drop d) (by rw [List.length_drop]; omega) (fun e he => hd e (List.mem_of_mem_drop he)) X hp
    rw [List.length_drop] at this ⊢
    exact this
  unfold logV
  clear hf hb h0 h1 h2 hO1 hTI hr hd
  obtain ⟨q, hq⟩ : ∃ q, q = w.heap.size := ⟨_, rfl⟩
  have c0 := cell_of_row _ _ 0 _ _ _ HL.out
  have c1 := cell_of_row _ _ 1 _ _ _ HL.out
  have c2 := cell_of_row _ _ 2 _ _ _ HL.out
  simp at c0 c1 c2
  rw [← hq] at c0 c1 c2 HZ HO
  have HQ : Hid (q = w.heap.size) := hq
  have HK : Hid (∀ X, Below W.heap.size W X → X.cell? ⟨q, 0, none⟩ = some (.int .i64 l.start) ∧ X.cell? ⟨q, 1, none⟩ = some (.int .i64 l.sterm) ∧ X.cell? ⟨q, 2, none⟩ = some (.slice a l.ents.length cap)) := fun X h => ⟨(h.cell (p := ⟨q, 0, none⟩) (World.block_lt_of_cell? _ _ c0)).trans c0, (h.cell (p := ⟨q, 1, none⟩) (World.block_lt_of_cell? _ _ c1)).trans c1, (h.cell (p := ⟨q, 2, none⟩) (World.block_lt_of_cell? _ _ c2)).trans c2⟩
  have HEND : Hid (∀ X, Below W.heap.size W X → X.heap[q + 1]? = some (.cells #[.int .i64 0, .int .i64 0, .slice none 0 0] 33 (0, 0)) ∧ X.heap[q + 1 + 1]? = some (.cells #[.int .i64 base, .int .i64 term, .slice none 0 0] 33 (0, 0)) ∧ Below w.heap.size w X) := fun X h => ⟨(h.block _ (Array.getElem?_eq_some_iff.1 HZ.out).1).trans HZ.out, (h.block _ (Array.getElem?_eq_some_iff.1 HO.out).1).trans HO.out, HB.out.trans (h.mono HB.out.size)⟩
  go_enter Try.func50, Try.ntmps50
  rcases HR.out with ⟨hm, rfl⟩ | ⟨hm, hR2⟩
  · clear HR HCD c0 c1 c2
    obtain rfl : term = -1 := by simpa using hm
    go_wp2
    refine bodyPost_ret (v := .agg #[.int .i64 base, .int .i64 (-1), .slice none 0 0]) (by simp [results, Try.results50, go_sem]) rfl ⟨.slice none 0 0, rfl, World.ownsRow_nil _ _ _ _, ?_⟩
    exact (((Below.refl _ _).alloc (Nat.le_refl _) _).alloc (by simp) _).alloc (by simp; omega) _
  · replace hm : ¬ term = -1 := by simpa using hm
    rcases hR2 with ⟨rfl, hti, d, hdl, hde, hrd⟩ | ⟨rfl, rfl | ⟨rfl, hti⟩⟩
    · have HRD : Hid (r = l.ents.drop d) := hrd
      have HCC : Hid (∀ X, Below W.heap.size W X → Calls Try.prog 67 #[.slice (if l.ents.length = d then a else a.map (·.add (d * 3))) (l.ents.length - d) (l.ents.length - d)] X fun en w' => ∃ v, en = .returned v ∧ w'.ownsRow X.heap.size 74 3 v (l.ents.drop d).length (cellsEn (l.ents.drop d)) ∧ Below X.heap.size X w') := fun X h => HCD.out d hdl X h
      have HPA : Hid (∀ X, Calls Try.prog 75 #[.slice a l.ents.length cap, .int .i64 (d : Int), .int .i64 (l.ents.length : Int)] X fun en w' => en = .returned (.slice (if l.ents.length = d then a else a.map (·.add (d * 3))) (l.ents.length - d) (l.ents.length - d)) ∧ w' = X) := fun X => partOf_is a l.ents.length cap d l.ents.length hdl hcap X
      obtain ⟨pa, hpa⟩ : ∃ pa, pa = if l.ents.length = d then a else a.map (·.add (d * 3)) := ⟨_, rfl⟩
      rw [← hpa] at HCC HPA
      have v1 : -9223372036854775808 ≤ base - l.start := by omega
      have v2 : base - l.start ≤ 9223372036854775807 := by omega
      have HDE : Hid (base - l.start = (d : Int)) := hde
      rw [← hde] at HPA
      have HLE : Hid (l.ents.length - d = (l.ents.drop d).length) := by show _ = _; rw [List.length_drop]
      obtain ⟨n, hn⟩ : ∃ n, n = l.ents.length - d := ⟨_, rfl⟩
      rw [← hn] at HCC HPA HLE
      clear HR HCD hpa hrd hde hn
      go_wp2_with fail
      rw [← hW, ← hq]
      clear hW hq c0 c1 c2
      refine Calls.mono (HC1.out _ (HEN.out _ (Below.refl _ _))) ?_
      rintro en w3 ⟨rfl, hb3⟩
      have HB3 : Hid (Below W.heap.size W w3) := hb3
      obtain ⟨c0, c1, c2⟩ := HK.out _ hb3
      clear hb3
      go_wp2_with fail
      refine Calls.mono (HC4.out (by trivial) _ (HEN.out _ HB3.out)) ?_
      rintro en w4 ⟨rfl, hb4⟩
      have HB4 : Hid (Below W.heap.size W w4) := HB3.out.trans (hb4.mono HB3.out.size)
      clear c0 c1 c2 hb4 HB3
      obtain ⟨c0, c1, c2⟩ := HK.out _ HB4.out
      go_wp2_with fail
      refine Calls.mono (HPA.out _) ?_
      rintro en w5 ⟨rfl, hw5⟩
      subst hw5
      go_wp2_with fail
      refine Calls.mono (HCC.out _ HB4.out) ?_
      rintro en w6 ⟨v, rfl, hown, hb6⟩
      have hB6 := HB4.out.trans (hb6.mono HB4.out.size)
      obtain ⟨z1, z2, z3⟩ := HEND.out w6 hB6
      obtain ⟨va, vc, hv⟩ := own_slice hown
      subst hv
      have hown2 := own_mono hown (show w.heap.size ≤ w5.heap.size from Nat.le_trans HB.out.size HB4.out.size)
      obtain ⟨m, hm2⟩ : ∃ m, m = (l.ents.drop d).length := ⟨_, rfl⟩
      rw [← hm2] at hown2
      have HM : Hid (m = (l.ents.drop d).length) := hm2
      rw [← hm2]
      have HW8 : Hid (w6.ownsRow w.heap.size 74 3 (.slice va m vc) m (cellsEn (l.ents.drop d))) := hown2
      have HO8 : Hid (w6.heap[q + 1 + 1]? = some (.cells #[.int .i64 base, .int .i64 term, .slice none 0 0] 33 (0, 0))) := z2
      have HZ8 : Hid (w6.heap[q + 1]? = some (.cells #[.int .i64 0, .int .i64 0, .slice none 0 0] 33 (0, 0))) := z1
      have HB8 : Hid (Below w.heap.size w w6) := z3
      have o2 := cell_of_row _ _ 2 _ _ _ z2
      have of2 := frozen_of_row _ _ 2 _ _ z2
      simp at o2
      have HO9 : Hid ((w6.setCell ⟨q + 1 + 1, 2, none⟩ (.slice va m vc)).heap[q + 1 + 1]? = some (.cells #[.int .i64 base, .int .i64 term, .slice va m vc] 33 (0, 0))) := by
        show _ = _
        have := heap_setCell_same w6 (q + 1 + 1) 2 _ 33 (.slice va m vc) HO8.out
        simpa using this
      have HZ9 : Hid ((w6.setCell ⟨q + 1 + 1, 2, none⟩ (.slice va m vc)).heap[q + 1]? = some (.cells #[.int .i64 0, .int .i64 0, .slice none 0 0] 33 (0, 0))) := set_far HZ8.out (by omega) _ _
      clear c0 c1 c2 hown hown2 hb6 hB6 z1 z2 z3 hm2
      go_wp2_with (first | (refine wpList_loadA Try.isAgg33 Try.sizeOf33 rfl _ rfl (q + 1 + 1) #[.int .i64 base, .int .i64 term, .slice va m vc] 33 rfl HO9.out rfl ?_) | (refine wpList_storeA Try.sizeOf33 rfl _ _ rfl (q + 1) #[.int .i64 base, .int .i64 term, .slice va m vc] #[.int .i64 0, .int .i64 0, .slice none 0 0] 33 rfl rfl HZ9.out rfl rfl (log_one _ _ _ _ _) ?_) | fail)
      have hq2 := HQ.out
      refine bodyPost_ret (result15 HZ9.out rfl rfl) rfl ⟨.slice va m vc, rfl, ?_, below_setRow (HB8.out.setCell (by show w.heap.size ≤ q + 1 + 1; omega) _) (by omega) _⟩
      have hw := HW8.out
      rw [HRD.out, ← HM.out]
      have n1 := own_not hw HO8.out (by decide)
      have n2 := own_not hw HZ8.out (by decide)
      exact own_row (own_set hw _ _ _ n1) _ _ n2
    · clear HR HCD
      go_wp2_with fail
      rw [← hW, ← hq]
      clear hW hq c0 c1 c2
      refine Calls.mono (HC1.out _ (HEN.out _ (Below.refl _ _))) ?_
      rintro en w3 ⟨rfl, hb3⟩
      obtain ⟨z1, z2, z3⟩ := HEND.out w3 hb3
      have HO8 : Hid (w3.heap[q + 1 + 1]? = some (.cells #[.int .i64 base, .int .i64 term, .slice none 0 0] 33 (0, 0))) := z2
      have HZ8 : Hid (w3.heap[q + 1]? = some (.cells #[.int .i64 0, .int .i64 0, .slice none 0 0] 33 (0, 0))) := z1
      have HB8 : Hid (Below w.heap.size w w3) := z3
      clear z1 z2 z3 hb3
      go_wp2_with (first | (refine wpList_loadA Try.isAgg33 Try.sizeOf33 rfl _ rfl (q + 1 + 1) #[.int .i64 base, .int .i64 term, .slice none 0 0] 33 rfl HO8.out rfl ?_) | (refine wpList_storeA Try.sizeOf33 rfl _ _ rfl (q + 1) #[.int .i64 base, .int .i64 term, .slice none 0 0] #[.int .i64 0, .int .i64 0, .slice none 0 0] 33 rfl rfl HZ8.out rfl rfl (log_one _ _ _ _ _) ?_) | fail)
      exact bodyPost_ret (result15 HZ8.out rfl rfl) rfl ⟨.slice none 0 0, rfl, World.ownsRow_nil _ _ _ _, below_setRow HB8.out (by have := HQ.out; omega) _⟩
    · clear HR HCD
      go_wp2_with fail
      rw [← hW, ← hq]
      clear hW hq c0 c1 c2
      refine Calls.mono (HC1.out _ (HEN.out _ (Below.refl _ _))) ?_
      rintro en w3 ⟨rfl, hb3⟩
      have HB3 : Hid (Below W.heap.size W w3) := hb3
      obtain ⟨c0, c1, c2⟩ := HK.out _ hb3
      clear hb3
      go_wp2_with fail
      refine Calls.mono (HC4.out (by trivial) _ (HEN.out _ HB3.out)) ?_
      rintro en w4 ⟨rfl, hb4⟩
      obtain ⟨z1, z2, z3⟩ := HEND.out w4 (HB3.out.trans (hb4.mono HB3.out.size))
      have HO8 : Hid (w4.heap[q + 1 + 1]? = some (.cells #[.int .i64 base, .int .i64 term, .slice none 0 0] 33 (0, 0))) := z2
      have HZ8 : Hid (w4.heap[q + 1]? = some (.cells #[.int .i64 0, .int .i64 0, .slice none 0 0] 33 (0, 0))) := z1
      have HB8 : Hid (Below w.heap.size w w4) := z3
      clear z1 z2 z3 hb4 c0 c1 c2
      go_wp2_with (first | (refine wpList_loadA Try.isAgg33 Try.sizeOf33 rfl _ rfl (q + 1 + 1) #[.int .i64 base, .int .i64 term, .slice none 0 0] 33 rfl HO8.out rfl ?_) | (refine wpList_storeA Try.sizeOf33 rfl _ _ rfl (q + 1) #[.int .i64 base, .int .i64 term, .slice none 0 0] #[.int .i64 0, .int .i64 0, .slice none 0 0] 33 rfl rfl HZ8.out rfl rfl (log_one _ _ _ _ _) ?_) | fail)
      exact bodyPost_ret (result15 HZ8.out rfl rfl) rfl ⟨.slice none 0 0, rfl, World.ownsRow_nil _ _ _ _, below_setRow HB8.out (by have := HQ.out; omega) _⟩
end Go.Proofs.Ytiifjhalkihlbaa
