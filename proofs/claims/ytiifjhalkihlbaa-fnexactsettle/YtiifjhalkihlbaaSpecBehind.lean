/- The specification's LogBehind, walked. -/
import Derived.Test.YtiifjhalkihlbaaSpecLog
import Derived.Test.YtiifjhalkihlbaaAgg
namespace Go.Proofs.Ytiifjhalkihlbaa
open Go.RowKit
open Ents (okB)
open Logs (okL rises Fits inB)
set_option linter.unusedVariables false
set_option linter.unusedSimpArgs false

/-- The entries behind base, where the log has it with this term. -/
def behindL (l : LogL) (base term : Int) : List EntL := if okL l = true ∧ (l.start ≤ base ∧ base ≤ lastI l) ∧ termI l base = term then l.ents.drop (base - l.start).toNat else []
def BehindPost (w : World) (base term : Int) (r : List EntL) (en : Ending) (w' : World) : Prop := ∃ v, en = .returned (.agg #[.int .i64 base, .int .i64 term, v]) ∧ w'.ownsRow w.heap.size 74 3 v r.length (cellsEn r) ∧ Below w.heap.size w w'
theorem EnAt.drop {w : World} {g off : Nat} {l : List EntL} (h : EnAt w (some ⟨g, off, none⟩) g off l) (d : Nat) : EnAt w (some ⟨g, off + d * 3, none⟩) g (off + d * 3) (l.drop d) := by
  refine ⟨fun _ => rfl, fun j hj => ?_⟩
  have hj' : d + j < l.length := by rw [List.length_drop] at hj; omega
  have := h.2 (d + j) hj'
  rw [List.getElem_drop]
  have e : off + d * 3 + j * 3 = off + (d + j) * 3 := by omega
  rw [e]
  exact this
theorem result32 {w : World} {g : Nat} {A C : Array Value} (hg : w.heap[g]? = some (.cells C 33 (0, 0))) (hs : A.size = 3) {tmps : Array Value} (ht : tmps.getD 6 undef = .pointer (some ⟨g, 0, none⟩)) : (results Try.f47 tmps).run Try.prog (w.setRow g A) = .ok (.agg A) (w.setRow g A) := by
  have h := run_loadVar_agg (P := Try.prog) Try.isAgg33 Try.sizeOf33 (row_size (A := A) hg) hs
  have ht' : tmps[6]?.getD undef = .pointer (some ⟨g, 0, none⟩) := by simpa using ht
  simp [results, Try.results47, ht', asAddr, h]
theorem own_row {B : Nat} {e : TypeId} {k : Nat} {v : Value} {n : Nat} {xs : List Value} {w : World} (h : w.ownsRow B e k v n xs) (g : Nat) (A : Array Value) (hne : v.ownBlock ≠ some g) : (w.setRow g A).ownsRow B e k v n xs :=
  h.kept (grown_setRow w g A) (Or.inr hne)
theorem log_one (p q : Int) (x : Option Addr) (n c : Nat) : ∀ v ∈ (#[.int .i64 p, .int .i64 q, .slice x n c] : Array Value).toList, v.oneCell' = true := by
  intro v hv
  simp at hv
  rcases hv with rfl | rfl | rfl <;> rfl
theorem behind_start (w : World) (L O : Array Value) : ∃ W, W = ((w.alloc (.cells L 33)).alloc (.cells #[.int .i64 0, .int .i64 0, .slice none 0 0] 33)).alloc (.cells O 33) ∧ Below w.heap.size w W ∧ W.heap[w.heap.size]? = some (.cells L 33 (0, 0)) ∧ W.heap[w.heap.size + 1]? = some (.cells #[.int .i64 0, .int .i64 0, .slice none 0 0] 33 (0, 0)) ∧ W.heap[w.heap.size + 1 + 1]? = some (.cells O 33 (0, 0)) := by
  refine ⟨_, rfl, (((Below.refl _ _).alloc (Nat.le_refl _) _).alloc (by simp) _).alloc (by simp; omega) _, ?_, ?_, ?_⟩
  · rw [Below.heap_alloc _ _ _ (by simp; omega), Below.heap_alloc _ _ _ (by simp)]
    exact heap_alloc_new w _
  · rw [Below.heap_alloc _ _ _ (by simp)]
    have := heap_alloc_new (w.alloc (.cells L 33)) (.cells #[.int .i64 0, .int .i64 0, .slice none 0 0] 33)
    simpa using this
  · have := heap_alloc_new ((w.alloc (.cells L 33)).alloc (.cells #[.int .i64 0, .int .i64 0, .slice none 0 0] 33)) (.cells O 33)
    simpa using this
set_option maxHeartbeats 8000000 in
set_option maxRecDepth 100000 in
theorem specBehind_is {g off cap : Nat} (l : LogL) (hlen : l.ents.length ≤ 1048576) (hcap : l.ents.length ≤ cap) (hd : ∀ e ∈ l.ents, e.data.size ≤ 1048576) (base term : Int) (hbr : -9223372036854775808 ≤ base ∧ base ≤ 9223372036854775807) (w : World) (hf : EnAt w (some ⟨g, off, none⟩) g off l.ents) :
    Calls Try.prog 47 #[logV l (some ⟨g, off, none⟩) cap, .int .i64 base, .int .i64 term] w (BehindPost w base term (behindL l base term)) := by
  obtain ⟨W, hW, hb, h0, h1, h2⟩ := behind_start w #[.int .i64 l.start, .int .i64 l.sterm, .slice (some ⟨g, off, none⟩) l.ents.length cap] #[.int .i64 base, .int .i64 term, .slice none 0 0]
  have HB : Hid (Below w.heap.size w W) := hb
  have HZ : Hid (W.heap[w.heap.size + 1]? = some (.cells #[.int .i64 0, .int .i64 0, .slice none 0 0] 33 (0, 0))) := h1
  have HO : Hid (W.heap[w.heap.size + 1 + 1]? = some (.cells #[.int .i64 base, .int .i64 term, .slice none 0 0] 33 (0, 0))) := h2
  have HL : Hid (W.heap[w.heap.size]? = some (.cells #[.int .i64 l.start, .int .i64 l.sterm, .slice (some ⟨g, off, none⟩) l.ents.length cap] 33 (0, 0))) := h0
  have HEN : Hid (∀ W', Below W.heap.size W W' → EnAt W' (some ⟨g, off, none⟩) g off l.ents) := fun W' h => (hf.kept hb).kept h
  obtain ⟨O1, hO1⟩ : ∃ O1, O1 = okL l := ⟨_, rfl⟩
  obtain ⟨LI, hLI⟩ : ∃ LI, LI = lastI l := ⟨_, rfl⟩
  obtain ⟨O2, hO2⟩ : ∃ O2, O2 = (decide (l.start ≤ base) && decide (base ≤ LI)) := ⟨_, rfl⟩
  obtain ⟨TI, hTI⟩ : ∃ TI, TI = termI l base := ⟨_, rfl⟩
  have HC1 : Hid (∀ X, EnAt X (some ⟨g, off, none⟩) g off l.ents → Calls Try.prog 25 #[.agg #[.int .i64 l.start, .int .i64 l.sterm, .slice (some ⟨g, off, none⟩) l.ents.length cap]] X fun en w' => en = .returned (.bool O1) ∧ Below X.heap.size X w') := fun X h => by rw [hO1]; exact specLogOk_is (cap := cap) l hlen hd X h
  have HC2 : Hid (∀ X, Calls Try.prog 72 #[.agg #[.int .i64 l.start, .int .i64 l.sterm, .slice (some ⟨g, off, none⟩) l.ents.length cap]] X fun en w' => en = .returned (.int .i64 LI) ∧ Below X.heap.size X w') := fun X => by rw [hLI]; exact specLastI_is (a := some ⟨g, off, none⟩) (cap := cap) l hlen X
  have HC3 : Hid (∀ X, Calls Try.prog 23 #[.int .i64 base, .int .i64 l.start, .int .i64 LI] X fun en w' => en = .returned (.bool O2) ∧ X = w') := fun X => (in_is base l.start LI O2 (by rw [hO2]; simp) X).mono fun _ _ ⟨q1, q2⟩ => ⟨q1, q2.symm⟩
  have HC4 : Hid (O1 = true → ∀ X, EnAt X (some ⟨g, off, none⟩) g off l.ents → Calls Try.prog 48 #[.agg #[.int .i64 l.start, .int .i64 l.sterm, .slice (some ⟨g, off, none⟩) l.ents.length cap], .int .i64 base] X fun en w' => en = .returned (.int .i64 TI) ∧ Below X.heap.size X w') := fun hq X h => by rw [hTI]; have hfit := (Logs.okL_iff.1 (by rw [← hO1]; exact hq)).1; exact specTerm_is (cap := cap) l hlen ⟨by have := hfit.s0; omega, by have := hfit.s1; omega⟩ base hbr X h
  obtain ⟨r, hr⟩ : ∃ r, r = behindL l base term := ⟨_, rfl⟩
  rw [← hr]
  have HR : Hid ((O1 = true ∧ O2 = true ∧ (TI == term) = true ∧ r = l.ents.drop (base - l.start).toNat ∧ ∃ d : Nat, d ≤ l.ents.length ∧ base - l.start = (d : Int)) ∨ (r = [] ∧ (O1 = false ∨ (O1 = true ∧ O2 = false) ∨ (O1 = true ∧ O2 = true ∧ (TI == term) = false)))) := by
    unfold behindL at hr
    rw [← hO1, ← hLI, ← hTI] at hr
    split at hr
    · rename_i hc
      left
      have hfit := (Logs.okL_iff.1 (by rw [← hO1]; exact hc.1)).1
      have hw : LI = l.start + (l.ents.length : Int) := by
        rw [hLI]
        unfold lastI wrap64
        have := hfit.s0
        have := hfit.s1
        omega
      refine ⟨hc.1, by rw [hO2]; simp [hc.2.1], by simp [hc.2.2], hr, (base - l.start).toNat, ?_, ?_⟩
      · have := hc.2.1; omega
      · have := hc.2.1; omega
    · rename_i hc
      right
      refine ⟨hr, ?_⟩
      cases hq1 : O1 with
      | false => exact Or.inl rfl
      | true =>
        right
        cases hq2 : O2 with
        | false => exact Or.inl ⟨rfl, rfl⟩
        | true =>
          right
          refine ⟨rfl, rfl, ?_⟩
          rw [hO2] at hq2
          simp at hq2
          simp
          intro ht
          exact hc ⟨hq1, hq2, ht⟩
  unfold logV
  clear hf hb h0 h1 h2 hO1 hLI hO2 hTI hr hd
  obtain ⟨q, hq⟩ : ∃ q, q = w.heap.size := ⟨_, rfl⟩
  have c0 := cell_of_row _ _ 0 _ _ _ HL.out
  have c1 := cell_of_row _ _ 1 _ _ _ HL.out
  have c2 := cell_of_row _ _ 2 _ _ _ HL.out
  simp at c0 c1 c2
  rw [← hq] at c0 c1 c2 HZ HO
  have HQ : Hid (q = w.heap.size) := hq
  go_enter Try.func47, Try.ntmps47
  go_wp2_with fail
  rw [← hW, ← hq]
  clear hW hq
  have NE := Abv.ne W
  have C0 := fun x : Abv W => x.cell c0
  have C1 := fun x : Abv W => x.cell c1
  have C2 := fun x : Abv W => x.cell c2
  have HA : Hid (∀ x : Abv W, EnAt x.w (some ⟨g, off, none⟩) g off l.ents) := fun x => HEN.out _ x.b
  rcases HR.out with ⟨rfl, rfl, hti, hr, d, hdl, hde⟩ | ⟨rfl, hbad⟩
  · have HRR : Hid (r = l.ents.drop (base - l.start).toNat) := hr
    refine wp_region_above (by kernel_rfl) (by kernel_rfl) ?_
    repeat (go_big_quiet_step (first | (go_at_call 25; exact calls_above (HC1.out _ (HA.out _))) | (go_at_call 72; exact calls_above (HC2.out _)) | (go_at_call 23; exact calls_above_same (HC3.out _)) | (go_at_call 48; exact calls_above (HC4.out (by trivial) _ (HA.out _)))))
    refine wpQuiet_nil ?_
    rintro w1 ⟨⟨_, hb1⟩, rfl⟩
    have HZ1 : Hid (w1.heap[q + 1]? = some (.cells #[.int .i64 0, .int .i64 0, .slice none 0 0] 33 (0, 0))) := (hb1.block _ (Array.getElem?_eq_some_iff.1 HZ.out).1).trans HZ.out
    have HO1 : Hid (w1.heap[q + 1 + 1]? = some (.cells #[.int .i64 base, .int .i64 term, .slice none 0 0] 33 (0, 0))) := (hb1.block _ (Array.getElem?_eq_some_iff.1 HO.out).1).trans HO.out
    have hl1 := (hb1.block _ (Array.getElem?_eq_some_iff.1 HL.out).1).trans HL.out
    have HB1 : Hid (Below w.heap.size w w1) := HB.out.trans (hb1.mono HB.out.size)
    have HE1 : Hid (EnAt w1 (some ⟨g, off, none⟩) g off l.ents) := HEN.out _ hb1
    rw [← HQ.out] at hl1
    clear NE C0 C1 C2 hb1 c0 c1 c2 hr
    have ba : Below w1.heap.size w1 (w1.alloc (Obj.cells #[] 74)) := (Below.refl _ _).alloc (Nat.le_refl _) _
    have hl2 := (ba.block _ (Array.getElem?_eq_some_iff.1 hl1).1).trans hl1
    have ho2 := (ba.block _ (Array.getElem?_eq_some_iff.1 HO1.out).1).trans HO1.out
    have hz2 := (ba.block _ (Array.getElem?_eq_some_iff.1 HZ1.out).1).trans HZ1.out
    have HO2 : Hid ((w1.alloc (Obj.cells #[] 74)).heap[q + 1 + 1]? = some (.cells #[.int .i64 base, .int .i64 term, .slice none 0 0] 33 (0, 0))) := ho2
    have HZ2 : Hid ((w1.alloc (Obj.cells #[] 74)).heap[q + 1]? = some (.cells #[.int .i64 0, .int .i64 0, .slice none 0 0] 33 (0, 0))) := hz2
    have HB2 : Hid (Below w.heap.size w (w1.alloc (Obj.cells #[] 74))) := HB1.out.trans (ba.mono HB1.out.size)
    have c0 : (w1.alloc (Obj.cells #[] 74)).cell? ⟨q, 0, none⟩ = some (.int .i64 l.start) := cell_of_row _ _ 0 _ _ _ hl2
    have c2 : (w1.alloc (Obj.cells #[] 74)).cell? ⟨q, 2, none⟩ = some (.slice (some ⟨g, off, none⟩) l.ents.length cap) := cell_of_row _ _ 2 _ _ _ hl2
    clear ba hl2 ho2 hz2
    have hown := World.ownsRow_made (base := w.heap.size) (e := 74) (size := 3) w1 #[] 0 HB1.out.size (by unfold maxLen; omega) rfl
    have d0 : (0 : Int) ≤ (d : Int) := by omega
    have d1 : (d : Int) ≤ (l.ents.length : Int) := by omega
    have d2 : (l.ents.length : Int) ≤ (cap : Int) := by omega
    have HDE : Hid (base - l.start = (d : Int)) := hde
    clear hl1
    have HX2 : Hid (0 + (l.ents.drop d).length ≤ 2097152) := by show _ ≤ _; rw [List.length_drop]; omega
    have HX3 : Hid (w.heap.size ≤ (w1.alloc (Obj.cells #[] 74)).heap.size) := by show _ ≤ _; have := HB1.out.size; simp; omega
    by_cases hz : cap - d = 0
    · have hz2 : cap ≤ d := by omega
      have HEA : Hid (EnAt (w1.alloc (Obj.cells #[] 74)) (some ⟨g, off, none⟩) g off (l.ents.drop d)) := by
        refine ⟨fun _ => rfl, fun j hj => ?_⟩
        rw [List.length_drop] at hj
        omega
      go_wp2_with (at_builtin; refine wpList_appendEn rfl _ _ rfl w.heap.size _ 0 [] rfl hown (some ⟨g, off, none⟩) g (off) (cap - d) (l.ents.drop d) (by rw [List.length_drop, hz]; rfl) HEA.out (fun h => by cases h) HX2.out HX3.out ?_)
      intro v' w8 hown' hgrow
      have hown2 : w8.ownsRow w.heap.size 74 3 v' (l.ents.drop d).length (cellsEn (l.ents.drop d)) := by
        have := hown'
        simpa using this
      have hne : ∀ k, k < w1.heap.size → (Value.slice (some ⟨w1.heap.size, 0, none⟩) 0 0).ownBlock ≠ some k := fun k hk h => by
        simp [Value.ownBlock] at h
        omega
      have hlo : q + 1 + 1 < w1.heap.size := (Array.getElem?_eq_some_iff.1 HO1.out).1
      have ho8 := grown_keep' HO2.out hgrow (hne _ hlo)
      have hz8 := grown_keep' HZ2.out hgrow (hne _ (by omega))
      have HB8 : Hid (Below w.heap.size w w8) := HB2.out.grown hgrow HB2.out.size (fun k h => by simp [Value.ownBlock] at h; have := HB1.out.size; omega)
      obtain ⟨va, vc, hv⟩ := own_slice hown2
      subst hv
      have HW8 : Hid (w8.ownsRow w.heap.size 74 3 (.slice va (l.ents.drop d).length vc) (l.ents.drop d).length (cellsEn (l.ents.drop d))) := hown2
      have HO8 : Hid (w8.heap[q + 1 + 1]? = some (.cells #[.int .i64 base, .int .i64 term, .slice none 0 0] 33 (0, 0))) := ho8
      have HZ8 : Hid (w8.heap[q + 1]? = some (.cells #[.int .i64 0, .int .i64 0, .slice none 0 0] 33 (0, 0))) := hz8
      have o2 := cell_of_row _ _ 2 _ _ _ ho8
      have of2 := frozen_of_row _ _ 2 _ _ ho8
      simp at o2
      obtain ⟨n, hn⟩ : ∃ n, n = (l.ents.drop d).length := ⟨_, rfl⟩
      have HN : Hid (n = (l.ents.drop d).length) := hn
      rw [← hn]
      have HO9 : Hid ((w8.setCell ⟨q + 1 + 1, 2, none⟩ (.slice va n vc)).heap[q + 1 + 1]? = some (.cells #[.int .i64 base, .int .i64 term, .slice va n vc] 33 (0, 0))) := by
        show _ = _
        have := heap_setCell_same w8 (q + 1 + 1) 2 _ 33 (.slice va n vc) HO8.out
        simpa using this
      have HZ9 : Hid ((w8.setCell ⟨q + 1 + 1, 2, none⟩ (.slice va n vc)).heap[q + 1]? = some (.cells #[.int .i64 0, .int .i64 0, .slice none 0 0] 33 (0, 0))) := set_far HZ8.out (by omega) _ _
      clear c0 c2 hown hown' hown2 hgrow ho8 hz8 hn hne
      go_wp2_with (first | (refine wpList_loadA Try.isAgg33 Try.sizeOf33 rfl _ rfl (q + 1 + 1) #[.int .i64 base, .int .i64 term, .slice va n vc] 33 rfl HO9.out rfl ?_) | (refine wpList_storeA Try.sizeOf33 rfl _ _ rfl (q + 1) #[.int .i64 base, .int .i64 term, .slice va n vc] #[.int .i64 0, .int .i64 0, .slice none 0 0] 33 rfl rfl HZ9.out rfl rfl (log_one _ _ _ _ _) ?_) | fail)
      have hq2 := HQ.out
      have e1 : r = l.ents.drop d := by rw [HRR.out, HDE.out]; rfl
      refine bodyPost_ret (result32 HZ9.out rfl rfl) rfl ⟨.slice va n vc, rfl, ?_, below_setRow (HB8.out.setCell (by show w.heap.size ≤ q + 1 + 1; omega) _) (by omega) _⟩
      have hw := HW8.out
      rw [← HN.out] at hw
      rw [e1, ← HN.out]
      have n1 := own_not hw HO8.out (by decide)
      have n2 := own_not hw HZ8.out (by decide)
      exact own_row (own_set hw _ _ _ n1) _ _ n2
    · have hz2 : ¬ cap ≤ d := by omega
      have HEA : Hid (EnAt (w1.alloc (Obj.cells #[] 74)) (some ⟨g, off + d * 3, none⟩) g (off + d * 3) (l.ents.drop d)) := (HE1.out.kept ((Below.refl _ _).alloc (Nat.le_refl _) _)).drop d
      go_wp2_with (at_builtin; refine wpList_appendEn rfl _ _ rfl w.heap.size _ 0 [] rfl hown (some ⟨g, off + d * 3, none⟩) g (off + d * 3) (cap - d) (l.ents.drop d) (by rw [List.length_drop]; rfl) HEA.out (fun h => by cases h) HX2.out HX3.out ?_)
      intro v' w8 hown' hgrow
      have hown2 : w8.ownsRow w.heap.size 74 3 v' (l.ents.drop d).length (cellsEn (l.ents.drop d)) := by
        have := hown'
        simpa using this
      have hne : ∀ k, k < w1.heap.size → (Value.slice (some ⟨w1.heap.size, 0, none⟩) 0 0).ownBlock ≠ some k := fun k hk h => by
        simp [Value.ownBlock] at h
        omega
      have hlo : q + 1 + 1 < w1.heap.size := (Array.getElem?_eq_some_iff.1 HO1.out).1
      have ho8 := grown_keep' HO2.out hgrow (hne _ hlo)
      have hz8 := grown_keep' HZ2.out hgrow (hne _ (by omega))
      have HB8 : Hid (Below w.heap.size w w8) := HB2.out.grown hgrow HB2.out.size (fun k h => by simp [Value.ownBlock] at h; have := HB1.out.size; omega)
      obtain ⟨va, vc, hv⟩ := own_slice hown2
      subst hv
      have HW8 : Hid (w8.ownsRow w.heap.size 74 3 (.slice va (l.ents.drop d).length vc) (l.ents.drop d).length (cellsEn (l.ents.drop d))) := hown2
      have HO8 : Hid (w8.heap[q + 1 + 1]? = some (.cells #[.int .i64 base, .int .i64 term, .slice none 0 0] 33 (0, 0))) := ho8
      have HZ8 : Hid (w8.heap[q + 1]? = some (.cells #[.int .i64 0, .int .i64 0, .slice none 0 0] 33 (0, 0))) := hz8
      have o2 := cell_of_row _ _ 2 _ _ _ ho8
      have of2 := frozen_of_row _ _ 2 _ _ ho8
      simp at o2
      obtain ⟨n, hn⟩ : ∃ n, n = (l.ents.drop d).length := ⟨_, rfl⟩
      have HN : Hid (n = (l.ents.drop d).length) := hn
      rw [← hn]
      have HO9 : Hid ((w8.setCell ⟨q + 1 + 1, 2, none⟩ (.slice va n vc)).heap[q + 1 + 1]? = some (.cells #[.int .i64 base, .int .i64 term, .slice va n vc] 33 (0, 0))) := by
        show _ = _
        have := heap_setCell_same w8 (q + 1 + 1) 2 _ 33 (.slice va n vc) HO8.out
        simpa using this
      have HZ9 : Hid ((w8.setCell ⟨q + 1 + 1, 2, none⟩ (.slice va n vc)).heap[q + 1]? = some (.cells #[.int .i64 0, .int .i64 0, .slice none 0 0] 33 (0, 0))) := set_far HZ8.out (by omega) _ _
      clear c0 c2 hown hown' hown2 hgrow ho8 hz8 hn hne
      go_wp2_with (first | (refine wpList_loadA Try.isAgg33 Try.sizeOf33 rfl _ rfl (q + 1 + 1) #[.int .i64 base, .int .i64 term, .slice va n vc] 33 rfl HO9.out rfl ?_) | (refine wpList_storeA Try.sizeOf33 rfl _ _ rfl (q + 1) #[.int .i64 base, .int .i64 term, .slice va n vc] #[.int .i64 0, .int .i64 0, .slice none 0 0] 33 rfl rfl HZ9.out rfl rfl (log_one _ _ _ _ _) ?_) | fail)
      have hq2 := HQ.out
      have e1 : r = l.ents.drop d := by rw [HRR.out, HDE.out]; rfl
      refine bodyPost_ret (result32 HZ9.out rfl rfl) rfl ⟨.slice va n vc, rfl, ?_, below_setRow (HB8.out.setCell (by show w.heap.size ≤ q + 1 + 1; omega) _) (by omega) _⟩
      have hw := HW8.out
      rw [← HN.out] at hw
      rw [e1, ← HN.out]
      have n1 := own_not hw HO8.out (by decide)
      have n2 := own_not hw HZ8.out (by decide)
      exact own_row (own_set hw _ _ _ n1) _ _ n2
  · rcases hbad with rfl | ⟨rfl, rfl⟩ | ⟨rfl, rfl, hti⟩
    · refine wp_region_above (by kernel_rfl) (by kernel_rfl) ?_
      repeat (go_big_quiet_step (first | (go_at_call 25; exact calls_above (HC1.out _ (HA.out _)))))
      refine wpQuiet_nil ?_
      rintro w1 ⟨⟨_, hb1⟩, rfl⟩
      have HZ1 : Hid (w1.heap[q + 1]? = some (.cells #[.int .i64 0, .int .i64 0, .slice none 0 0] 33 (0, 0))) := (hb1.block _ (Array.getElem?_eq_some_iff.1 HZ.out).1).trans HZ.out
      have HO1 : Hid (w1.heap[q + 1 + 1]? = some (.cells #[.int .i64 base, .int .i64 term, .slice none 0 0] 33 (0, 0))) := (hb1.block _ (Array.getElem?_eq_some_iff.1 HO.out).1).trans HO.out
      have HB1 : Hid (Below w.heap.size w w1) := HB.out.trans (hb1.mono HB.out.size)
      clear NE C0 C1 C2 hb1 c0 c1 c2
      go_wp2_with (first | (refine wpList_loadA Try.isAgg33 Try.sizeOf33 rfl _ rfl (q + 1 + 1) #[.int .i64 base, .int .i64 term, .slice none 0 0] 33 rfl HO1.out rfl ?_) | (refine wpList_storeA Try.sizeOf33 rfl _ _ rfl (q + 1) #[.int .i64 base, .int .i64 term, .slice none 0 0] #[.int .i64 0, .int .i64 0, .slice none 0 0] 33 rfl rfl HZ1.out rfl rfl (log_one _ _ _ _ _) ?_) | fail)
      exact bodyPost_ret (result32 HZ1.out rfl rfl) rfl ⟨.slice none 0 0, rfl, World.ownsRow_nil _ _ _ _, below_setRow HB1.out (by have := HQ.out; omega) _⟩
    · refine wp_region_above (by kernel_rfl) (by kernel_rfl) ?_
      repeat (go_big_quiet_step (first | (go_at_call 25; exact calls_above (HC1.out _ (HA.out _))) | (go_at_call 72; exact calls_above (HC2.out _)) | (go_at_call 23; exact calls_above_same (HC3.out _))))
      refine wpQuiet_nil ?_
      rintro w1 ⟨⟨_, hb1⟩, rfl⟩
      have HZ1 : Hid (w1.heap[q + 1]? = some (.cells #[.int .i64 0, .int .i64 0, .slice none 0 0] 33 (0, 0))) := (hb1.block _ (Array.getElem?_eq_some_iff.1 HZ.out).1).trans HZ.out
      have HO1 : Hid (w1.heap[q + 1 + 1]? = some (.cells #[.int .i64 base, .int .i64 term, .slice none 0 0] 33 (0, 0))) := (hb1.block _ (Array.getElem?_eq_some_iff.1 HO.out).1).trans HO.out
      have HB1 : Hid (Below w.heap.size w w1) := HB.out.trans (hb1.mono HB.out.size)
      clear NE C0 C1 C2 hb1 c0 c1 c2
      go_wp2_with (first | (refine wpList_loadA Try.isAgg33 Try.sizeOf33 rfl _ rfl (q + 1 + 1) #[.int .i64 base, .int .i64 term, .slice none 0 0] 33 rfl HO1.out rfl ?_) | (refine wpList_storeA Try.sizeOf33 rfl _ _ rfl (q + 1) #[.int .i64 base, .int .i64 term, .slice none 0 0] #[.int .i64 0, .int .i64 0, .slice none 0 0] 33 rfl rfl HZ1.out rfl rfl (log_one _ _ _ _ _) ?_) | fail)
      exact bodyPost_ret (result32 HZ1.out rfl rfl) rfl ⟨.slice none 0 0, rfl, World.ownsRow_nil _ _ _ _, below_setRow HB1.out (by have := HQ.out; omega) _⟩
    · refine wp_region_above (by kernel_rfl) (by kernel_rfl) ?_
      repeat (go_big_quiet_step (first | (go_at_call 25; exact calls_above (HC1.out _ (HA.out _))) | (go_at_call 72; exact calls_above (HC2.out _)) | (go_at_call 23; exact calls_above_same (HC3.out _)) | (go_at_call 48; exact calls_above (HC4.out (by trivial) _ (HA.out _)))))
      refine wpQuiet_nil ?_
      rintro w1 ⟨⟨_, hb1⟩, rfl⟩
      have HZ1 : Hid (w1.heap[q + 1]? = some (.cells #[.int .i64 0, .int .i64 0, .slice none 0 0] 33 (0, 0))) := (hb1.block _ (Array.getElem?_eq_some_iff.1 HZ.out).1).trans HZ.out
      have HO1 : Hid (w1.heap[q + 1 + 1]? = some (.cells #[.int .i64 base, .int .i64 term, .slice none 0 0] 33 (0, 0))) := (hb1.block _ (Array.getElem?_eq_some_iff.1 HO.out).1).trans HO.out
      have HB1 : Hid (Below w.heap.size w w1) := HB.out.trans (hb1.mono HB.out.size)
      clear NE C0 C1 C2 hb1 c0 c1 c2
      go_wp2_with (first | (refine wpList_loadA Try.isAgg33 Try.sizeOf33 rfl _ rfl (q + 1 + 1) #[.int .i64 base, .int .i64 term, .slice none 0 0] 33 rfl HO1.out rfl ?_) | (refine wpList_storeA Try.sizeOf33 rfl _ _ rfl (q + 1) #[.int .i64 base, .int .i64 term, .slice none 0 0] #[.int .i64 0, .int .i64 0, .slice none 0 0] 33 rfl rfl HZ1.out rfl rfl (log_one _ _ _ _ _) ?_) | fail)
      exact bodyPost_ret (result32 HZ1.out rfl rfl) rfl ⟨.slice none 0 0, rfl, World.ownsRow_nil _ _ _ _, below_setRow HB1.out (by have := HQ.out; omega) _⟩
end Go.Proofs.Ytiifjhalkihlbaa
