/- Whole, in plain words; the program's covers, its closure, IndexFunc, ContainsFunc and Whole, walked. -/
import Derived.Test.YtddmogggdckneaaLLdS
import Derived.Test.YtddmogggdckneaaEntA
import Derived.Test.YtddmogggdckneaaLAp
import Derived.Test.YtddmogggdckneaaNeqEn
namespace Go.Proofs.Ytddmogggdckneaa
open Go.RowKit
set_option linter.unusedVariables false
set_option linter.unusedSimpArgs false
/-- Whether a log has what was applied: it begins behind it, or has the entry. -/
def sameE (e : EntL) (r : ApL) : Bool := decide (e.term = r.eterm ∧ e.kind = r.ekind ∧ e.data = r.edata)
def covL (lg : LogL) (r : ApL) : Bool := decide (r.index ≤ lg.start) || (entB lg r.index && sameE (entD lg r.index) r)
def wholeOne (d : LdL) (r : ApL) : Bool := decide (d.term ≤ r.term) || covL d.log r
def wholeB (l : List LdL) (r : ApL) : Bool := l.all fun d => wholeOne d r
theorem wholeB_no {l : List LdL} {r : ApL} {k : Nat} (hk : k < l.length) (h : wholeOne l[k] r = false) : wholeB l r = false := by
  rw [← Bool.not_eq_true]
  intro hc
  unfold wholeB at hc
  rw [List.all_eq_true] at hc
  have := hc _ (List.getElem_mem hk)
  rw [h] at this; cases this
theorem wholeB_yes {l : List LdL} {r : ApL} (h : ∀ j (hj : j < l.length), wholeOne l[j] r = true) : wholeB l r = true := by
  unfold wholeB
  rw [List.all_eq_true]
  intro d hd
  obtain ⟨j, hj, rfl⟩ := List.mem_iff_getElem.1 hd
  exact h j hj
theorem eqlEnt (a b c d : Int) (s t : ByteArray) (w : World) : (binOp .eql 27 (.agg #[.int .i64 a, .int .i64 b, .string s]) (.agg #[.int .i64 c, .int .i64 d, .string t])).run Try.prog w = .ok (.bool (decide (a = c ∧ b = d ∧ s = t))) w := by
  have h1 := eqEnt_run a b c d s t w
  simp only [binOp, Sem.run_bind]
  simp [Op.equal, Op.maxDepth, h1]
def okIdx (r : ApL) : Prop := -9223372036854775808 ≤ r.index ∧ r.index ≤ 9223372036854775807
set_option maxHeartbeats 4000000 in
set_option maxRecDepth 100000 in
theorem covers_is {b : Option Addr} {gb ob cb : Nat} (lg : LogL) (r : ApL) (hlen : lg.ents.length ≤ 1048576) (hd : ∀ e ∈ lg.ents, e.data.size ≤ 1048576) (hi : okIdx r) (w : World) (hf : EnAt w b gb ob lg.ents) :
    Calls Try.prog 63 #[logV lg b cb, apV r] w fun e w' => e = .returned (.bool (covL lg r)) ∧ Below w.heap.size w w' := by
  have hrun : ∀ X, Below w.heap.size w X → Calls Try.prog 11 #[logV lg b cb, .int .i64 r.index] X fun e w' => e = .returned (.tuple #[entV (entD lg r.index), .bool (entB lg r.index)]) ∧ Below X.heap.size X w' := fun X h => implEntryAt_is lg hlen hd r.index hi X (hf.kept h)
  obtain ⟨D, hD⟩ : ∃ D, D = entD lg r.index := ⟨_, rfl⟩
  obtain ⟨E, hE⟩ : ∃ E, E = entB lg r.index := ⟨_, rfl⟩
  obtain ⟨C, hC⟩ : ∃ C, C = covL lg r := ⟨_, rfl⟩
  have hcv : C = (decide (r.index ≤ lg.start) || (E && sameE D r)) := by rw [hC, hE, hD]; rfl
  simp only [← hD, ← hE] at hrun
  rw [← hC]
  clear hD hE hC hf hlen hd hi
  rw [logV_eq] at hrun ⊢
  obtain ⟨S, hS⟩ : ∃ S, S = lg.start := ⟨_, rfl⟩
  obtain ⟨ST, hST⟩ : ∃ ST, ST = lg.sterm := ⟨_, rfl⟩
  obtain ⟨n, hn⟩ : ∃ n, n = lg.ents.length := ⟨_, rfl⟩
  rw [← hS, ← hST, ← hn] at hrun ⊢
  rw [← hS] at hcv
  clear hS hST hn
  obtain ⟨P0, P1, P2, P3, P4, P5⟩ := r
  obtain ⟨D0, D1, D2⟩ := D
  unfold sameE at hcv
  simp only at hcv hrun
  obtain ⟨X, hX⟩ : ∃ X, X = decide (D0 = P3 ∧ D1 = P4 ∧ D2 = P5) := ⟨_, rfl⟩
  rw [← hX] at hcv
  have hxe : ∀ wx, (binOp .eql 27 (.agg #[.int .i64 D0, .int .i64 D1, .string D2]) (.agg #[.int .i64 P3, .int .i64 P4, .string P5])).run Try.prog wx = .ok (.bool X) wx := fun wx => by rw [hX]; exact eqlEnt _ _ _ _ _ _ wx
  have HCV : Hid _ := hcv
  have HRUN : Hid (∀ X, Below w.heap.size w X → _) := hrun
  clear hX hcv hrun
  unfold apV
  by_cases h1 : P2 ≤ S
  · have h1' : S ≥ P2 := h1
    have HC : Hid (C = true) := by show _ = _; rw [HCV.out]; simp [h1]
    clear hxe
    go_enter Try.func63, Try.ntmps63
    go_wp2
    go_ret
    exact ⟨by rw [HC.out]; rfl, ((Below.refl _ _).alloc (Nat.le_refl _) _).alloc (by simp) _⟩
  · obtain ⟨W, hW⟩ : ∃ W, W = (w.alloc (Obj.cells #[.int .i64 S, .int .i64 ST, .slice b n cb] 32)).alloc (Obj.cells #[.int .i64 P0, .int .i64 P1, .int .i64 P2, .int .i64 P3, .int .i64 P4, .string P5] 64) := ⟨_, rfl⟩
    have hb : Below w.heap.size w W := by rw [hW]; exact ((Below.refl _ _).alloc (Nat.le_refl _) _).alloc (by simp) _
    have hr : W.heap[w.heap.size + 1]? = some (.cells #[.int .i64 P0, .int .i64 P1, .int .i64 P2, .int .i64 P3, .int .i64 P4, .string P5] 64 (0, 0)) := by
      rw [hW]
      have := heap_alloc_new (w.alloc (Obj.cells #[.int .i64 S, .int .i64 ST, .slice b n cb] 32)) (.cells #[.int .i64 P0, .int .i64 P1, .int .i64 P2, .int .i64 P3, .int .i64 P4, .string P5] 64)
      simpa using this
    have HB : Hid _ := hb
    have HR : Hid _ := hr
    clear hb hr
    go_enter Try.func63, Try.ntmps63
    go_wp2_with fail
    rw [← hW]
    clear hW
    refine Calls.mono (HRUN.out W HB.out) ?_
    rintro e w1 ⟨rfl, hb1⟩
    unfold entV
    have HB1 : Hid (Below w.heap.size w w1) := HB.out.trans (hb1.mono HB.out.size)
    have HR1 : Hid (w1.heap[w.heap.size + 1]? = some (.cells #[.int .i64 P0, .int .i64 P1, .int .i64 P2, .int .i64 P3, .int .i64 P4, .string P5] 64 (0, 0))) := (hb1.block _ (Array.getElem?_eq_some_iff.1 HR.out).1).trans HR.out
    obtain ⟨V1, hV1⟩ : ∃ V1, V1 = w1.alloc (Obj.cells #[.int .i64 D0, .int .i64 D1, .string D2] 27) := ⟨_, rfl⟩
    have hv1 : Below w1.heap.size w1 V1 := by rw [hV1]; exact (Below.refl _ _).alloc (Nat.le_refl _) _
    have hrv := (hv1.block _ (Array.getElem?_eq_some_iff.1 HR1.out).1).trans HR1.out
    have HBV : Hid (Below w.heap.size w V1) := HB1.out.trans (hv1.mono HB1.out.size)
    have c3 := cell_of_row _ _ 3 _ _ _ hrv
    have c4 := cell_of_row _ _ 4 _ _ _ hrv
    have c5 := cell_of_row _ _ 5 _ _ _ hrv
    simp at c3 c4 c5
    rw [hV1] at c3 c4 c5
    rw [hV1] at HBV
    clear hb1 hv1 hrv hV1 HRUN
    cases E
    · have HC : Hid (C = false) := by show _ = _; rw [HCV.out, decide_eq_false (show ¬ P2 ≤ S by omega)]; simp
      go_wp2
      go_ret
      exact ⟨by rw [HC.out]; rfl, HBV.out⟩
    · have HC : Hid (C = X) := by show _ = _; rw [HCV.out, decide_eq_false (show ¬ P2 ≤ S by omega)]; simp
      go_wp2
      go_ret
      exact ⟨by rw [HC.out]; rfl, HBV.out⟩
/-- What was applied lies at q. -/
def BoxAp (w : World) (q : Nat) (r : ApL) : Prop := w.heap[q]? = some (.cells #[.int .i64 r.node, .int .i64 r.term, .int .i64 r.index, .int .i64 r.eterm, .int .i64 r.ekind, .string r.edata] 64 (0, 0))
theorem BoxAp.kept {w w' : World} {q : Nat} {r : ApL} (h : BoxAp w q r) (hb : Below w.heap.size w w') : BoxAp w' q r := (hb.block _ (Array.getElem?_eq_some_iff.1 h).1).trans h
set_option maxHeartbeats 4000000 in
set_option maxRecDepth 100000 in
theorem lacks_is (c : LcL) (d : LdL) (r : ApL) (q : Nat) (hs : smallLd 1048576 d) (hi : okIdx r) (w : World) (hone : OneLd w c d) (hq : BoxAp w q r) :
    Calls Try.prog 62 #[lcV c, .pointer (some ⟨q, 0, none⟩)] w fun e w' => e = .returned (.bool (!wholeOne d r)) ∧ Below w.heap.size w w' := by
  obtain ⟨b, gb, ob, cb, rfl, hat⟩ := hone
  rw [lcV_eq]
  have hrun : ∀ X, Below w.heap.size w X → Calls Try.prog 63 #[logV d.log b cb, apV r] X fun e w' => e = .returned (.bool (covL d.log r)) ∧ Below X.heap.size X w' := fun X h => covers_is d.log r hs.1 (fun e he => hs.2 e he) hi X (hat.kept h)
  obtain ⟨C, hC⟩ : ∃ C, C = covL d.log r := ⟨_, rfl⟩
  obtain ⟨R, hR⟩ : ∃ R, R = wholeOne d r := ⟨_, rfl⟩
  have hrv : R = (decide (d.term ≤ r.term) || C) := by rw [hR, hC]; rfl
  rw [← hR]
  simp only [← hC] at hrun
  rw [logV_eq] at hrun
  obtain ⟨N, hN⟩ : ∃ N, N = d.node := ⟨_, rfl⟩
  obtain ⟨T, hT⟩ : ∃ T, T = d.term := ⟨_, rfl⟩
  obtain ⟨S, hS⟩ : ∃ S, S = d.log.start := ⟨_, rfl⟩
  obtain ⟨ST, hST⟩ : ∃ ST, ST = d.log.sterm := ⟨_, rfl⟩
  obtain ⟨n, hn⟩ : ∃ n, n = d.log.ents.length := ⟨_, rfl⟩
  rw [← hS, ← hST, ← hn] at hrun
  rw [← hN, ← hT, ← hS, ← hST, ← hn]
  rw [← hT] at hrv
  clear hC hR hN hT hS hST hn hat hs hi
  obtain ⟨P0, P1, P2, P3, P4, P5⟩ := r
  unfold apV at hrun
  simp only at hrv hrun
  unfold BoxAp at hq
  simp only at hq
  obtain ⟨W, hW⟩ : ∃ W, W = w.alloc (Obj.cells #[.int .i64 N, .int .i64 T, .int .i64 S, .int .i64 ST, .slice b n cb] 104) := ⟨_, rfl⟩
  have hb : Below w.heap.size w W := by rw [hW]; exact (Below.refl _ _).alloc (Nat.le_refl _) _
  have hqW := (hb.block _ (Array.getElem?_eq_some_iff.1 hq).1).trans hq
  have c0 := cell_of_row _ _ 0 _ _ _ hqW
  have c1 := cell_of_row _ _ 1 _ _ _ hqW
  have c2 := cell_of_row _ _ 2 _ _ _ hqW
  have c3 := cell_of_row _ _ 3 _ _ _ hqW
  have c4 := cell_of_row _ _ 4 _ _ _ hqW
  have c5 := cell_of_row _ _ 5 _ _ _ hqW
  simp at c0 c1 c2 c3 c4 c5
  rw [hW] at c0 c1 c2 c3 c4 c5
  have HB : Hid _ := hb
  have HRV : Hid _ := hrv
  have HRUN : Hid (∀ X, Below w.heap.size w X → _) := hrun
  clear hb hqW hq hrv hrun
  by_cases h1 : T ≤ P1
  · have h1' : ¬ P1 < T := by omega
    have HR : Hid (R = true) := by show _ = _; rw [HRV.out, decide_eq_true h1]; simp
    rw [hW] at HB
    go_enter Try.func62, Try.ntmps62
    go_wp2
    go_ret
    exact ⟨by rw [HR.out]; rfl, HB.out⟩
  · have h1' : P1 < T := by omega
    have HR : Hid (R = C) := by show _ = _; rw [HRV.out, decide_eq_false h1]; simp
    go_enter Try.func62, Try.ntmps62
    go_wp2_with fail
    rw [← hW]
    refine Calls.mono (HRUN.out W HB.out) ?_
    rintro e w1 ⟨rfl, hb1⟩
    have HB1 : Hid (Below w.heap.size w w1) := HB.out.trans (hb1.mono HB.out.size)
    clear c0 c1 c2 c3 c4 c5 hb1
    cases C
    all_goals
      go_wp2
      go_ret
      exact ⟨by rw [HR.out]; rfl, HB1.out⟩
/-- Where the first leader stands that lacks it. -/
def idxW (l : List LdL) (r : ApL) : Int := match l.findIdx? (fun d => !wholeOne d r) with
  | none => -1
  | some i => (i : Int)
theorem idxW_none {l : List LdL} {r : ApL} (h : ∀ j (hj : j < l.length), wholeOne l[j] r = true) : idxW l r = -1 := by
  unfold idxW
  rw [List.findIdx?_eq_none_iff.2 (fun d hd => by
    obtain ⟨j, hj, rfl⟩ := List.mem_iff_getElem.1 hd
    simp [h j hj])]
theorem idxW_some {l : List LdL} {r : ApL} {k : Nat} (hk : k < l.length) (h : wholeOne l[k] r = false) (hp : ∀ j (hj : j < k), wholeOne (l[j]'(by omega)) r = true) : idxW l r = (k : Int) := by
  unfold idxW
  rw [List.findIdx?_eq_some_iff_getElem.2 ⟨hk, by simp [h], fun j hj => by simp [hp j hj]⟩]
theorem idxW_iff (l : List LdL) (r : ApL) : decide (0 ≤ idxW l r) = !wholeB l r := by
  unfold idxW
  cases h : l.findIdx? (fun d => !wholeOne d r) with
  | none =>
    have h1 := List.findIdx?_eq_none_iff.1 h
    have : wholeB l r = true := wholeB_yes (fun j hj => by have := h1 _ (List.getElem_mem hj); simpa using this)
    rw [this]; rfl
  | some i =>
    obtain ⟨hi, h1, _⟩ := List.findIdx?_eq_some_iff_getElem.1 h
    have : wholeB l r = false := wholeB_no hi (by simpa using h1)
    rw [this]
    simp
set_option maxHeartbeats 4000000 in
set_option maxRecDepth 100000 in
theorem indexW_is {a : Option Addr} {g off cap : Nat} (cs : List LcL) (l : List LdL) (r : ApL) (q : Nat) (hlen : l.length ≤ 1048576) (hs : ∀ d ∈ l, smallLd 1048576 d) (hi : okIdx r) (w : World) (hf : LdAt w a g off cs l) (hq : BoxAp w q r) :
    Calls Try.prog 80 #[.slice a l.length cap, .func (.func 62) #[] #[.pointer (some ⟨q, 0, none⟩)]] w fun e w' => e = .returned (.int .i64 (idxW l r)) ∧ Below w.heap.size w w' := by
  have HF : Hid (LdAt w a g off cs l) := hf
  have HQ : Hid (BoxAp w q r) := hq
  have HS : Hid (∀ d ∈ l, smallLd 1048576 d) := hs
  have HI : Hid (okIdx r) := hi
  clear hf hq hs hi
  go_enter Try.func80, Try.ntmps80
  go_wp2
  go_loopw [8] (fun i wr => ∃ k : Nat, k ≤ l.length ∧ i = .int .i64 (k : Int) ∧ Hid (∀ j (hj : j < l.length), j < k → wholeOne l[j] r = true) ∧ Below w.heap.size w wr)
    (fun i _ => l.length - (intOf i).toNat)
  case atStart => exact ⟨0, Nat.zero_le _, rfl, fun j hj h => by omega, Below.refl _ _⟩
  case round =>
    obtain ⟨k, hk, rfl, HA, hbel⟩ := hrel
    by_cases hlt : k < l.length
    · have hltc : k < cs.length := by rw [HF.out.2.1]; exact hlt
      have hcc := (HF.out.1.kept hbel).2 k hltc
      have hone := (HF.out.2.kept hbel).2 k hltc hlt
      have ea := HF.out.1.1 (by omega)
      subst ea
      obtain ⟨C, hC⟩ : ∃ C, C = cs[k] := ⟨_, rfl⟩
      rw [← hC] at hcc hone
      obtain ⟨D, hD⟩ : ∃ D, D = wholeOne l[k] r := ⟨_, rfl⟩
      have HD : Hid (wholeOne l[k] r = D) := hD.symm
      have hrun := lacks_is C l[k] r q (HS.out _ (List.getElem_mem _)) HI.out wr hone (HQ.out.kept hbel)
      rw [← hD] at hrun
      clear hC hone hltc hD
      obtain ⟨F0, F1, F2, F3, b, n, cb⟩ := C
      unfold lcV at hrun
      have HRUN : Hid _ := hrun
      obtain ⟨c0, c1, c2, c3, c4⟩ := hcc
      clear hrun
      have hk0 : (0 : Int) ≤ (k : Int) := by omega
      have hk1 : (k : Int) < (l.length : Int) := by omega
      cases D
      · go_wp2_with (go_at_call 62; fail)
        refine Calls.mono HRUN.out ?_
        rintro e w1 ⟨rfl, hb1⟩
        have HX : Hid (idxW l r = (k : Int)) := idxW_some hlt HD.out (fun j hj => HA.out j (by omega) hj)
        go_wp2
        go_ret
        exact ⟨by rw [HX.out]; rfl, hbel.trans (hb1.mono hbel.size)⟩
      · go_wp2_with (go_at_call 62; fail)
        refine Calls.mono HRUN.out ?_
        rintro e w1 ⟨rfl, hb1⟩
        go_wp2
        go_roundw
        case rel =>
          refine ⟨k + 1, by omega, by go_num, fun j hj hjk => ?_, hbel.trans (hb1.mono hbel.size)⟩
          by_cases e : j = k
          · subst e; exact HD.out
          · exact HA.out j hj (by omega)
        case measure => simp [intOf]; omega
    · have hk1 : ¬ (k : Int) < (l.length : Int) := by omega
      have HX : Hid (idxW l r = -1) := idxW_none (fun j hj => HA.out j hj (by omega))
      go_wp2
      go_ret
      exact ⟨by rw [HX.out]; rfl, hbel⟩
set_option maxHeartbeats 4000000 in
set_option maxRecDepth 100000 in
theorem containsW_is {a : Option Addr} {g off cap : Nat} (cs : List LcL) (l : List LdL) (r : ApL) (q : Nat) (hlen : l.length ≤ 1048576) (hs : ∀ d ∈ l, smallLd 1048576 d) (hi : okIdx r) (w : World) (hf : LdAt w a g off cs l) (hq : BoxAp w q r) :
    Calls Try.prog 64 #[.slice a l.length cap, .func (.func 62) #[] #[.pointer (some ⟨q, 0, none⟩)]] w fun e w' => e = .returned (.bool (!wholeB l r)) ∧ Below w.heap.size w w' := by
  have hrun := indexW_is (cap := cap) cs l r q hlen hs hi w hf hq
  have hiff := idxW_iff l r
  obtain ⟨I, hI⟩ : ∃ I, I = idxW l r := ⟨_, rfl⟩
  obtain ⟨B, hB⟩ : ∃ B, B = wholeB l r := ⟨_, rfl⟩
  rw [← hI] at hrun hiff
  rw [← hB] at hiff ⊢
  have HRUN : Hid _ := hrun
  clear hrun hI hB hf hq
  have HD : Hid (decide (0 ≤ I) = !B) := hiff
  clear hiff
  go_enter Try.func64, Try.ntmps64
  go_wp2_with (go_at_call 80; fail)
  refine Calls.mono HRUN.out ?_
  rintro e w1 ⟨rfl, hb1⟩
  go_wp2
  go_ret
  exact ⟨congrArg (fun x => Ending.returned (Value.bool x)) HD.out, hb1⟩
set_option maxHeartbeats 4000000 in
set_option maxRecDepth 100000 in
theorem implWhole_is {a : Option Addr} {g off cap : Nat} (cs : List LcL) (l : List LdL) (r : ApL) (hlen : l.length ≤ 1048576) (hs : ∀ d ∈ l, smallLd 1048576 d) (hi : okIdx r) (w : World) (hf : LdAt w a g off cs l) :
    Calls Try.prog 32 #[.slice a l.length cap, apV r] w fun e w' => e = .returned (.bool (wholeB l r)) ∧ Below w.heap.size w w' := by
  obtain ⟨W, hW⟩ : ∃ W, W = w.alloc (Obj.cells #[.int .i64 r.node, .int .i64 r.term, .int .i64 r.index, .int .i64 r.eterm, .int .i64 r.ekind, .string r.edata] 64) := ⟨_, rfl⟩
  have hb : Below w.heap.size w W := by rw [hW]; exact (Below.refl _ _).alloc (Nat.le_refl _) _
  have hq : BoxAp W w.heap.size r := by unfold BoxAp; rw [hW]; exact heap_alloc_new w _
  have hrun := containsW_is (cap := cap) cs l r w.heap.size hlen hs hi W (hf.kept hb) hq
  obtain ⟨B, hB⟩ : ∃ B, B = wholeB l r := ⟨_, rfl⟩
  rw [← hB] at hrun ⊢
  have HRUN : Hid _ := hrun
  have HB : Hid _ := hb
  clear hrun hb hq hf hB
  unfold apV
  cases B
  all_goals
    go_enter Try.func32, Try.ntmps32
    go_wp2_with (go_at_call 64; fail)
    rw [← hW]
    refine Calls.mono HRUN.out ?_
    rintro e w1 ⟨rfl, hb1⟩
    go_wp2
    go_ret
    exact ⟨rfl, HB.out.trans (hb1.mono HB.out.size)⟩
end Go.Proofs.Ytddmogggdckneaa
