/- The program's reader of a command, the closure over it, readWhole and ReadCommand, walked. -/
import Derived.Test.YtlmjhobijgmolaaImplCmd
import Derived.Test.YtlmjhobijgmolaaReader5
import Derived.Test.YtlmjhobijgmolaaWhole
import Derived.Test.YtlmjhobijgmolaaAgg
namespace Go.Proofs.Ytlmjhobijgmolaa
open Go.RowKit
open Cmds (okC Reads Got)
set_option linter.unusedVariables false
set_option linter.unusedSimpArgs false

def zeroC : Array Value := #[.int .i64 0, .int .i64 0, .int .i64 0, .string ⟨#[]⟩, .string ⟨#[]⟩, .string ⟨#[]⟩]
theorem zero_one : ∀ v ∈ zeroC.toList, v.oneCell' = true := by intro v hv; simp [zeroC] at hv; rcases hv with rfl | rfl <;> rfl
theorem cmd_one (c : CmdL) : ∀ v ∈ (cmdC c).toList, v.oneCell' = true := by
  intro v hv
  simp [cmdC] at hv
  rcases hv with rfl | rfl | rfl | rfl | rfl | rfl <;> rfl
theorem Try.isAgg26 (w : World) : (isAgg 26).run Try.prog w = .ok true w := by kernel_rfl
theorem Try.sizeOf26 (w : World) : (sizeOf 26).run Try.prog w = .ok 6 w := by kernel_rfl
theorem below_row {w w' : World} (h : Below w.heap.size w w') {g : Nat} (hg : w.heap.size ≤ g) (A : Array Value) : Below w.heap.size w (w'.setRow g A) := h.grown (grown_setRow w' g A) h.size (fun k e => by cases e; exact hg)
theorem result31 {w : World} {g : Nat} {A C : Array Value} (hg : w.heap[g]? = some (.cells C 26 (0, 0))) (hs : A.size = 6) {tmps : Array Value} (ht : tmps.getD 2 undef = .pointer (some ⟨g, 0, none⟩)) : (results Try.f31 tmps).run Try.prog (w.setRow g A) = .ok (.agg A) (w.setRow g A) := by
  have h := run_loadVar_agg (P := Try.prog) Try.isAgg26 Try.sizeOf26 (row_size (A := A) hg) hs
  have ht' : tmps[2]?.getD undef = .pointer (some ⟨g, 0, none⟩) := by simpa using ht
  simp [results, Try.results31, ht', asAddr, h]
/-- What the reader of a command leaves. -/
def CmdPost (w : World) (rb : Nat) (t : ByteArray) (en : Ending) (w' : World) : Prop :=
  (∃ (c : CmdL) (a b d e f : Nat), en = .returned (cmdV c) ∧ Reads t c a b d e f ∧ Rd w' rb t f ∧ w.grownBy w' (some rb)) ∨
  (en = .panicked thrown ∧ (∀ (c : CmdL) (a b d e f : Nat), ¬ Reads t c a b d e f) ∧ w.grownBy w' (some rb))
set_option maxHeartbeats 4000000 in
set_option maxRecDepth 100000 in
theorem command_is {rb : Nat} {t : ByteArray} (hs : t.size ≤ 1048576) (w : World) (hr : Rd w rb t 0) : Calls Try.prog 31 #[.pointer (some ⟨rb, 0, none⟩)] w (CmdPost w rb t) := by
  obtain ⟨W, hW⟩ : ∃ W, W = w.alloc (Obj.cells #[.int .i64 0, .int .i64 0, .int .i64 0, .string ⟨#[]⟩, .string ⟨#[]⟩, .string ⟨#[]⟩] 26) := ⟨_, rfl⟩
  have HWD : Hid (w.alloc (Obj.cells #[.int .i64 0, .int .i64 0, .int .i64 0, .string ⟨#[]⟩, .string ⟨#[]⟩, .string ⟨#[]⟩] 26) = W) := hW.symm
  have hb : Below w.heap.size w W := by rw [hW]; exact (Below.refl _ _).alloc (Nat.le_refl _) _
  have HG0 : Hid (w.grownBy W (some rb)) := own_below' hb
  have HR0 : Hid (Rd W rb t 0) := hr.below hb
  have HZ0 : Hid (W.heap[w.heap.size]? = some (.cells zeroC 26 (0, 0))) := by show _ = _; rw [hW]; exact heap_alloc_new w _
  have hne : w.heap.size ≠ rb := by have := hr.lt; omega
  clear hW hb hr
  go_enter Try.func31, Try.ntmps31
  go_wp2_with fail
  rw [HWD.out]
  clear HWD
  by_cases h0 : 0 < t.size
  rotate_left
  · refine (one_none hs _ HR0.out h0).mono ?_
    rintro en w1 ⟨rfl, hg1⟩
    exact ⟨rfl, Or.inr ⟨rfl, fun c a b d e f h => h0 h.op.1, HG0.out.trans hg1⟩⟩
  refine (one_some hs _ HR0.out h0).mono ?_
  rintro en w1 ⟨rfl, hr1, hg1⟩
  have HR1 : Hid (Rd w1 rb t 1) := hr1
  have HG1 : Hid (w.grownBy w1 (some rb)) := HG0.out.trans hg1
  have HZ1 : Hid (w1.heap[w.heap.size]? = some (.cells zeroC 26 (0, 0))) := grown_keep HZ0.out hg1 hne
  obtain ⟨op, hop⟩ : ∃ op : Int, op = (t[0].toNat : Int) := ⟨_, rfl⟩
  rw [← hop]
  have hwo : wrap64 op = op := by unfold wrap64; have := t[0].toNat_lt; omega
  have HOP : Hid (∃ h : 0 < t.size, op = ((t[0]'h).toNat : Int)) := ⟨h0, hop⟩
  clear hr1 hg1 HG0 HR0 HZ0 h0 hop
  go_wp2_with fail
  cases h1 : Words.rd (Batches.by_ t) 1 with
  | none =>
    refine (number_none hs _ HR1.out h1).mono ?_
    rintro en w2 ⟨rfl, hg⟩
    refine ⟨rfl, Or.inr ⟨rfl, fun C a' b' d' e' f' h => ?_, HG1.out.trans hg⟩⟩
    have x1 := h.ses.1
    rw [h1] at x1
    cases x1
  | some pr =>
  obtain ⟨v1, a⟩ := pr
  have H1 : Hid (Words.rd (Batches.by_ t) 1 = some (v1, a)) := h1
  refine (number_some hs _ HR1.out h1).mono ?_
  rintro en w2 ⟨rfl, hr, hg⟩
  have HR2 : Hid (Rd w2 rb t a) := hr
  have HG2 : Hid (w.grownBy w2 (some rb)) := HG1.out.trans hg
  have HZ2 : Hid (w2.heap[w.heap.size]? = some (.cells zeroC 26 (0, 0))) := grown_keep HZ1.out hg hne
  clear hr hg HG1 HR1 HZ1 h1
  go_wp2_with fail
  cases h2 : Words.rd (Batches.by_ t) a with
  | none =>
    refine (number_none hs _ HR2.out h2).mono ?_
    rintro en w3 ⟨rfl, hg⟩
    refine ⟨rfl, Or.inr ⟨rfl, fun C a' b' d' e' f' h => ?_, HG2.out.trans hg⟩⟩
    have x1 := h.ses.1
    rw [H1.out] at x1
    obtain y1 : a' = a := (Prod.mk.inj (Option.some.inj x1)).2.symm
    have x2 := h.seq.1
    rw [y1] at x2
    rw [h2] at x2
    cases x2
  | some pr =>
  obtain ⟨v2, b⟩ := pr
  have H2 : Hid (Words.rd (Batches.by_ t) a = some (v2, b)) := h2
  refine (number_some hs _ HR2.out h2).mono ?_
  rintro en w3 ⟨rfl, hr, hg⟩
  have HR3 : Hid (Rd w3 rb t b) := hr
  have HG3 : Hid (w.grownBy w3 (some rb)) := HG2.out.trans hg
  have HZ3 : Hid (w3.heap[w.heap.size]? = some (.cells zeroC 26 (0, 0))) := grown_keep HZ2.out hg hne
  clear hr hg HG2 HR2 HZ2 h2
  go_wp2_with fail
  cases h3 : Batches.rdShort t b with
  | none =>
    refine (short_none hs _ HR3.out h3).mono ?_
    rintro en w4 ⟨rfl, hg⟩
    refine ⟨rfl, Or.inr ⟨rfl, fun C a' b' d' e' f' h => ?_, HG3.out.trans hg⟩⟩
    have x1 := h.ses.1
    rw [H1.out] at x1
    obtain y1 : a' = a := (Prod.mk.inj (Option.some.inj x1)).2.symm
    have x2 := h.seq.1
    rw [y1] at x2
    rw [H2.out] at x2
    obtain y2 : b' = b := (Prod.mk.inj (Option.some.inj x2)).2.symm
    have x3 := h.key
    rw [y2] at x3
    rw [h3] at x3
    cases x3
  | some pr =>
  obtain ⟨v3, d⟩ := pr
  have H3 : Hid (Batches.rdShort t b = some (v3, d)) := h3
  refine (short_some hs _ HR3.out h3).mono ?_
  rintro en w4 ⟨rfl, hr, hg⟩
  have HR4 : Hid (Rd w4 rb t d) := hr
  have HG4 : Hid (w.grownBy w4 (some rb)) := HG3.out.trans hg
  have HZ4 : Hid (w4.heap[w.heap.size]? = some (.cells zeroC 26 (0, 0))) := grown_keep HZ3.out hg hne
  clear hr hg HG3 HR3 HZ3 h3
  go_wp2_with fail
  cases h4 : Batches.rdShort t d with
  | none =>
    refine (short_none hs _ HR4.out h4).mono ?_
    rintro en w5 ⟨rfl, hg⟩
    refine ⟨rfl, Or.inr ⟨rfl, fun C a' b' d' e' f' h => ?_, HG4.out.trans hg⟩⟩
    have x1 := h.ses.1
    rw [H1.out] at x1
    obtain y1 : a' = a := (Prod.mk.inj (Option.some.inj x1)).2.symm
    have x2 := h.seq.1
    rw [y1] at x2
    rw [H2.out] at x2
    obtain y2 : b' = b := (Prod.mk.inj (Option.some.inj x2)).2.symm
    have x3 := h.key
    rw [y2] at x3
    rw [H3.out] at x3
    obtain y3 : d' = d := (Prod.mk.inj (Option.some.inj x3)).2.symm
    have x4 := h.val
    rw [y3] at x4
    rw [h4] at x4
    cases x4
  | some pr =>
  obtain ⟨v4, e⟩ := pr
  have H4 : Hid (Batches.rdShort t d = some (v4, e)) := h4
  refine (short_some hs _ HR4.out h4).mono ?_
  rintro en w5 ⟨rfl, hr, hg⟩
  have HR5 : Hid (Rd w5 rb t e) := hr
  have HG5 : Hid (w.grownBy w5 (some rb)) := HG4.out.trans hg
  have HZ5 : Hid (w5.heap[w.heap.size]? = some (.cells zeroC 26 (0, 0))) := grown_keep HZ4.out hg hne
  clear hr hg HG4 HR4 HZ4 h4
  go_wp2_with fail
  cases h5 : Batches.rdShort t e with
  | none =>
    refine (short_none hs _ HR5.out h5).mono ?_
    rintro en w6 ⟨rfl, hg⟩
    refine ⟨rfl, Or.inr ⟨rfl, fun C a' b' d' e' f' h => ?_, HG5.out.trans hg⟩⟩
    have x1 := h.ses.1
    rw [H1.out] at x1
    obtain y1 : a' = a := (Prod.mk.inj (Option.some.inj x1)).2.symm
    have x2 := h.seq.1
    rw [y1] at x2
    rw [H2.out] at x2
    obtain y2 : b' = b := (Prod.mk.inj (Option.some.inj x2)).2.symm
    have x3 := h.key
    rw [y2] at x3
    rw [H3.out] at x3
    obtain y3 : d' = d := (Prod.mk.inj (Option.some.inj x3)).2.symm
    have x4 := h.val
    rw [y3] at x4
    rw [H4.out] at x4
    obtain y4 : e' = e := (Prod.mk.inj (Option.some.inj x4)).2.symm
    have x5 := h.old
    rw [y4] at x5
    rw [h5] at x5
    cases x5
  | some pr =>
  obtain ⟨v5, f⟩ := pr
  have H5 : Hid (Batches.rdShort t e = some (v5, f)) := h5
  refine (short_some hs _ HR5.out h5).mono ?_
  rintro en w6 ⟨rfl, hr, hg⟩
  have HR6 : Hid (Rd w6 rb t f) := hr
  have HG6 : Hid (w.grownBy w6 (some rb)) := HG5.out.trans hg
  have HZ6 : Hid (w6.heap[w.heap.size]? = some (.cells zeroC 26 (0, 0))) := grown_keep HZ5.out hg hne
  clear hr hg HG5 HR5 HZ5 h5
  have HONE : Hid (∀ v ∈ (cmdC ⟨op, (v1 : Int), (v2 : Int), v3, v4, v5⟩).toList, v.oneCell' = true) := cmd_one _
  go_wp2_with (first | (refine wpList_storeA Try.sizeOf26 rfl _ _ rfl w.heap.size (cmdC ⟨op, (v1 : Int), (v2 : Int), v3, v4, v5⟩) zeroC 26 rfl rfl HZ6.out rfl rfl HONE.out ?_) | fail)
  have hfin : CmdPost w rb t (.returned (cmdV ⟨op, (v1 : Int), (v2 : Int), v3, v4, v5⟩)) (w6.setRow w.heap.size (cmdC ⟨op, (v1 : Int), (v2 : Int), v3, v4, v5⟩)) := Or.inl ⟨⟨op, (v1 : Int), (v2 : Int), v3, v4, v5⟩, a, b, d, e, f, rfl, ⟨HOP.out, ⟨by rw [Int.toNat_natCast]; exact H1.out, Int.natCast_nonneg _⟩, ⟨by rw [Int.toNat_natCast]; exact H2.out, Int.natCast_nonneg _⟩, H3.out, H4.out, H5.out⟩, ⟨row_far HR6.out.1 (Ne.symm hne) _, HR6.out.2⟩, HG6.out.andThen (grown_setRow _ _ _) (fun r e => Or.inl (by cases e; exact Nat.le_refl _))⟩
  exact bodyPost_ret (result31 HZ6.out rfl rfl) rfl hfin
/-- What the closure leaves. -/
def LitPost (w : World) (rb MB : Nat) (t : ByteArray) (en : Ending) (w' : World) : Prop :=
  (∃ (c : CmdL) (a b d e f : Nat), en = .returned (.tuple #[]) ∧ w'.heap[MB]? = some (.cells (cmdC c) 26 (0, 0)) ∧ Reads t c a b d e f ∧ Rd w' rb t f ∧ ∃ w1, w.grownBy w1 (some rb) ∧ w1.grownBy w' (some MB)) ∨
  (en = .panicked thrown ∧ (∀ (c : CmdL) (a b d e f : Nat), ¬ Reads t c a b d e f) ∧ w.grownBy w' (some rb))
set_option maxHeartbeats 4000000 in
set_option maxRecDepth 100000 in
theorem lit_is {rb MB : Nat} {t : ByteArray} (hs : t.size ≤ 1048576) (w : World) (hr : Rd w rb t 0) (hne : rb ≠ MB) (hM : w.heap[MB]? = some (.cells zeroC 26 (0, 0))) :
    Calls Try.prog 30 #[.pointer (some ⟨rb, 0, none⟩), .pointer (some ⟨MB, 0, none⟩)] w (LitPost w rb MB t) := by
  have HR : Hid (Rd w rb t 0) := hr
  have HM : Hid (w.heap[MB]? = some (.cells zeroC 26 (0, 0))) := hM
  clear hr hM
  go_enter Try.func30, Try.ntmps30
  go_wp2_with fail
  refine (command_is hs _ HR.out).mono ?_
  intro e w2 hp
  rcases hp with ⟨c, a, b, d, e, f, rfl, h1, h2, h3⟩ | ⟨rfl, h1, h2⟩
  · have hm2 := grown_keep HM.out h3 (fun e => hne e.symm)
    have HM2 : Hid (w2.heap[MB]? = some (.cells zeroC 26 (0, 0))) := hm2
    have HONE : Hid (∀ v ∈ (cmdC c).toList, v.oneCell' = true) := cmd_one c
    have HP : Hid (LitPost w rb MB t (.returned (.tuple #[])) (w2.setRow MB (cmdC c))) := Or.inl ⟨c, a, b, d, e, f, rfl, row_size hm2, h1, ⟨row_far h2.1 hne _, h2.2⟩, w2, h3, grown_setRow w2 MB (cmdC c)⟩
    clear h1 h2 h3 hm2 HM HR
    unfold cmdV
    go_wp2_with (first | (refine wpList_storeA Try.sizeOf26 rfl _ _ rfl MB (cmdC c) zeroC 26 rfl rfl HM2.out rfl rfl HONE.out ?_) | fail)
    go_end0
    exact HP.out
  · exact ⟨rfl, Or.inr ⟨rfl, h1, h2⟩⟩
/-- What readWhole leaves. -/
def WholePost (w : World) (MB : Nat) (t : ByteArray) (en : Ending) (w' : World) : Prop :=
  (∀ q o, w.heap[q]? = some o → q ≠ MB → w'.heap[q]? = some o) ∧ (∀ B, B ≤ MB → B ≤ w.heap.size → Below B w w') ∧
  ((∃ (c : CmdL) (a b d e : Nat), en = .returned (.bool true) ∧ w'.heap[MB]? = some (.cells (cmdC c) 26 (0, 0)) ∧ Reads t c a b d e t.size) ∨
   (en = .returned (.bool false) ∧ (∀ (c : CmdL) (a b d e : Nat), ¬ Reads t c a b d e t.size)))
set_option maxHeartbeats 4000000 in
set_option maxRecDepth 100000 in
theorem whole_is {MB : Nat} {t : ByteArray} (hs : t.size ≤ 1048576) (w : World) (hM : w.heap[MB]? = some (.cells zeroC 26 (0, 0))) :
    Calls Try.prog 29 #[.string t, .func (.func 30) #[] #[.pointer (some ⟨MB, 0, none⟩)]] w (WholePost w MB t) := by
  have hmf : ∀ (fn : Fn) (first cap : Array Value) (w : World), (Instr.makeFunc fn first cap).run Try.prog w = .ok (.func fn first cap) w := fun _ _ _ _ => rfl
  have hMl : MB < w.heap.size := (Array.getElem?_eq_some_iff.1 hM).1
  obtain ⟨W, hW, hr, hwh, hgg, hz⟩ := whole_start t w MB
  have hbW : Below w.heap.size w W := by rw [hW]; exact ((Below.refl _ _).alloc (Nat.le_refl _) _).alloc (by simp) _
  have HBW : Hid (Below w.heap.size w W) := hbW
  have HQ : Hid (Calls Try.prog 30 #[.pointer (some ⟨w.heap.size + 1, 0, none⟩), .pointer (some ⟨MB, 0, none⟩)] W (LitPost W (w.heap.size + 1) MB t)) :=
    lit_is hs W hr (by omega) ((hbW.block _ hMl).trans hM)
  have HW : Hid (W.heap[w.heap.size]? = some (.cells #[.bool false] 4 (0, 0))) := hwh
  clear hr hwh hgg hM hbW hz
  go_enter_defers Try.func29, Try.ntmps29
  go_wp2_with fail
  rw [← hW]
  refine Calls.mono HQ.out ?_
  intro en w3 hp
  rcases hp with ⟨m, a, b, d, e, f, rfl, h1, h2, h4, w1, g1, g2⟩ | ⟨rfl, h1, g1⟩
  · have hw3 := grown_keep (grown_keep HW.out g1 (by omega)) g2 (by omega)
    have HK3 : Hid (∀ q o, w.heap[q]? = some o → q ≠ MB → w3.heap[q]? = some o) := fun q o hq n1 => by
      have hl : q < w.heap.size := (Array.getElem?_eq_some_iff.1 hq).1
      exact grown_keep (grown_keep ((HBW.out.block _ hl).trans hq) g1 (by omega)) g2 (by omega)
    have HB3 : Hid (∀ B, B ≤ MB → B ≤ w.heap.size → Below B w w3) := fun B hB hB2 => by
      have b0 : Below B w W := HBW.out.mono hB2
      have b1 : Below B w w1 := b0.grown g1 (by have := b0.size; omega) (fun k e => by cases e; omega)
      exact b1.grown g2 (by have := b1.size; omega) (fun k e => by cases e; omega)
    have c0 := cell_of_row _ _ 0 _ _ _ hw3
    have f0 := frozen_of_row _ _ 0 _ _ hw3
    have q0 := h4.c0
    have q1 := h4.c1
    simp at c0
    have hne : MB ≠ w.heap.size := by omega
    have HPO : Hid (∀ R : Bool, R = decide (f = t.size) → WholePost w MB t (.returned (.bool R)) (w3.setCell ⟨w.heap.size, 0, none⟩ (.bool R))) := fun R hR => by
      refine ⟨fun q o hq n1 => set_far (HK3.out q o hq n1) (by have := (Array.getElem?_eq_some_iff.1 hq).1; omega) _ _, fun B hB hB2 => (HB3.out B hB hB2).setCell (by show B ≤ w.heap.size; omega) _, ?_⟩
      by_cases hc : f = t.size
      · left
        rw [decide_eq_true hc] at hR
        subst hR
        exact ⟨m, a, b, d, e, rfl, set_far h1 hne _ _, hc ▸ h2⟩
      · right
        rw [decide_eq_false hc] at hR
        subst hR
        exact ⟨rfl, fun c a' b' d' e' hu => hc (Cmds.reads_one h2 hu).2⟩
    clear hw3 h1 h2 h4 g1 g2 hW HW HBW HQ HK3 HB3
    obtain ⟨R, hR⟩ : ∃ R : Bool, R = decide (f = t.size) := ⟨_, rfl⟩
    have hRc : ((f : Int) == (t.size : Int)) = R := by
      rw [hR]
      by_cases hc : f = t.size
      · rw [decide_eq_true hc]; exact beq_iff_eq.2 (by omega)
      · rw [decide_eq_false hc]; exact beq_eq_false_iff_ne.2 (by omega)
    have HPR : Hid (WholePost w MB t (.returned (.bool R)) (w3.setCell ⟨w.heap.size, 0, none⟩ (.bool R))) := HPO.out R hR
    clear hR HPO
    go_wp2
    refine leaves_cons (f := 37) (args := #[.pointer (some ⟨w.heap.size, 0, none⟩)]) (by simp) (by simp [go_sem]) ?_
    refine (catch_idle ⟨w.heap.size, 0, none⟩ _).mono ?_
    rintro e u' w'' ⟨rfl, rfl, rfl⟩
    have c1 : (w3.setCell ⟨w.heap.size, 0, none⟩ (.bool R)).cell? ⟨w.heap.size, 0, none⟩ = some (.bool R) := World.cell?_setCell_same _ _ _ c0
    simp [Leaves, settle, results, Try.results29, go_sem, c1]
    exact HPR.out
  · have hw3 := grown_keep HW.out g1 (by omega)
    have c0 := cell_of_row _ _ 0 _ _ _ hw3
    have f0 := frozen_of_row _ _ 0 _ _ hw3
    simp at c0
    have HPO : Hid (WholePost w MB t (.returned (.bool false)) (w3.setCell ⟨w.heap.size, 0, none⟩ (.bool false))) := by
      refine ⟨fun q o hq n1 => ?_, fun B hB hB2 => ?_, Or.inr ⟨rfl, fun c a b d e hu => h1 c a b d e _ hu⟩⟩
      · have hl : q < w.heap.size := (Array.getElem?_eq_some_iff.1 hq).1
        exact set_far (grown_keep ((HBW.out.block _ hl).trans hq) g1 (by omega)) (by omega) _ _
      · have b0 : Below B w W := HBW.out.mono hB2
        have b1 : Below B w w3 := b0.grown g1 (by have := b0.size; omega) (fun k e => by cases e; omega)
        exact b1.setCell (by show B ≤ w.heap.size; omega) _
    refine leaves_cons (f := 37) (args := #[.pointer (some ⟨w.heap.size, 0, none⟩)]) (by simp) (by simp [go_sem]) ?_
    refine (catch_panicking ⟨w.heap.size, 0, none⟩ false 77 (.agg #[]) [] w3 c0 f0).mono ?_
    rintro e u' w'' ⟨rfl, rfl, rfl⟩
    have c1 : (w3.setCell ⟨w.heap.size, 0, none⟩ (.bool false)).cell? ⟨w.heap.size, 0, none⟩ = some (.bool false) := World.cell?_setCell_same _ _ _ c0
    simp [Leaves, settle, results, Try.results29, go_sem, c1]
    exact HPO.out
theorem result14 {w : World} {g : Nat} {A C : Array Value} {R : Bool} (hg : w.heap[g]? = some (.cells C 26 (0, 0))) (hs : A.size = 6) {tmps : Array Value} (ht : tmps.getD 2 undef = .pointer (some ⟨g, 0, none⟩)) (h3 : tmps.getD 3 undef = .bool R) : (results Try.f14 tmps).run Try.prog (w.setRow g A) = .ok (.tuple #[.agg A, .bool R]) (w.setRow g A) := by
  have h := run_loadVar_agg (P := Try.prog) Try.isAgg26 Try.sizeOf26 (row_size (A := A) hg) hs
  have ht' : tmps[2]?.getD undef = .pointer (some ⟨g, 0, none⟩) := by simpa using ht
  have h3' : tmps[3]?.getD undef = .bool R := by simpa using h3
  simp [results, Try.results14, ht', h3', asAddr, h]
/-- What ReadCommand answers: the right command whose text this is, or none. -/
def ReadPost (w : World) (t : ByteArray) (en : Ending) (w' : World) : Prop :=
  Below w.heap.size w w' ∧ ((∃ c, Got t c ∧ en = .returned (.tuple #[.agg (cmdC c), .bool true])) ∨ ((∀ c, ¬ Got t c) ∧ en = .returned (.tuple #[.agg zeroC, .bool false])))
theorem reads_sizes {t : ByteArray} {c : CmdL} {a b d e f : Nat} (h : Reads t c a b d e f) : c.key.size ≤ 1048576 ∧ c.val.size ≤ 1048576 ∧ c.old.size ≤ 1048576 := by
  have h1 := (Batches.rdShort_cut h.key).2.2.2
  have h2 := (Batches.rdShort_cut h.val).2.2.2
  have h3 := (Batches.rdShort_cut h.old).2.2.2
  exact ⟨by omega, by omega, by omega⟩
set_option maxHeartbeats 8000000 in
set_option maxRecDepth 100000 in
theorem implRead_is {t : ByteArray} (hs : t.size ≤ 1048576) (w : World) : Calls Try.prog 14 #[.string t] w (ReadPost w t) := by
  have hmf : ∀ (fn : Fn) (first cap : Array Value) (w : World), (Instr.makeFunc fn first cap).run Try.prog w = .ok (.func fn first cap) w := fun _ _ _ _ => rfl
  obtain ⟨W, hW⟩ : ∃ W, W = (w.alloc (Obj.cells zeroC 26)).alloc (Obj.cells zeroC 26) := ⟨_, rfl⟩
  have HWD : Hid ((w.alloc (Obj.cells #[.int .i64 0, .int .i64 0, .int .i64 0, .string ⟨#[]⟩, .string ⟨#[]⟩, .string ⟨#[]⟩] 26)).alloc (Obj.cells #[.int .i64 0, .int .i64 0, .int .i64 0, .string ⟨#[]⟩, .string ⟨#[]⟩, .string ⟨#[]⟩] 26) = W) := hW.symm
  have hb : Below w.heap.size w W := by rw [hW]; exact ((Below.refl _ _).alloc (Nat.le_refl _) _).alloc (by simp) _
  have HZ : Hid (W.heap[w.heap.size]? = some (.cells zeroC 26 (0, 0))) := by
    show _ = _
    rw [hW, Below.heap_alloc _ _ _ (by simp)]
    exact heap_alloc_new w _
  have h2 : W.heap[w.heap.size + 1]? = some (.cells zeroC 26 (0, 0)) := by
    rw [hW]
    have := heap_alloc_new (w.alloc (Obj.cells zeroC 26)) (Obj.cells zeroC 26)
    simpa using this
  have hWs : w.heap.size + 2 = W.heap.size := by rw [hW]; simp
  have HB : Hid (Below w.heap.size w W) := hb
  have HQ : Hid (Calls Try.prog 29 #[.string t, .func (.func 30) #[] #[.pointer (some ⟨w.heap.size + 1, 0, none⟩)]] W (WholePost W (w.heap.size + 1) t)) := whole_is hs W h2
  clear h2 hb hW
  go_enter Try.func14, Try.ntmps14
  go_wp2_with fail
  rw [HWD.out]
  clear HWD
  refine Calls.mono HQ.out ?_
  intro en w3 hp
  obtain ⟨k1, k2, k3⟩ := hp
  have HZ3 : Hid (w3.heap[w.heap.size]? = some (.cells zeroC 26 (0, 0))) := k1 _ _ HZ.out (by omega)
  have HB3 : Hid (Below w.heap.size w w3) := HB.out.trans (k2 w.heap.size (by omega) (by omega))
  clear k1 k2 HQ HZ HB
  rcases k3 with ⟨c, a, b, d, e, rfl, h1, h2⟩ | ⟨rfl, h1⟩
  · obtain ⟨R, hR⟩ : ∃ R, R = okC c := ⟨_, rfl⟩
    have HM : Hid (w3.heap[w.heap.size + 1]? = some (.cells (cmdC c) 26 (0, 0))) := h1
    have HOK : Hid (Calls Try.prog 10 #[.agg #[.int .i64 c.op, .int .i64 c.ses, .int .i64 c.seq, .string c.key, .string c.val, .string c.old]] w3 fun en w' => en = .returned (.bool R) ∧ Below w3.heap.size w3 w') := by
      rw [hR]
      exact implCmdOk_is c (reads_sizes h2) w3
    have HT : Hid (Reads t c a b d e t.size) := h2
    have HR : Hid (R = okC c) := hR
    have HONE : Hid (∀ v ∈ (cmdC c).toList, v.oneCell' = true) := cmd_one c
    clear h1 h2 hR
    have q0 := cell_of_row _ _ 0 _ _ _ HM.out
    have q1 := cell_of_row _ _ 1 _ _ _ HM.out
    have q2 := cell_of_row _ _ 2 _ _ _ HM.out
    have q3 := cell_of_row _ _ 3 _ _ _ HM.out
    have q4 := cell_of_row _ _ 4 _ _ _ HM.out
    have q5 := cell_of_row _ _ 5 _ _ _ HM.out
    simp [cmdC] at q0 q1 q2 q3 q4 q5
    go_wp2_with fail
    clear q0 q1 q2 q3 q4 q5
    refine HOK.out.mono ?_
    rintro en w4 ⟨rfl, hb4⟩
    have HZ4 : Hid (w4.heap[w.heap.size]? = some (.cells zeroC 26 (0, 0))) := (hb4.block _ (Array.getElem?_eq_some_iff.1 HZ3.out).1).trans HZ3.out
    have HM4 : Hid (w4.heap[w.heap.size + 1]? = some (.cells (cmdC c) 26 (0, 0))) := (hb4.block _ (Array.getElem?_eq_some_iff.1 HM.out).1).trans HM.out
    have HB4 : Hid (Below w.heap.size w w4) := HB3.out.trans (hb4.mono HB3.out.size)
    clear hb4 HZ3 HM HB3 HOK
    cases R with
    | false =>
      go_wp2_with (first | (refine wpList_storeA Try.sizeOf26 rfl _ _ rfl w.heap.size zeroC zeroC 26 rfl rfl HZ4.out rfl rfl zero_one ?_) | fail)
      refine bodyPost_ret (result14 HZ4.out rfl rfl rfl) rfl ⟨below_row HB4.out (Nat.le_refl _) _, Or.inr ⟨fun u hu => ?_, rfl⟩⟩
      obtain ⟨_, _, _, _, hu2⟩ := Cmds.got_reads hu
      have e := (Cmds.reads_one HT.out hu2).1
      subst e
      have := HR.out
      rw [hu.2] at this
      cases this
    | true =>
      go_wp2_with (first | (refine wpList_loadA Try.isAgg26 Try.sizeOf26 rfl _ rfl (w.heap.size + 1) (cmdC c) 26 rfl HM4.out rfl ?_) | (refine wpList_storeA Try.sizeOf26 rfl _ _ rfl w.heap.size (cmdC c) zeroC 26 rfl rfl HZ4.out rfl rfl HONE.out ?_) | fail)
      refine bodyPost_ret (result14 HZ4.out rfl rfl rfl) rfl ⟨below_row HB4.out (Nat.le_refl _) _, Or.inl ⟨c, Cmds.reads_got HT.out HR.out.symm, rfl⟩⟩
  · have HN : Hid (∀ (c : CmdL) (a b d e : Nat), ¬ Reads t c a b d e t.size) := h1
    clear h1
    go_wp2_with (first | (refine wpList_storeA Try.sizeOf26 rfl _ _ rfl w.heap.size zeroC zeroC 26 rfl rfl HZ3.out rfl rfl zero_one ?_) | fail)
    refine bodyPost_ret (result14 HZ3.out rfl rfl rfl) rfl ⟨below_row HB3.out (Nat.le_refl _) _, Or.inr ⟨fun u hu => ?_, rfl⟩⟩
    obtain ⟨_, _, _, _, hu2⟩ := Cmds.got_reads hu
    exact HN.out _ _ _ _ _ hu2
end Go.Proofs.Ytlmjhobijgmolaa
