/- The calls of MapDo, the specification's and the program's, walked. Made by program. -/
import Derived.Test.YtijopmkcaoefjaaCutPut
import Derived.Test.YtijopmkcaoefjaaSideDo
namespace Go.Proofs.Ytijopmkcaoefjaa
open Go.RowKit
set_option linter.unusedVariables false

namespace Maps
theorem fold_len : ∀ (cs : List ChangeL) (m : List PairL), (cs.foldl stepC m).length ≤ m.length + cs.length
  | [], m => by simp
  | c :: cs, m => by
    have h1 := fold_len cs (stepC m c)
    have h2 := stepC_len m c
    simp only [List.foldl_cons, List.length_cons]
    omega
theorem fold_ok : ∀ (cs : List ChangeL) (m : List PairL), (∀ p ∈ m, pairOk p) → (∀ c ∈ cs, Batches.changeOk c) → ∀ p ∈ cs.foldl stepC m, pairOk p
  | [], m, h, _ => h
  | c :: cs, m, h1, h2 => fold_ok cs _ (stepC_ok h1 (h2 c List.mem_cons_self)) (fun d hd => h2 d (List.mem_cons_of_mem _ hd))
theorem ok_small {l : List PairL} (h : ∀ p ∈ l, pairOk p) : ∀ p ∈ l, smallPair 2097152 p := fun p hp => by
  obtain ⟨_, h2, h3⟩ := h p hp
  exact ⟨by omega, by omega⟩
theorem done_ok {m : List PairL} {st : Int} {cs : List ChangeL} (h1 : ok m) (h2 : Batches.ok st cs) : ∀ p ∈ doing m cs, pairOk p := by
  obtain ⟨_, a1, a2⟩ := (ok_iff m).1 h1
  obtain ⟨_, _, b1, b2⟩ := (okC_iff st cs).1 h2
  rw [← fold_doing cs m a2 b2]
  exact fold_ok cs m a1 b1
theorem done_fold {m : List PairL} {st : Int} {cs : List ChangeL} (h1 : ok m) (h2 : Batches.ok st cs) : cs.foldl stepC m = doing m cs :=
  fold_doing cs m ((ok_iff m).1 h1).2.2 ((okC_iff st cs).1 h2).2.2.2
end Maps
/-- What MapDo is to answer. -/
def DoR (m : List PairL) (st : Int) (cs : List ChangeL) (out : List PairL) (R : Bool) : Prop :=
  ((Maps.ok m ∧ Batches.ok st cs) ∧ Maps.ok (Maps.doing m cs) ∧ out = Maps.doing m cs ∧ R = true) ∨ (¬ ((Maps.ok m ∧ Batches.ok st cs) ∧ Maps.ok (Maps.doing m cs)) ∧ out = [] ∧ R = false)
theorem doR_ex (m : List PairL) (st : Int) (cs : List ChangeL) : ∃ out R, DoR m st cs out R := by
  by_cases h : (Maps.ok m ∧ Batches.ok st cs) ∧ Maps.ok (Maps.doing m cs)
  · exact ⟨_, _, Or.inl ⟨h.1, h.2, rfl, rfl⟩⟩
  · exact ⟨_, _, Or.inr ⟨h, rfl, rfl⟩⟩
theorem doR_len {m : List PairL} {st : Int} {cs : List ChangeL} {out : List PairL} {R : Bool} (h : DoR m st cs out R) : out.length ≤ 60 := by
  rcases h with ⟨_, h, rfl, _⟩ | ⟨_, rfl, _⟩
  · exact h.1
  · simp
theorem doR_no {m : List PairL} {st : Int} {cs : List ChangeL} {out : List PairL} {R : Bool} (h : DoR m st cs out R) (hn : ¬ ((Maps.ok m ∧ Batches.ok st cs) ∧ Maps.ok (Maps.doing m cs))) : out = [] ∧ R = false := by
  rcases h with ⟨h1, h2, _⟩ | ⟨_, h⟩
  · exact absurd ⟨h1, h2⟩ hn
  · exact h
theorem doR_yes {m : List PairL} {st : Int} {cs : List ChangeL} {out : List PairL} {R : Bool} (h : DoR m st cs out R) (hn : (Maps.ok m ∧ Batches.ok st cs) ∧ Maps.ok (Maps.doing m cs)) : out = Maps.doing m cs ∧ R = true := by
  rcases h with ⟨_, _, h⟩ | ⟨h, _⟩
  · exact h
  · exact absurd hn h
theorem below_undrew {w w' : World} (h : Below w.drew.heap.size w.drew w') : Below w.heap.size w w' := ((Below.refl _ _).drew).trans h
set_option maxHeartbeats 4000000 in
set_option maxRecDepth 100000 in
theorem implDo_any {gA capA : Nat} {aB : Option Addr} {gB offB capB : Nat} (m : List PairL) (hlm : m.length ≤ 2097152) (hsm : ∀ c ∈ m, smallPair 2097152 c) (st : Int) (cs : List ChangeL) (hlc : cs.length ≤ 2097152) (hsc : ∀ c ∈ cs, smallChange 2097152 c) (out : List PairL) (R : Bool) (hR : DoR m st cs out R)
    (w : World) (hfA : PairAt w (some ⟨gA, 0, none⟩) gA 0 m) (hfB : ChangeAt w aB gB offB cs) :
    Calls Try.prog 12 #[.slice (some ⟨gA, 0, none⟩) m.length capA, .agg #[.int .i64 st, .slice aB cs.length capB]] w fun e w' => ∃ v, e = .returned (.tuple #[v, .bool R]) ∧ w'.ownsRow w.heap.size 40 2 v out.length (cellsPair out) ∧ Below w.heap.size w w' := by
  obtain ⟨i0, hi, hz0, hz1, hz2⟩ := info_parts Try.info40
  have HSM : Hid (∀ c ∈ m, smallPair 2097152 c) := hsm
  have HSC : Hid (∀ c ∈ cs, smallChange 2097152 c) := hsc
  have HR : Hid (DoR m st cs out R) := hR
  have HFA0 : Hid (PairAt w (some ⟨gA, 0, none⟩) gA 0 m) := hfA
  have HFB0 : Hid (ChangeAt w aB gB offB cs) := hfB
  clear hsm hsc hR hfA hfB
  go_enter Try.func12, Try.ntmps12
  go_wp2_with fail
  obtain ⟨W0, hW0⟩ : ∃ W0, W0 = w.alloc (Obj.cells #[Value.int IntKind.i64 st, Value.slice aB cs.length capB] 33) := ⟨_, rfl⟩
  have hB0 : Below w.heap.size w W0 := by rw [hW0]; exact (Below.refl _ _).alloc (Nat.le_refl _) _
  have hq : W0.heap[w.heap.size]? = some (Obj.cells #[Value.int IntKind.i64 st, Value.slice aB cs.length capB] 33 (0, 0)) := by rw [hW0]; exact heap_alloc_new w _
  rw [← hW0]
  clear hW0
  obtain ⟨bb, hbb⟩ : ∃ bb, bb = w.heap.size := ⟨_, rfl⟩
  rw [← hbb] at hq ⊢
  have HB0 : Hid (Below w.heap.size w W0) := hB0
  have HFA : Hid (PairAt W0 (some ⟨gA, 0, none⟩) gA 0 m) := HFA0.out.kept hB0
  have HFB : Hid (ChangeAt W0 aB gB offB cs) := HFB0.out.kept hB0
  have HD : Hid (∀ w', Below W0.heap.size W0 w' → w'.cell? ⟨bb, 0, none⟩ = some (.int .i64 st) ∧ w'.cell? ⟨bb, 1, none⟩ = some (.slice aB cs.length capB)) := fun w' h => by
    have e := (h.block _ (Array.getElem?_eq_some_iff.1 hq).1).trans hq
    exact ⟨cell_of_row _ _ 0 _ _ _ e, cell_of_row _ _ 1 _ _ _ e⟩
  clear hq hbb hB0 HFA0 HFB0
  by_cases h1 : Maps.ok m
  · refine (implMapOk_any true m hlm _ HFA.out HSM.out (by simp [h1])).mono ?_
    rintro e w1 ⟨rfl, hb1⟩
    obtain ⟨d0, d1⟩ := HD.out w1 hb1
    go_wp2_with fail
    by_cases h2 : Batches.ok st cs
    · refine (implOk_any true st cs hlc _ (HFB.out.kept hb1) HSC.out (by simp [h2])).mono ?_
      rintro e w2 ⟨rfl, hb2⟩
      have hw2 : Below W0.heap.size W0 w2 := hb1.trans (hb2.mono hb1.size)
      have HOK : Hid (Maps.ok m ∧ Batches.ok st cs) := ⟨h1, h2⟩
      have hm60 := h1.1
      have hc60 := h2.2.1
      clear h1 h2 hb1 hb2 d0 d1
      obtain ⟨d0, d1⟩ := HD.out w2 hw2
      go_wp2_with fail
      refine (sideDo_is m cs hm60 hc60 HSM.out HSC.out w2 (HFA.out.kept hw2) (HFB.out.kept hw2)).mono ?_
      rintro e w3 ⟨v, rfl, hown, hb3⟩
      obtain ⟨va, vc, rfl⟩ := own_slice hown
      obtain ⟨L, hL⟩ : ∃ L, L = Maps.doing m cs := ⟨_, rfl⟩
      rw [← hL] at hown ⊢
      have HL : Hid (L = Maps.doing m cs) := hL
      have hw3 : Below w.heap.size w w3 := HB0.out.trans ((hw2.trans (hb3.mono hw2.size)).mono HB0.out.size)
      have HO : Hid (w3.ownsRow w.heap.size 40 2 (.slice va L.length vc) L.length (cellsPair L)) := own_mono hown (Nat.le_trans HB0.out.size hw2.size)
      have HLS : Hid (∀ p ∈ L, smallPair 2097152 p) := by show ∀ p ∈ L, smallPair 2097152 p; rw [hL]; exact Maps.ok_small (Maps.done_ok HOK.out.1 HOK.out.2)
      have hLL : L.length ≤ 2097152 := by rw [hL]; exact Nat.le_trans (Maps.doing_len m cs) (by omega)
      clear hL hown hb3 hw2 d0 d1
      go_wp2_with fail
      obtain ⟨_, gL, _, eL, hAt⟩ := cellsPair_slice HO.out
      cases eL
      by_cases h3 : Maps.ok L
      · have HC : Hid (out = L ∧ R = true) := by rw [HL.out]; exact doR_yes HR.out ⟨HOK.out, by rw [← HL.out]; exact h3⟩
        refine (implMapOk_any true L hLL _ hAt HLS.out (by simp [h3])).mono ?_
        rintro e w4 ⟨rfl, hb4⟩
        have HO4 : Hid (w4.ownsRow w.heap.size 40 2 (.slice va L.length vc) L.length (cellsPair L)) := own_kept HO.out hb4
        have hw4 : Below w.heap.size w w4 := hw3.trans (hb4.mono hw3.size)
        clear hb4 hAt h3
        go_wp2
        go_ret2
        rw [HC.out.1, HC.out.2]
        exact ⟨_, rfl, HO4.out, hw4⟩
      · have HC : Hid (out = [] ∧ R = false) := doR_no HR.out (fun h => h3 (by rw [HL.out]; exact h.2))
        refine (implMapOk_any false L hLL _ hAt HLS.out (by simp [h3])).mono ?_
        rintro e w4 ⟨rfl, hb4⟩
        have hw4 : Below w.heap.size w w4 := hw3.trans (hb4.mono hw3.size)
        clear hb4 hAt h3
        go_wp2
        go_ret2
        rw [HC.out.1, HC.out.2]
        exact ⟨_, rfl, World.ownsRow_nil _ _ _ _, hw4⟩
    · refine (implOk_any false st cs hlc _ (HFB.out.kept hb1) HSC.out (by simp [h2])).mono ?_
      rintro e w2 ⟨rfl, hb2⟩
      have hw2 : Below w.heap.size w w2 := HB0.out.trans ((hb1.trans (hb2.mono hb1.size)).mono HB0.out.size)
      have HC : Hid (out = [] ∧ R = false) := doR_no HR.out (fun h => h2 h.1.2)
      clear hb1 hb2 d0 d1 h2
      go_wp2
      go_ret2
      rw [HC.out.1, HC.out.2]
      exact ⟨_, rfl, World.ownsRow_nil _ _ _ _, hw2⟩
  · refine (implMapOk_any false m hlm _ HFA.out HSM.out (by simp [h1])).mono ?_
    rintro e w1 ⟨rfl, hb1⟩
    have hw1 : Below w.heap.size w w1 := HB0.out.trans (hb1.mono HB0.out.size)
    have HC : Hid (out = [] ∧ R = false) := doR_no HR.out (fun h => h1 h.1.1)
    clear hb1 h1
    go_wp2
    go_ret2
    rw [HC.out.1, HC.out.2]
    exact ⟨_, rfl, World.ownsRow_nil _ _ _ _, hw1⟩
set_option maxHeartbeats 4000000 in
set_option maxRecDepth 100000 in
theorem specDo_any {gA capA : Nat} {aB : Option Addr} {gB offB capB : Nat} (m : List PairL) (hlm : m.length ≤ 2097152) (hsm : ∀ c ∈ m, smallPair 2097152 c) (st : Int) (cs : List ChangeL) (hlc : cs.length ≤ 2097152) (hsc : ∀ c ∈ cs, smallChange 2097152 c) (out : List PairL) (R : Bool) (hR : DoR m st cs out R)
    (w : World) (hfA : PairAt w (some ⟨gA, 0, none⟩) gA 0 m) (hfB : ChangeAt w aB gB offB cs) :
    Calls Try.prog 23 #[.slice (some ⟨gA, 0, none⟩) m.length capA, .agg #[.int .i64 st, .slice aB cs.length capB]] w fun e w' => ∃ v, e = .returned (.tuple #[v, .bool R]) ∧ w'.ownsRow w.heap.size 40 2 v out.length (cellsPair out) ∧ Below w.heap.size w w' := by
  obtain ⟨i0, hi, hz0, hz1, hz2⟩ := info_parts Try.info40
  have HSM : Hid (∀ c ∈ m, smallPair 2097152 c) := hsm
  have HSC : Hid (∀ c ∈ cs, smallChange 2097152 c) := hsc
  have HR : Hid (DoR m st cs out R) := hR
  have HFA0 : Hid (PairAt w (some ⟨gA, 0, none⟩) gA 0 m) := hfA
  have HFB0 : Hid (ChangeAt w aB gB offB cs) := hfB
  clear hsm hsc hR hfA hfB
  go_enter Try.func23, Try.ntmps23
  go_wp2_with fail
  obtain ⟨W0, hW0⟩ : ∃ W0, W0 = w.alloc (Obj.cells #[Value.int IntKind.i64 st, Value.slice aB cs.length capB] 33) := ⟨_, rfl⟩
  have hB0 : Below w.heap.size w W0 := by rw [hW0]; exact (Below.refl _ _).alloc (Nat.le_refl _) _
  have hq : W0.heap[w.heap.size]? = some (Obj.cells #[Value.int IntKind.i64 st, Value.slice aB cs.length capB] 33 (0, 0)) := by rw [hW0]; exact heap_alloc_new w _
  rw [← hW0]
  clear hW0
  obtain ⟨bb, hbb⟩ : ∃ bb, bb = w.heap.size := ⟨_, rfl⟩
  rw [← hbb] at hq ⊢
  have HB0 : Hid (Below w.heap.size w W0) := hB0
  have HFA : Hid (PairAt W0 (some ⟨gA, 0, none⟩) gA 0 m) := HFA0.out.kept hB0
  have HFB : Hid (ChangeAt W0 aB gB offB cs) := HFB0.out.kept hB0
  have HD : Hid (∀ w', Below W0.heap.size W0 w' → w'.cell? ⟨bb, 0, none⟩ = some (.int .i64 st) ∧ w'.cell? ⟨bb, 1, none⟩ = some (.slice aB cs.length capB)) := fun w' h => by
    have e := (h.block _ (Array.getElem?_eq_some_iff.1 hq).1).trans hq
    exact ⟨cell_of_row _ _ 0 _ _ _ e, cell_of_row _ _ 1 _ _ _ e⟩
  clear hq hbb hB0 HFA0 HFB0
  by_cases h1 : Maps.ok m
  · refine (specMapOk_any true m hlm _ HFA.out HSM.out (by simp [h1])).mono ?_
    rintro e w1 ⟨rfl, hb1⟩
    obtain ⟨d0, d1⟩ := HD.out w1 hb1
    go_wp2_with fail
    by_cases h2 : Batches.ok st cs
    · refine (specOk_any true st cs hlc _ (HFB.out.kept hb1) HSC.out (by simp [h2])).mono ?_
      rintro e w2 ⟨rfl, hb2⟩
      have hw2 : Below W0.heap.size W0 w2 := hb1.trans (hb2.mono hb1.size)
      have HOK : Hid (Maps.ok m ∧ Batches.ok st cs) := ⟨h1, h2⟩
      have hm60 := h1.1
      have hc60 := h2.2.1
      clear h1 h2 hb1 hb2 d0 d1
      have hAm : PairAt (w2.alloc (Obj.cells #[] 40)) (some ⟨gA, 0, none⟩) gA 0 m := (HFA.out.kept hw2).kept ((Below.refl _ _).alloc (Nat.le_refl _) _)
      have HS0 : Hid (RSt W0 40 2 (.slice (some ⟨w2.heap.size, 0, none⟩) 0 0) 0 [] (w2.alloc (Obj.cells #[] 40))) := ⟨own_empty (heap_alloc_new w2 _) hw2.size, hw2.alloc hw2.size _⟩
      have hbase : W0.heap.size ≤ (w2.alloc (Obj.cells #[] 40)).heap.size := HS0.out.below.size
      have HAM : Hid (PairAt (w2.alloc (Obj.cells #[] 40)) (some ⟨gA, 0, none⟩) gA 0 m) := hAm
      have hnil : (some ⟨gA, 0, none⟩ : Option Addr) = none → capA = 0 := fun h => by cases h
      have h63 : 0 + m.length ≤ 2097152 := by omega
      clear hw2 hAm
      go_wp2_with (at_builtin; refine wpList_appendPair rfl _ _ rfl W0.heap.size (.slice (some ⟨w2.heap.size, 0, none⟩) 0 0) 0 [] rfl HS0.out.own (some ⟨gA, 0, none⟩) gA 0 capA m rfl HAM.out hnil h63 hbase ?_; intro v3 w3 hown3 hgr3; obtain ⟨va, vc, rfl⟩ := own_slice hown3)
      have HS3 : Hid (RSt W0 40 2 (.slice va m.length vc) m.length (cellsPair m) w3) := by
        have := HS0.out.app hgr3 hown3
        simp only [List.nil_append] at this
        rw [Nat.zero_add] at this
        exact this
      clear hown3 hgr3 HS0 HAM hbase hnil h63
      go_loopw [6, 7] (fun u i wr => ∃ (k : Nat) (v : Value) (L : List PairL), k ≤ cs.length ∧ i = .int .i64 (k : Int) ∧ v = u ∧ L = (cs.take k).foldl Maps.stepC m ∧ RSt W0 40 2 v L.length (cellsPair L) wr)
        (fun _ i _ => cs.length - (intOf i).toNat)
      case atStart => exact ⟨0, _, m, Nat.zero_le _, rfl, rfl, rfl, HS3.out⟩
      case round =>
        obtain ⟨k, v, L, hk, rfl, rfl, hL, hrs⟩ := hrel
        have HS : Hid (RSt W0 40 2 v L.length (cellsPair L) wr) := hrs
        have HL : Hid (L = (cs.take k).foldl Maps.stepC m) := hL
        have hLL : L.length ≤ 200 := by
          rw [hL]
          have h1 := Maps.fold_len (cs.take k) m
          have h2 := List.length_take_le k cs
          omega
        clear hrs hL HS3
        obtain ⟨va, vc, rfl⟩ := own_slice HS.out.own
        obtain ⟨d0, d1⟩ := HD.out wr HS.out.below
        by_cases hlt : k < cs.length
        · obtain ⟨c0, c1, c2⟩ := (HFB.out.kept HS.out.below).2 k hlt
          have ea := HFB.out.1 (by omega)
          subst ea
          obtain ⟨K, qK⟩ : ∃ K, K = cs[k].key := ⟨_, rfl⟩
          obtain ⟨V, qV⟩ : ∃ V, V = cs[k].value := ⟨_, rfl⟩
          obtain ⟨G, qG⟩ : ∃ G, G = cs[k].gone := ⟨_, rfl⟩
          have HE : Hid (cs[k] = ⟨K, V, G⟩) := by show _ = _; rw [qK, qV, qG]
          rw [← qK] at c0
          rw [← qV] at c1
          rw [← qG] at c2
          clear qK qV qG
          have hk0 : (0 : Int) ≤ (k : Int) := by omega
          have hk1 : (k : Int) < (cs.length : Int) := by omega
          obtain ⟨_, gL, _, eL, hAt⟩ := cellsPair_slice HS.out.own
          cases eL
          have HAT : Hid (PairAt wr va gL 0 L) := hAt
          clear hAt
          cases G with
          | true =>
            have HN : Hid (Maps.cutK L K = (cs.take (k + 1)).foldl Maps.stepC m) := by show _ = _; rw [Maps.fold_take hlt, ← HL.out, HE.out]; rfl
            go_wp2_with fail
            refine (l06Cut_is L hLL K wr HAT.out).mono ?_
            rintro e w4 ⟨v4, rfl, hown4, hb4⟩
            obtain ⟨na, nc, rfl⟩ := own_slice hown4
            have S4 : Hid (RSt W0 40 2 (.slice na (Maps.cutK L K).length nc) (Maps.cutK L K).length (cellsPair (Maps.cutK L K)) w4) := ⟨own_mono hown4 HS.out.below.size, HS.out.below.trans (hb4.mono HS.out.below.size)⟩
            clear hown4 hb4 HS c0 c1 c2 d0 d1 HAT
            go_wp2
            go_roundw
            case rel => exact ⟨k + 1, _, Maps.cutK L K, by omega, by go_num, rfl, HN.out, S4.out⟩
            case measure => simp [intOf]; omega
          | false =>
            have HN : Hid (Maps.putK L K V = (cs.take (k + 1)).foldl Maps.stepC m) := by show _ = _; rw [Maps.fold_take hlt, ← HL.out, HE.out]; rfl
            have hgz : gB < wr.heap.size := World.block_lt_of_cell? wr _ c0
            have HK : Hid (∀ w', Below wr.heap.size wr w' → w'.cell? ⟨bb, 1, none⟩ = some (.slice (some ⟨gB, offB, none⟩) cs.length capB) ∧ w'.cell? ⟨gB, offB + k * 3, none⟩ = some (.string K) ∧ w'.cell? ⟨gB, offB + k * 3 + 1, none⟩ = some (.string V)) := fun w' h =>
              ⟨(HD.out w' (HS.out.below.trans (h.mono HS.out.below.size))).2, (h.cell (p := ⟨gB, offB + k * 3, none⟩) hgz).trans c0, (h.cell (p := ⟨gB, offB + k * 3 + 1, none⟩) hgz).trans c1⟩
            go_wp2_with fail
            go_region_held3 (fun w' => w'.cell? ⟨bb, 1, none⟩ = some (.slice (some ⟨gB, offB, none⟩) cs.length capB) ∧ w'.cell? ⟨gB, offB + k * 3, none⟩ = some (.string K) ∧ w'.cell? ⟨gB, offB + k * 3 + 1, none⟩ = some (.string V))
              (first | exact HK.out _ (below_undrew hb4) | go_keep)
              (first | (go_at_call 57; refine (l06Put_is L hLL K V _ (PairAt.kept (w := wr) HAT.out (Below.refl _ _).drew)).mono ?_; rintro e w4 ⟨v4, rfl, hown4, hb4⟩; obtain ⟨na, nc, rfl⟩ := own_slice hown4))
            all_goals
              have hb5 := below_undrew hb4
              have S4 : Hid (RSt W0 40 2 (.slice na (Maps.putK L K V).length nc) (Maps.putK L K V).length (cellsPair (Maps.putK L K V)) w4) := ⟨own_mono hown4 HS.out.below.size, HS.out.below.trans (hb5.mono HS.out.below.size)⟩
              clear hown4 hb4 hb5 HS c0 c1 c2 d0 d1 HAT HK
              go_wp2
              go_roundw
              case rel => exact ⟨k + 1, _, Maps.putK L K V, by omega, by go_num, rfl, HN.out, S4.out⟩
              case measure => simp [intOf]; omega
        · have hk1 : ¬ (k : Int) < (cs.length : Int) := by omega
          have HLD : Hid (L = Maps.doing m cs) := by show _ = _; rw [HL.out, List.take_of_length_le (by omega)]; exact Maps.done_fold HOK.out.1 HOK.out.2
          have HLS : Hid (∀ p ∈ L, smallPair 2097152 p) := by show ∀ p ∈ L, smallPair 2097152 p; rw [HLD.out]; exact Maps.ok_small (Maps.done_ok HOK.out.1 HOK.out.2)
          obtain ⟨_, gL, _, eL, hAt⟩ := cellsPair_slice HS.out.own
          cases eL
          have HAT : Hid (PairAt wr va gL 0 L) := hAt
          have HW : Hid (Below w.heap.size w wr) := HB0.out.trans (HS.out.below.mono HB0.out.size)
          clear hAt
          go_wp2_with fail
          by_cases h3 : Maps.ok L
          · have HC : Hid (out = L ∧ R = true) := by rw [HLD.out]; exact doR_yes HR.out ⟨HOK.out, by rw [← HLD.out]; exact h3⟩
            refine (specMapOk_any true L (by omega) _ HAT.out HLS.out (by simp [h3])).mono ?_
            rintro e w4 ⟨rfl, hb4⟩
            have HO4 : Hid (w4.ownsRow w.heap.size 40 2 (.slice va L.length vc) L.length (cellsPair L)) := own_kept (own_mono HS.out.own HB0.out.size) hb4
            have hw4 : Below w.heap.size w w4 := HW.out.trans (hb4.mono HW.out.size)
            clear hb4 h3 d0 d1 HS HAT
            go_wp2
            go_ret2
            rw [HC.out.1, HC.out.2]
            exact ⟨_, rfl, HO4.out, hw4⟩
          · have HC : Hid (out = [] ∧ R = false) := doR_no HR.out (fun h => h3 (by rw [HLD.out]; exact h.2))
            refine (specMapOk_any false L (by omega) _ HAT.out HLS.out (by simp [h3])).mono ?_
            rintro e w4 ⟨rfl, hb4⟩
            have hw4 : Below w.heap.size w w4 := HW.out.trans (hb4.mono HW.out.size)
            clear hb4 h3 d0 d1 HS HAT
            go_wp2
            go_ret2
            rw [HC.out.1, HC.out.2]
            exact ⟨_, rfl, own_empty (heap_alloc_new w4 _) hw4.size, hw4.alloc hw4.size _⟩
    · refine (specOk_any false st cs hlc _ (HFB.out.kept hb1) HSC.out (by simp [h2])).mono ?_
      rintro e w2 ⟨rfl, hb2⟩
      have hw2 : Below w.heap.size w w2 := HB0.out.trans ((hb1.trans (hb2.mono hb1.size)).mono HB0.out.size)
      have HC : Hid (out = [] ∧ R = false) := doR_no HR.out (fun h => h2 h.1.2)
      clear hb1 hb2 d0 d1 h2
      go_wp2
      go_ret2
      rw [HC.out.1, HC.out.2]
      exact ⟨_, rfl, own_empty (heap_alloc_new w2 _) hw2.size, (hw2.alloc (hw2.size) _)⟩
  · refine (specMapOk_any false m hlm _ HFA.out HSM.out (by simp [h1])).mono ?_
    rintro e w1 ⟨rfl, hb1⟩
    have hw1 : Below w.heap.size w w1 := HB0.out.trans (hb1.mono HB0.out.size)
    have HC : Hid (out = [] ∧ R = false) := doR_no HR.out (fun h => h1 h.1.1)
    clear hb1 h1
    go_wp2
    go_ret2
    rw [HC.out.1, HC.out.2]
    exact ⟨_, rfl, own_empty (heap_alloc_new w1 _) hw1.size, (hw1.alloc (hw1.size) _)⟩
end Go.Proofs.Ytijopmkcaoefjaa
